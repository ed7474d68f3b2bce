/-
  RingPlays: what its rounds carry; a row of its own that is written over.
-/
import Derived.Test.YtgenefedicdohaaRfb
namespace Go.Proofs.Ytgenefedicdohaa.Rpa
open Go Go.RowKit Go.Shelf Kit Bk Rgm Rgt Rgp Rgn Rst Ral Rop Rac Rsl Rfa Rfb
set_option linter.unusedVariables false

/-- The two rings of the law. -/
structure Pl (w W : World) (p q C : Nat) (xs : List Nat) : Prop where
  bel : Below w.heap.size w W
  ring : Rg W p C xs
  ref : RB W w.heap.size q C xs
  lp : w.heap.size ≤ p
  lq : w.heap.size ≤ q
theorem Pl.below {w W W' : World} {p q C : Nat} {xs : List Nat} (h : Pl w W p q C xs) (hb : Below W.heap.size W W') : Pl w W' p q C xs := ⟨h.bel.trans (hb.mono h.bel.size), h.ring.below hb, h.ref.below hb, h.lp, h.lq⟩
/-- A call of the ring alone. -/
theorem Pl.one {w W W' : World} {p q C : Nat} {xs ys : List Nat} (h : Pl w W p q C xs) (hk : Kp (fun j => j = p) W W') (hr : Rg W' p C ys) : Below w.heap.size w W' ∧ RB W' w.heap.size q C xs :=
  ⟨h.bel.trans (hk.below h.bel.size (fun j e => by have := h.lp; omega)), h.ref.beside h.ring hk⟩
/-- A call of both. -/
theorem Pl.both {w W W1 W2 : World} {p q C B : Nat} {xs ys : List Nat} (h : Pl w W p q C xs) (hk : Kp (fun j => j = p) W W1) (hr : Rg W1 p C ys) (hk2 : Kp (fun j => j = q) W1 W2) (hq : RB W2 B q C ys) (hB : w.heap.size ≤ B) : Pl w W2 p q C ys := by
  obtain ⟨h1, h2⟩ := h.one hk hr
  exact ⟨h1.trans (hk2.below h1.size (fun j e => by have := h.lq; omega)), rg_beside hr h2 hk2, hq.base hB, h.lp, h.lq⟩
theorem Pl.box {w W : World} {p q C : Nat} {xs : List Nat} (h : Pl w W p q C xs) (o : Obj) : Pl w (W.alloc o) p q C xs := h.below ((Below.refl _ _).alloc (Nat.le_refl _) _)

/-- An empty literal, and bytes behind it. -/
theorem app_lit (w : World) (s : Value) (ys : List Nat) (hs : Slc .u8 w s ys) (hl : ys.length ≤ 1000000) :
    ∃ v' w', (appO #[22, 22] 22 #[.slice (some ⟨w.heap.size, 0, none⟩) 0 0, s]).run Try.prog (w.alloc (.cells #[] 5)) = .ok v' w' ∧ w'.ownsRow w.heap.size 5 1 v' ys.length (u8s ys) ∧ Below w.heap.size w w' := by
  have hb1 := (Below.refl w.heap.size w).alloc (Nat.le_refl _) (.cells #[] 5)
  have h0 : (w.alloc (.cells #[] 5)).ownsRow w.heap.size 5 1 (.slice (some ⟨w.heap.size, 0, none⟩) 0 0) ([] : List Nat).length (u8s []) :=
    ⟨rfl, .inr ⟨w.heap.size, 0, #[], rfl, Nat.le_refl _, Blk.new w #[] 5, Nat.le_refl _, by decide, rfl, rfl⟩⟩
  obtain ⟨v', w', h1, h2, h3⟩ := app_slc (w.alloc (.cells #[] 5)) w.heap.size _ [] s ys h0 (hs.below hb1) (by simp) (by simpa using hl)
  exact ⟨v', w', h1, h2, hb1.grown h3 (by simp) (fun k e => row_base h0 k e)⟩

/-- A row of bytes of one's own that the two rings do not hold. -/
structure Lp (w W : World) (p q C : Nat) (xs : List Nat) (ad : Option Addr) (n : Nat) : Prop where
  pl : Pl w W p q C xs
  row : n = 0 ∨ ∃ g cs, ad = some ⟨g, 0, none⟩ ∧ w.heap.size ≤ g ∧ Blk W g cs 5 ∧ (∀ j, j < n → ∃ x : Int, cs[j]? = some (.int .u8 x)) ∧ ∀ v, W.cell? ⟨q, 1, none⟩ = some v → v.ownBlock ≠ some g
theorem own_cells {w : World} {base : Nat} {ad : Option Addr} {n cap : Nat} {zs : List Nat} (h : w.ownsRow base 5 1 (.slice ad n cap) n (u8s zs)) :
    n = 0 ∨ ∃ g cs, ad = some ⟨g, 0, none⟩ ∧ base ≤ g ∧ Blk w g cs 5 ∧ ∀ j, j < n → ∃ x : Int, cs[j]? = some (.int .u8 x) := by
  obtain ⟨h1, h2⟩ := h
  rcases h2 with ⟨e, h0⟩ | ⟨g, cap', cur, e, hg, hh, hc1, hc2, hc3, ht⟩
  · exact .inl h0
  · cases e
    refine .inr ⟨g, cur, rfl, hg, hh, fun j hj => ?_⟩
    rw [Nat.mul_one] at ht
    have h3 : (u8s zs)[j]? = cur[j]? := by
      rw [← ht, List.getElem?_take, if_pos hj, Array.getElem?_toList]
    have hj2 : j < zs.length := by rw [← u8s_len zs, h1]; omega
    rw [← h3, u8s_at zs j hj2]
    exact ⟨_, rfl⟩
/-- The row is new behind the document's ring. -/
theorem Lp.new {w W : World} {p q C base : Nat} {xs zs : List Nat} {ad : Option Addr} {n cap : Nat} (h : Pl w W p q C xs) (hb : w.heap.size ≤ base) (ho : W.ownsRow base 5 1 (.slice ad n cap) n (u8s zs)) (hr : ∀ v, W.cell? ⟨q, 1, none⟩ = some v → ∀ k, v.ownBlock = some k → k < base) : Lp w W p q C xs ad n := by
  refine ⟨h, ?_⟩
  rcases own_cells ho with h0 | ⟨g, cs, h1, h2, h3, h4⟩
  · exact .inl h0
  · exact .inr ⟨g, cs, h1, Nat.le_trans hb h2, h3, h4, fun v hv e => by have := hr v hv g e; omega⟩
/-- The document's ring has its row behind it. -/
theorem Lp.old {w W : World} {p q C base B : Nat} {xs zs : List Nat} {ad : Option Addr} {n cap : Nat} (h : Pl w W p q C xs) (hb : w.heap.size ≤ base) (ho : W.ownsRow base 5 1 (.slice ad n cap) n (u8s zs)) (hq : RB W B q C xs) (hB : ∀ k, ad.map (·.block) = some k → k < B) : Lp w W p q C xs ad n := by
  refine ⟨h, ?_⟩
  rcases own_cells ho with h0 | ⟨g, cs, h1, h2, h3, h4⟩
  · exact .inl h0
  · refine .inr ⟨g, cs, h1, Nat.le_trans hb h2, h3, h4, fun v hv e => ?_⟩
    obtain ⟨v', g1, g2⟩ := hq
    rw [g1.cell 1] at hv
    cases hv
    have := row_base g2 g e
    have := hB g (by rw [h1]; rfl)
    omega
theorem row_ref {w : World} {base q C : Nat} {xs : List Nat} (h : RB w base q C xs) : ∀ v, w.cell? ⟨q, 1, none⟩ = some v → ∀ k, v.ownBlock = some k → k < w.heap.size := by
  obtain ⟨v', g1, g2⟩ := h
  intro v hv k hk
  rw [g1.cell 1] at hv
  cases hv
  rcases g2.2 with ⟨rfl, _⟩ | ⟨g, cap, cur, rfl, hg, hh, _⟩
  · simp [Value.ownBlock] at hk
  · simp [Value.ownBlock] at hk
    subst hk
    exact (Array.getElem?_eq_some_iff.1 hh).1
theorem Lp.step {w W : World} {p q C : Nat} {xs : List Nat} {ad : Option Addr} {n : Nat} (h : Lp w W p q C xs ad n) (j : Nat) (hj : j < n) :
    ∃ g, ad = some ⟨g, 0, none⟩ ∧ W.frozen? ⟨g, j, none⟩ = false ∧ (∃ x : Int, W.cell? ⟨g, j, none⟩ = some (.int .u8 x)) ∧ ∀ u : Int, Lp w (W.setCell ⟨g, j, none⟩ (.int .u8 u)) p q C xs ad n := by
  obtain ⟨hp, hr⟩ := h
  rcases hr with h0 | ⟨g, cs, h1, h2, h3, h4, h5⟩
  · omega
  · obtain ⟨x, hx⟩ := h4 j hj
    refine ⟨g, h1, h3.free j, ⟨x, (h3.cell j).trans hx⟩, fun u => ⟨?_, .inr ⟨g, cs.setIfInBounds j (.int .u8 u), h1, h2, h3.set j _, fun i hi => ?_, ?_⟩⟩⟩
    · have hk := Kp.set (S := fun i => i = g) W g j (.int .u8 u) rfl
      obtain ⟨rs, f, r1, r2⟩ := id hp.ring
      obtain ⟨v, q1, q2⟩ := id hp.ref
      have hgq : q ≠ g := Blk.ne q1 h3 (by decide)
      exact ⟨hp.bel.trans (hk.below hp.bel.size (fun i e => by omega)), hp.ring.kept hk (Blk.ne r1 h3 (by decide)), ⟨v, q1.kept hk hgq, ownsRow_setCell_other q2 (h5 v (q1.cell 1)) _⟩, hp.lp, hp.lq⟩
    · by_cases e : i = j
      · subst e
        have : i < cs.size := (Array.getElem?_eq_some_iff.1 hx).1
        rw [Array.getElem?_setIfInBounds, if_pos rfl, if_pos this]
        exact ⟨_, rfl⟩
      · rw [Array.getElem?_setIfInBounds, if_neg (fun h => e h.symm)]
        exact h4 i hi
    · intro v hv
      obtain ⟨v', q1, q2⟩ := id hp.ref
      have hgq : q ≠ g := Blk.ne q1 h3 (by decide)
      rw [(q1.other g j (.int .u8 u) hgq).cell 1] at hv
      exact h5 v ((q1.cell 1).trans hv)
end Go.Proofs.Ytgenefedicdohaa.Rpa
