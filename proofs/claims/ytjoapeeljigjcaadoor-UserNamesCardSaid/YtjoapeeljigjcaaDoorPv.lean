/-
  A write, in plain words: what becomes of frames and of a table, page by page; it never lacks a frame that it has counted.
-/
import Derived.Test.YtjoapeeljigjcaaDoorTo
import Derived.Test.YtjoapeeljigjcaaDoorMy
namespace Go.Proofs.YtjoapeeljigjcaaDoor.Pv
open Go Go.RowKit Go.Shelf Kit Bk
open Fm hiding Mem made_any len_any
open Fo Fr Fw Fx Fu Fq
open Tm hiding Mem
open Ts Tc Ti Sp Sa Pz To My
set_option linter.unusedVariables false

/-- All frames of a table's pages are taken, and each page has its own. -/
structure Fit (n : Nat) (R : Nat → Nat) (T : Nat → Option En) : Prop where
  rng : ∀ k x, T k = some x → ∃ f : Nat, x.f = (f : Int) ∧ f < n ∧ R f ≠ 0
  inj : ∀ k l x y, T k = some x → T l = some y → x.f = y.f → k = l
/-- A page's frame is doubled ahead of a write. -/
def dbl (R : Nat → Nat) (x : En) : Bool := x.c && decide (1 < R x.f.toNat)
def twF (n : Nat) (R : Nat → Nat) (x : En) : Nat := if dbl R x = true then lf n R else x.f.toNat
def twR (n : Nat) (R : Nat → Nat) (x : En) : Nat → Nat := if dbl R x = true then up (up R (lf n R) 1) x.f.toNat (R x.f.toNat - 1) else R
def twB (n : Nat) (R : Nat → Nat) (B : Nat → Nat → Nat) (x : En) : Nat → Nat → Nat := if dbl R x = true then up B (lf n R) (B x.f.toNat) else B
def twT (n : Nat) (R : Nat → Nat) (T : Nat → Option En) (k : Nat) (x : En) : Nat → Option En := up T k (some ⟨(twF n R x : Int), x.w, x.s, false, true⟩)

theorem fit_off {n : Nat} {R : Nat → Nat} {T : Nat → Option En} (h : Fit n R T) {k l : Nat} {x y : En} (hx : T k = some x) (hy : T l = some y) (hkl : l ≠ k) : y.f.toNat ≠ x.f.toNat := fun e => by
  obtain ⟨f, h1, _⟩ := h.rng k x hx
  obtain ⟨g, h2, _⟩ := h.rng l y hy
  exact hkl (h.inj l k y x hy hx (by omega))
theorem lf_of {n : Nat} {R : Nat → Nat} (h : 0 < fre n R) : lf n R < n ∧ R (lf n R) = 0 := ⟨(lf_spec (fre_pos h)).1, (lf_spec (fre_pos h)).2.1⟩
theorem twR_other {n : Nat} {R : Nat → Nat} {T : Nat → Option En} (h : Fit n R T) {k l : Nat} {x y : En} (hx : T k = some x) (hy : T l = some y) (hkl : l ≠ k) (hp : dbl R x = true → 0 < fre n R) : twR n R x y.f.toNat = R y.f.toNat := by
  unfold twR
  split
  · rename_i hd
    obtain ⟨h1, h2⟩ := lf_of (hp hd)
    obtain ⟨g, h3, h4, h5⟩ := h.rng l y hy
    rw [up_other _ _ _ _ (fit_off h hx hy hkl), up_other _ _ _ _ (fun e => h5 (by rw [show g = y.f.toNat by omega, e]; exact h2))]
  · rfl
theorem dbl_other {n : Nat} {R : Nat → Nat} {T : Nat → Option En} (h : Fit n R T) {k l : Nat} {x y : En} (hx : T k = some x) (hy : T l = some y) (hkl : l ≠ k) (hp : dbl R x = true → 0 < fre n R) : dbl (twR n R x) y = dbl R y := by
  unfold dbl
  rw [twR_other h hx hy hkl hp]
theorem fit_tw {n : Nat} {R : Nat → Nat} {T : Nat → Option En} (h : Fit n R T) {k : Nat} {x : En} (hx : T k = some x) (hp : dbl R x = true → 0 < fre n R) : Fit n (twR n R x) (twT n R T k x) ∧ twF n R x < n ∧ twR n R x (twF n R x) ≠ 0 := by
  obtain ⟨f, hf1, hf2, hf3⟩ := h.rng k x hx
  have hff : x.f.toNat = f := by omega
  have hF : twF n R x < n ∧ twR n R x (twF n R x) ≠ 0 := by
    unfold twF twR
    split
    · rename_i hd
      obtain ⟨h1, h2⟩ := lf_of (hp hd)
      rw [up_other _ _ _ _ (fun e => hf3 (by rw [← hff, ← e]; exact h2)), up_same]
      exact ⟨h1, by decide⟩
    · rename_i hd
      rw [hff]
      exact ⟨hf2, hf3⟩
  have hne : ∀ l y, T l = some y → l ≠ k → y.f ≠ (twF n R x : Int) := fun l y hy hl e => by
    obtain ⟨g, h3, h4, h5⟩ := h.rng l y hy
    unfold twF at e
    split at e
    · rename_i hd
      obtain ⟨h1, h2⟩ := lf_of (hp hd)
      exact h5 (by rw [show g = lf n R by omega]; exact h2)
    · exact fit_off h hx hy hl (by omega)
  refine ⟨⟨fun l y hy => ?_, fun l j y z hy hz he => ?_⟩, hF⟩
  · unfold twT at hy
    by_cases e : l = k
    · subst e
      rw [up_same] at hy
      cases hy
      exact ⟨twF n R x, rfl, hF⟩
    · rw [up_other _ _ _ _ e] at hy
      obtain ⟨g, h3, h4, h5⟩ := h.rng l y hy
      have := twR_other h hx hy e hp
      rw [show y.f.toNat = g by omega] at this
      exact ⟨g, h3, h4, by rw [this]; exact h5⟩
  · unfold twT at hy hz
    by_cases e : l = k
    · by_cases e2 : j = k
      · rw [e, e2]
      · subst e
        rw [up_same] at hy
        rw [up_other _ _ _ _ e2] at hz
        cases hy
        exact absurd he.symm (hne j z hz e2)
    · by_cases e2 : j = k
      · subst e2
        rw [up_same] at hz
        rw [up_other _ _ _ _ e] at hy
        cases hz
        exact absurd he (hne l y hy e)
      · rw [up_other _ _ _ _ e] at hy
        rw [up_other _ _ _ _ e2] at hz
        exact h.inj l j y z hy hz he
theorem fre_tw {n : Nat} {R : Nat → Nat} {T : Nat → Option En} (h : Fit n R T) {k : Nat} {x : En} (hx : T k = some x) (hp : dbl R x = true → 0 < fre n R) : fre n (twR n R x) = fre n R - (if dbl R x = true then 1 else 0) := by
  obtain ⟨f, hf1, hf2, hf3⟩ := h.rng k x hx
  have hff : x.f.toNat = f := by omega
  unfold twR
  split
  · rename_i hd
    obtain ⟨h1, h2⟩ := lf_of (hp hd)
    have hg : 1 < R x.f.toNat := by unfold dbl at hd; simp at hd; exact hd.2
    rw [fre_same (by rw [up_other _ _ _ _ (fun e => hf3 (by rw [← hff, e]; exact h2)), hff]; exact hf3) (by omega), fre_take h1 h2 (by decide)]
  · rfl

theorem toWrite_is (w : World) (q p t b n : Nat) (T : Nat → Option En) (R : Nat → Nat) (B : Nat → Nat → Nat) (h : Sp w q p t) (hF : Fm.Mem w p b n R B) (hT : Tm.Mem w t T) (hfit : Fit n R T) (k : Nat) (x : En) (hx : T k = some x) (hp : dbl R x = true → 0 < fre n R) :
    Calls Tryd.prog 41 #[.pointer (some ⟨q, 0, none⟩), .int .i64 (k : Int)] w fun e w' => e = .returned (.int .i64 (twF n R x : Int)) ∧ Kp (fun j => j = b ∨ j = t) w w' ∧ Fm.Mem w' p b n (twR n R x) (twB n R B x) ∧ Tm.Mem w' t (twT n R T k x) := by
  obtain ⟨f, hf1, hf2, hf3⟩ := hfit.rng k x hx
  have hk : k < 64 := by
    rcases Nat.lt_or_ge k 64 with hk | hk
    · exact hk
    · rw [hT.2 k hk] at hx; cases hx
  obtain ⟨xf, xw, xs, xc, xd⟩ := x
  dsimp only at hf1
  subst hf1
  have hNE : p ≠ t ∧ b ≠ t := by
    obtain ⟨⟨cs, ht, _⟩, _⟩ := hT
    obtain ⟨⟨cap, h1, _⟩, ⟨ds, h3, _⟩, _⟩ := hF
    exact ⟨h1.ne ht (by decide), h3.ne ht (by decide)⟩
  by_cases hd : dbl R ⟨(f : Int), xw, xs, xc, xd⟩ = true
  · obtain ⟨hc, hg⟩ : xc = true ∧ 1 < R f := by unfold dbl at hd; simpa using hd
    subst hc
    obtain ⟨h1, h2, h3⟩ := lf_spec (fre_pos (hp hd))
    refine (toWrite_double w q p t b n T R B h hF hT k hk f hf2 xw xs xd hx (R f - 2) (by omega) (lf n R) h1 h2 h3).mono ?_
    rintro e w' ⟨rfl, hk, hF', hT'⟩
    have e1 : twF n R ⟨(f : Int), xw, xs, true, xd⟩ = lf n R := by unfold twF; rw [if_pos hd]
    have e2 : twR n R ⟨(f : Int), xw, xs, true, xd⟩ = up (up R (lf n R) 1) f (R f - 2 + 1) := by
      unfold twR
      rw [if_pos hd, show R f - 2 + 1 = R f - 1 by omega]
      rfl
    have e3 : twB n R B ⟨(f : Int), xw, xs, true, xd⟩ = up B (lf n R) (B f) := by unfold twB; rw [if_pos hd]; rfl
    refine ⟨by rw [e1], hk, by rw [e2, e3]; exact hF', ?_⟩
    unfold twT
    rw [e1]
    exact hT'
  · have hg : xc = true → R f ≤ 1 := fun e => by
      subst e
      unfold dbl at hd
      simp at hd
      exact hd
    refine (toWrite_own w q p t b n T R B h hF hT k hk f hf2 xw xs xc xd hx hg).mono ?_
    rintro e w' ⟨rfl, hk, hT'⟩
    have e1 : twF n R ⟨(f : Int), xw, xs, xc, xd⟩ = f := by unfold twF; rw [if_neg hd]; rfl
    have e2 : twR n R ⟨(f : Int), xw, xs, xc, xd⟩ = R := by unfold twR; rw [if_neg hd]
    have e3 : twB n R B ⟨(f : Int), xw, xs, xc, xd⟩ = B := by unfold twB; rw [if_neg hd]
    refine ⟨by rw [e1], hk.mono (fun j _ hj => .inr hj), by rw [e2, e3]; exact hF.kept hk hNE.1 hNE.2, ?_⟩
    unfold twT
    rw [e1]
    exact hT'

/-- One piece written. -/
structure St where
  R : Nat → Nat
  B : Nat → Nat → Nat
  T : Nat → Option En
def st1 (n : Nat) (s : St) (k off : Nat) (ys : List Nat) : St := match s.T k with
  | none => s
  | some x => ⟨twR n s.R x, up (twB n s.R s.B x) (twF n s.R x) (wr (twB n s.R s.B x (twF n s.R x)) off ys), twT n s.R s.T k x⟩
/-- The i-th piece of some bytes. -/
def seg (a m : Nat) (xs : List Nat) (i : Nat) : List Nat := (xs.drop (fr a i)).take (to a m i - fr a i)
theorem seg_len {a m i : Nat} {xs : List Nat} (hx : xs.length = m) (hi : i < cn a m) : (seg a m xs i).length = to a m i - fr a i := by
  have := fr_to hi
  unfold seg
  rw [List.length_take, List.length_drop]
  omega
def sts (n : Nat) (s : St) (a m : Nat) (xs : List Nat) : Nat → St
  | 0 => s
  | i + 1 => st1 n (sts n s a m xs i) (a / 64 + i) (po a i) (seg a m xs i)
/-- How many frames the pieces from the i-th on need. -/
def ndB (R : Nat → Nat) (x : Option En) : Nat := match x with
  | some e => if dbl R e = true then 1 else 0
  | none => 0
def nd (R : Nat → Nat) (T : Nat → Option En) (a : Nat) : Nat → Nat → Nat
  | _, 0 => 0
  | i, j + 1 => ndB R (T (a / 64 + i)) + nd R T a (i + 1) j
theorem nd_congr {R R' : Nat → Nat} {T T' : Nat → Option En} {a : Nat} : ∀ {j i : Nat}, (∀ l, i ≤ l → l < i + j → ndB R' (T' (a / 64 + l)) = ndB R (T (a / 64 + l))) → nd R' T' a i j = nd R T a i j
  | 0, i, _ => rfl
  | j + 1, i, h => by
    unfold nd
    rw [h i (Nat.le_refl _) (by omega), nd_congr fun l h1 h2 => h l (by omega) (by omega)]
/-- What holds of frames and table all along a write. -/
structure Along (n : Nat) (s : St) (T0 : Nat → Option En) (a m i : Nat) : Prop where
  fit : Fit n s.R s.T
  room : nd s.R s.T a i (cn a m - i) ≤ fre n s.R
  same : ∀ k, (s.T k).isSome = (T0 k).isSome
theorem Along.next {n : Nat} {s : St} {T0 : Nat → Option En} {a m i : Nat} (h : Along n s T0 a m i) (hi : i < cn a m) (hs : ∀ j, j < cn a m → (T0 (a / 64 + j)).isSome = true) (off : Nat) (ys : List Nat) :
    ∃ x, s.T (a / 64 + i) = some x ∧ (dbl s.R x = true → 0 < fre n s.R) ∧ Along n (st1 n s (a / 64 + i) off ys) T0 a m (i + 1) := by
  have h1 := h.same (a / 64 + i)
  rw [hs i hi] at h1
  obtain ⟨x, hx⟩ := Option.isSome_iff_exists.1 h1
  have hroom := h.room
  rw [show cn a m - i = (cn a m - (i + 1)) + 1 by omega] at hroom
  unfold nd at hroom
  rw [hx] at hroom
  have hnb : ndB s.R (some x) = if dbl s.R x = true then 1 else 0 := rfl
  have hp : dbl s.R x = true → 0 < fre n s.R := fun hd => by rw [hnb, if_pos hd] at hroom; omega
  refine ⟨x, hx, hp, ?_⟩
  have hst : st1 n s (a / 64 + i) off ys = ⟨twR n s.R x, up (twB n s.R s.B x) (twF n s.R x) (wr (twB n s.R s.B x (twF n s.R x)) off ys), twT n s.R s.T (a / 64 + i) x⟩ := by
    unfold st1
    rw [hx]
  rw [hst]
  refine ⟨(fit_tw h.fit hx hp).1, ?_, fun k => ?_⟩
  · dsimp only
    rw [fre_tw h.fit hx hp]
    have : nd (twR n s.R x) (twT n s.R s.T (a / 64 + i) x) a (i + 1) (cn a m - (i + 1)) = nd s.R s.T a (i + 1) (cn a m - (i + 1)) := nd_congr fun l h1 h2 => by
      unfold twT
      rw [up_other _ _ _ _ (by omega)]
      cases hy : s.T (a / 64 + l) with
      | none => rfl
      | some y =>
        show (if dbl (twR n s.R x) y = true then 1 else 0) = if dbl s.R y = true then 1 else 0
        rw [dbl_other h.fit hx hy (by omega) hp]
    rw [this, ← hnb]
    omega
  · dsimp only
    unfold twT
    by_cases e : k = a / 64 + i
    · subst e
      rw [up_same, ← h.same, hx]
      rfl
    · rw [up_other _ _ _ _ e]
      exact h.same k
end Go.Proofs.YtjoapeeljigjcaaDoor.Pv
