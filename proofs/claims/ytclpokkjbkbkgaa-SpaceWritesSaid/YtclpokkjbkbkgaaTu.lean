/-
  What a write leaves, page by page: what is read back; which pages turn.
-/
import Derived.Test.YtclpokkjbkbkgaaFa
namespace Go.Proofs.Ytclpokkjbkbkgaa.Tu
open Go Go.RowKit Go.Shelf Kit Bk
open Fm hiding Mem made_any len_any
open Fo Fr Fw Fx Fu Fq
open Tm hiding Mem
open Ts Tc Ti Sp Sa Pz To My Pv Mp Mq Dr Cl Iv Iw Ix Wr Sy Al Pg So Oq Sn Tg Un Zf Um Qc Cn Fa
set_option linter.unusedVariables false

variable {w w' : World} {p b n : Nat} {R : Nat → Nat} {B : Nat → Nat → Nat} {qs ts : Nat → Nat} {Ls : List Tab}

theorem take_drop_app (xs : List Nat) (i j : Nat) (h : i ≤ j) : xs.take i ++ (xs.drop i).take (j - i) = xs.take j := by
  have : (xs.take j).take i ++ (xs.take j).drop i = xs.take j := List.take_append_drop _ _
  rw [List.take_take, List.drop_take, Nat.min_eq_left h] at this
  exact this
theorem pl_seg {B' : Nat → Nat → Nat} {T' : Tab} {f : Nat → Nat} {a m i F : Nat} {xs : List Nat} (hx : xs.length = m) (hi : i < cn a m) {e : En} (hT : T' (a / 64 + i) = some e) (hf : e.f = (F : Int)) (hB : B' F = wr f (po a i) (seg a m xs i)) : Re.pl B' T' a m i = seg a m xs i := by
  have hl := seg_len (a := a) (m := m) (i := i) hx hi
  unfold Re.pl
  rw [hT]
  have hfk : Re.fk (some e) = F := by
    show e.f.toNat = F
    rw [hf]
    rfl
  rw [hfk, hB]
  apply List.ext_getElem?
  intro j
  by_cases hj : j < to a m i - fr a i
  · have hj2 : j < (seg a m xs i).length := by rw [hl]; exact hj
    rw [List.getElem?_map, List.getElem?_range hj, Option.map_some]
    unfold wr
    rw [if_pos ⟨by omega, by rw [hl]; omega⟩, show po a i + j - po a i = j by omega, List.getElem?_eq_getElem hj2]
    rfl
  · rw [List.getElem?_eq_none (by simp; omega), List.getElem?_eq_none (by rw [hl]; omega)]
theorem rdl_back {B' : Nat → Nat → Nat} {T' : Tab} {a m : Nat} {xs : List Nat} (hx : xs.length = m) (h : ∀ i, i < cn a m → ∃ (F : Nat) (e : En) (f : Nat → Nat), T' (a / 64 + i) = some e ∧ e.f = (F : Int) ∧ B' F = wr f (po a i) (seg a m xs i)) : ∀ i, i ≤ cn a m → Re.rdl B' T' a m i = xs.take (min m (fr a i))
  | 0, _ => by rw [fr_zero, Nat.min_zero]; rfl
  | i + 1, hi => by
    have ih := rdl_back hx h i (by omega)
    obtain ⟨F, e, f, h1, h2, h3⟩ := h i (by omega)
    show Re.rdl B' T' a m i ++ Re.pl B' T' a m i = _
    rw [ih, pl_seg hx (by omega) h1 h2 h3]
    have h4 := fr_to (a := a) (m := m) (i := i) (by omega)
    rw [show min m (fr a i) = fr a i by omega]
    unfold seg
    exact take_drop_app xs _ _ (by omega)
theorem pgS_none {T : Tab} {l : Nat} (h : T l = none) : pgS B T l = ByteArray.empty := by unfold pgS; rw [h]
theorem pgS_some {T : Tab} {l : Nat} {x : En} (h : T l = some x) : pgS B T l = bstr (bts (B x.f.toNat) 64) := by unfold pgS; rw [h]
theorem in_of {a m l : Nat} (h1 : a / 64 ≤ l) (h2 : l < a / 64 + cn a m) : a < 64 * l + 64 ∧ 64 * l < a + m := by
  have := (cn_iff a m (l - a / 64)).1 (by omega)
  unfold fr at this
  omega

/-- What a write that went through leaves. -/
theorem wrote (h : Inv n R Ls) {k : Nat} (hk : k < Ls.length) (a : Nat) (xs : List Nat) (hM : mayB Ls[k] a xs.length true = true) (hR : nd R Ls[k] a 0 (cn a xs.length) ≤ fre n R) {s' : St} (hs : s' = sts n ⟨R, B, Ls[k]⟩ a xs.length xs (cn a xs.length)) :
    (mayB s'.T a xs.length false = true ∧ Re.rdl s'.B s'.T a xs.length (cn a xs.length) = xs) ∧
    (∀ i (hi : i < Ls.length) (hi' : i < (Ls.set k s'.T).length) l, ¬ (a < 64 * l + 64 ∧ 64 * l < a + xs.length) → pgS s'.B (Ls.set k s'.T)[i] l = pgS B Ls[i] l) ∧
    (∀ i (hi : i < Ls.length) (hi' : i < (Ls.set k s'.T).length) l, i ≠ k → ¬ (frs (s'.T l) = true ∧ frk ((Ls.set k s'.T)[i] l) = frk (s'.T l)) → pgS s'.B (Ls.set k s'.T)[i] l = pgS B Ls[i] l) := by
  subst hs
  obtain ⟨c1, c2, c3, c4, c5⟩ := sts_inv (s := ⟨R, B, Ls[k]⟩) h hk rfl a xs.length xs hM hR (cn a xs.length) (Nat.le_refl _)
  obtain ⟨s', hs⟩ : ∃ s', sts n ⟨R, B, Ls[k]⟩ a xs.length xs (cn a xs.length) = s' := ⟨_, rfl⟩
  rw [hs] at c1 c2 c3 c4 c5 ⊢
  dsimp only at c3 c4 c5
  have hsome : ∀ i, i < cn a xs.length → ∃ x, Ls[k] (a / 64 + i) = some x := fun i hi => by
    have := mayB_iff.1 hM i hi
    cases hx : Ls[k] (a / 64 + i) with
    | none => rw [hx] at this; cases this
    | some x => exact ⟨x, rfl⟩
  refine ⟨⟨mayB_iff.2 fun i hi => ?_, ?_⟩, fun i hi hi' l hn => ?_, fun i hi hi' l hik hn => ?_⟩
  · obtain ⟨x, hx⟩ := hsome i hi
    obtain ⟨F, ⟨cc, dd, e1⟩, _⟩ := c4 _ x hx
    rw [e1]
    rfl
  · rw [rdl_back rfl (fun i hi => ?_) _ (Nat.le_refl _), to_last, List.take_length]
    obtain ⟨x, hx⟩ := hsome i hi
    obtain ⟨F, ⟨cc, dd, e1⟩, _, e3⟩ := c4 _ x hx
    rw [if_pos ⟨by omega, by omega⟩, show a / 64 + i - a / 64 = i by omega] at e3
    exact ⟨F, _, _, e1, rfl, e3⟩
  · have hout : ¬ (a / 64 ≤ l ∧ l < a / 64 + cn a xs.length) := fun ⟨h1, h2⟩ => hn (in_of h1 h2)
    by_cases e : i = k
    · subst e
      rw [get_set]
      cases hx : Ls[i] l with
      | none =>
        have := c1.same l
        dsimp only at this
        rw [hx] at this
        rw [pgS_none hx, pgS_none (by cases hy : s'.T l with | none => rfl | some y => rw [hy] at this; cases this)]
      | some x =>
        obtain ⟨F, ⟨cc, dd, e1⟩, _, e3⟩ := c4 l x hx
        rw [if_neg hout] at e3
        rw [pgS_some hx, pgS_some e1]
        show bstr (bts (s'.B F) 64) = _
        rw [e3]
    · have e2 : (Ls.set k s'.T)[i] = Ls[i] := by rw [List.getElem_set, if_neg (fun h => e h.symm)]
      rw [e2]
      cases hy : Ls[i] l with
      | none => rw [pgS_none hy, pgS_none hy]
      | some y => rw [pgS_some hy, pgS_some hy, c5 i hi l y e hy (fun h => hout ⟨h.1, h.2.1⟩)]
  · have e2 : (Ls.set k s'.T)[i] = Ls[i] := by rw [List.getElem_set, if_neg (fun h => hik h.symm)]
    rw [e2] at hn ⊢
    cases hy : Ls[i] l with
    | none => rw [pgS_none hy, pgS_none hy]
    | some y =>
      rw [pgS_some hy, pgS_some hy, c5 i hi l y hik hy ?_]
      rintro ⟨_, _, x, hx, hxs, hyx⟩
      obtain ⟨F, ⟨cc, dd, e1⟩, e4, _⟩ := c4 l x hx
      refine hn ⟨?_, ?_⟩
      · rw [e1]
        exact hxs
      · rw [hy, e1]
        show y.f = (F : Int)
        rw [hyx, e4 hxs]
/-- Of the same frame: the same text. -/
theorem same_frame (h : Inv n R Ls) {i k l : Nat} (hi : i < Ls.length) (hk : k < Ls.length) (h1 : frs (Ls[k] l) = true) (h2 : frk (Ls[i] l) = frk (Ls[k] l)) : pgS B Ls[i] l = pgS B Ls[k] l := by
  cases hx : Ls[k] l with
  | none => rw [hx] at h1; cases h1
  | some x =>
    obtain ⟨_, f, e1, _⟩ := h.rng k hk l x hx
    rw [hx] at h2
    have h2' : frk (Ls[i] l) = (f : Int) := h2.trans e1
    cases hy : Ls[i] l with
    | none =>
      rw [hy] at h2'
      have : (-1 : Int) = (f : Int) := h2'
      omega
    | some y =>
      rw [hy] at h2'
      have h3 : y.f = (f : Int) := h2'
      rw [pgS_some hx, pgS_some hy, h3, e1]
/-- Read, of one of them. -/
theorem sRead (h : Sy.Sys w p b n R B qs ts Ls) {i : Nat} (hi : i < Ls.length) (a m : Nat) (ha : a < 4294967296) (hm : m ≤ 1000000) :
    Calls Try.prog 8 #[.pointer (some ⟨qs i, 0, none⟩), .int .u32 (a : Int), .int .i64 (m : Int)] w fun e w' => Below w.heap.size w w' ∧ ∃ (av : Option Addr) (ln cap : Nat) (c : Int), e = .returned (.tuple #[.slice av ln cap, .int .i64 c]) ∧ (mayB Ls[i] a m false = true → c = 0 ∧ Slc .u8 w' (.slice av ln cap) (Re.rdl B Ls[i] a m (cn a m))) := by
  cases hM : mayB Ls[i] a m false with
  | false =>
    refine (Nw.read_no w (qs i) p (ts i) Ls[i] (h.sp i hi) (h.tm i hi) a m (m : Int) (.inl rfl) (by omega) ha (by rw [hM]; rfl)).mono ?_
    rintro e w' ⟨rfl, hb⟩
    exact ⟨hb, _, _, _, _, rfl, fun h => by cases h⟩
  | true =>
    refine (Re.read_any w (qs i) p (ts i) b n Ls[i] R B (h.sp i hi) h.fm (h.tm i hi) (h.inv.fit hi) a m hm ha hM).mono ?_
    rintro e w' ⟨hb, r, rfl, ho⟩
    have hs := own_slc ho
    obtain ⟨av, cap, rfl, _⟩ := id hs
    exact ⟨hb, _, _, _, _, rfl, fun _ => ⟨rfl, hs⟩⟩
end Go.Proofs.Ytclpokkjbkbkgaa.Tu
