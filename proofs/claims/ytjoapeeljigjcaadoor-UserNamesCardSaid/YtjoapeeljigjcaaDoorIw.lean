/-
  What whole calls leave of spaces over one memory: mapped, unmapped, written, dropped, cloned.
-/
import Derived.Test.YtjoapeeljigjcaaDoorIv
namespace Go.Proofs.YtjoapeeljigjcaaDoor.Iw
open Go Go.RowKit Go.Shelf Kit Bk
open Fm hiding Mem made_any len_any
open Fo Fr Fw Fx Fu Fq
open Tm hiding Mem
open Ts Tc Ti Sp Sa Pz To My Pv Mp Mq Dr Cl Iv
set_option linter.unusedVariables false

theorem get_set (Ls : List Tab) (i : Nat) (T : Tab) (h : i < (Ls.set i T).length) : (Ls.set i T)[i] = T := by rw [List.getElem_set, if_pos rfl]
theorem set_get (Ls : List Tab) (i : Nat) (h : i < Ls.length) : Ls.set i Ls[i] = Ls := List.set_getElem_self h

/-- Pages mapped. -/
theorem maps_inv {n : Nat} {s : Sx} {Ls : List Tab} (h : Inv n s.R Ls) {i : Nat} (hi : i < Ls.length) (hT : Ls[i] = s.T) {k m : Nat} (hk : k + m ≤ 64) (hall : ∀ j, j < m → s.T (k + j) = none) (hm : m ≤ fre n s.R) (wb sh : Bool) :
    ∀ j, j ≤ m → Inv n (maps n s k wb sh j).R (Ls.set i (maps n s k wb sh j).T) ∧ ∀ l, l < k ∨ k + j ≤ l → (maps n s k wb sh j).T l = s.T l
  | 0, _ => ⟨by show Inv n s.R (Ls.set i s.T); rw [← hT, set_get]; exact h, fun _ _ => rfl⟩
  | j + 1, hj => by
    obtain ⟨h1, h2⟩ := maps_inv h hi hT hk hall hm wb sh j (by omega)
    have hf := maps_fre n s k wb sh m hm j (by omega)
    obtain ⟨l1, l2, _⟩ := lf_spec (fre_pos (show 0 < fre n (maps n s k wb sh j).R by omega))
    have hx : (maps n s k wb sh j).T (k + j) = none := by rw [h2 _ (.inr (Nat.le_refl _))]; exact hall j (by omega)
    have hi' : i < (Ls.set i (maps n s k wb sh j).T).length := by rw [List.length_set]; exact hi
    have h3 := h1.map hi' (k := k + j) (by omega) (by rw [get_set]; exact hx) l1 l2 wb sh
    rw [get_set, List.set_set] at h3
    refine ⟨h3, fun l hl => ?_⟩
    show up (maps n s k wb sh j).T (k + j) _ l = _
    rw [up_other _ _ _ _ (by omega), h2 l (by omega)]
/-- Pages unmapped: each leaves the others. -/
theorem un1_inv {n : Nat} {s : Sx} {Ls : List Tab} (h : Inv n s.R Ls) {i : Nat} (hi : i < Ls.length) (hT : Ls[i] = s.T) (k : Nat) :
    Inv n (un1 s k).R (Ls.set i (un1 s k).T) ∧ (∀ l, l ≠ k → (un1 s k).T l = s.T l) ∧ (un1 s k).T k = none ∧
      ∀ j (g : j < Ls.length) l y, (j ≠ i ∨ l ≠ k) → Ls[j] l = some y → (un1 s k).B y.f.toNat = s.B y.f.toNat := by
  unfold un1
  cases hx : s.T k with
  | none =>
    refine ⟨by rw [← hT, set_get]; exact h, fun _ _ => rfl, hx, fun _ _ _ _ _ _ => rfl⟩
  | some x =>
    have hx' : Ls[i] k = some x := by rw [hT]; exact hx
    have h1 := h.unmap hi hx'
    rw [hT] at h1
    refine ⟨h1, fun l hl => up_other _ _ _ _ hl, up_same _ _ _, fun j g l y hn hy => ?_⟩
    show drB s.R s.B x.f.toNat y.f.toNat = _
    unfold drB
    split
    · rename_i h1'
      rw [up_other]
      intro e
      -- a frame of one page alone is no other's
      obtain ⟨hk, f0, e1, e2⟩ := h.rng i hi k x hx'
      obtain ⟨hl, f1, e3, e4⟩ := h.rng j g l y hy
      have he : x.f = y.f := by omega
      obtain ⟨p1, _⟩ := h.pos i hi j g k l x y hx' hy he
      subst p1
      have hji : j ≠ i := by rcases hn with hn | hn; exact hn; exact absurd rfl hn
      have h5 : occ Ls[i] f0 ≠ 0 := occN_pos hk (by rw [hx', has_some e1]; decide)
      have h6 : occ Ls[j] f0 ≠ 0 := occN_pos hk (by rw [hy, has_some (he.symm.trans e1)]; decide)
      have e9 := tot_set Ls i (fun _ => none) f0 hi
      have e8 := tot_ge (Ls.set i (fun _ => none)) j f0 (by rw [List.length_set]; exact g)
      rw [List.getElem_set, if_neg (Ne.symm hji)] at e8
      have e7 : occ (fun _ => none) f0 = 0 := rfl
      have h8 := h.cnt f0
      rw [show x.f.toNat = f0 by omega] at h1'
      omega
    · rfl
/-- One piece written. -/
theorem st1_inv {n : Nat} {s : St} {Ls : List Tab} (h : Inv n s.R Ls) {i : Nat} (hi : i < Ls.length) (hT : Ls[i] = s.T) {k : Nat} {x : En} (hx : s.T k = some x) (hw : x.w = true) (hp : dbl s.R x = true → 0 < fre n s.R) (off : Nat) (ys : List Nat) :
    Inv n (st1 n s k off ys).R (Ls.set i (st1 n s k off ys).T) ∧ (∀ l, l ≠ k → (st1 n s k off ys).T l = s.T l) ∧
      (∃ F : Nat, (st1 n s k off ys).T k = some ⟨(F : Int), x.w, x.s, false, true⟩ ∧ (st1 n s k off ys).B F = wr (s.B x.f.toNat) off ys ∧ (x.s = true → x.f = (F : Int))) ∧
      ∀ j (g : j < Ls.length) l y, (j ≠ i ∨ l ≠ k) → Ls[j] l = some y → ¬ (j ≠ i ∧ l = k ∧ x.s = true ∧ y.f = x.f) → (st1 n s k off ys).B y.f.toNat = s.B y.f.toNat := by
  have hx' : Ls[i] k = some x := by rw [hT]; exact hx
  have hst : st1 n s k off ys = ⟨twR n s.R x, up (twB n s.R s.B x) (twF n s.R x) (wr (twB n s.R s.B x (twF n s.R x)) off ys), twT n s.R s.T k x⟩ := by
    unfold st1
    rw [hx]
  rw [hst]
  obtain ⟨hk, f0, e1, e2⟩ := h.rng i hi k x hx'
  have hff : x.f.toNat = f0 := by omega
  have h1 := h.own hi hx' hp
  rw [hT] at h1
  have hB : twB n s.R s.B x (twF n s.R x) = s.B x.f.toNat := by
    unfold twB twF
    split
    · rw [up_same]
    · rfl
  refine ⟨h1, fun l hl => up_other _ _ _ _ hl, ⟨twF n s.R x, up_same _ _ _, ?_, fun hs => ?_⟩, fun j g l y hn hy hno => ?_⟩
  · dsimp only
    rw [up_same, hB]
  · have hc := h.shc i hi k x hx' hs
    unfold twF dbl
    rw [hc]
    simp
    omega
  · dsimp only
    have hFy : y.f.toNat ≠ twF n s.R x := fun e => by
      obtain ⟨hl, f1, e3, e4⟩ := h.rng j g l y hy
      unfold twF at e
      split at e
      · rename_i hd
        obtain ⟨_, hl2⟩ := lf_of (hp hd)
        exact h.free hl2 g hy (by omega)
      · rename_i hd
        have he : x.f = y.f := by omega
        obtain ⟨p1, p2, p3⟩ := h.pos i hi j g k l x y hx' hy he
        subst p1
        have hji : j ≠ i := by rcases hn with hn | hn; exact hn; exact absurd rfl hn
        by_cases hs : x.s = true
        · exact hno ⟨hji, rfl, hs, he.symm⟩
        · have hc := h.sep i hi j g k x y (Ne.symm hji) hx' hy he (by simpa using hs) hw
          have h5 : occ Ls[i] f0 ≠ 0 := occN_pos hk (by rw [hx', has_some e1]; decide)
          have h6 : occ Ls[j] f0 ≠ 0 := occN_pos hk (by rw [hy, has_some (he.symm.trans e1)]; decide)
          have e9 := tot_set Ls i (fun _ => none) f0 hi
          have e8 := tot_ge (Ls.set i (fun _ => none)) j f0 (by rw [List.length_set]; exact g)
          rw [List.getElem_set, if_neg (Ne.symm hji)] at e8
          have e7 : occ (fun _ => none) f0 = 0 := rfl
          have h8 := h.cnt f0
          refine hd ?_
          unfold dbl
          rw [hc, hff]
          simp
          omega
    rw [up_other _ _ _ _ hFy]
    unfold twB
    split
    · rename_i hd
      obtain ⟨_, hl2⟩ := lf_of (hp hd)
      rw [up_other]
      intro e
      obtain ⟨hl, f1, e3, e4⟩ := h.rng j g l y hy
      exact h.free hl2 g hy (by omega)
    · rfl
/-- A whole write. -/
theorem sts_inv {n : Nat} {s : St} {Ls : List Tab} (h : Inv n s.R Ls) {i : Nat} (hi : i < Ls.length) (hT : Ls[i] = s.T) (a m : Nat) (xs : List Nat) (hM : mayB s.T a m true = true) (hR : nd s.R s.T a 0 (cn a m) ≤ fre n s.R) :
    ∀ c, c ≤ cn a m → Along n (sts n s a m xs c) s.T a m c ∧ Inv n (sts n s a m xs c).R (Ls.set i (sts n s a m xs c).T) ∧ (∀ l, l < a / 64 ∨ a / 64 + c ≤ l → (sts n s a m xs c).T l = s.T l) ∧
      (∀ l x, s.T l = some x → ∃ F : Nat, (∃ cc dd, (sts n s a m xs c).T l = some ⟨(F : Int), x.w, x.s, cc, dd⟩) ∧ (x.s = true → x.f = (F : Int)) ∧ (sts n s a m xs c).B F = if a / 64 ≤ l ∧ l < a / 64 + c then wr (s.B x.f.toNat) (po a (l - a / 64)) (seg a m xs (l - a / 64)) else s.B x.f.toNat) ∧
      (∀ j (g : j < Ls.length) l y, j ≠ i → Ls[j] l = some y → ¬ (a / 64 ≤ l ∧ l < a / 64 + c ∧ ∃ x, s.T l = some x ∧ x.s = true ∧ y.f = x.f) → (sts n s a m xs c).B y.f.toNat = s.B y.f.toNat)
  | 0, _ => by
    refine ⟨⟨by have := h.fit hi; rw [hT] at this; exact this, by simpa [sts] using hR, fun _ => rfl⟩, by show Inv n s.R (Ls.set i s.T); rw [← hT, set_get]; exact h, fun _ _ => rfl, fun l x hx => ?_, fun _ _ _ _ _ _ _ => rfl⟩
    have hx' : Ls[i] l = some x := by rw [hT]; exact hx
    obtain ⟨_, f0, e1, _⟩ := h.rng i hi l x hx'
    refine ⟨f0, ⟨x.c, x.d, ?_⟩, fun _ => e1, ?_⟩
    · show s.T l = _
      rw [hx, ← e1]
    · rw [if_neg (by omega), show x.f.toNat = f0 by omega]
      rfl
  | c + 1, hc => by
    obtain ⟨h1, h2, h3, h4, h5⟩ := sts_inv h hi hT a m xs hM hR c (by omega)
    have hss : ∀ j, j < cn a m → (s.T (a / 64 + j)).isSome = true := fun j hj => by
      have := mayB_iff.1 hM j hj
      cases hx : s.T (a / 64 + j) with
      | none => rw [hx] at this; cases this
      | some x => rfl
    obtain ⟨x, hx, hp, hal⟩ := h1.next (by omega) hss (po a c) (seg a m xs c)
    have hi' : i < (Ls.set i (sts n s a m xs c).T).length := by rw [List.length_set]; exact hi
    have hxs : s.T (a / 64 + c) = some x := by rw [← h3 _ (.inr (Nat.le_refl _))]; exact hx
    have hw : x.w = true := by
      have := mayB_iff.1 hM c (by omega)
      rw [hxs] at this
      simpa [okW] using this
    obtain ⟨k1, k2, ⟨F, k3, k4, k5⟩, k6⟩ := st1_inv h2 hi' (get_set _ _ _ _) hx hw hp (po a c) (seg a m xs c)
    rw [List.set_set] at k1
    have hstep : sts n s a m xs (c + 1) = st1 n (sts n s a m xs c) (a / 64 + c) (po a c) (seg a m xs c) := rfl
    rw [← hstep] at hal k1 k2 k3 k4 k6
    have hx1 : Ls[i] (a / 64 + c) = some x := by rw [hT]; exact hxs
    refine ⟨hal, k1, fun l hl => by rw [k2 l (by omega), h3 l (by omega)], fun l z hz => ?_, fun j g l y hji hy hno => ?_⟩
    · by_cases e : l = a / 64 + c
      · subst e
        rw [hxs] at hz
        cases hz
        obtain ⟨F0, ⟨cc, dd, q1⟩, q2, q3⟩ := h4 _ _ hxs
        refine ⟨F, ⟨false, true, k3⟩, k5, ?_⟩
        rw [if_pos ⟨by omega, by omega⟩, k4, show a / 64 + c - a / 64 = c by omega]
        have hxf : x.f = (F0 : Int) := congrArg En.f (Option.some.inj (hx.symm.trans q1))
        rw [if_neg (by omega)] at q3
        rw [show x.f.toNat = F0 by omega] at q3 ⊢
        rw [q3]
      · obtain ⟨F0, ⟨cc, dd, q1⟩, q2, q3⟩ := h4 l z hz
        refine ⟨F0, ⟨cc, dd, by rw [k2 l e]; exact q1⟩, q2, ?_⟩
        have := k6 i hi' l _ (.inr e) (by rw [get_set]; exact q1) (fun hh => hh.1 rfl)
        dsimp only at this
        rw [show ((F0 : Int)).toNat = F0 by omega] at this
        rw [this, q3]
        by_cases h8 : a / 64 ≤ l ∧ l < a / 64 + c
        · rw [if_pos h8, if_pos ⟨h8.1, by omega⟩]
        · rw [if_neg h8, if_neg (by omega)]
    · have g' : j < (Ls.set i (sts n s a m xs c).T).length := by rw [List.length_set]; exact g
      have hgj : (Ls.set i (sts n s a m xs c).T)[j] = Ls[j] := by rw [List.getElem_set, if_neg (Ne.symm hji)]
      rw [k6 j g' l y (.inl hji) (by rw [hgj]; exact hy) (fun ⟨_, p2, p3, p4⟩ => hno ⟨by omega, by omega, x, by rw [p2]; exact hxs, p3, p4⟩)]
      exact h5 j g l y hji hy (fun ⟨p1, p2, p3⟩ => hno ⟨p1, by omega, p3⟩)
end Go.Proofs.YtjoapeeljigjcaaDoor.Iw
