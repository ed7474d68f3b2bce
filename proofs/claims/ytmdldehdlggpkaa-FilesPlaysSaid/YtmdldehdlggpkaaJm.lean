/-
  Open files as they lie; below, at, Get, Refs.
-/
import Derived.Test.YtmdldehdlggpkaaJp
namespace Go.Proofs.Ytmdldehdlggpkaa.Jm
open Go Go.RowKit Kit Bk Jp
set_option linter.unusedVariables false

/-- Open files in block f. -/
def Fl (w : World) (f : Nat) (S : Sf) : Prop :=
  ∃ cs, Blk w f cs 61 ∧ cs.size = 192 ∧ ∀ k, k < 64 → cs[k * 3]? = some (.int .i64 (S.P k)) ∧ cs[k * 3 + 1]? = some (.bool (S.V k)) ∧ cs[k * 3 + 2]? = some (.int .i64 (S.R k : Int))
theorem Fl.kept {T : Nat → Prop} {w w' : World} {f : Nat} {S : Sf} (h : Fl w f S) (hk : Kp T w w') (hp : ¬ T f) : Fl w' f S := by
  obtain ⟨cs, h1, h2⟩ := h
  exact ⟨cs, h1.kept hk hp, h2⟩
theorem Fl.below {w w' : World} {f : Nat} {S : Sf} (h : Fl w f S) (hb : Below w.heap.size w w') : Fl w' f S := h.kept (T := fun _ => False) (.of_below hb) (fun e => e)
theorem Fl.low {w w' : World} {f n₀ : Nat} {S : Sf} (h : Fl w f S) (hb : Below n₀ w w') (hp : f < n₀) : Fl w' f S := by
  obtain ⟨cs, h1, h2⟩ := h
  exact ⟨cs, (hb.block f hp).trans h1, h2⟩
theorem Fl.lt {w : World} {f : Nat} {S : Sf} (h : Fl w f S) : f < w.heap.size := by
  obtain ⟨cs, h1, h2⟩ := h
  exact h1.lt

theorem below_any (w : World) (n m : Int) : Calls Try.prog 45 #[.int .i64 n, .int .i64 m] w fun e w' => e = .returned (.bool (decide (0 ≤ n) && decide (n < m))) ∧ w = w' := by
  by_cases h0 : 0 ≤ n
  · have d0 : decide (0 ≤ n) = true := decide_eq_true h0
    rw [d0, Bool.true_and]
    clear h0
    go_enter Try.func45, Try.ntmps45
    go_wp2
    go_ret
    exact ⟨rfl, rfl⟩
  · have d0 : decide (0 ≤ n) = false := decide_eq_false h0
    rw [d0, Bool.false_and]
    clear h0
    go_enter Try.func45, Try.ntmps45
    go_wp2
    go_ret
    exact ⟨rfl, rfl⟩
theorem below_yes (w : World) (n m : Int) (h : 0 ≤ n ∧ n < m) : Calls Try.prog 45 #[.int .i64 n, .int .i64 m] w fun e w' => e = .returned (.bool true) ∧ w = w' := by
  have := below_any w n m
  rw [decide_eq_true h.1, decide_eq_true h.2] at this
  exact this
theorem below_not (w : World) (n m : Int) (h : ¬ (0 ≤ n ∧ n < m)) : Calls Try.prog 45 #[.int .i64 n, .int .i64 m] w fun e w' => e = .returned (.bool false) ∧ w = w' := by
  have := below_any w n m
  rw [show (decide (0 ≤ n) && decide (n < m)) = false by rw [← Bool.decide_and]; exact decide_eq_false h] at this
  exact this

theorem at_nil (w : World) (i : Int) :
    Calls Try.prog 42 #[.pointer none, .int .i64 i] w fun e w' => e = .returned (.pointer none) ∧ w = w' := by
  go_enter Try.func42, Try.ntmps42
  go_wp2
  go_ret
  exact ⟨rfl, rfl⟩
theorem at_no (w : World) (f : Nat) (S : Sf) (h : Fl w f S) (i : Int) (hi : rf S.R i = 0) :
    Calls Try.prog 42 #[.pointer (some ⟨f, 0, none⟩), .int .i64 i] w fun e w' => e = .returned (.pointer none) ∧ w = w' := by
  by_cases hk : 0 ≤ i ∧ i < 64
  · obtain ⟨k, rfl⟩ := Int.eq_ofNat_of_zero_le hk.1
    rw [rf_nat (by omega)] at hi
    obtain ⟨cs, h1, h2, h3⟩ := h
    have c2 := (h1.cell (k * 3 + 2)).trans (h3 k (by omega)).2.2
    rw [hi] at c2
    have HB := Lib.hid (below_yes w _ _ hk)
    have hk2 : (k : Int) < 64 := hk.2
    clear h1 h2 h3 hi hk
    go_enter Try.func42, Try.ntmps42
    go_wp2_with (go_at_call 45; (with_reducible refine HB.out.mono ?_); rintro e w1 ⟨rfl, rfl⟩)
    go_ret
    exact ⟨rfl, rfl⟩
  · have HB := Lib.hid (below_not w i 64 hk)
    clear h hi hk
    go_enter Try.func42, Try.ntmps42
    go_wp2_with (go_at_call 45; (with_reducible refine HB.out.mono ?_); rintro e w1 ⟨rfl, rfl⟩)
    go_ret
    exact ⟨rfl, rfl⟩
theorem at_yes (w : World) (f : Nat) (S : Sf) (h : Fl w f S) (k : Nat) (hk : k < 64) (hr : S.R k ≠ 0) :
    Calls Try.prog 42 #[.pointer (some ⟨f, 0, none⟩), .int .i64 (k : Int)] w fun e w' => e = .returned (.pointer (some ⟨f, k * 3, none⟩)) ∧ w = w' := by
  obtain ⟨cs, h1, h2, h3⟩ := h
  have c2 := (h1.cell (k * 3 + 2)).trans (h3 k (by omega)).2.2
  have hd : ((S.R k : Int) == 0) = false := by simp; omega
  obtain ⟨r, hr2⟩ : ∃ r : Int, (S.R k : Int) = r := ⟨_, rfl⟩
  rw [hr2] at c2 hd
  have HB := Lib.hid (below_yes w (k : Int) 64 ⟨by omega, by omega⟩)
  have hk2 : (k : Int) < 64 := by omega
  clear h1 h2 h3 hr hr2
  go_enter Try.func42, Try.ntmps42
  go_wp2_with (go_at_call 45; (with_reducible refine HB.out.mono ?_); rintro e w1 ⟨rfl, rfl⟩)
  go_ret
  exact ⟨rfl, rfl⟩

theorem get_nil (w : World) (i : Int) :
    Calls Try.prog 12 #[.pointer none, .int .i64 i] w fun e w' => e = .returned (.tuple #[.agg #[.int .i64 0, .bool false], .bool false]) ∧ Below w.heap.size w w' := by
  go_enter Try.func12, Try.ntmps12
  go_wp2_with (go_at_call 42; (with_reducible refine (at_nil _ _).mono ?_); rintro e w1 ⟨rfl, rfl⟩)
  exact bodyPost_ret (v := .tuple #[.agg #[.int .i64 0, .bool false], .bool false]) (by simp [results, Try.results12, go_sem]) rfl ⟨rfl, (by repeat' (first | exact Below.refl _ _ | exact Nat.le_refl _ | refine Below.drew ?_ | refine Below.alloc ?_ (by simp) _ | refine Below.setCell ?_ (by simp) _))⟩
theorem refs_nil (w : World) (i : Int) :
    Calls Try.prog 22 #[.pointer none, .int .i64 i] w fun e w' => e = .returned (.int .i64 0) ∧ w = w' := by
  go_enter Try.func22, Try.ntmps22
  go_wp2_with (go_at_call 42; (with_reducible refine (at_nil _ _).mono ?_); rintro e w1 ⟨rfl, rfl⟩)
  go_ret
  exact ⟨rfl, rfl⟩
theorem get_any (w : World) (f : Nat) (S : Sf) (h : Fl w f S) (i : Int) :
    Calls Try.prog 12 #[.pointer (some ⟨f, 0, none⟩), .int .i64 i] w fun e w' => e = .returned (.tuple #[.agg #[.int .i64 (gP S i), .bool (gV S i)], .bool (decide (rf S.R i ≠ 0))]) ∧ Below w.heap.size w w' := by
  have hb0 : Below w.heap.size w (w.alloc (.cells #[.int .i64 0, .bool false] 26)) := (Below.refl _ _).alloc (Nat.le_refl _) _
  have h0 := h.below hb0
  have hlt := h.lt
  by_cases hz : rf S.R i = 0
  · have HA := Lib.hid (at_no _ f S h0 i hz)
    unfold gP gV
    rw [if_pos hz, if_pos hz, decide_eq_false (fun e => e hz)]
    clear h h0 hz hb0
    go_enter Try.func12, Try.ntmps12
    go_wp2_with (go_at_call 42; (with_reducible refine HA.out.mono ?_); rintro e w1 ⟨rfl, rfl⟩)
    exact bodyPost_ret (v := .tuple #[.agg #[.int .i64 0, .bool false], .bool false]) (by simp [results, Try.results12, go_sem]) rfl ⟨rfl, (by repeat' (first | exact Below.refl _ _ | exact Nat.le_refl _ | refine Below.drew ?_ | refine Below.alloc ?_ (by simp) _ | refine Below.setCell ?_ (by simp) _))⟩
  · unfold gP gV
    rw [if_neg hz, if_neg hz, decide_eq_true hz]
    obtain ⟨k, rfl, hk, hr⟩ := rf_pos hz
    have HA := Lib.hid (at_yes _ f S h0 k hk hr)
    rw [show Int.toNat (k : Int) = k by omega]
    obtain ⟨cs, h1, h2, h3⟩ := h0
    have c0 := (h1.cell (k * 3)).trans (h3 k (by omega)).1
    have c1 := (h1.cell (k * 3 + 1)).trans (h3 k (by omega)).2.1
    generalize S.P k = P at *
    generalize S.V k = V at *
    clear h h1 h2 h3 hz hr hb0
    go_enter Try.func12, Try.ntmps12
    go_wp2_with (go_at_call 42; (with_reducible refine HA.out.mono ?_); rintro e w1 ⟨rfl, rfl⟩)
    exact bodyPost_ret (v := .tuple #[.agg #[.int .i64 P, .bool V], .bool true]) (by simp [results, Try.results12, go_sem]) rfl ⟨rfl, (by repeat' (first | exact Below.refl _ _ | exact Nat.le_refl _ | refine Below.drew ?_ | refine Below.alloc ?_ (by simp) _ | refine Below.setCell ?_ (by simp) _))⟩
theorem refs_any (w : World) (f : Nat) (S : Sf) (h : Fl w f S) (i : Int) :
    Calls Try.prog 22 #[.pointer (some ⟨f, 0, none⟩), .int .i64 i] w fun e w' => e = .returned (.int .i64 (rf S.R i : Int)) ∧ w = w' := by
  by_cases hz : rf S.R i = 0
  · have HA := Lib.hid (at_no w f S h i hz)
    rw [hz]
    clear h hz
    go_enter Try.func22, Try.ntmps22
    go_wp2_with (go_at_call 42; (with_reducible refine HA.out.mono ?_); rintro e w1 ⟨rfl, rfl⟩)
    go_ret
    exact ⟨rfl, rfl⟩
  · obtain ⟨k, rfl, hk, hr⟩ := rf_pos hz
    have HA := Lib.hid (at_yes w f S h k hk hr)
    rw [rf_nat hk]
    obtain ⟨cs, h1, h2, h3⟩ := h
    have c2 := (h1.cell (k * 3 + 2)).trans (h3 k (by omega)).2.2
    clear h1 h2 h3 hz hr
    go_enter Try.func22, Try.ntmps22
    go_wp2_with (go_at_call 42; (with_reducible refine HA.out.mono ?_); rintro e w1 ⟨rfl, rfl⟩)
    go_ret
    exact ⟨rfl, rfl⟩
end Go.Proofs.Ytmdldehdlggpkaa.Jm
