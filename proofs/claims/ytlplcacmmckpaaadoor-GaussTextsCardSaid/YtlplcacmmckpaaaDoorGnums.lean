/-
  What package gauss's numbers come to: Parts, May, Make, Add, Mul, Conj, Norm, for any complex128.
-/
import Derived.Test.YtlplcacmmckpaaaDoorGwhole
import Derived.Deep.QuietTactic
import Derived.BigQuiet
import Derived.RegionTactic
namespace Go.Proofs.YtlplcacmmckpaaaDoor.Gnums
open Go Go.RowKit Kit Fl Whole Gleaf Gparts Gwhole
set_option linter.unusedVariables false

theorem re_range (a b : Nat) : -524288 ≤ re a b ∧ re a b ≤ 524287 := by
  unfold re
  split
  · rename_i h
    unfold isN at h
    unfold pv
    cases ha : whl a with
    | none => rw [ha] at h; cases h
    | some v => exact whl_range ha
  · omega
theorem im_range (a b : Nat) : -524288 ≤ im a b ∧ im a b ≤ 524287 := by
  unfold im
  split
  · rename_i h
    unfold isN at h
    unfold pv
    cases hb : whl b with
    | none => rw [hb] at h; cases ha : whl a <;> rw [ha] at h <;> cases h
    | some v => exact whl_range hb
  · omega

/-- Two Below in a row. -/
theorem bel {B : Nat} {A C D : World} (h : Below B A C) (k : Below C.heap.size C D) (hs : B ≤ A.heap.size) : Below B A D := h.trans (k.mono (Nat.le_trans hs h.size))
theorem bel' {A C D : World} (h : Below A.heap.size A C) (k : Below C.heap.size C D) : Below A.heap.size A D := bel h k (Nat.le_refl _)

theorem parts_any (a b : Nat) (w : World) :
    Calls Tryd.prog 22 #[.complex .f64 a b] w fun e w' => e = .returned (.tuple #[.int .i64 (re a b), .int .i64 (im a b)]) ∧ Below w.heap.size w w' := by
  go_enter Tryd.func22, Tryd.ntmps22
  go_wp2_with (go_at_call 28; refine (whole_any a b _).mono ?_; rintro e w1 ⟨rfl, hb⟩)
  go_quiet (fail)
  all_goals go_wp2
  all_goals go_ret2
  all_goals exact ⟨rfl, below_drewN (hb.alloc hb.size _) _⟩

theorem may_any (a b : Nat) (w : World) :
    Calls Tryd.prog 18 #[.complex .f64 a b] w fun e w' => e = .returned (.bool (isN a b)) ∧ Below w.heap.size w w' := by
  go_enter Tryd.func18, Tryd.ntmps18
  go_wp2_with (go_at_call 28; refine (whole_any a b _).mono ?_; rintro e w1 ⟨rfl, hb⟩)
  go_ret
  exact ⟨rfl, hb.alloc hb.size _⟩

theorem make_any (p q : Int) (w : World) :
    Calls Tryd.prog 16 #[.int .i64 p, .int .i64 q] w fun e w' => e = .returned (.complex .f64 (fl (wr p)) (fl (wr q))) ∧ w = w' := by
  go_enter Tryd.func16, Tryd.ntmps16
  go_wp2_with (go_at_call 31; refine (wrap_any _ _).mono ?_; rintro e w1 ⟨rfl, rfl⟩)
  go_ret
  exact ⟨rfl, rfl⟩

theorem add_any (a b c d : Nat) (w : World) :
    Calls Tryd.prog 19 #[.complex .f64 a b, .complex .f64 c d] w fun e w' => e = .returned (.complex .f64 (fl (wr (re a b + re c d))) (fl (wr (im a b + im c d)))) ∧ Below w.heap.size w w' := by
  obtain ⟨h1, h1'⟩ := re_range a b
  obtain ⟨h2, h2'⟩ := im_range a b
  obtain ⟨h3, h3'⟩ := re_range c d
  obtain ⟨h4, h4'⟩ := im_range c d
  go_enter Tryd.func19, Tryd.ntmps19
  go_wp2_with (first | (go_at_call 22; refine (parts_any _ _ _).mono ?_; rintro e w1 ⟨rfl, hb⟩) | (go_at_call 16; refine (make_any _ _ _).mono ?_; rintro e w2 ⟨rfl, rfl⟩))
  go_ret
  exact ⟨rfl, bel' (by assumption) hb⟩

theorem mul_bd {x y : Int} (h1 : -524288 ≤ x ∧ x ≤ 524287) (h2 : -524288 ≤ y ∧ y ≤ 524287) : -274877906944 ≤ x * y ∧ x * y ≤ 274877906944 := by
  have h : (x * y).natAbs ≤ 524288 * 524288 := by
    rw [Int.natAbs_mul]
    exact Nat.mul_le_mul (by omega) (by omega)
  omega

theorem mul_any (a b c d : Nat) (w : World) :
    Calls Tryd.prog 20 #[.complex .f64 a b, .complex .f64 c d] w fun e w' => e = .returned (.complex .f64 (fl (wr (re a b * re c d - im a b * im c d))) (fl (wr (re a b * im c d + im a b * re c d)))) ∧ Below w.heap.size w w' := by
  obtain ⟨h1, h1'⟩ := mul_bd (re_range a b) (re_range c d)
  obtain ⟨h2, h2'⟩ := mul_bd (im_range a b) (im_range c d)
  obtain ⟨h3, h3'⟩ := mul_bd (re_range a b) (im_range c d)
  obtain ⟨h4, h4'⟩ := mul_bd (im_range a b) (re_range c d)
  go_enter Tryd.func20, Tryd.ntmps20
  go_wp2_with (first | (go_at_call 22; refine (parts_any _ _ _).mono ?_; rintro e w1 ⟨rfl, hb⟩) | (go_at_call 16; refine (make_any _ _ _).mono ?_; rintro e w2 ⟨rfl, rfl⟩))
  go_ret
  exact ⟨rfl, bel' (by assumption) hb⟩

theorem conj_any (a b : Nat) (w : World) :
    Calls Tryd.prog 21 #[.complex .f64 a b] w fun e w' => e = .returned (.complex .f64 (fl (wr (re a b))) (fl (wr (-(im a b))))) ∧ Below w.heap.size w w' := by
  obtain ⟨h1, h1'⟩ := re_range a b
  obtain ⟨h2, h2'⟩ := im_range a b
  go_enter Tryd.func21, Tryd.ntmps21
  go_wp2_with (first | (go_at_call 22; refine (parts_any _ _ _).mono ?_; rintro e w1 ⟨rfl, hb⟩) | (go_at_call 16; refine (make_any _ _ _).mono ?_; rintro e w2 ⟨rfl, rfl⟩))
  go_ret
  exact ⟨rfl, hb⟩

theorem sq_bd {x : Int} (h1 : -524288 ≤ x ∧ x ≤ 524287) : 0 ≤ x * x ∧ x * x ≤ 274877906944 := by
  have h := mul_bd h1 h1
  have : 0 ≤ x * x := by
    rcases Int.le_total 0 x with h0 | h0
    · exact Int.mul_nonneg h0 h0
    · exact Int.mul_nonneg_of_nonpos_of_nonpos h0 h0
  omega
theorem norm_any (a b : Nat) (w : World) :
    Calls Tryd.prog 23 #[.complex .f64 a b] w fun e w' => e = .returned (.int .u64 (re a b * re a b + im a b * im a b)) ∧ Below w.heap.size w w' := by
  obtain ⟨h1, h1'⟩ := sq_bd (re_range a b)
  obtain ⟨h2, h2'⟩ := sq_bd (im_range a b)
  go_enter Tryd.func23, Tryd.ntmps23
  go_wp2_with (go_at_call 22; refine (parts_any _ _ _).mono ?_; rintro e w1 ⟨rfl, hb⟩)
  go_ret
  exact ⟨ret_int (by first | rfl | omega), hb⟩
end Go.Proofs.YtlplcacmmckpaaaDoor.Gnums
