/-
  The walk of GaussCounts: May, Parts, Make, Add, Mul, Conj and Norm beside the document's answers, for any complex128, by their parts, and any whole parts.
-/
import Derived.Test.YtlplcacmmckpaaaGref
namespace Go.Proofs.Ytlplcacmmckpaaa.Walk
open Go Go.RowKit Kit Fl Whole Gleaf Gparts Gwhole Gnums Gref
set_option linter.unusedVariables false

theorem self_wr (n : Int) : FloatKind.f64.format.order (fl (wr n)) (fl (wr n)) = some .eq := by
  have h := wr_range n
  have e := order_fl_fl (n := wr n) (k := wr n) (by omega) (by omega)
  rw [compare_eq rfl] at e
  exact e

set_option maxRecDepth 100000 in
set_option maxHeartbeats 4000000 in
theorem gaussCounts (a b c d : Nat) (p q : Int) (w : World) (w0 : (Lit.float .f64 a).wf = true) (w1 : (Lit.float .f64 b).wf = true) (w2 : (Lit.float .f64 c).wf = true) (w3 : (Lit.float .f64 d).wf = true) (w4 : (Lit.int .i64 p).wf = true) (w5 : (Lit.int .i64 q).wf = true) :
    Calls Try.prog 3 #[.float .f64 a, .float .f64 b, .float .f64 c, .float .f64 d, .int .i64 p, .int .i64 q] w fun e w' => e = .returned (.bool true) ∧ Below w.heap.size w w' := by
  have hp := Lib.hid (i64_bd w4)
  have hq := Lib.hid (i64_bd w5)
  clear w0 w1 w2 w3 w4 w5
  obtain ⟨h1, h1'⟩ := sq_bd (re_range a b)
  obtain ⟨h2, h2'⟩ := sq_bd (im_range a b)
  obtain ⟨h3, h3'⟩ := re_range a b
  obtain ⟨h4, h4'⟩ := im_range a b
  have hself := fun n => self_wr n
  go_enter Try.func3, Try.ntmps3
  go_wp2_with (first
    | (go_at_call 4; refine (rparts_any _ _ _).mono ?_; rintro e w1 ⟨rfl, rfl⟩)
    | (go_at_call 5; refine (parts_any _ _ _).mono ?_; rintro e w1 ⟨rfl, hb1⟩)
    | (go_at_call 6; refine (may_any _ _ _).mono ?_; rintro e w2 ⟨rfl, hb2⟩)
    | (go_at_call 7; refine (make_any _ _ _).mono ?_; rintro e w1 ⟨rfl, rfl⟩)
    | (go_at_call 8; refine (rmake_any _ _ _ (by first | exact hp.out | omega) (by first | exact hq.out | omega)).mono ?_; rintro e w1 ⟨rfl, rfl⟩)
    | (go_at_call 9; refine (add_any _ _ _ _ _).mono ?_; rintro e w3 ⟨rfl, hb3⟩)
    | (go_at_call 10; refine (radd_any _ _ _ _ _).mono ?_; rintro e w1 ⟨rfl, rfl⟩)
    | (go_at_call 11; refine (mul_any _ _ _ _ _).mono ?_; rintro e w4 ⟨rfl, hb4⟩)
    | (go_at_call 12; refine (rmul_any _ _ _ _ _).mono ?_; rintro e w1 ⟨rfl, rfl⟩)
    | (go_at_call 13; refine (conj_any _ _ _).mono ?_; rintro e w5 ⟨rfl, hb5⟩)
    | (go_at_call 14; refine (norm_any _ _ _).mono ?_; rintro e w6 ⟨rfl, hb6⟩))
  go_ret
  exact ⟨rfl, bel' (bel' (bel' (bel' (bel' hb1 hb2) hb3) hb4) hb5) hb6⟩
end Go.Proofs.Ytlplcacmmckpaaa.Walk
