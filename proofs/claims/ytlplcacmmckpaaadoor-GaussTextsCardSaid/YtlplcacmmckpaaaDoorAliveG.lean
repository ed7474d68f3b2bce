/-
  The chapter's first examples of layer 2: alive answers true.
-/
import Derived.Test.YtlplcacmmckpaaaDoorGg
import Derived.Test.YtlplcacmmckpaaaDoorShelf
import Derived.WalkSpells
import Derived.BigRegion
import Derived.BigQuiet
import Derived.Deep.QuietTactic
namespace Go.Proofs.YtlplcacmmckpaaaDoor.AliveG
open Go Go.RowKit Kit Fl Whole Gleaf Gparts Gwhole Gnums Gg
set_option linter.unusedVariables false

theorem quiet_eq {P : Program} {f : FuncId} {args : Array Value} {w : World} {n : Nat} {v : Value}
    (h : Calls P f args (w.drewN n) fun e w' => e = .returned v ∧ w.drewN n = w') : Calls P f args (w.drewN n) fun e w'' => e = .returned v ∧ ∃ m, w'' = w.drewN m :=
  Calls.quiet_of_same (h.mono fun _ _ h => ⟨h.1, h.2.symm⟩)

theorem fmt_11 (w : World) : Calls Tryd.prog 29 #[.int .i64 11, .int .i64 10] w fun e w' => e = .returned (.string ⟨#[49, 49]⟩) ∧ w' = w := by
  have h := Shl.strconv_FormatInt_10_small 11 (by decide) w
  have e : (⟨(Lib.decDigits 11).toArray⟩ : ByteArray) = ⟨#[49, 49]⟩ := by kernel_rfl
  rw [e] at h
  exact h
theorem fmt_10 (w : World) : Calls Tryd.prog 29 #[.int .i64 10, .int .i64 10] w fun e w' => e = .returned (.string ⟨#[49, 48]⟩) ∧ w' = w := by
  have h := Shl.strconv_FormatInt_10_small 10 (by decide) w
  have e : (⟨(Lib.decDigits 10).toArray⟩ : ByteArray) = ⟨#[49, 48]⟩ := by kernel_rfl
  rw [e] at h
  exact h

theorem whole_11 (w : World) : Calls Tryd.prog 28 #[zv (gm 11 10)] w fun e w' => e = .returned (.tuple #[.agg #[.int .i64 11, .int .i64 10], .bool true]) ∧ Below w.heap.size w w' :=
  (whole_any _ _ w).mono fun e w' ⟨he, hb⟩ => ⟨by
    rw [he, re_wr, im_wr, isN_wr]
    have e1 : wr (gm 11 10).1 = 11 := by decide
    have e2 : wr (gm 11 10).2 = 10 := by decide
    rw [e1, e2], hb⟩

set_option maxHeartbeats 1000000 in
theorem text_11 (w : World) : Calls Tryd.prog 14 #[zv (gm 11 10)] w fun e w' => e = .returned (.string ⟨#[49, 49, 43, 49, 48, 105]⟩) ∧ Below w.heap.size w w' := by
  go_enter Tryd.func14, Tryd.ntmps14
  go_wp2_with (first | (go_at_call 28; refine (whole_11 _).mono ?_; rintro e w1 ⟨rfl, hb⟩))
  go_quiet (first | ((go_at_call 29; with_reducible exact Calls.quiet_of_same (fmt_11 _))) | ((go_at_call 29; with_reducible exact Calls.quiet_of_same (fmt_10 _))))
  all_goals go_wp2
  all_goals go_ret
  all_goals exact ⟨by show Ending.returned (.string _) = _; rfl, below_drewN (hb.alloc hb.size _) _⟩

set_option maxHeartbeats 1000000 in
theorem alive_any (w : World) :
    Calls Tryd.prog 17 #[] w fun e w' => e = .returned (.bool true) ∧ Below w.heap.size w w' := by
  have h1 : geq (gmul (gm 2 3) (gm 4 (-1))) (gm 11 10) = true := by decide
  have h2 : geq (gadd (gm 524287 0) (gm 1 0)) (gm (-524288) 0) = true := by decide
  have h3 : gnorm (gm 3 4) = 25 := by decide
  have heq := fun t x y wx => run_eql_zv t x y wx
  have hgd := fun t o o' x y => eqGuard_zv t o o' x y
  go_enter Tryd.func17, Tryd.ntmps17
  go_wp2_with (first
    | (go_at_call 16; refine (make_g _ _ _).mono ?_; rintro e w1 ⟨rfl, rfl⟩)
    | (go_at_call 20; refine (mul_g _ _ _).mono ?_; rintro e w1 ⟨rfl, hb1⟩)
    | (go_at_call 14; refine (text_11 _).mono ?_; rintro e w2 ⟨rfl, hb2⟩)
    | (go_at_call 19; refine (add_g _ _ _).mono ?_; rintro e w3 ⟨rfl, hb3⟩)
    | (go_at_call 23; refine (norm_g _ _).mono ?_; rintro e w4 ⟨rfl, hb4⟩))
  go_ret
  exact ⟨rfl, bel' (bel' (bel' hb1 hb2) hb3) hb4⟩
end Go.Proofs.YtlplcacmmckpaaaDoor.AliveG
