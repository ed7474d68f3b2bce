/-
  FutexNames: the walk.
-/
import Derived.Test.YtpfnjeicenhciaaFto
namespace Go.Proofs.Ytpfnjeicenhciaa.Ftp
open Go Go.RowKit Kit Bk Fta Ftb Ftc Ftd Fte Ftf Ftg Fth Fti Ftj Ftk Ftl Ftm Ftn Fto
set_option linter.unusedVariables false

theorem ck1 (w : World) : Calls Try.prog 21 #[.agg #[.int .i64 1, .int .i64 1, .int .i64 0]] w fun e w' => e = .returned (.int .i64 2) ∧ Below w.heap.size w w' := check_any w ⟨1, 1, 0⟩
theorem ck2 (w : World) : Calls Try.prog 21 #[.agg #[.int .i64 0, .int .i64 0, .int .i64 64]] w fun e w' => e = .returned (.int .i64 2) ∧ Below w.heap.size w w' := check_any w ⟨0, 0, 64⟩
theorem ck3 (w : World) : Calls Try.prog 21 #[.agg #[.int .i64 1, .int .i64 0, .int .i64 4095]] w fun e w' => e = .returned (.int .i64 0) ∧ Below w.heap.size w w' := check_any w ⟨1, 0, 4095⟩
theorem ck4 (w : World) : Calls Try.prog 21 #[.agg #[.int .i64 0, .int .i64 0, .int .i64 (-1)]] w fun e w' => e = .returned (.int .i64 2) ∧ Below w.heap.size w w' := check_any w ⟨0, 0, -1⟩
variable {W0 w : World} {f r : Nat}
theorem wa1 (h : On W0 w f r A3) : Calls Try.prog 9 #[.pointer (some ⟨f, 0, none⟩), .int .i64 0, kv k1] w fun e w' => e = .returned (.int .i64 2) ∧ ∃ r', On W0 w' f r' A3 := by
  refine (h.wait (by decide) 0 k1).mono ?_
  rintro e w' ⟨rfl, -, r', h2, -⟩
  exact ⟨rfl, r', h2⟩
theorem wa2 (h : On W0 w f r A3) : Calls Try.prog 9 #[.pointer (some ⟨f, 0, none⟩), .int .i64 4, .agg #[.int .i64 (-1), .int .i64 0, .int .i64 0]] w fun e w' => e = .returned (.int .i64 2) ∧ ∃ r', On W0 w' f r' A3 := by
  refine (h.wait (by decide) 4 ⟨-1, 0, 0⟩).mono ?_
  rintro e w' ⟨rfl, -, r', h2, -⟩
  exact ⟨rfl, r', h2⟩
theorem ky9 (h : On W0 w f r A3) : Calls Try.prog 17 #[.pointer (some ⟨f, 0, none⟩), .int .i64 9] w fun e w' => e = .returned (.tuple #[.agg #[.int .i64 9, .int .i64 0, .int .i64 8], .bool true]) ∧ Below w.heap.size w w' := key_any w f r A3 9 h.lx
theorem wkn (w : World) : Calls Try.prog 11 #[.pointer none, kv k1, .int .i64 1] w fun e w' => Below w.heap.size w w' ∧ ∃ a c, e = .returned (.slice a 0 c) := by
  refine (wake_nil w k1 1 k1_wf).mono ?_
  rintro e w' ⟨h1, u, rfl, h2⟩
  obtain ⟨a, c, rfl⟩ := own_form h2
  exact ⟨h1, a, c, rfl⟩
theorem atn (w : World) : Calls Try.prog 19 #[.pointer none, kv k1] w fun e w' => Below w.heap.size w w' ∧ ∃ a c, e = .returned (.slice a 0 c) := by
  refine (ats_gv w none _ 0 [] k1 (gv_nil _ _) (fun x hx => by simp at hx) k1_wf (by simp)).mono ?_
  rintro e w' ⟨h1, u, rfl, h2⟩
  obtain ⟨a, c, rfl⟩ := own_form h2
  exact ⟨h1, a, c, rfl⟩
theorem k9_eq (w : World) : (Op.equalIn 10000 31 (.agg #[.int .i64 9, .int .i64 0, .int .i64 8]) (.agg #[.int .i64 9, .int .i64 0, .int .i64 8])).run Try.prog w = .ok true w := run_key k9 k9 k9_wf k9_wf w

set_option maxRecDepth 100000 in
set_option maxHeartbeats 4000000 in
theorem names (w : World) : Calls Try.prog 4 #[] w fun e w' => e = .returned (.bool true) ∧ Below w.heap.size w w' := by
  have HB := Lib.hid (fun w : World => one_any w)
  have hke := k9_eq
  have HD0 := Lib.hid (Below.refl w.heap.size w)
  go_enter Try.func4, Try.ntmps4
  go_wp2_with (first
    | (go_at_call 21; first
      | ((with_reducible refine (ck1 _).mono ?_); rintro e w1 ⟨rfl, hb⟩; replace HD0 := Lib.hid (HD0.out.trans (hb.mono HD0.out.size)); clear hb)
      | ((with_reducible refine (ck2 _).mono ?_); rintro e w1 ⟨rfl, hb⟩; replace HD0 := Lib.hid (HD0.out.trans (hb.mono HD0.out.size)); clear hb)
      | ((with_reducible refine (ck3 _).mono ?_); rintro e w1 ⟨rfl, hb⟩; replace HD0 := Lib.hid (HD0.out.trans (hb.mono HD0.out.size)); clear hb)
      | ((with_reducible refine (ck4 _).mono ?_); rintro e w1 ⟨rfl, hb⟩; replace HD0 := Lib.hid (HD0.out.trans (hb.mono HD0.out.size)); clear hb))
    | (go_at_call 26; (with_reducible refine (some_any _).mono ?_); rintro e w0 ⟨f, r, rfl, ho⟩; have HO := Lib.hid ho; clear ho)
    | (go_at_call 27; (with_reducible refine (HB.out _).mono ?_); rintro e w1 ⟨rfl, hb⟩; replace HO := Lib.hid (HO.out.below hb); clear hb)
    | (go_at_call 9; first
      | ((with_reducible refine (wa1 HO.out).mono ?_); rintro e w1 ⟨rfl, r1, ho⟩; replace HO := Lib.hid ho; clear ho)
      | ((with_reducible refine (wa2 HO.out).mono ?_); rintro e w1 ⟨rfl, r1, ho⟩; replace HO := Lib.hid ho; clear ho)
      | ((with_reducible refine (wait_nil _ 1 k1).mono ?_); rintro e w1 ⟨rfl, hb⟩; replace HO := Lib.hid (HO.out.below hb); clear hb))
    | (go_at_call 28; (with_reducible refine (alive_any _).mono ?_); rintro e w1 ⟨rfl, hb⟩; have X := HX.out.below hb; have x0 := X.cell 0; have x1 := X.cell 1; have x2 := X.cell 2; replace HO := Lib.hid (HO.out.below hb); clear hb X)
    | (go_at_call 11; first
      | ((with_reducible refine (wk0 HO.out).mono ?_); rintro e w1 ⟨-, ho, a3, c3, rfl⟩; replace HO := Lib.hid ho; clear ho)
      | ((with_reducible refine (wkn _).mono ?_); rintro e w1 ⟨hb, a4, c4, rfl⟩; replace HO := Lib.hid (HO.out.below hb); clear hb))
    | (go_at_call 14; (with_reducible refine (gone_nil _ 1).mono ?_); rintro e w1 ⟨rfl, hb⟩; replace HO := Lib.hid (HO.out.below hb); clear hb)
    | (go_at_call 19; (with_reducible refine (atn _).mono ?_); rintro e w1 ⟨hb, a5, c5, rfl⟩; replace HO := Lib.hid (HO.out.below hb); clear hb)
    | (go_at_call 20; (with_reducible refine (all_nil _).mono ?_); rintro e w1 ⟨rfl, rfl⟩)
    | (go_at_call 24; (with_reducible refine (flen_nil _).mono ?_); rintro e w1 ⟨rfl, rfl⟩)
    | (go_at_call 16; (with_reducible refine (copy_nil _).mono ?_); rintro e w1 ⟨rfl, rfl⟩)
    | (go_at_call 17; first
      | ((with_reducible refine (ky9 HO.out).mono ?_); rintro e w1 ⟨rfl, hb⟩; have hb2 := hb.alloc hb.size (.cells #[.int .i64 9, .int .i64 0, .int .i64 8] 31); have HX := Lib.hid (Blk.new w1 #[.int .i64 9, .int .i64 0, .int .i64 8] 31); replace HO := Lib.hid (HO.out.below hb2); clear hb hb2)
      | ((with_reducible refine (key_nil _ 1).mono ?_); rintro e w1 ⟨rfl, hb⟩; have hb2 := hb.alloc hb.size (.cells #[.int .i64 0, .int .i64 0, .int .i64 0] 31); replace HX := Lib.hid (HX.out.below hb2); replace HO := Lib.hid (HO.out.below hb2); clear hb hb2)))
  go_ret
  exact ⟨rfl, HD0.out.trans (HO.out.bel.mono HD0.out.size)⟩
end Go.Proofs.Ytpfnjeicenhciaa.Ftp
namespace Go.Proofs.Ytpfnjeicenhciaa.Walk
open Go Go.RowKit Kit Ftp
theorem futexNames (w : World) : Calls Try.prog 4 #[] w fun e w' => e = .returned (.bool true) ∧ Below w.heap.size w w' := Ftp.names w
end Go.Proofs.Ytpfnjeicenhciaa.Walk
