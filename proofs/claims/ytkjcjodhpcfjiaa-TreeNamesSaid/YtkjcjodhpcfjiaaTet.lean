/-
  TreeNames, walked.
-/
import Derived.Test.YtkjcjodhpcfjiaaTes
namespace Go.Proofs.Ytkjcjodhpcfjiaa.Tet
open Go Go.RowKit Go.Shelf Kit Bk Tea Teb Tec Ted Tee Tef Teg Teh Tei Tej Tek Tel Tem Ten Teo Tep Teq Ter Tes
set_option linter.unusedVariables false

theorem all_none (w : World) : Calls Try.prog 19 #[.pointer none] w fun e w' => ∃ a c, e = .returned (.slice a 0 c) ∧ Below w.heap.size w w' := by
  refine (all_nil w).mono ?_
  rintro e w' ⟨u, rfl, h, hb⟩
  obtain ⟨a, c, rfl, _⟩ := nr_cells (l := []) h
  exact ⟨a, c, rfl, hb⟩
theorem new33 (w : World) : Calls Try.prog 14 #[.int .i64 33] w fun e w' => e = .returned (.tuple #[.pointer none, .int .i64 2]) ∧ w = w' := new_no 33 (by decide) w
set_option maxRecDepth 100000 in
set_option maxHeartbeats 8000000 in
theorem names_any (w : World) : Calls Try.prog 3 #[] w fun e w' => e = .returned (.bool true) ∧ Below w.heap.size w w' := by
  go_enter Try.func3, Try.ntmps3
  go_wp2_with (first
    | (go_at_call 7; (with_reducible refine (four_any _).mono ?_); rintro e w1 ⟨q, rfl, h1⟩; have H0 := Lib.hid h1; clear h1)
    | (go_at_call 8; (with_reducible refine (Tes.On.exit_lit H0.out 2 7 7 1 [3] 0 E2 (by decide) (by decide) rfl rfl rfl rfl rfl).mono ?_); rintro e w2 ⟨a1, c1, rfl, -, h1, -⟩; clear H0; have H1 := Lib.hid h1; clear h1)
    | (go_at_call 9; (with_reducible refine (Tes.On.reap_lit H1.out 1 2 7 7 0 R1 (by decide) rfl rfl rfl).mono ?_); rintro e w3 ⟨rfl, h1, -⟩; clear H1; have H2 := Lib.hid h1; clear h1)
    | (go_at_call 10; (with_reducible refine (Tes.On.fork_lit H2.out 1 5 0 K5 B5 (by decide) rfl rfl rfl).mono ?_); rintro e w4 ⟨rfl, h1, -⟩; clear H2; have H3 := Lib.hid h1; clear h1)
    | (go_at_call 9; (with_reducible refine (Tes.On.reap_lit H3.out 1 0 0 0 151 K5 (by decide) rfl rfl rfl).mono ?_); rintro e w5 ⟨rfl, h1, -⟩; clear H3; have H4 := Lib.hid h1; clear h1)
    | (go_at_call 9; (with_reducible refine (Tes.On.reap_lit H4.out 4 0 0 0 152 K5 (by decide) rfl rfl rfl).mono ?_); rintro e w6 ⟨rfl, h1, -⟩; clear H4; have H5 := Lib.hid h1; clear h1)
    | (go_at_call 11; (with_reducible refine (Tes.On.freeze_lit H5.out 3 1 [3] 0 Z3 (by decide) rfl rfl rfl rfl).mono ?_); rintro e w7 ⟨a2, c2, rfl, r1, h1, -⟩; clear H5; have H6 := Lib.hid h1; have N6 := Lib.hid r1; clear h1 r1)
    | (go_at_call 12; (with_reducible refine (Tes.On.thaw_lit H6.out 3 1 1 0 0 0 K5 B5 (by decide) (by decide) (by decide) rfl rfl rfl rfl).mono ?_); rintro e w8 ⟨rfl, h1, hr⟩; clear H6; have H7 := Lib.hid h1; have N7 := Lib.hid (hr.nr N6.out); clear h1 hr N6)
    | (go_at_call 12; (with_reducible refine (Tes.On.thaw_lit H7.out 3 1 1 0 0 153 K5 B5 (by decide) (by decide) (by decide) rfl rfl rfl rfl).mono ?_); rintro e w9 ⟨rfl, h1, hr⟩; clear H7; have H8 := Lib.hid h1; have N8 := Lib.hid (hr.nr N7.out); clear h1 hr N7)
    | (go_at_call 12; (with_reducible refine (Tes.On.thaw_lit H8.out 2 1 1 0 0 153 K5 B5 (by decide) (by decide) (by decide) rfl rfl rfl rfl).mono ?_); rintro e w10 ⟨rfl, h1, hr⟩; clear H8; have H9 := Lib.hid h1; have N9 := Lib.hid (hr.nr N8.out); clear h1 hr N8)
    | (go_at_call 8; (with_reducible refine (Tes.On.exit_lit H9.out 1 0 0 0 [] 2 K5 (by decide) (by decide) rfl rfl rfl rfl rfl).mono ?_); rintro e w11 ⟨a3, c3, rfl, -, h1, hr⟩; clear H9; have H10 := Lib.hid h1; have N10 := Lib.hid (hr.nr N9.out); clear h1 hr N9)
    | (go_at_call 11; (with_reducible refine (Tes.On.freeze_lit H10.out 1 0 [] 2 K5 (by decide) rfl rfl rfl rfl).mono ?_); rintro e w12 ⟨a4, c4, rfl, -, h1, hr⟩; clear H10; have H11 := Lib.hid h1; have N11 := Lib.hid (hr.nr N10.out); clear h1 hr N10)
    | (go_at_call 13; (with_reducible refine (Tes.On.may_lit H11.out 9 1 150 (by decide) (by decide) rfl).mono ?_); rintro e w13 ⟨rfl, hb⟩; have H12 := Lib.hid (H11.out.below hb); have N12 := Lib.hid (nr_below N11.out hb); clear hb H11 N11)
    | (go_at_call 8; (with_reducible refine (Tes.On.exit_lit H12.out 4 0 0 0 [] 0 X4 (by decide) (by decide) rfl rfl rfl rfl rfl).mono ?_); rintro e w14 ⟨a5, c5, rfl, -, h1, hr⟩; clear H12; have H13 := Lib.hid h1; have N13 := Lib.hid (hr.nr N12.out); clear h1 hr N12)
    | (go_at_call 9; (with_reducible refine (Tes.On.reap_lit H13.out 1 4 0 0 0 Y4 (by decide) rfl rfl rfl).mono ?_); rintro e w15 ⟨rfl, h1, hr⟩; clear H13; have H14 := Lib.hid h1; have N14 := Lib.hid (hr.nr N13.out); clear h1 hr N13)
    | (go_at_call 12; (with_reducible refine (Tes.On.thaw_lit H14.out 9 3 2 5 5 0 W9 B9 (by decide) (by decide) (by decide) rfl rfl rfl rfl).mono ?_); rintro e w16 ⟨rfl, h1, hr⟩; clear H14; have H15 := Lib.hid h1; have N15 := Lib.hid (hr.nr N14.out); clear h1 hr N14)
    | (go_at_call 10; (with_reducible refine (fork_nil _ (p := 1) (by decide)).mono ?_); rintro e w17 ⟨rfl, rfl⟩)
    | (go_at_call 14; (with_reducible refine (new33 _).mono ?_); rintro e w17 ⟨rfl, rfl⟩)
    | (go_at_call 15; (with_reducible refine (alive_any _).mono ?_); rintro e w17 ⟨rfl, hb⟩; have H16 := Lib.hid (H15.out.below hb); have N16 := Lib.hid (nr_below N15.out hb); clear hb H15 N15)
    | (go_at_call 16; (with_reducible refine (same_ints _ _ _ [3] [3] (nr_below N16.out ((Below.refl _ _).alloc (Nat.le_refl _) _)) (Nr.lit1 _ 3)).mono ?_); rintro e w18 ⟨rfl, hb⟩; clear N16; have H17 := Lib.hid (H16.out.below (((Below.refl _ _).alloc (Nat.le_refl _) _).trans (hb.mono (by simp)))); clear H16 hb)
    | (go_at_call 17; (with_reducible refine (Tes.On.next_lit H17.out 10 rfl).mono ?_); rintro e w19 ⟨rfl, rfl⟩)
    | (go_at_call 18; (with_reducible refine (Tes.On.status_lit H17.out 9 5 5 (by decide) rfl rfl).mono ?_); rintro e w19 ⟨rfl, rfl⟩)
    | (go_at_call 19; (with_reducible refine (all_none _).mono ?_); rintro e w20 ⟨a6, c6, rfl, hb⟩; have H18 := Lib.hid (H17.out.below hb); clear hb H17)
    | (go_at_call 20; (with_reducible refine (free_nil _).mono ?_); rintro e w21 ⟨rfl, rfl⟩))
  go_ret
  exact ⟨rfl, H18.out.bel⟩
end Go.Proofs.Ytkjcjodhpcfjiaa.Tet
namespace Go.Proofs.Ytkjcjodhpcfjiaa.Walk
open Go Go.RowKit
theorem treeNames (w : World) : Calls Try.prog 3 #[] w fun e w' => e = .returned (.bool true) ∧ Below w.heap.size w w' := Tet.names_any w
end Go.Proofs.Ytkjcjodhpcfjiaa.Walk
