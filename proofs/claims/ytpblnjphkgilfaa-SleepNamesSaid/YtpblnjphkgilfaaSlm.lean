/-
  SleepNames, walked.
-/
import Derived.Test.YtpblnjphkgilfaaSll
namespace Go.Proofs.Ytpblnjphkgilfaa.Slm
open Go Go.RowKit Go.Shelf Kit Bk Sla Slb Slc Sld Sle Slf Slg Slh Sli Slj Slk Sll
set_option linter.unusedVariables false

variable {w0 w w' : World} {q : Nat} {m : Option Nat} {L : St}
theorem On.drop_lit (h : On w0 w q m L) (p : Int) (nv : Int) (b : Bool) (L' : St) (hp : (Lit.int .i64 p).wf = true) (hn : ((lft L p : Nat) : Int) = nv) (hb : slp L p = b) (hL : drL L p = L') :
    Calls Try.prog 13 #[pv q, .int .i64 p] w fun e w' => e = .returned (.tuple #[.int .u32 nv, .bool b]) ∧ On w0 w' q m L' := by
  rw [← hn, ← hb, ← hL]
  exact (h.drop p hp).mono (by rintro e w' ⟨rfl, h1, _⟩; exact ⟨rfl, h1⟩)
theorem next_none (w : World) : Calls Try.prog 18 #[.pointer none] w fun e w' => e = .returned (.tuple #[.int .u32 0, .bool false]) ∧ Below w.heap.size w w' := next_any (sn_none w) ok_nil (by decide)
theorem all_none (w : World) : Calls Try.prog 20 #[.pointer none] w fun e w' => Below w.heap.size w w' ∧ ∃ a c, e = .returned (.slice a 0 c) := by
  refine (all_any (sn_none w) ok_nil (by decide)).mono ?_
  rintro e w' ⟨h1, u, rfl, h2⟩
  obtain ⟨a, c, rfl, _⟩ := sr_cells (own_base h2 (Nat.zero_le _))
  exact ⟨h1, a, c, rfl⟩
theorem add_none_lit (w : World) : Calls Try.prog 8 #[.pointer none, .int .i64 1, .int .u32 1] w fun e w' => e = .returned (.int .i64 1) ∧ w = w' := add_nil w 1 1 (by decide)

set_option maxRecDepth 100000 in
set_option maxHeartbeats 4000000 in
theorem names_any (w : World) : Calls Try.prog 4 #[] w fun e w' => e = .returned (.bool true) ∧ Below w.heap.size w w' := by
  have HN := Lib.hid (On.new w)
  go_enter Try.func4, Try.ntmps4
  go_wp2_with (first
    | (go_at_call 8; (with_reducible refine (HN.out.add_lit 0 1 1 2 [] (by decide) (by decide) (by decide) rfl (by decide) (by decide)).mono ?_); rintro e w1 ⟨rfl, m1, h1⟩; clear HN; have H1 := Lib.hid h1; clear h1)
    | (go_at_call 8; (with_reducible refine (H1.out.add_lit 1 0 0 2 [] (by decide) (by decide) (by decide) rfl (by decide) (by decide)).mono ?_); rintro e w2 ⟨rfl, m2, h1⟩; clear H1; have H2 := Lib.hid h1; clear h1)
    | (go_at_call 8; (with_reducible refine (H2.out.add_lit 1 5 5 0 [(1, 5)] (by decide) (by decide) (by decide) rfl (by decide) (by decide)).mono ?_); rintro e w3 ⟨rfl, m3, h1⟩; clear H2; have H3 := Lib.hid h1; clear h1)
    | (go_at_call 8; (with_reducible refine (H3.out.add_lit 1 5 5 140 [(1, 5)] (by decide) (by decide) (by decide) rfl (by decide) (by decide)).mono ?_); rintro e w4 ⟨rfl, m4, h1⟩; clear H3; have H4 := Lib.hid h1; clear h1)
    | (go_at_call 8; (with_reducible refine (add_none_lit _).mono ?_); rintro e w4 ⟨rfl, rfl⟩)
    | (go_at_call 13; (with_reducible refine (Slm.On.drop_lit H4.out 1 5 true [] (by decide) (by decide) (by decide) (by decide)).mono ?_); rintro e w5 ⟨rfl, h1⟩; clear H4; have H5 := Lib.hid h1; clear h1)
    | (go_at_call 13; (with_reducible refine (Slm.On.drop_lit H5.out 1 0 false [] (by decide) (by decide) (by decide) (by decide)).mono ?_); rintro e w6 ⟨rfl, h1⟩; clear H5; have H6 := Lib.hid h1; clear h1)
    | (go_at_call 13; (with_reducible refine (drop_nil _ 1 (by decide)).mono ?_); rintro e w7 ⟨rfl, rfl⟩)
    | (go_at_call 16; (with_reducible refine (left_nil _ 1 (by decide)).mono ?_); rintro e w7 ⟨rfl, rfl⟩)
    | (go_at_call 18; (with_reducible refine (next_none _).mono ?_); rintro e w7 ⟨rfl, hb⟩; replace H6 := Lib.hid (H6.out.below hb); clear hb)
    | (go_at_call 18; (with_reducible refine (H6.out.next_lit 0 false (by decide) (by decide) (by decide)).mono ?_); rintro e w8 ⟨rfl, h1, -⟩; clear H6; have H8 := Lib.hid h1; clear h1)
    | (go_at_call 22; (with_reducible refine (alive_any _).mono ?_); rintro e w9 ⟨rfl, hb⟩; replace H8 := Lib.hid (H8.out.below hb); clear hb)
    | (go_at_call 10; (with_reducible refine (tick_nil _).mono ?_); rintro e w10 ⟨rfl, hb⟩; replace H8 := Lib.hid (H8.out.below hb); clear hb)
    | (go_at_call 20; (with_reducible refine (all_none _).mono ?_); rintro e w11 ⟨hb, aa, ac, rfl⟩; replace H8 := Lib.hid (H8.out.below hb); clear hb)
    | (go_at_call 15; (with_reducible refine (copy_nil _).mono ?_); rintro e w7 ⟨rfl, rfl⟩))
  go_ret
  exact ⟨rfl, H8.out.bel⟩
end Go.Proofs.Ytpblnjphkgilfaa.Slm
namespace Go.Proofs.Ytpblnjphkgilfaa.Walk
open Go Go.RowKit
theorem sleepNames (w : World) : Calls Try.prog 4 #[] w fun e w' => e = .returned (.bool true) ∧ Below w.heap.size w w' := Slm.names_any w
end Go.Proofs.Ytpblnjphkgilfaa.Walk
