/-
  Pages mapped read as noughts, unmapped they leave no trace: SpaceMaps (its ways out).
-/
import Derived.Test.YtclpokkjbkbkgaaZf
import Derived.BigQuiet
import Derived.Deep.RegionHeld
import Derived.Deep.MidRow
namespace Go.Proofs.Ytclpokkjbkbkgaa.Mw
open Go Go.RowKit Go.Shelf Kit Bk
open Fm hiding Mem made_any len_any
open Fo Fr Fw Fx Fu Fq
open Tm hiding Mem
open Ts Tc Ti Sp Sa Pz To My Pv Mp Mq Dr Cl Iv Iw Ix Wr Sy Al Pg So Oq Sn Tg Un Zf
set_option linter.unusedVariables false
attribute [local go_sem ↓] ldp_wrap stp_wrap eqp_wrap nep_wrap

set_option maxRecDepth 100000 in
set_option maxHeartbeats 2000000 in
theorem maps_out (vl : Value) (l : List Opr) (many page k : Int) (wb sh : Bool) (w : World) (hl : OpsAt w vl l) (hno : ¬ (Fine 30 l ∧ 1 ≤ many ∧ many ≤ 40)) :
    Calls Try.prog 6 #[.int .i64 many, vl, .int .i64 page, .int .i64 k, .bool wb, .bool sh] w fun e w' => e = .returned (.bool true) ∧ Below w.heap.size w w' := by
  have HN := Lib.hid (new_some many)
  by_cases hfl : Fine 30 l
  case neg =>
    have HGl : Hid (∀ W, Below w.heap.size w W → Calls Try.prog 18 #[vl, .int .i64 30] W fun e w' => e = .returned (.int .i64 1) ∧ W = w') := Lib.hid (fun W hb => great_any vl l W 30 (by decide) (OpsAt.below hl hb) hfl)
    clear hno hfl
    go_enter Try.func6, Try.ntmps6
    go_wp2_with (first | (go_at_call 13; (with_reducible refine (alive_any _).mono ?_); rintro e w1 ⟨rfl, hb⟩; have HB := Lib.hid hb; clear hb) | (go_at_call 17; (with_reducible refine (HN.out _).mono ?_); rintro e w2 ⟨pv, c, rfl, hb⟩; have HB2 := Lib.hid (HB.out.trans (hb.mono HB.out.size)); clear hb) | (go_at_call 18; (with_reducible refine (HGl.out _ HB2.out).mono ?_); rintro e w3 ⟨rfl, rfl⟩))
    go_ret
    exact ⟨rfl, HB2.out⟩
  have HGl : Hid (∀ W, Below w.heap.size w W → Calls Try.prog 18 #[vl, .int .i64 30] W fun e w' => e = .returned (.int .i64 0) ∧ W = w') := Lib.hid (fun W hb => great_fine vl l W 30 (by decide) (OpsAt.below hl hb) hfl)
  by_cases h40 : 40 < many
  case pos =>
    have d : decide ((40 : Int) < many) = true := decide_eq_true h40
    clear hno hfl h40
    go_enter Try.func6, Try.ntmps6
    go_wp2_with (first | (go_at_call 13; (with_reducible refine (alive_any _).mono ?_); rintro e w1 ⟨rfl, hb⟩; have HB := Lib.hid hb; clear hb) | (go_at_call 17; (with_reducible refine (HN.out _).mono ?_); rintro e w2 ⟨pv, c, rfl, hb⟩; have HB2 := Lib.hid (HB.out.trans (hb.mono HB.out.size)); clear hb) | (go_at_call 18; (with_reducible refine (HGl.out _ HB2.out).mono ?_); rintro e w3 ⟨rfl, rfl⟩))
    go_ret
    exact ⟨rfl, HB2.out⟩
  case neg =>
    have d : decide ((40 : Int) < many) = false := decide_eq_false h40
    have HN2 : Hid (∀ W, _) := Lib.hid (fun W => new_arg W many (fun h => hno ⟨hfl, h.1, by omega⟩))
    clear hno hfl h40 HN
    go_enter Try.func6, Try.ntmps6
    go_wp2_with (first | (go_at_call 13; (with_reducible refine (alive_any _).mono ?_); rintro e w1 ⟨rfl, hb⟩; have HB2 := Lib.hid hb; clear hb) | (go_at_call 17; (with_reducible refine (HN2.out _).mono ?_); rintro e w2 ⟨rfl, rfl⟩) | (go_at_call 18; (with_reducible refine (HGl.out _ HB2.out).mono ?_); rintro e w3 ⟨rfl, rfl⟩))
    go_ret
    exact ⟨rfl, HB2.out⟩
end Go.Proofs.Ytclpokkjbkbkgaa.Mw
