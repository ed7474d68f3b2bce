/-
  The walk of GaussRing: sums and products in any order, products over sums, conjugates, the norm; any three numbers, by their parts.
-/
import Derived.Test.YtlplcacmmckpaaaDoorRingNums
import Derived.Test.YtlplcacmmckpaaaDoorAliveG
namespace Go.Proofs.YtlplcacmmckpaaaDoor.Walk
open Go Go.RowKit Kit Fl Whole Gleaf Gparts Gwhole Gnums Gg AliveG
set_option linter.unusedVariables false

set_option maxRecDepth 100000 in
set_option maxHeartbeats 4000000 in
theorem gaussRing (a b c d e f : Int) (w : World) (w0 : (Lit.int .i64 a).wf = true) (w1 : (Lit.int .i64 b).wf = true) (w2 : (Lit.int .i64 c).wf = true) (w3 : (Lit.int .i64 d).wf = true) (w4 : (Lit.int .i64 e).wf = true) (w5 : (Lit.int .i64 f).wf = true) :
    Calls Tryd.prog 5 #[.int .i64 a, .int .i64 b, .int .i64 c, .int .i64 d, .int .i64 e, .int .i64 f] w fun e w' => e = .returned (.bool true) ∧ Below w.heap.size w w' := by
  clear w0 w1 w2 w3 w4 w5
  obtain ⟨n1, n2⟩ := gnorm_bd (gm a b)
  have g1 := RingNums.add_comm (gm a b) (gm c d)
  have g2 := RingNums.add_assoc (gm a b) (gm c d) (gm e f)
  have g3 := RingNums.mul_comm (gm a b) (gm c d)
  have g4 := RingNums.mul_assoc (gm a b) (gm c d) (gm e f)
  have g5 := RingNums.mul_add (gm a b) (gm c d) (gm e f)
  have g6 := RingNums.conj_mul (gm a b) (gm c d)
  have g7 := RingNums.conj_add (gm a b) (gm c d)
  have g8 := RingNums.conj_conj (gm a b)
  have g9 := RingNums.mul_one (gm a b)
  have g10 := RingNums.add_zero (gm a b)
  have g11 := RingNums.mul_conj_re (gm a b)
  have g12 := RingNums.mul_conj_im (gm a b)
  have heq := fun t x y wx => run_eql_zv t x y wx
  have hgd := fun t o o' x y => eqGuard_zv t o o' x y
  have HB := Below.refl w.heap.size w
  go_enter Tryd.func5, Tryd.ntmps5
  go_wp2_with (first
    | (go_at_call 17; refine (alive_any _).mono ?_; rintro e w1 ⟨rfl, hb⟩; replace HB := bel' HB hb; clear hb)
    | (go_at_call 16; refine (make_g _ _ _).mono ?_; rintro e w1 ⟨rfl, rfl⟩)
    | (go_at_call 20; refine (mul_g _ _ _).mono ?_; rintro e w1 ⟨rfl, hb⟩; replace HB := bel' HB hb; clear hb)
    | (go_at_call 19; refine (add_g _ _ _).mono ?_; rintro e w1 ⟨rfl, hb⟩; replace HB := bel' HB hb; clear hb)
    | (go_at_call 21; refine (conj_g _ _).mono ?_; rintro e w1 ⟨rfl, hb⟩; replace HB := bel' HB hb; clear hb)
    | (go_at_call 22; refine (parts_g _ _).mono ?_; rintro e w1 ⟨rfl, hb⟩; replace HB := bel' HB hb; clear hb)
    | (go_at_call 23; refine (norm_g _ _).mono ?_; rintro e w1 ⟨rfl, hb⟩; replace HB := bel' HB hb; clear hb))
  go_ret
  exact ⟨rfl, HB⟩
end Go.Proofs.YtlplcacmmckpaaaDoor.Walk
