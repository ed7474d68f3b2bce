/-
  The iterator signals: those of bits, from the least one on.
-/
import Derived.Test.YtlhhgapimhpgnaaSgd
import Derived.RangeFuncNested
import Derived.RangeFuncBound
import Derived.RangeFuncCalls
import Derived.RangeFuncLeaves
import Derived.Shelf.Abstract
import Derived.Shelf.RegionOpen
import Derived.OwnWalkIn
import Derived.TacticsInMore
import Derived.LoopNIn
import Derived.LoopIn
namespace Go.Proofs.Ytlhhgapimhpgnaa.Sge
open Go Go.RowKit Go.Shelf Kit Bk Sga Sgb Sgc Sgd
set_option linter.unusedVariables false
attribute [local go_sem] Oper.semAt_some

def encs (x : Nat) : Array Value := #[.int .i64 (x : Int)]
theorem grown_below {w w' : World} (h : Below w.heap.size w w') : w.grownBy w' none := ⟨h.1, h.2, h.3, h.size, fun k hk _ => h.block k hk⟩
/-- What a round that goes on keeps: what lay below n₀, and the iterator's own box. -/
def Kq (n₀ Bb : Nat) (W W' : World) : Prop := Below n₀ W W' ∧ ∀ v, Boxed W Bb 22 v → Boxed W' Bb 22 v
theorem Kq.trans {n₀ Bb : Nat} {A B C : World} (h : Kq n₀ Bb A B) (k : Kq n₀ Bb B C) : Kq n₀ Bb A C := ⟨h.1.trans k.1, fun v hv => k.2 v (h.2 v hv)⟩
theorem Kq.put {n₀ Bb : Nat} {w : World} (hn : n₀ ≤ w.heap.size) (W : World) (l : Nat) (o o' : Obj) (hl : w.heap.size ≤ l) (h : W.heap[l]? = some o) (hc : o.isCells = false) (hw : o.isWalk = false) : Kq n₀ Bb W (W.putObj l o') :=
  ⟨belowK_b hn W l o o' hl h hc hw, fun v hv => hv.kept (grownBy_putObj' W l o') (fun e => by
    cases e
    rw [show W.heap[Bb]? = _ from hv] at h
    cases h
    cases hc)⟩
theorem Kq.refl (n₀ Bb : Nat) (W : World) : Kq n₀ Bb W W := ⟨Below.refl _ _, fun _ h => h⟩
theorem Kq.below {n₀ Bb : Nat} {W W' : World} (h : Below W.heap.size W W') (hn : n₀ ≤ W.heap.size) : Kq n₀ Bb W W' := ⟨h.mono hn, fun v hv => (h.block Bb hv.lt).trans hv⟩

set_option maxRecDepth 100000 in
set_option maxHeartbeats 4000000 in
theorem signals1_in (enc : Nat → Array Value) (henc : ∀ x, x ≤ 15 → enc x = encs x) (n : Nat) (hn : 1 ≤ n) (l Bb n₀ d : Nat) (hd : d < 4294967296) (J Jx : List Nat → World → Prop) (W : World) (hJ : AbidesFrom W.heap.size J)
    (hY : ∀ pre x W, J pre W → pre.length < 15 → YieldAt Fence.wide (n - 1) Try.prog l (enc x) W fun e W' =>
      (e = .returned (.bool true) ∧ J (pre ++ [x]) W' ∧ Kq n₀ Bb W W') ∨ (e = .returned (.bool false) ∧ Jx (pre ++ [x]) W'))
    (hn₀ : n₀ ≤ W.heap.size) (hB : Boxed W Bb 22 (uv d)) (h0 : J [] W) :
    CallsIn Fence.wide n Try.prog 40 #[.func (.yield l) #[] #[], .pointer (some ⟨Bb, 0, none⟩)] W fun e W' => (∃ v, e = .returned v) ∧
      ((∃ ys, ys = sgs d 15 ∧ J ys W') ∨ (∃ pre, (∃ k, k ≤ 15 ∧ pre = sgs d k) ∧ Jx pre W')) := by
  have hmx : Try.prog.follows .mixedOrders = true := by kernel_rfl
  have HB := Lib.hid hB
  have HJ := Lib.hid hJ
  have HY := Lib.hid hY
  have HN := Lib.hid hn₀
  clear hB hJ hY hn₀
  refine callsIn_of_wp Try.func40 rfl trivial ?_ rfl
  simp only [Try.ntmps40, List.size_toArray, List.length_cons, List.length_nil, Nat.reduceAdd, Nat.reduceSub, Array.replicate_succ, Array.replicate_zero, List.push_toArray, List.append_toArray, List.nil_append, List.cons_append]
  gi_wp2
  gi_loopw [3] (fun i wr => ∃ (j : Nat) (z : Int), j ≤ 15 ∧ z = (j : Int) + 1 ∧ i = .int .i64 z ∧ J (sgs d j) wr ∧ Kq n₀ Bb W wr)
    (fun i _ => 16 - (intOf i).toNat)
  case atStart => exact ⟨0, 1, Nat.zero_le _, rfl, rfl, h0, Kq.refl _ _ _⟩
  case round =>
    obtain ⟨j, z, hj, hz, rfl, hJs, hnx⟩ := hrel
    by_cases hlt : j < 15
    · have hz1 : z ≤ 15 := by omega
      have hzj : z = ((j + 1 : Nat) : Int) := by omega
      have hcB := (hnx.2 _ HB.out).cell
      have hsz := hnx.1.size
      have hJd : J (sgs d j) wr.drew := HJ.out _ _ _ none hJs (grown_below (Below.refl _ _).drew) (fun r e => by cases e)
      have HT : Hid (∀ Y, CallsIn Fence.wide (n - 1) Try.prog 37 #[.int .i64 z] Y fun e w' => e = .returned (uv (bt (j + 1))) ∧ Y = w') := Lib.hid (fun Y => (callsIn_wide (n := n - 1)).2 (by rw [hzj]; exact bit_any Y (j + 1) (by omega)))
      have e1 : bits .and .u32 (d : Int) (bt (j + 1) : Nat) = ((d &&& bt (j + 1) : Nat) : Int) := u32_and_nat _ _ hd (bt_lt (by omega))
      have hb0 := bt_pos (j + 1)
      rw [and_bt] at e1
      have HNx := Lib.hid hnx
      have HZ := Lib.hid hz
      have hz0 : 1 ≤ z := by omega
      clear hz
      cases hh : hs d (j + 1)
      · rw [hh, if_neg (by decide)] at e1
        replace e1 : bits .and .u32 (d : Int) (bt (j + 1) : Nat) = 0 := e1
        have hsg := sgs_no hh
        have HS := Lib.hid hsg
        have HJs := Lib.hid hJs
        clear hJs hJd hnx hb0 hsg hh hzj
        gi_wp2
        refine wpIn_region_quiet_lit rfl (by assumption) (by kernel_rfl) ?_
        repeat (gi_big_quiet_step (fail))
        refine BigFrame.wpQuietIn_want (fun _ _ _ _ => trivial) rfl (fun K hK => ?_)
        gi_big_quiet_op
        apply Exists.intro
        refine ⟨fun _ => ?_, ?_⟩
        · exact (HT.out _).mono (fun _ _ h => ⟨h.1, _, h.2.symm⟩)
        refine hK _ ?_
        clear hK K
        repeat (gi_big_quiet_step (fail))
        refine BigFrame.wpQuietIn_skip (fun _ _ _ _ => trivial) rfl ?_
        show wpQuietIn _ _ _ _ _ _ _ { tmps := #[.func (.yield l) #[] #[], .pointer (some ⟨Bb, 0, none⟩), undef, .int .i64 z, .int .i64 z, .bool true, u6, u7, uv d, .int .i64 z, uv (bt (j + 1)), .int .u32 0, .bool false, .bool false, undef, undef, undef, u17, u18], defers := [] }
        repeat (gi_big_quiet_step (fail))
        refine wpQuietIn_nil ?_
        intro _ hw'
        obtain ⟨nq, hw''⟩ := hw'
        subst hw''
        have hDn := below_drewN (Below.refl wr.heap.size wr) nq
        have HDn := Lib.hid hDn
        clear hDn
        generalize wr.drewN nq = wq at *
        gi_wp2
        go_roundw
        case rel => exact ⟨j + 1, z + 1, by omega, by have := HZ.out; omega, by go_num, by rw [HS.out]; exact HJ.out _ _ _ none HJs.out (grown_below HDn.out) (fun r e => by cases e), HNx.out.trans (Kq.below HDn.out (by have := HN.out; omega))⟩
        case measure => have := HZ.out; simp [intOf]; omega
      · rw [hh, if_pos rfl] at e1
        have hsg := sgs_yes hh
        have e2 : (((bt (j + 1) : Nat) : Int) != 0) = true := bne_iff_ne.2 (by omega)
        obtain ⟨fn, tmps, assign, body, hy, hR2⟩ := HY.out _ (j + 1) wr.drew hJd (Nat.lt_of_le_of_lt (sgs_len d j) hlt)
        rw [henc _ (by omega)] at hy
        dsimp only [encs] at hy
        rw [← hzj] at hy
        have hR3 := hR2.mono (R' := fun e W' => ∃ b : Bool, e = .returned (.bool b) ∧ ((b = true ∧ J (sgs d (j + 1)) W' ∧ Kq n₀ Bb wr W') ∨ (b = false ∧ Jx (sgs d (j + 1)) W'))) (by
          rw [hsg]
          rintro e W3 (⟨rfl, h1, h2⟩ | ⟨rfl, h1⟩)
          · exact ⟨true, rfl, .inl ⟨rfl, h1, (Kq.below (Below.refl _ _).drew (by have := HN.out; omega)).trans h2⟩⟩
          · exact ⟨false, rfl, .inr ⟨rfl, h1⟩⟩)
        have HR := Lib.hid hR3
        clear hJs hJd hnx hb0 hsg hh hzj hR2 hR3
        gi_wp2
        gi_region_with_o (first | (refine ⟨trivial, ?_⟩; refine (HT.out _).mono ?_; rintro e w9 ⟨rfl, rfl⟩) | (refine HR.out.mono ?_; rintro e W3 ⟨b, rfl, hb3⟩))
        all_goals
          rcases hb3 with ⟨rfl, h1, h2⟩ | ⟨rfl, h1⟩
          · gi_wp2
            go_roundw
            case rel => exact ⟨j + 1, z + 1, by omega, by have := HZ.out; omega, by go_num, h1, HNx.out.trans h2⟩
            case measure => have := HZ.out; simp [intOf]; omega
          · gi_wp2
            refine bodyPost_ret (results_none rfl _ _ _) rfl ?_
            exact ⟨⟨_, rfl⟩, .inr ⟨_, ⟨j + 1, by omega, rfl⟩, h1⟩⟩
    · obtain rfl : j = 15 := by omega
      have hz1 : ¬ z ≤ 15 := by omega
      have HJs := Lib.hid hJs
      clear hnx hz hJs
      gi_wp2
      go_end0
      exact ⟨⟨_, rfl⟩, .inl HJs.out⟩
end Go.Proofs.Ytlhhgapimhpgnaa.Sge
