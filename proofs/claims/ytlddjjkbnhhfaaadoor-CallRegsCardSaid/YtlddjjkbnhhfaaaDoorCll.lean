/-
  arguments: the iterator tells a call's own arguments, each with its register, to any loop body that keeps what lay there.
-/
import Derived.Test.YtlddjjkbnhhfaaaDoorCli
import Derived.RangeFuncNested
import Derived.RangeFuncBound
import Derived.RangeFuncCalls
import Derived.RangeFuncLeaves
import Derived.Shelf.Abstract
import Derived.OwnWalkIn
import Derived.TacticsInMore
import Derived.LoopNIn
import Derived.LoopIn
namespace Go.Proofs.YtlddjjkbnhhfaaaDoor.Cll
open Go Go.RowKit Go.Shelf Kit IsaM Cla Clt Clf Bk Clh Cli
set_option linter.unusedVariables false
attribute [local go_sem] Oper.semAt_some

/-- An argument's register (3 at most, whatever number is handed in). -/
def rg (i : Nat) : Nat := min i 3 + 1
def encs (x : Cl) (i : Nat) : Array Value := #[.int .i64 ((rg i : Nat) : Int), .int .u32 (ar x i : Int)]
/-- What a round that goes on keeps: what lay below n₀, and the iterator's own box. -/
def Kq (n₀ Bb : Nat) (W W' : World) : Prop := Below n₀ W W' ∧ ∀ cs, Blk W Bb cs 27 → Blk W' Bb cs 27
theorem Kq.trans {n₀ Bb : Nat} {A B C : World} (h : Kq n₀ Bb A B) (k : Kq n₀ Bb B C) : Kq n₀ Bb A C := ⟨h.1.trans k.1, fun v hv => k.2 v (h.2 v hv)⟩
theorem Kq.refl (n₀ Bb : Nat) (W : World) : Kq n₀ Bb W W := ⟨Below.refl _ _, fun _ h => h⟩
theorem grown_put (W : World) (l : Nat) (o' : Obj) : W.grownBy (W.putObj l o') (some l) := grownBy_putObj' W l o'
theorem Kq.put {n₀ Bb : Nat} {w : World} (hn : n₀ ≤ w.heap.size) (W : World) (l : Nat) (o o' : Obj) (hl : w.heap.size ≤ l) (h : W.heap[l]? = some o) (hc : o.isCells = false) (hw : o.isWalk = false) : Kq n₀ Bb W (W.putObj l o') :=
  ⟨belowK_b hn W l o o' hl h hc hw, fun cs hv => hv.kept (Bk.Kp.of_grown (grownBy_putObj' W l o')) (fun e => by
    cases e
    rw [show W.heap[Bb]? = _ from hv] at h
    cases h
    cases hc)⟩
theorem ar_cell {x : Cl} {i : Nat} (h : i < 3) : (ccs x)[1 + i]? = some (.int .u32 (ar x i : Int)) := by
  have : i = 0 ∨ i = 1 ∨ i = 2 := by omega
  rcases this with rfl | rfl | rfl <;> rfl
set_option maxRecDepth 100000 in
set_option maxHeartbeats 2000000 in
theorem args1_in (n : Nat) (hn : 1 ≤ n) (l Bb n₀ k : Nat) (x : Cl) (hk : x.n = (k : Int)) (h1 : 1 ≤ k) (h2 : k < 23) (J Jx : List Nat → World → Prop) (W : World) (hT : Rw W) (hJ : AbidesFrom W.heap.size J)
    (hY : ∀ pre i W, J pre W → pre.length < mn k → YieldAt Fence.wide (n - 1) Tryd.prog l (encs x i) W fun e W' =>
      (e = .returned (.bool true) ∧ J (pre ++ [i]) W' ∧ Kq n₀ Bb W W') ∨ (e = .returned (.bool false) ∧ Jx (pre ++ [i]) W'))
    (hn₀ : n₀ ≤ W.heap.size) (hB : Blk W Bb (ccs x) 27) (h0 : J [] W) :
    CallsIn Fence.wide n Tryd.prog 49 #[.func (.yield l) #[] #[], .pointer (some ⟨Bb, 0, none⟩)] W fun e W' => (∃ v, e = .returned v) ∧
      ((∃ ys, ys = List.range (mn k) ∧ J ys W') ∨ (∃ pre, (∃ j, j ≤ mn k ∧ pre = List.range j) ∧ Jx pre W')) := by
  have hm3 := mn3 h2
  have HM := Lib.hid (many_any (k : Int) W hT)
  rw [many_nat h1 h2] at HM
  have hsl := fun W => sl_args Bb 1 (mn k) hm3 W
  have c0 : W.cell? ⟨Bb, 0, none⟩ = some (.int .i64 (k : Int)) := by rw [hB.cell, ← hk]; rfl
  generalize hm : mn k = m at *
  refine callsIn_of_wp Tryd.func49 rfl trivial ?_ rfl
  simp only [Tryd.ntmps49, List.size_toArray, List.length_cons, List.length_nil, Nat.reduceAdd, Nat.reduceSub, Array.replicate_succ, Array.replicate_zero, List.push_toArray, List.append_toArray, List.nil_append, List.cons_append]
  gi_wp2_with (first | (refine ⟨trivial, ?_⟩; gi_at_call 13; refine (callsIn_wide.2 HM.out).mono ?_; rintro e w9 ⟨rfl, rfl⟩) | fail)
  clear c0
  gi_loopw [11] (fun i wr => ∃ (j : Nat), j ≤ m ∧ i = .int .i64 (j : Int) ∧ J (List.range j) wr ∧ Kq n₀ Bb W wr)
    (fun i _ => m - (intOf i).toNat)
  case atStart => exact ⟨0, Nat.zero_le _, rfl, h0, Kq.refl _ _ _⟩
  case round =>
    obtain ⟨j, hj, rfl, hJs, hnx⟩ := hrel
    have hbB := hnx.2 _ hB
    by_cases hlt : j < m
    · have cA : wr.cell? ⟨Bb, 1 + j, none⟩ = some (.int .u32 (ar x j : Int)) := (hbB.cell _).trans (ar_cell (by omega))
      have hj3 : (j : Int) < 3 := by omega
      obtain ⟨fn, tmps, assign, body, hy, hR2⟩ := hY _ j wr hJs (by rw [List.length_range]; exact hlt)
      dsimp only [encs] at hy
      rw [show ((rg j : Nat) : Int) = 1 + (j : Int) by unfold rg; omega] at hy
      gi_wp2
      refine hR2.mono ?_
      rintro e W3 (⟨rfl, hJ3, hk3⟩ | ⟨rfl, hJx3⟩)
      · gi_wp2
        go_roundw
        case rel => exact ⟨j + 1, by omega, by go_num, by rw [List.range_succ]; exact hJ3, hnx.trans hk3⟩
        case measure => simp [intOf]; omega
      · gi_wp2
        refine bodyPost_ret (results_none rfl _ _ _) rfl ?_
        exact ⟨⟨_, rfl⟩, .inr ⟨_, ⟨j + 1, by omega, (List.range_succ).symm⟩, hJx3⟩⟩
    · obtain rfl : j = m := by omega
      gi_wp2
      go_end0
      exact ⟨⟨_, rfl⟩, .inl ⟨_, rfl, hJs⟩⟩

set_option maxHeartbeats 1000000 in
theorem args_in (n : Nat) (x : Cl) (w : World) :
    CallsIn Fence.wide n Tryd.prog 35 #[cv x] w fun e w' => e = .returned (.func (.func 49) #[] #[.pointer (some ⟨w.heap.size, 0, none⟩)]) ∧ w' = w.alloc (.cells (ccs x) 27) := by
  unfold cv ccs
  refine callsIn_of_wp Tryd.func35 rfl trivial ?_ rfl
  simp only [Tryd.ntmps35, List.size_toArray, List.length_cons, List.length_nil, Nat.reduceAdd, Nat.reduceSub, Array.replicate_succ, Array.replicate_zero, List.push_toArray, List.append_toArray, List.nil_append, List.cons_append]
  gi_wp2
  go_ret
  exact ⟨rfl, rfl⟩

/-- All arguments come in their order, or a first part of them. n₀: what lay there when the loop's function began. -/
theorem args_stops (n : Nat) (hn : 1 ≤ n) (Bb n₀ k : Nat) (x : Cl) (hk : x.n = (k : Int)) (h1 : 1 ≤ k) (h2 : k < 23) (w : World) (hT : Rw w) (hn₀ : n₀ ≤ w.heap.size) (hc : Blk w Bb (ccs x) 27) :
    SeqStopsK Fence.wide n Tryd.prog 49 #[.pointer (some ⟨Bb, 0, none⟩)] (encs x) (Kq n₀ Bb) (fun ys => ys = List.range (mn k)) (fun pre => ∃ j, j ≤ mn k ∧ pre = List.range j) (mn k) w := fun l J Jx W hW hJ _ hY hJ0 =>
  args1_in n hn l Bb n₀ k x hk h1 h2 J Jx W (hT.below hW) hJ hY (Nat.le_trans hn₀ hW.size) (hc.below hW) hJ0
end Go.Proofs.YtlddjjkbnhhfaaaDoor.Cll
