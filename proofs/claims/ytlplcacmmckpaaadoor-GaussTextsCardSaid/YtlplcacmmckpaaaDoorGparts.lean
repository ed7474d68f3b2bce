/-
  The iterator parts of package gauss: it tells a number's two parts, with their places, to any loop body that keeps what lay there.
-/
import Derived.Test.YtlplcacmmckpaaaDoorGleaf
import Derived.RangeFuncNested
import Derived.RangeFuncBound
import Derived.RangeFuncCalls
import Derived.RangeFuncLeaves
import Derived.Shelf.Abstract
import Derived.Shelf.RegionOpen
import Derived.OwnWalkIn
import Derived.TacticsInMore
import Derived.LoopNIn
import Derived.LoopIn
namespace Go.Proofs.YtlplcacmmckpaaaDoor.Gparts
open Go Go.RowKit Go.Shelf Kit Fl Whole Gleaf
set_option linter.unusedVariables false

attribute [local go_sem] Oper.semAt_some

/-- The two parts, told in their order: false is the real one. -/
def pt (a b : Nat) (x : Bool) : Nat := if x then b else a
def ix (x : Bool) : Int := if x then 1 else 0
theorem ix_f : ix false = 0 := rfl
theorem ix_t : ix true = 1 := rfl
theorem pt_f (a b : Nat) : pt a b false = a := rfl
theorem pt_t (a b : Nat) : pt a b true = b := rfl
def encs (a b : Nat) (x : Bool) : Array Value := #[.int .i64 (ix x), .float .f64 (pt a b x)]

/-- What a round that goes on keeps: what lay below n₀, and the iterator's own box. -/
def Kp (n₀ Bb : Nat) (W W' : World) : Prop := Below n₀ W W' ∧ ∀ v, Boxed W Bb 24 v → Boxed W' Bb 24 v
theorem Kp.trans {n₀ Bb : Nat} {A B C : World} (h : Kp n₀ Bb A B) (k : Kp n₀ Bb B C) : Kp n₀ Bb A C := ⟨h.1.trans k.1, fun v hv => k.2 v (h.2 v hv)⟩
theorem Kp.put {n₀ Bb : Nat} {w : World} (hn : n₀ ≤ w.heap.size) (W : World) (l : Nat) (o o' : Obj) (hl : w.heap.size ≤ l) (h : W.heap[l]? = some o) (hc : o.isCells = false) (hw : o.isWalk = false) : Kp n₀ Bb W (W.putObj l o') :=
  ⟨belowK_b hn W l o o' hl h hc hw, fun v hv => hv.kept (grownBy_putObj' W l o') (fun e => by
    cases e
    rw [show W.heap[Bb]? = _ from hv] at h
    cases h
    cases hc)⟩
theorem Kp.refl (n₀ Bb : Nat) (W : World) : Kp n₀ Bb W W := ⟨Below.refl _ _, fun _ h => h⟩

set_option maxHeartbeats 1000000 in
theorem parts1_in (n : Nat) (hn : 1 ≤ n) (l Bb n₀ : Nat) (a b : Nat) (J Jx : List Bool → World → Prop) (W : World)
    (hY : ∀ pre x W, J pre W → pre.length < 2 → YieldAt Fence.wide (n - 1) Tryd.prog l (encs a b x) W fun e W' =>
      (e = .returned (.bool true) ∧ J (pre ++ [x]) W' ∧ Kp n₀ Bb W W') ∨ (e = .returned (.bool false) ∧ Jx (pre ++ [x]) W'))
    (hB : Boxed W Bb 24 (.complex .f64 a b)) (h0 : J [] W) :
    CallsIn Fence.wide n Tryd.prog 48 #[.func (.yield l) #[] #[], .pointer (some ⟨Bb, 0, none⟩)] W fun e W' => (∃ v, e = .returned v) ∧
      ((∃ ys, ys = [false, true] ∧ J ys W') ∨ (∃ pre, (pre = [false] ∨ pre = [false, true]) ∧ Jx pre W')) := by
  refine callsIn_of_wp Tryd.func48 rfl trivial ?_ rfl
  simp only [Tryd.ntmps48, List.size_toArray, List.length_cons, List.length_nil, Nat.reduceAdd, Nat.reduceSub, Array.replicate_succ, Array.replicate_zero, List.push_toArray, List.append_toArray, List.nil_append, List.cons_append]
  have hBc := hB.cell
  obtain ⟨fn, tmps, assign, body, hy, hR⟩ := hY [] false W h0 (by decide)
  simp only [encs, ix_f, pt_f] at hy
  gi_wp2
  refine hR.mono ?_
  rintro e W3 (⟨rfl, hJ3, hk3⟩ | ⟨rfl, hJx3⟩)
  · clear hy hR
    have hB3 := hk3.2 _ hB
    have hBc3 := hB3.cell
    obtain ⟨fn, tmps, assign, body, hy, hR⟩ := hY [false] true W3 hJ3 (by decide)
    simp only [encs, ix_t, pt_t] at hy
    gi_wp2
    refine hR.mono ?_
    rintro e W4 (⟨rfl, hJ4, hk4⟩ | ⟨rfl, hJx4⟩)
    · gi_wp2
      go_end0
      exact ⟨⟨_, rfl⟩, .inl ⟨_, rfl, hJ4⟩⟩
    · gi_wp2
      go_end0
      exact ⟨⟨_, rfl⟩, .inr ⟨_, .inr rfl, hJx4⟩⟩
  · gi_wp2
    go_end0
    exact ⟨⟨_, rfl⟩, .inr ⟨_, .inl rfl, hJx3⟩⟩

theorem parts_in (n : Nat) (a b : Nat) (w : World) :
    CallsIn Fence.wide n Tryd.prog 37 #[.complex .f64 a b] w fun e w' => e = .returned (.func (.func 48) #[] #[.pointer (some ⟨w.heap.size, 0, none⟩)]) ∧ w' = w.alloc (.cells #[.complex .f64 a b] 24) := by
  refine callsIn_of_wp Tryd.func37 rfl trivial ?_ rfl
  simp only [Tryd.ntmps37, List.size_toArray, List.length_cons, List.length_nil, Nat.reduceAdd, Nat.reduceSub, Array.replicate_succ, Array.replicate_zero, List.push_toArray, List.append_toArray, List.nil_append, List.cons_append]
  gi_wp2
  go_ret
  exact ⟨rfl, rfl⟩

theorem parts_stops (n : Nat) (hn : 1 ≤ n) (Bb n₀ : Nat) (a b : Nat) (w : World) (hc : Boxed w Bb 24 (.complex .f64 a b)) :
    SeqStopsK Fence.wide n Tryd.prog 48 #[.pointer (some ⟨Bb, 0, none⟩)] (encs a b) (Kp n₀ Bb) (fun ys => ys = [false, true]) (fun pre => pre = [false] ∨ pre = [false, true]) 2 w := fun l J Jx W hW hJ _ hY hJ0 =>
  parts1_in n hn l Bb n₀ a b J Jx W hY ((hW.block Bb hc.lt).trans hc) hJ0
end Go.Proofs.YtlplcacmmckpaaaDoor.Gparts
