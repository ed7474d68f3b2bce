/-
  The iterator quads of package word: it tells bytes four by four, the last ones filled up with noughts, to any loop body that keeps what lay there.
-/
import Derived.Test.YtjoapeeljigjcaaDoorJoin
import Derived.RangeFuncNested
import Derived.RangeFuncBound
import Derived.RangeFuncCalls
import Derived.RangeFuncLeaves
import Derived.Shelf.Abstract
import Derived.OwnWalkIn
import Derived.TacticsInMore
import Derived.LoopNIn
import Derived.LoopIn
namespace Go.Proofs.YtjoapeeljigjcaaDoor.Quads
open Go Go.RowKit Go.Shelf Nums Kit Leaf Bytes Join
set_option linter.unusedVariables false

attribute [local go_sem] Oper.semAt_some

/-- How many bytes the k-th four has, and which. -/
def cnt (n k : Nat) : Nat := min (n - 4 * k) 4
def qb (xs : List Nat) (k i : Nat) : Nat := bt (xs.drop (4 * k)) i
def encs (xs : List Nat) (k : Nat) : Array Value := #[.int .i64 ((cnt xs.length k : Nat) : Int), .agg #[.int .u8 ((qb xs k 0 : Nat) : Int), .int .u8 ((qb xs k 1 : Nat) : Int), .int .u8 ((qb xs k 2 : Nat) : Int), .int .u8 ((qb xs k 3 : Nat) : Int)]]
theorem grown_drew (w : World) (row : Option Nat) : w.grownBy w.drew row := ⟨rfl, rfl, rfl, Nat.le_refl _, fun _ _ _ => rfl⟩

theorem copy_at (W : World) (g off cap k : Nat) (xs : List Nat) (hlt : g < W.heap.size) (hcell : ∀ i, i < xs.length → W.cell? ⟨g, off + i, none⟩ = some (.int .u8 ((xs[i]?.getD 0 : Nat) : Int))) :
    (Builtin.copy_ #[37, 37] 3 #[.slice (some ⟨W.heap.size, 0, none⟩) 4 4, .slice (some ⟨g, off + 4 * k, none⟩) (xs.length - 4 * k) (cap - 4 * k)]).run Tryd.prog (W.alloc (.cells #[.int .u8 0, .int .u8 0, .int .u8 0, .int .u8 0] 96)) =
      .ok (.int .i64 ((cnt xs.length k : Nat) : Int)) (W.alloc (.cells #[.int .u8 ((qb xs k 0 : Nat) : Int), .int .u8 ((qb xs k 1 : Nat) : Int), .int .u8 ((qb xs k 2 : Nat) : Int), .int .u8 ((qb xs k 3 : Nat) : Int)] 96)) := by
  have h := copy_quad W g (off + 4 * k) (cap - 4 * k) (xs.drop (4 * k)) hlt (fun i hi => by
    rw [List.length_drop] at hi
    rw [Nat.add_assoc, hcell (4 * k + i) (by omega), List.getElem?_drop])
  rw [List.length_drop] at h
  exact h

/-- What a round that goes on keeps: what lay below n₀, and the iterator's own box. -/
def Kp (n₀ Bb : Nat) (W W' : World) : Prop := Below n₀ W W' ∧ ∀ v, Boxed W Bb 37 v → Boxed W' Bb 37 v
theorem Kp.trans {n₀ Bb : Nat} {A B C : World} (h : Kp n₀ Bb A B) (k : Kp n₀ Bb B C) : Kp n₀ Bb A C := ⟨h.1.trans k.1, fun v hv => k.2 v (h.2 v hv)⟩
theorem Kp.put {n₀ Bb : Nat} {w : World} (hn : n₀ ≤ w.heap.size) (W : World) (l : Nat) (o o' : Obj) (hl : w.heap.size ≤ l) (h : W.heap[l]? = some o) (hc : o.isCells = false) (hw : o.isWalk = false) : Kp n₀ Bb W (W.putObj l o') :=
  ⟨belowK_b hn W l o o' hl h hc hw, fun v hv => hv.kept (grownBy_putObj' W l o') (fun e => by
    cases e
    rw [show W.heap[Bb]? = _ from hv] at h
    cases h
    cases hc)⟩
theorem Kp.grown {n₀ Bb : Nat} {W W' : World} {row : Option Nat} (hg : W.grownBy W' row) (hn : n₀ ≤ W.heap.size) (hr : ∀ k, row = some k → n₀ ≤ k ∧ k ≠ Bb) : Kp n₀ Bb W W' :=
  ⟨(Below.refl _ _).grown hg hn (fun k e => (hr k e).1), fun v hv => hv.kept hg (fun e => (hr Bb e.symm).2 rfl)⟩
theorem Kp.refl (n₀ Bb : Nat) (W : World) : Kp n₀ Bb W W := ⟨Below.refl _ _, fun _ h => h⟩

set_option maxRecDepth 100000 in
set_option maxHeartbeats 2000000 in
theorem quads1_in (n : Nat) (hn : 1 ≤ n) (l Bb n₀ g off cap : Nat) (xs : List Nat) (hcap : xs.length ≤ cap) (hmax : cap ≤ 9223372036854775807) (hlen : xs.length ≤ 100000) (hg : g < n₀) (J Jx : List Nat → World → Prop) (W : World) (hJ : AbidesFrom W.heap.size J)
    (hY : ∀ pre x W, J pre W → pre.length < (xs.length + 3) / 4 → YieldAt Fence.wide (n - 1) Tryd.prog l (encs xs x) W fun e W' =>
      (e = .returned (.bool true) ∧ J (pre ++ [x]) W' ∧ Kp n₀ Bb W W') ∨ (e = .returned (.bool false) ∧ Jx (pre ++ [x]) W'))
    (hn₀ : n₀ ≤ W.heap.size) (hB : Boxed W Bb 37 (.slice (some ⟨g, off, none⟩) xs.length cap)) (hcell : ∀ i, i < xs.length → W.cell? ⟨g, off + i, none⟩ = some (.int .u8 ((xs[i]?.getD 0 : Nat) : Int))) (h0 : J [] W) :
    CallsIn Fence.wide n Tryd.prog 69 #[.func (.yield l) #[] #[], .pointer (some ⟨Bb, 0, none⟩)] W fun e W' => (∃ v, e = .returned v) ∧
      ((∃ ys, ys = List.range ((xs.length + 3) / 4) ∧ J ys W') ∨ (∃ pre, (∃ k, k ≤ (xs.length + 3) / 4 ∧ pre = List.range k) ∧ Jx pre W')) := by
  refine callsIn_of_wp Tryd.func69 rfl trivial ?_ rfl
  simp only [Tryd.ntmps69, List.size_toArray, List.length_cons, List.length_nil, Nat.reduceAdd, Nat.reduceSub, Array.replicate_succ, Array.replicate_zero, List.push_toArray, List.append_toArray, List.nil_append, List.cons_append]
  have hBc := hB.cell
  gi_wp2
  clear hBc
  gi_loopw [3] (fun i wr => ∃ k : Nat, k ≤ (xs.length + 3) / 4 ∧ i = .int .i64 ((4 * k : Nat) : Int) ∧ J (List.range k) wr ∧ Kp n₀ Bb W wr)
    (fun i _ => xs.length + 4 - (intOf i).toNat)
  case atStart => exact ⟨0, Nat.zero_le _, rfl, h0, Kp.refl _ _ _⟩
  case round =>
    obtain ⟨k, hk, rfl, hJs, hnx⟩ := hrel
    have hbB := hnx.2 _ hB
    have hBlt := hbB.lt
    have hcB := hbB.cell
    obtain ⟨hnxb, hnxk⟩ := hnx
    by_cases hlt : 4 * k < xs.length
    · have hlt' : ((4 * k : Nat) : Int) < (xs.length : Int) := by omega
      have hsz := hnxb.size
      have hcB2 : ∀ o, (wr.alloc o).cell? ⟨Bb, 0, none⟩ = some (.slice (some ⟨g, off, none⟩) xs.length cap) := fun o => (World.cell?_alloc_past _ _ _ (by omega)).trans hcB
      have hcp : (Builtin.copy_ #[37, 37] 3 #[.slice (some ⟨wr.heap.size, 0, none⟩) 4 4, .slice (some ⟨g, off + 4 * k, none⟩) (xs.length - 4 * k) (cap - 4 * k)]).run Tryd.prog (wr.alloc (.cells #[.int .u8 0, .int .u8 0, .int .u8 0, .int .u8 0] 96)).drew =
          .ok (.int .i64 ((cnt xs.length k : Nat) : Int)) (wr.alloc (.cells #[.int .u8 ((qb xs k 0 : Nat) : Int), .int .u8 ((qb xs k 1 : Nat) : Int), .int .u8 ((qb xs k 2 : Nat) : Int), .int .u8 ((qb xs k 3 : Nat) : Int)] 96)).drew := copy_at wr.drew g off cap k xs (by show g < wr.heap.size; omega) (fun i hi => (hnxb.cell (p := ⟨g, off + i, none⟩) hg).trans (hcell i hi))
      gi_wp2
      gi_region
      clear hcp hcB2
      obtain ⟨Wy, hWy⟩ : ∃ Wy, (wr.alloc (.cells #[.int .u8 ((qb xs k 0 : Nat) : Int), .int .u8 ((qb xs k 1 : Nat) : Int), .int .u8 ((qb xs k 2 : Nat) : Int), .int .u8 ((qb xs k 3 : Nat) : Int)] 96)).drew = Wy := ⟨_, rfl⟩
      have hJy : J (List.range k) Wy := by
        rw [← hWy]
        exact hJ _ _ _ none (hJ _ _ _ none hJs (World.grownBy_alloc wr _ none) (fun r e => by cases e)) (grown_drew _ none) (fun r e => by cases e)
      have hby : Kp n₀ Bb wr Wy := by
        rw [← hWy]
        exact (Kp.grown (World.grownBy_alloc wr _ none) (by omega) (fun k e => by cases e)).trans (Kp.grown (grown_drew _ none) (by simp; omega) (fun k e => by cases e))
      have hq : ∀ i v, (#[Value.int .u8 ((qb xs k 0 : Nat) : Int), .int .u8 ((qb xs k 1 : Nat) : Int), .int .u8 ((qb xs k 2 : Nat) : Int), .int .u8 ((qb xs k 3 : Nat) : Int)] : Array Value)[i]? = some v → Wy.cell? ⟨wr.heap.size, i, none⟩ = some v := by
        intro i v h
        rw [← hWy]
        show (wr.alloc _).cell? _ = _
        rw [World.cell?_alloc_at _ _ _ _ rfl]
        exact h
      have q0 := hq 0 _ rfl
      have q1 := hq 1 _ rfl
      have q2 := hq 2 _ rfl
      have q3 := hq 3 _ rfl
      clear hq
      rw [hWy]
      clear hWy
      obtain ⟨fn, tmps, assign, body, hy, hR⟩ := hY _ k Wy hJy (by rw [List.length_range]; omega)
      dsimp only [encs] at hy
      gi_wp2
      refine hR.mono ?_
      rintro e W3 (⟨rfl, hJ3, hk3⟩ | ⟨rfl, hJx3⟩)
      · gi_wp2
        go_roundw
        case rel => exact ⟨k + 1, by omega, by rw [show ((4 * (k + 1) : Nat) : Int) = 4 * (k : Int) + 4 from by omega], by rw [List.range_succ]; exact hJ3, (Kp.trans ⟨hnxb, hnxk⟩ hby).trans hk3⟩
        case measure => simp [intOf]; omega
      · gi_wp2
        refine bodyPost_ret (results_none rfl _ _ _) rfl ?_
        exact ⟨⟨_, rfl⟩, .inr ⟨_, ⟨k + 1, by omega, (List.range_succ).symm⟩, hJx3⟩⟩
    · obtain rfl : k = (xs.length + 3) / 4 := by omega
      gi_wp2
      go_end0
      exact ⟨⟨_, rfl⟩, .inl ⟨_, rfl, hJs⟩⟩

set_option maxRecDepth 100000 in
set_option maxHeartbeats 1000000 in
theorem quads1_nil_in (n : Nat) (l Bb cap : Nat) (a : Option Addr) (J : List Nat → World → Prop) (W : World) (hB : W.cell? ⟨Bb, 0, none⟩ = some (.slice a 0 cap)) (h0 : J [] W) :
    CallsIn Fence.wide n Tryd.prog 69 #[.func (.yield l) #[] #[], .pointer (some ⟨Bb, 0, none⟩)] W fun e W' => (∃ v, e = .returned v) ∧ J [] W' := by
  refine callsIn_of_wp Tryd.func69 rfl trivial ?_ rfl
  simp only [Tryd.ntmps69, List.size_toArray, List.length_cons, List.length_nil, Nat.reduceAdd, Nat.reduceSub, Array.replicate_succ, Array.replicate_zero, List.push_toArray, List.append_toArray, List.nil_append, List.cons_append]
  gi_wp2
  gi_loopw [3] (fun i wr => i = .int .i64 0 ∧ J [] wr ∧ wr.cell? ⟨Bb, 0, none⟩ = some (.slice a 0 cap)) (fun _ _ => 0)
  case atStart => exact ⟨rfl, h0, hB⟩
  case round =>
    obtain ⟨rfl, hJs, hB1⟩ := hrel
    clear hB
    gi_wp2
    go_end0
    exact ⟨⟨_, rfl⟩, hJs⟩

set_option maxHeartbeats 1000000 in
theorem quads_in (n : Nat) (a : Option Addr) (len cap : Nat) (w : World) :
    CallsIn Fence.wide n Tryd.prog 45 #[.slice a len cap] w fun e w' => e = .returned (.func (.func 69) #[] #[.pointer (some ⟨w.heap.size, 0, none⟩)]) ∧ w' = w.alloc (.cells #[.slice a len cap] 37) := by
  refine callsIn_of_wp Tryd.func45 rfl trivial ?_ rfl
  simp only [Tryd.ntmps45, List.size_toArray, List.length_cons, List.length_nil, Nat.reduceAdd, Nat.reduceSub, Array.replicate_succ, Array.replicate_zero, List.push_toArray, List.append_toArray, List.nil_append, List.cons_append]
  gi_wp2
  go_ret
  exact ⟨rfl, rfl⟩

/-- All fours come in their order, or a first part of them. n₀: what lay there when the loop's function began. -/
theorem quads_stops (n : Nat) (hn : 1 ≤ n) (Bb n₀ : Nat) (v : Value) (xs : List Nat) (hlen : xs.length ≤ 100000) (w w0 : World) (hs : Slc .u8 w0 v xs) (h0 : w0.heap.size ≤ n₀) (hn₀ : n₀ ≤ w.heap.size) (hb0 : Below w0.heap.size w0 w)
    (hc : Boxed w Bb 37 v) :
    SeqStopsK Fence.wide n Tryd.prog 69 #[.pointer (some ⟨Bb, 0, none⟩)] (encs xs) (Kp n₀ Bb) (fun ys => ys = List.range ((xs.length + 3) / 4)) (fun pre => ∃ k, k ≤ (xs.length + 3) / 4 ∧ pre = List.range k) ((xs.length + 3) / 4) w := fun l J Jx W hW hJ _ hY hJ0 => by
  have hc' : Boxed W Bb 37 v := (hW.block Bb hc.lt).trans hc
  obtain ⟨a, cap, rfl, h1, h2, h3⟩ := hs
  rcases h3 with rfl | ⟨g, off, rfl, hlt, hcell⟩
  · exact (quads1_nil_in n l Bb cap a J W hc'.cell hJ0).mono fun e W' ⟨he, hj⟩ => ⟨he, .inl ⟨_, rfl, hj⟩⟩
  · have hcell' : ∀ i, i < xs.length → W.cell? ⟨g, off + i, none⟩ = some (.int .u8 ((xs[i]?.getD 0 : Nat) : Int)) := fun i hi => ((hb0.trans (hW.mono hb0.size)).cell (p := ⟨g, off + i, none⟩) hlt).trans (hcell i hi)
    have hcap : cap ≤ 9223372036854775807 := by unfold maxLen at h2; omega
    exact quads1_in n hn l Bb n₀ g off cap xs h1 hcap hlen (by omega) J Jx W hJ hY (Nat.le_trans hn₀ hW.size) hc' hcell' hJ0
end Go.Proofs.YtjoapeeljigjcaaDoor.Quads
