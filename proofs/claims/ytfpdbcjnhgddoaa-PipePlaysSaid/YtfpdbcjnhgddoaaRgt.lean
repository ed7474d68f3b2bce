/-
  The iterator told of a ring: it tells its bytes, each with how many stand ahead of it, to any loop body that keeps what lay there.
-/
import Derived.Test.YtfpdbcjnhgddoaaRgm
import Derived.RangeFuncNested
import Derived.RangeFuncBound
import Derived.RangeFuncCalls
import Derived.RangeFuncLeaves
import Derived.Shelf.Abstract
import Derived.Shelf.RegionOpen
import Derived.OwnWalkIn
import Derived.TacticsInMore
import Derived.LoopNIn
import Derived.LoopIn
namespace Go.Proofs.Ytfpdbcjnhgddoaa.Rgt
open Go Go.RowKit Go.Shelf Kit Bk Rgm
set_option linter.unusedVariables false

attribute [local go_sem] Oper.semAt_some

/-- The first k bytes, each with how many stand ahead of it. -/
def prs (xs : List Nat) (k : Nat) : List (Nat × Nat) := (List.range k).map fun i => (i, xs[i]?.getD 0)
theorem prs_zero (xs : List Nat) : prs xs 0 = [] := rfl
theorem prs_succ (xs : List Nat) (k : Nat) : prs xs (k + 1) = prs xs k ++ [(k, xs[k]?.getD 0)] := by simp [prs, List.range_succ]
theorem prs_len (xs : List Nat) (k : Nat) : (prs xs k).length = k := by simp [prs]
def encs (x : Nat × Nat) : Array Value := #[.int .i64 (x.1 : Int), .int .u8 (x.2 : Int)]
theorem grown_below {w w' : World} (h : Below w.heap.size w w') : w.grownBy w' none := ⟨h.1, h.2, h.3, h.size, fun k hk _ => h.block k hk⟩

/-- What a round that goes on keeps: what lay below n₀, and the iterator's own box. -/
def Kq (n₀ Bb : Nat) (W W' : World) : Prop := Below n₀ W W' ∧ ∀ v, Boxed W Bb 62 v → Boxed W' Bb 62 v
theorem Kq.trans {n₀ Bb : Nat} {A B C : World} (h : Kq n₀ Bb A B) (k : Kq n₀ Bb B C) : Kq n₀ Bb A C := ⟨h.1.trans k.1, fun v hv => k.2 v (h.2 v hv)⟩
theorem Kq.put {n₀ Bb : Nat} {w : World} (hn : n₀ ≤ w.heap.size) (W : World) (l : Nat) (o o' : Obj) (hl : w.heap.size ≤ l) (h : W.heap[l]? = some o) (hc : o.isCells = false) (hw : o.isWalk = false) : Kq n₀ Bb W (W.putObj l o') :=
  ⟨belowK_b hn W l o o' hl h hc hw, fun v hv => hv.kept (grownBy_putObj' W l o') (fun e => by
    cases e
    rw [show W.heap[Bb]? = _ from hv] at h
    cases h
    cases hc)⟩
theorem Kq.refl (n₀ Bb : Nat) (W : World) : Kq n₀ Bb W W := ⟨Below.refl _ _, fun _ h => h⟩
theorem Kq.below {n₀ Bb : Nat} {W W' : World} (h : Below W.heap.size W W') (hn : n₀ ≤ W.heap.size) : Kq n₀ Bb W W' := ⟨h.mono hn, fun v hv => (h.block Bb hv.lt).trans hv⟩

set_option maxRecDepth 100000 in
set_option maxHeartbeats 2000000 in
theorem told1_in (n : Nat) (hn : 1 ≤ n) (l Bb n₀ p C : Nat) (xs : List Nat) (J Jx : List (Nat × Nat) → World → Prop) (W : World) (hJ : AbidesFrom W.heap.size J)
    (hY : ∀ pre x W, J pre W → pre.length < xs.length → YieldAt Fence.wide (n - 1) Try.prog l (encs x) W fun e W' =>
      (e = .returned (.bool true) ∧ J (pre ++ [x]) W' ∧ Kq n₀ Bb W W') ∨ (e = .returned (.bool false) ∧ Jx (pre ++ [x]) W'))
    (hn₀ : n₀ ≤ W.heap.size) (hp : p < n₀) (hM : Rg W p C xs) (hB : Boxed W Bb 62 (.pointer (some ⟨p, 0, none⟩))) (h0 : J [] W) :
    CallsIn Fence.wide n Try.prog 56 #[.func (.yield l) #[] #[], .pointer (some ⟨Bb, 0, none⟩)] W fun e W' => (∃ v, e = .returned v) ∧
      ((∃ ys, ys = prs xs xs.length ∧ J ys W') ∨ (∃ pre, (∃ k, k ≤ xs.length ∧ pre = prs xs k) ∧ Jx pre W')) := by
  have hmx : Try.prog.follows .mixedOrders = true := by kernel_rfl
  have HL := Lib.hid ((callsIn_wide (n := n - 1)).2 (len_any W p C xs hM))
  have hcB0 := hB.cell
  have hx64 : xs.length ≤ 64 := Nat.le_trans hM.cap_le.2 hM.cap_le.1
  obtain ⟨cs, f, hb, hl⟩ := hM
  refine callsIn_of_wp Try.func56 rfl trivial ?_ rfl
  simp only [Try.ntmps56, List.size_toArray, List.length_cons, List.length_nil, Nat.reduceAdd, Nat.reduceSub, Array.replicate_succ, Array.replicate_zero, List.push_toArray, List.append_toArray, List.nil_append, List.cons_append]
  gi_wp2_with (refine ⟨trivial, ?_⟩; refine HL.out.mono ?_; rintro e w9 ⟨rfl, rfl⟩)
  clear hcB0
  gi_loopw [6] (fun i wr => ∃ (k : Nat), k ≤ xs.length ∧ i = .int .i64 (k : Int) ∧ J (prs xs k) wr ∧ Kq n₀ Bb W wr)
    (fun i _ => xs.length - (intOf i).toNat)
  case atStart => exact ⟨0, Nat.zero_le _, rfl, h0, Kq.refl _ _ _⟩
  case round =>
    obtain ⟨k, hk, rfl, hJs, hnx⟩ := hrel
    have hbB := hnx.2 _ hB
    have hcB := hbB.cell
    have hsz := hnx.1.size
    by_cases hlt : k < xs.length
    · have hlt' : (k : Int) < (xs.length : Int) := by omega
      have hbw : Blk wr p cs 83 := (hnx.1.block p hp).trans hb
      have hpl := (callsIn_wide (n := n - 1)).2 (place_at wr.drew p cs f k hbw hl.c64 hl.hf (by omega))
      have hat := (hbw.cell ((f + k) % 64)).trans (hl.at_ k hlt)
      obtain ⟨j, hj⟩ : ∃ j, (f + k) % 64 = j := ⟨_, rfl⟩
      have hj64 : (j : Int) < 64 := by have := Nat.mod_lt (f + k) (show 0 < 64 by omega); omega
      rw [hj] at hpl hat
      have hu := prs_succ xs k
      have hJd : J (prs xs k) wr.drew := hJ _ _ _ none hJs (grown_below (Below.refl _ _).drew) (fun r e => by cases e)
      obtain ⟨fn, tmps, assign, body, hy, hR2⟩ := hY _ (k, xs[k]?.getD 0) wr.drew hJd (by rw [prs_len]; exact hlt)
      dsimp only [encs] at hy
      generalize xs[k]?.getD 0 = x at *
      have hR3 := hR2.mono (R' := fun e W' => ∃ b : Bool, e = .returned (.bool b) ∧ ((b = true ∧ J (prs xs (k + 1)) W' ∧ Kq n₀ Bb wr W') ∨ (b = false ∧ Jx (prs xs (k + 1)) W'))) (by
        rintro e W3 (⟨rfl, h1, h2⟩ | ⟨rfl, h1⟩)
        · exact ⟨true, rfl, .inl ⟨rfl, by rw [hu]; exact h1, (Kq.below (Below.refl _ _).drew (by omega)).trans h2⟩⟩
        · exact ⟨false, rfl, .inr ⟨rfl, by rw [hu]; exact h1⟩⟩)
      have HP := Lib.hid hpl
      have HR := Lib.hid hR3
      clear hpl hR2 hR3 hu hj hbw hY hJd hJs
      gi_wp2
      gi_region_with_o (first | (refine ⟨trivial, ?_⟩; refine HP.out.mono ?_; rintro e w9 ⟨rfl, rfl⟩) | (refine HR.out.mono ?_; rintro e W3 ⟨b, rfl, hb3⟩))
      all_goals
        rcases hb3 with ⟨rfl, h1, h2⟩ | ⟨rfl, h1⟩
        · gi_wp2
          go_roundw
          case rel => exact ⟨k + 1, by omega, by go_num, h1, hnx.trans h2⟩
          case measure => simp [intOf]; omega
        · gi_wp2
          refine bodyPost_ret (results_none rfl _ _ _) rfl ?_
          exact ⟨⟨_, rfl⟩, .inr ⟨_, ⟨k + 1, by omega, rfl⟩, h1⟩⟩
    · obtain rfl : k = xs.length := by omega
      gi_wp2
      go_end0
      exact ⟨⟨_, rfl⟩, .inl ⟨_, rfl, hJs⟩⟩
theorem told_in (n : Nat) (a : Option Addr) (w : World) :
    CallsIn Fence.wide n Try.prog 55 #[.pointer a] w fun e w' => e = .returned (.func (.func 56) #[] #[.pointer (some ⟨w.heap.size, 0, none⟩)]) ∧ w' = w.alloc (.cells #[.pointer a] 62) := by
  refine callsIn_of_wp Try.func55 rfl trivial ?_ rfl
  simp only [Try.ntmps55, List.size_toArray, List.length_cons, List.length_nil, Nat.reduceAdd, Nat.reduceSub, Array.replicate_succ, Array.replicate_zero, List.push_toArray, List.append_toArray, List.nil_append, List.cons_append]
  gi_wp2
  go_ret
  exact ⟨rfl, rfl⟩
/-- All bytes come, in their order, or a first part of them. n₀: what lay there when the loop's function began. -/
theorem told_stops (n : Nat) (hn : 1 ≤ n) (Bb n₀ p C : Nat) (xs : List Nat) (w : World) (hn₀ : n₀ ≤ w.heap.size) (hp : p < n₀) (hM : Rg w p C xs) (hc : Boxed w Bb 62 (.pointer (some ⟨p, 0, none⟩))) :
    SeqStopsK Fence.wide n Try.prog 56 #[.pointer (some ⟨Bb, 0, none⟩)] encs (Kq n₀ Bb) (fun ys => ys = prs xs xs.length) (fun pre => ∃ k, k ≤ xs.length ∧ pre = prs xs k) xs.length w := fun l J Jx W hW hJ _ hY hJ0 =>
  told1_in n hn l Bb n₀ p C xs J Jx W hJ hY (Nat.le_trans hn₀ hW.size) hp (hM.below hW) ((hW.block Bb hc.lt).trans hc) hJ0
/-- Of none nothing comes. -/
theorem told1_nil (n : Nat) (hn : 1 ≤ n) (l Bb n₀ : Nat) (J Jx : List (Nat × Nat) → World → Prop) (W : World) (hB : Boxed W Bb 62 (.pointer none)) (h0 : J [] W) :
    CallsIn Fence.wide n Try.prog 56 #[.func (.yield l) #[] #[], .pointer (some ⟨Bb, 0, none⟩)] W fun e W' => (∃ v, e = .returned v) ∧ J [] W' := by
  have HL := Lib.hid ((callsIn_wide (n := n - 1)).2 (len_nil W))
  have hcB0 := hB.cell
  refine callsIn_of_wp Try.func56 rfl trivial ?_ rfl
  simp only [Try.ntmps56, List.size_toArray, List.length_cons, List.length_nil, Nat.reduceAdd, Nat.reduceSub, Array.replicate_succ, Array.replicate_zero, List.push_toArray, List.append_toArray, List.nil_append, List.cons_append]
  gi_wp2_with (refine ⟨trivial, ?_⟩; refine HL.out.mono ?_; rintro e w9 ⟨rfl, rfl⟩)
  clear hcB0
  gi_loopw [6] (fun i wr => i = .int .i64 0 ∧ J [] wr) (fun _ _ => 0)
  case atStart => exact ⟨rfl, h0⟩
  case round =>
    obtain ⟨rfl, hJs⟩ := hrel
    gi_wp2
    go_end0
    exact ⟨⟨_, rfl⟩, hJs⟩
theorem told_stops_nil (n : Nat) (hn : 1 ≤ n) (Bb n₀ : Nat) (w : World) (hc : Boxed w Bb 62 (.pointer none)) :
    SeqStopsK Fence.wide n Try.prog 56 #[.pointer (some ⟨Bb, 0, none⟩)] encs (Kq n₀ Bb) (fun ys => ys = prs [] ([] : List Nat).length) (fun pre => ∃ k, k ≤ ([] : List Nat).length ∧ pre = prs [] k) ([] : List Nat).length w := fun l J Jx W hW hJ _ hY hJ0 =>
  (told1_nil n hn l Bb n₀ J Jx W ((hW.block Bb hc.lt).trans hc) hJ0).mono fun e W' ⟨h1, h2⟩ => ⟨h1, .inl ⟨_, rfl, h2⟩⟩
/-- What tells the bytes xs, from a ring or from none. -/
def Tells (n₀ : Nat) (w : World) (a : Option Addr) (xs : List Nat) : Prop := (a = none ∧ xs = []) ∨ ∃ p C, a = some ⟨p, 0, none⟩ ∧ p < n₀ ∧ Rg w p C xs
theorem Tells.low {n₀ : Nat} {w W : World} {a : Option Addr} {xs : List Nat} (h : Tells n₀ w a xs) (hb : Below n₀ w W) : Tells n₀ W a xs := by
  rcases h with h | ⟨p, C, e, hp, hr⟩
  · exact .inl h
  · exact .inr ⟨p, C, e, hp, hr.low hb hp⟩
theorem Tells.le {n₀ : Nat} {w : World} {a : Option Addr} {xs : List Nat} (h : Tells n₀ w a xs) : xs.length ≤ 64 := by
  rcases h with ⟨_, rfl⟩ | ⟨p, C, e, hp, hr⟩
  · simp
  · exact Nat.le_trans hr.cap_le.2 hr.cap_le.1
theorem tells_stops (n : Nat) (hn : 1 ≤ n) (Bb n₀ : Nat) (a : Option Addr) (xs : List Nat) (w : World) (hn₀ : n₀ ≤ w.heap.size) (hM : Tells n₀ w a xs) (hc : Boxed w Bb 62 (.pointer a)) :
    SeqStopsK Fence.wide n Try.prog 56 #[.pointer (some ⟨Bb, 0, none⟩)] encs (Kq n₀ Bb) (fun ys => ys = prs xs xs.length) (fun pre => ∃ k, k ≤ xs.length ∧ pre = prs xs k) xs.length w := by
  rcases hM with ⟨rfl, rfl⟩ | ⟨p, C, rfl, hp, hr⟩
  · exact told_stops_nil n hn Bb n₀ w hc
  · exact told_stops n hn Bb n₀ p C xs w hn₀ hp hr hc
end Go.Proofs.Ytfpdbcjnhgddoaa.Rgt
