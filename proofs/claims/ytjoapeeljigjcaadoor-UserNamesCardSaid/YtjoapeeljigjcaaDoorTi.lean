/-
  The iterator entries of package pages: it tells the pages that have an entry, rising, with it, to any loop body that keeps what lay there.
-/
import Derived.Test.YtjoapeeljigjcaaDoorTc
import Derived.RangeFuncNested
import Derived.RangeFuncBound
import Derived.RangeFuncCalls
import Derived.RangeFuncLeaves
import Derived.Shelf.Abstract
import Derived.Shelf.RegionOpen
import Derived.OwnWalkIn
import Derived.TacticsInMore
import Derived.LoopNIn
import Derived.LoopIn
namespace Go.Proofs.YtjoapeeljigjcaaDoor.Ti
open Go Go.RowKit Go.Shelf Kit Bk Tm Ts Tc
set_option linter.unusedVariables false

attribute [local go_sem] Oper.semAt_some

/-- The pages below n that have an entry, with it. -/
def ents (T : Nat → Option En) (n : Nat) : List (Nat × En) := (List.range n).filterMap fun k => (T k).map fun e => (k, e)
theorem ents_zero (T : Nat → Option En) : ents T 0 = [] := rfl
theorem ents_some {T : Nat → Option En} {k : Nat} {e : En} (h : T k = some e) : ents T (k + 1) = ents T k ++ [(k, e)] := by simp [ents, List.range_succ, List.filterMap_append, h]
theorem ents_none {T : Nat → Option En} {k : Nat} (h : T k = none) : ents T (k + 1) = ents T k := by simp [ents, List.range_succ, List.filterMap_append, h]
theorem ents_len (T : Nat → Option En) (n : Nat) : (ents T n).length ≤ n := by
  unfold ents
  have := List.length_filterMap_le (fun k => (T k).map fun e => (k, e)) (List.range n)
  simpa using this
theorem ents_mem {T : Nat → Option En} {n k : Nat} {e : En} : (k, e) ∈ ents T n ↔ k < n ∧ T k = some e := by
  simp only [ents, List.mem_filterMap, List.mem_range, Option.map_eq_some_iff, Prod.mk.injEq]
  constructor
  · rintro ⟨a, h1, b, h2, rfl, rfl⟩; exact ⟨h1, h2⟩
  · rintro ⟨h1, h2⟩; exact ⟨k, h1, e, h2, rfl, rfl⟩
def encs (x : Nat × En) : Array Value := #[.int .i64 (x.1 : Int), ev x.2]
theorem grown_below {w w' : World} (h : Below w.heap.size w w') : w.grownBy w' none := ⟨h.1, h.2, h.3, h.size, fun k hk _ => h.block k hk⟩

/-- What a round that goes on keeps: what lay below n₀, and the iterator's own box. -/
def Kq (n₀ Bb : Nat) (W W' : World) : Prop := Below n₀ W W' ∧ ∀ v, Boxed W Bb 72 v → Boxed W' Bb 72 v
theorem Kq.trans {n₀ Bb : Nat} {A B C : World} (h : Kq n₀ Bb A B) (k : Kq n₀ Bb B C) : Kq n₀ Bb A C := ⟨h.1.trans k.1, fun v hv => k.2 v (h.2 v hv)⟩
theorem Kq.put {n₀ Bb : Nat} {w : World} (hn : n₀ ≤ w.heap.size) (W : World) (l : Nat) (o o' : Obj) (hl : w.heap.size ≤ l) (h : W.heap[l]? = some o) (hc : o.isCells = false) (hw : o.isWalk = false) : Kq n₀ Bb W (W.putObj l o') :=
  ⟨belowK_b hn W l o o' hl h hc hw, fun v hv => hv.kept (grownBy_putObj' W l o') (fun e => by
    cases e
    rw [show W.heap[Bb]? = _ from hv] at h
    cases h
    cases hc)⟩
theorem Kq.refl (n₀ Bb : Nat) (W : World) : Kq n₀ Bb W W := ⟨Below.refl _ _, fun _ h => h⟩
theorem Kq.below {n₀ Bb : Nat} {W W' : World} (h : Below W.heap.size W W') (hn : n₀ ≤ W.heap.size) : Kq n₀ Bb W W' := ⟨h.mono hn, fun v hv => (h.block Bb hv.lt).trans hv⟩

/-- A table of which Get tells the entries of T, whatever is done above n₀. -/
def Gets (n₀ : Nat) (w : World) (pv : Value) (T : Nat → Option En) : Prop :=
  ∀ W, Below n₀ w W → ∀ k : Nat, k < 64 → Calls Tryd.prog 43 #[pv, .int .i64 (k : Int)] W fun e w' => e = .returned (.tuple #[ev ((T k).getD z0), .bool (T k).isSome]) ∧ Below W.heap.size W w'
theorem Gets.low {n₀ : Nat} {w W : World} {pv : Value} {T : Nat → Option En} (h : Gets n₀ w pv T) (hb : Below n₀ w W) : Gets n₀ W pv T := fun W' hb' k hk => h W' (hb.trans hb') k hk
theorem gets_mem {n₀ p : Nat} {w : World} {T : Nat → Option En} (h : Mem w p T) (hp : p < n₀) : Gets n₀ w (.pointer (some ⟨p, 0, none⟩)) T := fun W hb k hk => get_in W p T (h.low hb hp) k hk
theorem gets_nil (n₀ : Nat) (w : World) : Gets n₀ w (.pointer none) (fun _ => none) := fun W hb k hk => get_nil W (k : Int)

set_option maxRecDepth 100000 in
set_option maxHeartbeats 2000000 in
theorem entries1_in (n : Nat) (hn : 1 ≤ n) (l Bb n₀ : Nat) (pv : Value) (T : Nat → Option En) (enc : Nat × En → Array Value) (henc : ∀ k : Nat, k < 64 → ∀ e, enc (k, e) = #[.int .i64 (k : Int), ev e]) (J Jx : List (Nat × En) → World → Prop) (W : World) (hJ : AbidesFrom W.heap.size J)
    (hY : ∀ pre x W, J pre W → pre.length < 64 → YieldAt Fence.wide (n - 1) Tryd.prog l (enc x) W fun e W' =>
      (e = .returned (.bool true) ∧ J (pre ++ [x]) W' ∧ Kq n₀ Bb W W') ∨ (e = .returned (.bool false) ∧ Jx (pre ++ [x]) W'))
    (hn₀ : n₀ ≤ W.heap.size) (hM : Gets n₀ W pv T) (hB : Boxed W Bb 72 pv) (h0 : J [] W) :
    CallsIn Fence.wide n Tryd.prog 77 #[.func (.yield l) #[] #[], .pointer (some ⟨Bb, 0, none⟩)] W fun e W' => (∃ v, e = .returned v) ∧
      ((∃ ys, ys = ents T 64 ∧ J ys W') ∨ (∃ pre, (∃ k, k ≤ 64 ∧ pre = ents T k) ∧ Jx pre W')) := by
  refine callsIn_of_wp Tryd.func77 rfl trivial ?_ rfl
  simp only [Tryd.ntmps77, List.size_toArray, List.length_cons, List.length_nil, Nat.reduceAdd, Nat.reduceSub, Array.replicate_succ, Array.replicate_zero, List.push_toArray, List.append_toArray, List.nil_append, List.cons_append]
  gi_wp2
  refine wpIn_wide.2 (wp_scope_straight ((wpIn_wide (n := n)).1 ?_))
  gi_wp2
  refine wpIn_label ?_
  gi_wp2
  gi_loopw [6] (fun i wr => ∃ (k : Nat), k ≤ 64 ∧ i = .int .i64 (k : Int) ∧ J (ents T k) wr ∧ Kq n₀ Bb W wr)
    (fun i _ => 64 - (intOf i).toNat)
  case atStart => exact ⟨0, Nat.zero_le _, rfl, h0, Kq.refl _ _ _⟩
  case round =>
    obtain ⟨k, hk, rfl, hJs, hnx⟩ := hrel
    have hbB := hnx.2 _ hB
    have hcB := hbB.cell
    have hsz := hnx.1.size
    by_cases hlt : k < 64
    · have hlt' : (k : Int) < 64 := by omega
      have hg := hM wr hnx.1 k hlt
      cases hx : T k with
      | none =>
        rw [hx] at hg
        have hu := ents_none hx
        have HJ : Hid (∀ w', Below wr.heap.size wr w' → J (ents T k) w') := Lib.hid (fun w' hb => hJ _ _ _ none hJs (grown_below hb) (fun r e => by cases e))
        have HG := Lib.hid ((callsIn_wide (n := n - 1)).2 hg)
        clear hg hx
        gi_wp2_with (refine ⟨trivial, ?_⟩; refine HG.out.mono ?_; rintro e w9 ⟨rfl, hb9⟩)
        have hb8 := hb9.alloc hb9.size (.cells #[.int .i64 z0.f, .bool z0.w, .bool z0.s, .bool z0.c, .bool z0.d] 56)
        go_roundw
        case rel => exact ⟨k + 1, by omega, by go_num, by rw [hu]; exact HJ.out _ hb8, hnx.trans (Kq.below hb8 (by omega))⟩
        case measure => simp [intOf]; omega
      | some x =>
        rw [hx] at hg
        have hu := ents_some hx
        have HJ : Hid (∀ w', Below wr.heap.size wr w' → J (ents T k) w') := Lib.hid (fun w' hb => hJ _ _ _ none hJs (grown_below hb) (fun r e => by cases e))
        have HG := Lib.hid ((callsIn_wide (n := n - 1)).2 hg)
        have HY : Hid (∀ w', Below wr.heap.size wr w' → YieldAt Fence.wide (n - 1) Tryd.prog l (enc (k, x)) w' fun e W' => (e = .returned (.bool true) ∧ J (ents T k ++ [(k, x)]) W' ∧ Kq n₀ Bb w' W') ∨ (e = .returned (.bool false) ∧ Jx (ents T k ++ [(k, x)]) W')) := Lib.hid (fun w' hb => hY _ (k, x) w' (HJ.out w' hb) (Nat.lt_of_le_of_lt (ents_len T k) hlt))
        clear hg hx hY
        gi_wp2_with (refine ⟨trivial, ?_⟩; refine HG.out.mono ?_; rintro e w9 ⟨rfl, hb9⟩; have hb8 := hb9.alloc hb9.size (.cells #[.int .i64 x.f, .bool x.w, .bool x.s, .bool x.c, .bool x.d] 56); obtain ⟨fn, tmps, assign, body, hy, hR2⟩ := HY.out _ hb8; rw [henc k hlt x] at hy; replace hb8 := Lib.hid hb8; replace hb9 := Lib.hid hb9)
        refine hR2.mono ?_
        rintro e W3 (⟨rfl, hJ3, hk3⟩ | ⟨rfl, hJx3⟩)
        · gi_wp2
          go_roundw
          case rel => exact ⟨k + 1, by omega, by go_num, by rw [hu]; exact hJ3, hnx.trans ((Kq.below hb8.out (by omega)).trans hk3)⟩
          case measure => simp [intOf]; omega
        · gi_wp2
          rw [Exit.noGoto_ret]
          refine bodyPost_ret (results_none rfl _ _ _) rfl ?_
          exact ⟨⟨_, rfl⟩, .inr ⟨_, ⟨k + 1, by omega, hu.symm⟩, hJx3⟩⟩
    · obtain rfl : k = 64 := by omega
      gi_wp2
      rw [Exit.noGoto_normal]
      go_end0
      exact ⟨⟨_, rfl⟩, .inl ⟨_, rfl, hJs⟩⟩
theorem entries_in (n : Nat) (a : Option Addr) (w : World) :
    CallsIn Fence.wide n Tryd.prog 70 #[.pointer a] w fun e w' => e = .returned (.func (.func 77) #[] #[.pointer (some ⟨w.heap.size, 0, none⟩)]) ∧ w' = w.alloc (.cells #[.pointer a] 72) := by
  refine callsIn_of_wp Tryd.func70 rfl trivial ?_ rfl
  simp only [Tryd.ntmps70, List.size_toArray, List.length_cons, List.length_nil, Nat.reduceAdd, Nat.reduceSub, Array.replicate_succ, Array.replicate_zero, List.push_toArray, List.append_toArray, List.nil_append, List.cons_append]
  gi_wp2
  go_ret
  exact ⟨rfl, rfl⟩
/-- All entries come, rising, or a first part of them. n₀: what lay there when the loop's function began. -/
theorem entries_stops (n : Nat) (hn : 1 ≤ n) (Bb n₀ : Nat) (pv : Value) (T : Nat → Option En) (enc : Nat × En → Array Value) (henc : ∀ k : Nat, k < 64 → ∀ e, enc (k, e) = #[.int .i64 (k : Int), ev e]) (w : World) (hn₀ : n₀ ≤ w.heap.size) (hM : Gets n₀ w pv T) (hc : Boxed w Bb 72 pv) :
    SeqStopsK Fence.wide n Tryd.prog 77 #[.pointer (some ⟨Bb, 0, none⟩)] enc (Kq n₀ Bb) (fun ys => ys = ents T 64) (fun pre => ∃ k, k ≤ 64 ∧ pre = ents T k) 64 w := fun l J Jx W hW hJ _ hY hJ0 =>
  entries1_in n hn l Bb n₀ pv T enc henc J Jx W hJ hY (Nat.le_trans hn₀ hW.size) (hM.low (hW.mono hn₀)) ((hW.block Bb hc.lt).trans hc) hJ0
end Go.Proofs.YtjoapeeljigjcaaDoor.Ti
