/-
  The iterator waiting of a pipe: it tells of each side whether it has to wait.
-/
import Derived.Test.YtfpdbcjnhgddoaaPm
import Derived.RangeFuncNested
import Derived.RangeFuncBound
import Derived.RangeFuncCalls
import Derived.RangeFuncLeaves
import Derived.Shelf.Abstract
import Derived.Shelf.RegionOpen
import Derived.OwnWalkIn
import Derived.TacticsInMore
import Derived.LoopNIn
import Derived.LoopIn
namespace Go.Proofs.Ytfpdbcjnhgddoaa.Pw
open Go Go.RowKit Go.Shelf Kit Bk Rgm Rgt Rgw Rgp Rgn Rst Pm
set_option linter.unusedVariables false
attribute [local go_sem] Oper.semAt_some

/-- Whether a side has to wait. -/
def mr (xs : List Nat) (U : Nat) : Bool := ((xs.length : Int) == 0) && decide ((0 : Int) < (U : Int))
def mw (C : Nat) (xs : List Nat) (R : Nat) : Bool := (((C - xs.length : Nat) : Int) == 0) && decide ((0 : Int) < (R : Int))
/-- The sides, each with whether it has to wait: the first k. -/
def wl (a b : Bool) : Nat → List (Nat × Bool)
  | 0 => []
  | 1 => [(0, a)]
  | _ => [(0, a), (1, b)]
def encw (x : Nat × Bool) : Array Value := #[.int .i64 (x.1 : Int), .bool x.2]
/-- What a round that goes on keeps: what lay below n₀, and the iterator's own box. -/
def Kw (n₀ Bb : Nat) (W W' : World) : Prop := Below n₀ W W' ∧ ∀ v, Boxed W Bb 27 v → Boxed W' Bb 27 v
theorem Kw.trans {n₀ Bb : Nat} {A B C : World} (h : Kw n₀ Bb A B) (k : Kw n₀ Bb B C) : Kw n₀ Bb A C := ⟨h.1.trans k.1, fun v hv => k.2 v (h.2 v hv)⟩
theorem Kw.put {n₀ Bb : Nat} {w : World} (hn : n₀ ≤ w.heap.size) (W : World) (l : Nat) (o o' : Obj) (hl : w.heap.size ≤ l) (h : W.heap[l]? = some o) (hc : o.isCells = false) (hw : o.isWalk = false) : Kw n₀ Bb W (W.putObj l o') :=
  ⟨belowK_b hn W l o o' hl h hc hw, fun v hv => hv.kept (grownBy_putObj' W l o') (fun e => by
    cases e
    rw [show W.heap[Bb]? = _ from hv] at h
    cases h
    cases hc)⟩
theorem Kw.refl (n₀ Bb : Nat) (W : World) : Kw n₀ Bb W W := ⟨Below.refl _ _, fun _ h => h⟩
theorem Kw.below {n₀ Bb : Nat} {W W' : World} (h : Below W.heap.size W W') (hn : n₀ ≤ W.heap.size) : Kw n₀ Bb W W' := ⟨h.mono hn, fun v hv => (h.block Bb hv.lt).trans hv⟩

theorem ix0 (A B : Int) (w : World) : (Instr.index 63 (.agg #[.int .i64 A, .int .i64 B]) (.int .i64 0)).run Try.prog w = .ok (.int .i64 A) w := by kernel_rfl
theorem ix1 (A B : Int) (w : World) : (Instr.index 63 (.agg #[.int .i64 A, .int .i64 B]) (.int .i64 1)).run Try.prog w = .ok (.int .i64 B) w := by kernel_rfl
attribute [local go_sem] ix0 ix1
/-- A region that goes on, and in no other way. -/
def Only (K : Act → World → Prop) : Exit → Act → World → Prop
  | .normal, a, w => K a w
  | _, _, _ => False
/-- A pipe of which the iterator needs these alone, whatever is done above n₀. -/
structure Sees (n₀ : Nat) (w : World) (p r : Nat) (L G R U : Int) : Prop where
  held : ∀ W, Below n₀ w W → Calls Try.prog 45 #[.pointer (some ⟨p, 0, none⟩)] W fun e w' => e = .returned (.pointer (some ⟨r, 0, none⟩)) ∧ W = w'
  len : ∀ W, Below n₀ w W → Calls Try.prog 39 #[.pointer (some ⟨r, 0, none⟩)] W fun e w' => e = .returned (.int .i64 L) ∧ W = w'
  room : ∀ W, Below n₀ w W → Calls Try.prog 49 #[.pointer (some ⟨r, 0, none⟩)] W fun e w' => e = .returned (.int .i64 G) ∧ W = w'
  rd : ∀ W, Below n₀ w W → Calls Try.prog 35 #[.pointer (some ⟨p, 0, none⟩), .int .i64 0] W fun e w' => e = .returned (.int .i64 R) ∧ W = w'
  wr : ∀ W, Below n₀ w W → Calls Try.prog 35 #[.pointer (some ⟨p, 0, none⟩), .int .i64 1] W fun e w' => e = .returned (.int .i64 U) ∧ W = w'
theorem Sees.low {n₀ : Nat} {w w' : World} {p r : Nat} {L G R U : Int} (h : Sees n₀ w p r L G R U) (hb : Below n₀ w w') : Sees n₀ w' p r L G R U :=
  ⟨fun W k => h.held W (hb.trans k), fun W k => h.len W (hb.trans k), fun W k => h.room W (hb.trans k), fun W k => h.rd W (hb.trans k), fun W k => h.wr W (hb.trans k)⟩
theorem sees_pipe {n₀ : Nat} {w : World} {p r C : Nat} {xs : List Nat} {R U : Nat} (h : Pp w p r C xs R U) (hp : p < n₀) (hr : r < n₀) : Sees n₀ w p r (xs.length : Int) ((C - xs.length : Nat) : Int) (R : Int) (U : Int) := by
  have hb : ∀ W, Below n₀ w W → Blk W p #[.pointer (some ⟨r, 0, none⟩), .int .i64 (R : Int), .int .i64 (U : Int)] 65 ∧ Rg W r C xs := fun W k => ⟨(k.block p hp).trans h.blk, h.ring.low k hr⟩
  exact ⟨fun W k => held_blk W p _ _ _ (hb W k).1, fun W k => len_any W r C xs (hb W k).2, fun W k => room_any W r C xs (hb W k).2, fun W k => count_rd W p r _ _ (hb W k).1, fun W k => count_wr W p r _ _ (hb W k).1⟩

set_option maxRecDepth 100000 in
set_option maxHeartbeats 4000000 in
theorem waiting1_in (n : Nat) (hn : 1 ≤ n) (l Bb n₀ p r : Nat) (L G R U : Int) (J Jx : List (Nat × Bool) → World → Prop) (W : World) (hJ : AbidesFrom W.heap.size J)
    (hY : ∀ pre x W, J pre W → pre.length < 2 → YieldAt Fence.wide (n - 1) Try.prog l (encw x) W fun e W' =>
      (e = .returned (.bool true) ∧ J (pre ++ [x]) W' ∧ Kw n₀ Bb W W') ∨ (e = .returned (.bool false) ∧ Jx (pre ++ [x]) W'))
    (hn₀ : n₀ ≤ W.heap.size) (hS : Sees n₀ W p r L G R U) (hB : Boxed W Bb 27 (.pointer (some ⟨p, 0, none⟩))) (h0 : J [] W) :
    CallsIn Fence.wide n Try.prog 53 #[.func (.yield l) #[] #[], .pointer (some ⟨Bb, 0, none⟩)] W fun e W' => (∃ v, e = .returned v) ∧
      ((∃ ys, ys = wl (L == 0 && decide (0 < U)) (G == 0 && decide (0 < R)) 2 ∧ J ys W') ∨ (∃ pre, (∃ k, k ≤ 2 ∧ pre = wl (L == 0 && decide (0 < U)) (G == 0 && decide (0 < R)) k) ∧ Jx pre W')) := by
  have hmx : Try.prog.follows .mixedOrders = true := by kernel_rfl
  have HS := Lib.hid hS
  have hcB0 := hB.cell
  have B0 : Hid (Below n₀ W W.drew) := Lib.hid (Below.refl _ _).drew
  have HN := Lib.hid hn₀
  have B1 : Hid (∀ cs, Below n₀ W (W.drew.alloc (.cells cs 63))) := Lib.hid (fun cs => (Below.refl _ _).drew.alloc HN.out _)
  have HK : Hid (∀ X, Below W.heap.size W X → X.cell? ⟨Bb, 0, none⟩ = some (.pointer (some ⟨p, 0, none⟩))) := Lib.hid (fun X hX => (Boxed.cell ((hX.block Bb hB.lt).trans hB)))
  refine callsIn_of_wp Try.func53 rfl trivial ?_ rfl
  simp only [Try.ntmps53, List.size_toArray, List.length_cons, List.length_nil, Nat.reduceAdd, Nat.reduceSub, Array.replicate_succ, Array.replicate_zero, List.push_toArray, List.append_toArray, List.nil_append, List.cons_append]
  gi_wp2
  refine wpIn_mono (Q := Only (fun a' Wf => a' = { tmps := #[.func (.yield l) #[] #[], .pointer (some ⟨Bb, 0, none⟩), undef, .pointer (some ⟨W.heap.size, 0, none⟩), undef, undef, .pointer (some ⟨p, 0, none⟩), .pointer (some ⟨r, 0, none⟩), .int .i64 L, .pointer (some ⟨p, 0, none⟩), .pointer (some ⟨r, 0, none⟩), .int .i64 G, .agg #[.int .i64 L, .int .i64 G], undef, undef, undef, undef, undef, undef, undef, undef, undef, undef, undef, undef, undef, undef, undef, undef, undef, undef, undef], defers := [] } ∧ Below W.heap.size W Wf ∧ Blk Wf W.heap.size #[.int .i64 L, .int .i64 G] 63)) ((wpIn_wide (n := n)).2 ?_) ?_
  · clear hcB0 hB hY hJ h0
    go_region_held (fun X => X.cell? ⟨Bb, 0, none⟩ = some (.pointer (some ⟨p, 0, none⟩)) ∧ Below n₀ W X) (first | exact ⟨HK.out _ (by repeat' (first | exact Below.refl _ _ | refine Below.drew ?_ | refine Below.alloc ?_ (Nat.le_refl _) _)), (by repeat' (first | exact Below.refl _ _ | refine Below.drew ?_ | refine Below.alloc ?_ HN.out _))⟩) (first | (go_at_call 45; (with_reducible refine (HS.out.held _ (by repeat' (first | exact Below.refl _ _ | refine Below.drew ?_ | refine Below.alloc ?_ HN.out _))).mono ?_); rintro e w9 ⟨rfl, rfl⟩) | (go_at_call 39; (with_reducible refine (HS.out.len _ (by repeat' (first | exact Below.refl _ _ | refine Below.drew ?_ | refine Below.alloc ?_ HN.out _))).mono ?_); rintro e w9 ⟨rfl, rfl⟩) | (go_at_call 49; (with_reducible refine (HS.out.room _ (by repeat' (first | exact Below.refl _ _ | refine Below.drew ?_ | refine Below.alloc ?_ HN.out _))).mono ?_); rintro e w9 ⟨rfl, rfl⟩))
    all_goals exact ⟨rfl, (by repeat' (first | exact Below.refl _ _ | refine Below.drew ?_ | refine Below.alloc ?_ (Nat.le_refl _) _)), Blk.new _ _ _⟩
  · intro e a X hq
    cases e <;> first | exact hq.elim | skip
    obtain ⟨rfl, hbX, hblk⟩ := hq
    have c0 := hblk.cell 0
    have c1 := hblk.cell 1
    have HX : Hid (Below n₀ W X ∧ Kw n₀ Bb W X) := Lib.hid ⟨hbX.mono HN.out, Kw.below hbX HN.out⟩
    have hJX : J [] X := hJ _ _ _ none h0 (grown_below hbX) (fun r e => by cases e)
    have HJ := Lib.hid hJX
    have HBX : Hid (Boxed X Bb 27 (.pointer (some ⟨p, 0, none⟩))) := Lib.hid ((hbX.block Bb hB.lt).trans hB)
    have hsX := hbX.size
    clear hcB0 h0 hJX HK B1 B0
    show _
    gi_wp2
    clear hblk c0 c1 hB hbX
    gi_loopw [14] (fun i wr => ∃ (k : Nat) (z : Int), k ≤ 2 ∧ z = (k : Int) ∧ i = .int .i64 z ∧ J (wl (L == 0 && decide (0 < U)) (G == 0 && decide (0 < R)) k) wr ∧ Kw n₀ Bb X wr)
      (fun i _ => 2 - (intOf i).toNat)
    case atStart => exact ⟨0, 0, Nat.zero_le _, rfl, rfl, HJ.out, Kw.refl _ _ _⟩
    case round =>
    obtain ⟨k, z, hk, hz, rfl, hJs, hnx⟩ := hrel
    have hk3 : k = 0 ∨ k = 1 ∨ k = 2 := by omega
    rcases hk3 with rfl | rfl | rfl

    · -- side 0
      obtain rfl : z = 0 := hz
      have hbB := hnx.2 _ HBX.out
      have hcB := hbB.cell
      have hsz := hnx.1.size
      have hJd : J (wl (L == 0 && decide (0 < U)) (G == 0 && decide (0 < R)) 0) wr.drew := hJ _ _ _ none hJs (grown_below (Below.refl _ _).drew) (fun r e => by cases e)
      obtain ⟨fn, tmps, assign, body, hy, hR2⟩ := hY _ (0, (L == 0 && decide (0 < U))) wr.drew hJd (by simp [wl])
      dsimp only [encw] at hy
      simp only [Int.natCast_zero] at hy
      have hR3 := hR2.mono (R' := fun e W' => ∃ b : Bool, e = .returned (.bool b) ∧ ((b = true ∧ J (wl (L == 0 && decide (0 < U)) (G == 0 && decide (0 < R)) 1) W' ∧ Kw n₀ Bb wr W') ∨ (b = false ∧ Jx (wl (L == 0 && decide (0 < U)) (G == 0 && decide (0 < R)) 1) W'))) (by
        rintro e W3 (⟨rfl, h1, h2⟩ | ⟨rfl, h1⟩)
        · exact ⟨true, rfl, .inl ⟨rfl, h1, (Kw.below (Below.refl _ _).drew (by omega)).trans h2⟩⟩
        · exact ⟨false, rfl, .inr ⟨rfl, h1⟩⟩)
      have HR := Lib.hid hR3
      have HSr := Lib.hid (HS.out.low (HX.out.1.trans hnx.1))
      have HC : Hid (∀ Y, Below n₀ wr Y → CallsIn Fence.wide (n - 1) Try.prog 35 #[.pointer (some ⟨p, 0, none⟩), .int .i64 1] Y fun e w' => e = .returned (.int .i64 U) ∧ Y = w') := Lib.hid (fun Y k => (callsIn_wide (n := n - 1)).2 (HSr.out.wr Y k))
      have HO : Hid (∀ Y, CallsIn Fence.wide (n - 1) Try.prog 54 #[.int .i64 0] Y fun e w' => e = .returned (.int .i64 1) ∧ Y = w') := Lib.hid (fun Y => (callsIn_wide (n := n - 1)).2 (other_rd Y))
      have HNx := Lib.hid hnx
      have BD : Hid (Below n₀ wr wr.drew) := Lib.hid (Below.refl _ _).drew
      clear hR2 hR3 hJd hJs hbB hsz hnx hY
      by_cases z : L = 0
      · have dz : (L == 0) = true := by simp [z]
        clear z
        rw [dz, Bool.true_and] at hy
        obtain ⟨M, hM⟩ : ∃ M, decide (0 < U) = M := ⟨_, rfl⟩
        rw [hM] at hy
        gi_wp2
        gi_region_with_o (first | (refine ⟨trivial, ?_⟩; refine (HO.out _).mono ?_; rintro e w9 ⟨rfl, rfl⟩) | (refine ⟨trivial, ?_⟩; refine (HC.out _ BD.out).mono ?_; rintro e w9 ⟨rfl, rfl⟩) | (refine HR.out.mono ?_; rintro e W3 ⟨b, rfl, hb3⟩))
        all_goals
          rcases hb3 with ⟨rfl, h1, h2⟩ | ⟨rfl, h1⟩
          · gi_wp2
            go_roundw
            case rel => exact ⟨1, 1, by omega, rfl, by go_num, h1, HNx.out.trans h2⟩
            case measure => simp [intOf]
          · gi_wp2
            refine bodyPost_ret (results_none rfl _ _ _) rfl ?_
            exact ⟨⟨_, rfl⟩, .inr ⟨_, ⟨1, by omega, rfl⟩, h1⟩⟩
      · have dz : (L == 0) = false := by simp [z]
        clear z
        rw [dz, Bool.false_and] at hy
        gi_wp2
        first | (gi_region_with_o (first | (refine HR.out.mono ?_; rintro e W3 ⟨b, rfl, hb3⟩) | (refine ⟨trivial, ?_⟩))) | fail
        all_goals
          rcases hb3 with ⟨rfl, h1, h2⟩ | ⟨rfl, h1⟩
          · gi_wp2
            go_roundw
            case rel => exact ⟨1, 1, by omega, rfl, by go_num, h1, HNx.out.trans h2⟩
            case measure => simp [intOf]
          · gi_wp2
            refine bodyPost_ret (results_none rfl _ _ _) rfl ?_
            exact ⟨⟨_, rfl⟩, .inr ⟨_, ⟨1, by omega, rfl⟩, h1⟩⟩

    · -- side 1
      obtain rfl : z = 1 := hz
      have hbB := hnx.2 _ HBX.out
      have hcB := hbB.cell
      have hsz := hnx.1.size
      have hJd : J (wl (L == 0 && decide (0 < U)) (G == 0 && decide (0 < R)) 1) wr.drew := hJ _ _ _ none hJs (grown_below (Below.refl _ _).drew) (fun r e => by cases e)
      obtain ⟨fn, tmps, assign, body, hy, hR2⟩ := hY _ (1, (G == 0 && decide (0 < R))) wr.drew hJd (by simp [wl])
      dsimp only [encw] at hy
      simp only [Int.natCast_one] at hy
      have hR3 := hR2.mono (R' := fun e W' => ∃ b : Bool, e = .returned (.bool b) ∧ ((b = true ∧ J (wl (L == 0 && decide (0 < U)) (G == 0 && decide (0 < R)) 2) W' ∧ Kw n₀ Bb wr W') ∨ (b = false ∧ Jx (wl (L == 0 && decide (0 < U)) (G == 0 && decide (0 < R)) 2) W'))) (by
        rintro e W3 (⟨rfl, h1, h2⟩ | ⟨rfl, h1⟩)
        · exact ⟨true, rfl, .inl ⟨rfl, h1, (Kw.below (Below.refl _ _).drew (by omega)).trans h2⟩⟩
        · exact ⟨false, rfl, .inr ⟨rfl, h1⟩⟩)
      have HR := Lib.hid hR3
      have HSr := Lib.hid (HS.out.low (HX.out.1.trans hnx.1))
      have HC : Hid (∀ Y, Below n₀ wr Y → CallsIn Fence.wide (n - 1) Try.prog 35 #[.pointer (some ⟨p, 0, none⟩), .int .i64 0] Y fun e w' => e = .returned (.int .i64 R) ∧ Y = w') := Lib.hid (fun Y k => (callsIn_wide (n := n - 1)).2 (HSr.out.rd Y k))
      have HO : Hid (∀ Y, CallsIn Fence.wide (n - 1) Try.prog 54 #[.int .i64 1] Y fun e w' => e = .returned (.int .i64 0) ∧ Y = w') := Lib.hid (fun Y => (callsIn_wide (n := n - 1)).2 (other_wr Y))
      have HNx := Lib.hid hnx
      have BD : Hid (Below n₀ wr wr.drew) := Lib.hid (Below.refl _ _).drew
      clear hR2 hR3 hJd hJs hbB hsz hnx hY
      by_cases z : G = 0
      · have dz : (G == 0) = true := by simp [z]
        clear z
        rw [dz, Bool.true_and] at hy
        obtain ⟨M, hM⟩ : ∃ M, decide (0 < R) = M := ⟨_, rfl⟩
        rw [hM] at hy
        gi_wp2
        gi_region_with_o (first | (refine ⟨trivial, ?_⟩; refine (HO.out _).mono ?_; rintro e w9 ⟨rfl, rfl⟩) | (refine ⟨trivial, ?_⟩; refine (HC.out _ BD.out).mono ?_; rintro e w9 ⟨rfl, rfl⟩) | (refine HR.out.mono ?_; rintro e W3 ⟨b, rfl, hb3⟩))
        all_goals
          rcases hb3 with ⟨rfl, h1, h2⟩ | ⟨rfl, h1⟩
          · gi_wp2
            go_roundw
            case rel => exact ⟨2, 2, by omega, rfl, by go_num, h1, HNx.out.trans h2⟩
            case measure => simp [intOf]
          · gi_wp2
            refine bodyPost_ret (results_none rfl _ _ _) rfl ?_
            exact ⟨⟨_, rfl⟩, .inr ⟨_, ⟨2, by omega, rfl⟩, h1⟩⟩
      · have dz : (G == 0) = false := by simp [z]
        clear z
        rw [dz, Bool.false_and] at hy
        gi_wp2
        first | (gi_region_with_o (first | (refine HR.out.mono ?_; rintro e W3 ⟨b, rfl, hb3⟩) | (refine ⟨trivial, ?_⟩))) | fail
        all_goals
          rcases hb3 with ⟨rfl, h1, h2⟩ | ⟨rfl, h1⟩
          · gi_wp2
            go_roundw
            case rel => exact ⟨2, 2, by omega, rfl, by go_num, h1, HNx.out.trans h2⟩
            case measure => simp [intOf]
          · gi_wp2
            refine bodyPost_ret (results_none rfl _ _ _) rfl ?_
            exact ⟨⟨_, rfl⟩, .inr ⟨_, ⟨2, by omega, rfl⟩, h1⟩⟩

    · obtain rfl : z = 2 := hz
      gi_wp2
      go_end0
      exact ⟨⟨_, rfl⟩, .inl ⟨_, rfl, hJs⟩⟩
end Go.Proofs.Ytfpdbcjnhgddoaa.Pw
