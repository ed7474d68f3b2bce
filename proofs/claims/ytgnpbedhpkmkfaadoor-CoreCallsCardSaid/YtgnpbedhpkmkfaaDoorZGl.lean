/-
  What layer 2's small functions come to: isPart and wrap, and the document's part and wrap; for any float64, any whole number.
-/
import Derived.Test.YtgnpbedhpkmkfaaDoorKit
import Derived.Test.YtgnpbedhpkmkfaaDoorZFw
import Derived.WalkKit
import Derived.WalkLawsBesides
import Derived.Deep.QuietTactic
import Derived.BigQuiet
import Derived.Lib.Hide
import Derived.IntWalk
import Derived.RangeFuncNested
import Derived.RangeFuncBound
import Derived.RangeFuncCalls
import Derived.RangeFuncLeaves
import Derived.Shelf.Abstract
import Derived.Shelf.RegionOpen
import Derived.OwnWalkIn
import Derived.TacticsInMore
import Derived.LoopNIn
import Derived.LoopIn
import Derived.Maps.AppendAt
namespace Go.Proofs.YtgnpbedhpkmkfaaDoor.Gleaf
open Go Go.RowKit Kit Fl Whole
set_option linter.unusedVariables false

/-- The part that a whole number wraps to. -/
def wr (n : Int) : Int := (n + 524288) % 1048576 - 524288
theorem wr_range (n : Int) : -524288 ≤ wr n ∧ wr n ≤ 524287 := by unfold wr; omega
theorem wr_id {n : Int} (h : -524288 ≤ n ∧ n ≤ 524287) : wr n = n := by unfold wr; omega
theorem wr_congr {a b : Int} (h : a % 1048576 = b % 1048576) : wr a = wr b := by unfold wr; omega
theorem wr_mod (n : Int) : wr n % 1048576 = n % 1048576 := by unfold wr; omega

theorem i64_low20 (n : Int) : bits .and .i64 n 1048575 = n % 1048576 := by
  have h127 : (BitVec.ofInt 64 1048575).toNat = 2 ^ 20 - 1 := by decide
  have key : (BitVec.ofInt 64 n &&& BitVec.ofInt 64 1048575).toNat = (n % ((2 ^ 64 : Nat) : Int)).toNat % 2 ^ 20 := by
    rw [BitVec.toNat_and, BitVec.toNat_ofInt, h127, Nat.and_two_pow_sub_one_eq_mod]
  show IntKind.i64.wrap ((BitVec.ofInt 64 n &&& BitVec.ofInt 64 1048575).toNat : Nat) = n % 1048576
  rw [key, IntKind.wrap_i64]
  omega

theorem wrap_any (n : Int) (w : World) :
    Calls Tryd.prog 66 #[.int .i64 n] w fun e w' => e = .returned (.int .i64 (wr n)) ∧ w = w' := by
  have hb := fun x => i64_low20 x
  go_enter Tryd.func66, Tryd.ntmps66
  go_wp2
  go_ret
  exact ⟨ret_int (by unfold wr; simp only [wrap64]; omega), rfl⟩

theorem conv_of {b : Nat} {v : Int} (h : whl b = some v) (wx : World) : (convert 65 2 (.float .f64 b)).run Tryd.prog wx = .ok (.int .i64 v) wx := by
  cases tests b with
  | yes n hw h1 h2 h3 h4 h5 h6 h7 =>
    rw [hw] at h
    cases h
    exact run_convert_float_int wx _ _ _ _ _ _ (by kernel_rfl) Tryd.underlying2 h4
  | nan hw => rw [hw] at h; cases h
  | low hw => rw [hw] at h; cases h
  | high hw => rw [hw] at h; cases h
  | near hw => rw [hw] at h; cases h
  | part n hn hw => rw [hw] at h; cases h

theorem isPart_any (b : Nat) (w : World) :
    Calls Tryd.prog 100 #[.float .f64 b] w fun e w' => e = .returned (.bool (whl b).isSome) ∧ w = w' := by
  have hcv : ∀ n : Int, floatToIntVal .f64 b .i64 = some n → ∀ wx, (convert 65 2 (.float .f64 b)).run Tryd.prog wx = .ok (.int .i64 n) wx := fun n h wx => run_convert_float_int wx _ _ _ _ b n (by kernel_rfl) Tryd.underlying2 h
  cases tests b with
  | yes n hw h1 h2 h3 h4 h5 h6 h7 =>
    have hc := hcv n h4
    have t1 : (FloatKind.f64.format.order b 13916122848574832640 == some .gt || FloatKind.f64.format.order b 13916122848574832640 == some .eq) = true := by
      change (od b 13916122848574832640 == some .gt || od b 13916122848574832640 == some .eq) = true
      rcases h1 with h | h <;> rw [h] <;> rfl
    have t2 : FloatKind.f64.format.order b 4692750811720056832 = some .lt := h2
    have t3 : FloatKind.f64.format.order b (floatOfInt .f64 n) = some .eq := h5
    clear hcv h1 h2 h3 h4 h5 h6 h7
    go_enter Tryd.func100, Tryd.ntmps100
    go_wp2
    go_ret
    exact ⟨by rw [hw]; rfl, rfl⟩
  | nan hw h1 h7 =>
    have t1 : FloatKind.f64.format.order b 13916122848574832640 = none := h1
    clear hcv h1 h7
    go_enter Tryd.func100, Tryd.ntmps100
    go_wp2
    go_ret
    exact ⟨by rw [hw]; rfl, rfl⟩
  | low hw h1 h7 =>
    have t1 : FloatKind.f64.format.order b 13916122848574832640 = some .lt := h1
    clear hcv h1 h7
    go_enter Tryd.func100, Tryd.ntmps100
    go_wp2
    go_ret
    exact ⟨by rw [hw]; rfl, rfl⟩
  | high hw h1 h2 h3 h7 =>
    have t1 : FloatKind.f64.format.order b 13916122848574832640 = some .gt := h1
    have t2 : (FloatKind.f64.format.order b 4692750811720056832 == some .lt) = false := by
      change (od b 4692750811720056832 == some .lt) = false
      rcases h2 with h | h <;> rw [h] <;> rfl
    clear hcv h1 h2 h3 h7
    go_enter Tryd.func100, Tryd.ntmps100
    go_wp2
    go_ret
    exact ⟨by rw [hw]; rfl, rfl⟩
  | near hw h1 h2 h3 h4 h5 h7 =>
    have hc := hcv _ h4
    have t1 : FloatKind.f64.format.order b 13916122848574832640 = some .gt := h1
    have t2 : FloatKind.f64.format.order b 4692750811720056832 = some .lt := h2
    have t3 : FloatKind.f64.format.order b (floatOfInt .f64 524287) = some .gt := h5
    clear hcv h1 h2 h3 h4 h5 h7
    go_enter Tryd.func100, Tryd.ntmps100
    go_wp2
    go_ret
    exact ⟨by rw [hw]; rfl, rfl⟩
  | part n hn hw h1 h2 h3 h4 h5 h6 h7 =>
    have hc := hcv _ h4
    have t1 : FloatKind.f64.format.order b 13916122848574832640 = some .gt := h1
    have t2 : FloatKind.f64.format.order b 4692750811720056832 = some .lt := h2
    have t3 : (FloatKind.f64.format.order b (floatOfInt .f64 n) == some .eq) = false := by
      change (od b (fl n) == some .eq) = false
      rcases h5 with h | h <;> rw [h] <;> rfl
    clear hcv h1 h2 h3 h4 h5 h6 h7 hn
    go_enter Tryd.func100, Tryd.ntmps100
    go_wp2
    go_ret
    exact ⟨by rw [hw]; rfl, rfl⟩

/-- What the document's part answers: a whole number, and whether it is the float. -/
def PartR (b : Nat) (e : Ending) : Prop := ∃ n : Int, e = .returned (.tuple #[.int .i64 n, .bool (whl b).isSome]) ∧ ∀ m, whl b = some m → n = m
theorem rpart_any (b : Nat) (w : World) :
    Calls Tryd.prog 57 #[.float .f64 b] w fun e w' => PartR b e ∧ w = w' := by
  have hcv : ∀ n : Int, floatToIntVal .f64 b .i64 = some n → ∀ wx, (convert 65 2 (.float .f64 b)).run Tryd.prog wx = .ok (.int .i64 n) wx := fun n h wx => run_convert_float_int wx _ _ _ _ b n (by kernel_rfl) Tryd.underlying2 h
  cases tests b with
  | yes n hw h1 h2 h3 h4 h5 h6 h7 =>
    have hc := hcv n h4
    have t0 : FloatKind.f64.format.order b b = some .eq := h7
    have t1 : (FloatKind.f64.format.order b 13916122848574832640 == some .lt) = false := by
      change (od b 13916122848574832640 == some .lt) = false
      rcases h1 with h | h <;> rw [h] <;> rfl
    have t2 : (FloatKind.f64.format.order b 4692750794540187648 == some .gt) = false := by
      change (od b 4692750794540187648 == some .gt) = false
      rcases h3 with h | h <;> rw [h] <;> rfl
    have t3 : FloatKind.f64.format.order (floatOfInt .f64 n) b = some .eq := h6
    clear hcv h1 h2 h3 h4 h5 h6 h7
    go_enter Tryd.func57, Tryd.ntmps57
    go_wp2
    go_ret2
    exact ⟨⟨n, by rw [hw]; rfl, fun m h => by rw [hw] at h; exact Option.some.inj h⟩, rfl⟩
  | nan hw h1 h7 =>
    have t0 : FloatKind.f64.format.order b b = none := h7
    clear hcv h1 h7
    go_enter Tryd.func57, Tryd.ntmps57
    go_wp2
    go_ret2
    exact ⟨⟨0, by rw [hw]; rfl, fun m h => by rw [hw] at h; cases h⟩, rfl⟩
  | low hw h1 h7 =>
    have t0 : FloatKind.f64.format.order b b = some .eq := h7
    have t1 : FloatKind.f64.format.order b 13916122848574832640 = some .lt := h1
    clear hcv h1 h7
    go_enter Tryd.func57, Tryd.ntmps57
    go_wp2
    go_ret2
    exact ⟨⟨0, by rw [hw]; rfl, fun m h => by rw [hw] at h; cases h⟩, rfl⟩
  | high hw h1 h2 h3 h7 =>
    have t0 : FloatKind.f64.format.order b b = some .eq := h7
    have t1 : FloatKind.f64.format.order b 13916122848574832640 = some .gt := h1
    have t2 : FloatKind.f64.format.order b 4692750794540187648 = some .gt := h3
    clear hcv h1 h2 h3 h7
    go_enter Tryd.func57, Tryd.ntmps57
    go_wp2
    go_ret2
    exact ⟨⟨0, by rw [hw]; rfl, fun m h => by rw [hw] at h; cases h⟩, rfl⟩
  | near hw h1 h2 h3 h4 h5 h7 =>
    have t0 : FloatKind.f64.format.order b b = some .eq := h7
    have t1 : FloatKind.f64.format.order b 13916122848574832640 = some .gt := h1
    have t2 : FloatKind.f64.format.order b 4692750794540187648 = some .gt := h3
    clear hcv h1 h2 h3 h4 h5 h7
    go_enter Tryd.func57, Tryd.ntmps57
    go_wp2
    go_ret2
    exact ⟨⟨0, by rw [hw]; rfl, fun m h => by rw [hw] at h; cases h⟩, rfl⟩
  | part n hn hw h1 h2 h3 h4 h5 h6 h7 =>
    have hc := hcv _ h4
    have t0 : FloatKind.f64.format.order b b = some .eq := h7
    have t1 : FloatKind.f64.format.order b 13916122848574832640 = some .gt := h1
    have t2 : FloatKind.f64.format.order b 4692750794540187648 = some .lt := h3
    have t3 : (FloatKind.f64.format.order (floatOfInt .f64 n) b == some .eq) = false := by
      change (od (fl n) b == some .eq) = false
      rcases h6 with h | h <;> rw [h] <;> rfl
    clear hcv h1 h2 h3 h4 h5 h6 h7 hn
    go_enter Tryd.func57, Tryd.ntmps57
    go_wp2
    go_ret2
    exact ⟨⟨n, by rw [hw]; rfl, fun m h => by rw [hw] at h; cases h⟩, rfl⟩

theorem rwrap_any (n : Int) (w : World) (hn : -9223372036854775808 ≤ n ∧ n ≤ 9223372036854775807) :
    Calls Tryd.prog 58 #[.int .i64 n] w fun e w' => e = .returned (.int .i64 (wr n)) ∧ w = w' := by
  obtain ⟨m, hm⟩ : ∃ m, n.tmod 1048576 = m := ⟨_, rfl⟩
  have hb : -1048576 < m ∧ m < 1048576 ∧ (m - n) % 1048576 = 0 := by
    by_cases h0 : 0 ≤ n
    · rw [Int.tmod_eq_emod_of_nonneg h0] at hm
      omega
    · obtain ⟨k, rfl⟩ : ∃ k, n = -k := ⟨-n, by omega⟩
      rw [Int.neg_tmod, Int.tmod_eq_emod_of_nonneg (by omega)] at hm
      omega
  obtain ⟨b1, b2, b3⟩ := hb
  have B3 := Lib.hid b3
  clear b3 hn
  by_cases h0 : m < 0
  · by_cases h1 : 524288 ≤ m + 1048576
    all_goals
      go_enter Tryd.func58, Tryd.ntmps58
      go_wp2
      go_ret
      exact ⟨ret_int (by have := B3.out; unfold wr; omega), rfl⟩
  · by_cases h1 : 524288 ≤ m
    all_goals
      go_enter Tryd.func58, Tryd.ntmps58
      go_wp2
      go_ret
      exact ⟨ret_int (by have := B3.out; unfold wr; omega), rfl⟩
end Go.Proofs.YtgnpbedhpkmkfaaDoor.Gleaf

/-
  The iterator parts of package gauss: it tells a number's two parts, with their places, to any loop body that keeps what lay there.
-/
namespace Go.Proofs.YtgnpbedhpkmkfaaDoor.Gparts
open Go Go.RowKit Go.Shelf Kit Fl Whole Gleaf
set_option linter.unusedVariables false

attribute [local go_sem] Oper.semAt_some

/-- The two parts, told in their order: false is the real one. -/
def pt (a b : Nat) (x : Bool) : Nat := if x then b else a
def ix (x : Bool) : Int := if x then 1 else 0
theorem ix_f : ix false = 0 := rfl
theorem ix_t : ix true = 1 := rfl
theorem pt_f (a b : Nat) : pt a b false = a := rfl
theorem pt_t (a b : Nat) : pt a b true = b := rfl
def encs (a b : Nat) (x : Bool) : Array Value := #[.int .i64 (ix x), .float .f64 (pt a b x)]

/-- What a round that goes on keeps: what lay below n₀, and the iterator's own box. -/
def Kp (n₀ Bb : Nat) (W W' : World) : Prop := Below n₀ W W' ∧ ∀ v, Boxed W Bb 27 v → Boxed W' Bb 27 v
theorem Kp.trans {n₀ Bb : Nat} {A B C : World} (h : Kp n₀ Bb A B) (k : Kp n₀ Bb B C) : Kp n₀ Bb A C := ⟨h.1.trans k.1, fun v hv => k.2 v (h.2 v hv)⟩
theorem Kp.put {n₀ Bb : Nat} {w : World} (hn : n₀ ≤ w.heap.size) (W : World) (l : Nat) (o o' : Obj) (hl : w.heap.size ≤ l) (h : W.heap[l]? = some o) (hc : o.isCells = false) (hw : o.isWalk = false) : Kp n₀ Bb W (W.putObj l o') :=
  ⟨belowK_b hn W l o o' hl h hc hw, fun v hv => hv.kept (grownBy_putObj' W l o') (fun e => by
    cases e
    rw [show W.heap[Bb]? = _ from hv] at h
    cases h
    cases hc)⟩
theorem Kp.refl (n₀ Bb : Nat) (W : World) : Kp n₀ Bb W W := ⟨Below.refl _ _, fun _ h => h⟩

set_option maxHeartbeats 1000000 in
theorem parts1_in (n : Nat) (hn : 1 ≤ n) (l Bb n₀ : Nat) (a b : Nat) (J Jx : List Bool → World → Prop) (W : World)
    (hY : ∀ pre x W, J pre W → pre.length < 2 → YieldAt Fence.wide (n - 1) Tryd.prog l (encs a b x) W fun e W' =>
      (e = .returned (.bool true) ∧ J (pre ++ [x]) W' ∧ Kp n₀ Bb W W') ∨ (e = .returned (.bool false) ∧ Jx (pre ++ [x]) W'))
    (hB : Boxed W Bb 27 (.complex .f64 a b)) (h0 : J [] W) :
    CallsIn Fence.wide n Tryd.prog 109 #[.func (.yield l) #[] #[], .pointer (some ⟨Bb, 0, none⟩)] W fun e W' => (∃ v, e = .returned v) ∧
      ((∃ ys, ys = [false, true] ∧ J ys W') ∨ (∃ pre, (pre = [false] ∨ pre = [false, true]) ∧ Jx pre W')) := by
  refine callsIn_of_wp Tryd.func109 rfl trivial ?_ rfl
  simp only [Tryd.ntmps109, List.size_toArray, List.length_cons, List.length_nil, Nat.reduceAdd, Nat.reduceSub, Array.replicate_succ, Array.replicate_zero, List.push_toArray, List.append_toArray, List.nil_append, List.cons_append]
  have hBc := hB.cell
  obtain ⟨fn, tmps, assign, body, hy, hR⟩ := hY [] false W h0 (by decide)
  simp only [encs, ix_f, pt_f] at hy
  gi_wp2
  refine hR.mono ?_
  rintro e W3 (⟨rfl, hJ3, hk3⟩ | ⟨rfl, hJx3⟩)
  · clear hy hR
    have hB3 := hk3.2 _ hB
    have hBc3 := hB3.cell
    obtain ⟨fn, tmps, assign, body, hy, hR⟩ := hY [false] true W3 hJ3 (by decide)
    simp only [encs, ix_t, pt_t] at hy
    gi_wp2
    refine hR.mono ?_
    rintro e W4 (⟨rfl, hJ4, hk4⟩ | ⟨rfl, hJx4⟩)
    · gi_wp2
      go_end0
      exact ⟨⟨_, rfl⟩, .inl ⟨_, rfl, hJ4⟩⟩
    · gi_wp2
      go_end0
      exact ⟨⟨_, rfl⟩, .inr ⟨_, .inr rfl, hJx4⟩⟩
  · gi_wp2
    go_end0
    exact ⟨⟨_, rfl⟩, .inr ⟨_, .inl rfl, hJx3⟩⟩

theorem parts_in (n : Nat) (a b : Nat) (w : World) :
    CallsIn Fence.wide n Tryd.prog 99 #[.complex .f64 a b] w fun e w' => e = .returned (.func (.func 109) #[] #[.pointer (some ⟨w.heap.size, 0, none⟩)]) ∧ w' = w.alloc (.cells #[.complex .f64 a b] 27) := by
  refine callsIn_of_wp Tryd.func99 rfl trivial ?_ rfl
  simp only [Tryd.ntmps99, List.size_toArray, List.length_cons, List.length_nil, Nat.reduceAdd, Nat.reduceSub, Array.replicate_succ, Array.replicate_zero, List.push_toArray, List.append_toArray, List.nil_append, List.cons_append]
  gi_wp2
  go_ret
  exact ⟨rfl, rfl⟩

theorem parts_stops (n : Nat) (hn : 1 ≤ n) (Bb n₀ : Nat) (a b : Nat) (w : World) (hc : Boxed w Bb 27 (.complex .f64 a b)) :
    SeqStopsK Fence.wide n Tryd.prog 109 #[.pointer (some ⟨Bb, 0, none⟩)] (encs a b) (Kp n₀ Bb) (fun ys => ys = [false, true]) (fun pre => pre = [false] ∨ pre = [false, true]) 2 w := fun l J Jx W hW hJ _ hY hJ0 =>
  parts1_in n hn l Bb n₀ a b J Jx W hY ((hW.block Bb hc.lt).trans hc) hJ0
end Go.Proofs.YtgnpbedhpkmkfaaDoor.Gparts

/-
  whole of package gauss: the parts of any complex128, or noughts of none; the loop is left by its label where a part is none.
-/
namespace Go.Proofs.YtgnpbedhpkmkfaaDoor.Gwhole
open Go Go.RowKit Go.Shelf Kit Fl Whole Gleaf Gparts
set_option linter.unusedVariables false

attribute [local go_sem] Oper.semAt_some

/-- Is it a number? Its parts; noughts of none. -/
def isN (a b : Nat) : Bool := (whl a).isSome && (whl b).isSome
def pv (b : Nat) : Int := (whl b).getD 0
def re (a b : Nat) : Int := if isN a b then pv a else 0
def im (a b : Nat) : Int := if isN a b then pv b else 0

/-- What l holds when some parts have come. -/
def lcs (a b : Nat) (pre : List Bool) : Array Value := #[.int .i64 (if pre.contains false then pv a else 0), .int .i64 (if pre.contains true then pv b else 0)]

theorem block_own {β : Type} (B : Nat) (t : TypeId) (cs : β → Array Value) : Own (fun (s : β) W => W.heap[B]? = some (.cells (cs s) t (0, 0))) := fun s X Y row hs hg hrow => by
  have hlt : B < X.heap.size := (Array.getElem?_eq_some_iff.1 hs).1
  refine (hg.block B hlt (fun e' => ?_)).trans hs
  obtain ⟨o, ho, hc⟩ := hrow B e'.symm
  rw [hs] at ho; cases ho; cases hc

def WholeR (a b : Nat) (w : World) (e : Ending) (W' : World) : Prop :=
  e = .returned (.tuple #[.agg #[.int .i64 (re a b), .int .i64 (im a b)], .bool (isN a b)]) ∧ Below w.heap.size w W'

set_option maxRecDepth 100000 in
set_option maxHeartbeats 4000000 in
theorem whole_in (n : Nat) (hn : 4 ≤ n) (a b : Nat) (w : World) :
    CallsIn Fence.wide n Tryd.prog 85 #[.complex .f64 a b] w (WholeR a b w) := by
  refine callsIn_of_wp_marks Tryd.func85 rfl trivial ?_ rfl
  simp only [Tryd.ntmps85, List.size_toArray, List.length_cons, List.length_nil, Nat.reduceAdd, Nat.reduceSub, Array.replicate_succ, Array.replicate_zero, List.push_toArray, List.append_toArray, List.nil_append, List.cons_append]
  gi_wp2
  refine wpIn_wide.2 (wp_scope_straight ((wpIn_wide (n := n)).1 ?_))
  gi_wp2
  refine wpIn_label ?_
  gi_wp2_with (first | (refine ⟨trivial, fun _ => (by omega), ?_⟩; gi_at_call 99; refine (parts_in (n - 1) _ _ _).mono ?_; rintro e w' ⟨rfl, rfl⟩) | fail)
  have hsz : ((((w.alloc (.cells #[.int .i64 0, .int .i64 0] 147)).alloc (.cells #[.int .i64 0, .int .i64 0] 147)).alloc (.cells #[.bool true] 4)).alloc (.cells #[.complex .f64 a b] 27)).heap.size = w.heap.size + 4 := by simp
  have bZ := Boxed.new (((w.alloc (.cells #[.int .i64 0, .int .i64 0] 147)).alloc (.cells #[.int .i64 0, .int .i64 0] 147)).alloc (.cells #[.bool true] 4)) 27 (.complex .f64 a b)
  have bO := (Boxed.new ((w.alloc (.cells #[.int .i64 0, .int .i64 0] 147)).alloc (.cells #[.int .i64 0, .int .i64 0] 147)) 4 (.bool true)).alloc (.cells #[.complex .f64 a b] 27)
  simp only [World.size_alloc] at bZ bO
  have hB0 : Below w.heap.size w ((((w.alloc (.cells #[.int .i64 0, .int .i64 0] 147)).alloc (.cells #[.int .i64 0, .int .i64 0] 147)).alloc (.cells #[.bool true] 4)).alloc (.cells #[.complex .f64 a b] 27)) :=
    ((((Below.refl _ w).alloc (Nat.le_refl _) _).alloc (by simp) _).alloc (by simp; omega) _).alloc (by simp; omega) _
  have hR0 : ((((w.alloc (.cells #[.int .i64 0, .int .i64 0] 147)).alloc (.cells #[.int .i64 0, .int .i64 0] 147)).alloc (.cells #[.bool true] 4)).alloc (.cells #[.complex .f64 a b] 27)).heap[w.heap.size]? = some (.cells #[.int .i64 0, .int .i64 0] 147 (0, 0)) := by
    rw [Below.heap_alloc _ _ _ (by simp; omega), Below.heap_alloc _ _ _ (by simp; omega), Below.heap_alloc _ _ _ (by simp), World.alloc_heap_new]
  have hL0 : ((((w.alloc (.cells #[.int .i64 0, .int .i64 0] 147)).alloc (.cells #[.int .i64 0, .int .i64 0] 147)).alloc (.cells #[.bool true] 4)).alloc (.cells #[.complex .f64 a b] 27)).heap[w.heap.size + 1]? = some (.cells #[.int .i64 0, .int .i64 0] 147 (0, 0)) := by
    rw [Below.heap_alloc _ _ _ (by simp), Below.heap_alloc _ _ _ (by simp), show w.heap.size + 1 = (w.alloc (.cells #[.int .i64 0, .int .i64 0] 147)).heap.size from by simp, World.alloc_heap_new]
  obtain ⟨W0, hW0⟩ : ∃ W0, (((w.alloc (.cells #[.int .i64 0, .int .i64 0] 147)).alloc (.cells #[.int .i64 0, .int .i64 0] 147)).alloc (.cells #[.bool true] 4)).alloc (.cells #[.complex .f64 a b] 27) = W0 := ⟨_, rfl⟩
  rw [hW0] at bZ bO hB0 hR0 hL0 hsz ⊢
  clear hW0
  refine wpIn_rangeFunc_ownH rfl (by omega) (gf := 109) (lb := #[.pointer (some ⟨w.heap.size + 1 + 1 + 1, 0, none⟩)]) rfl trivial (enters_of Tryd.func109 (by kernel_rfl) rfl)
    (parts_stops (n - 1) (by omega) (w.heap.size + 1 + 1 + 1) w.heap.size a b W0 bZ) Kp.trans (Kp.put (by omega)) (Below.refl _ _) (fun _ => rfl)
    (fun pre W => ((W.heap[w.heap.size]? = some (.cells #[.int .i64 0, .int .i64 0] 147 (0, 0)) ∧ W.heap[w.heap.size + 1]? = some (.cells (lcs a b pre) 147 (0, 0))) ∧ (Boxed W (w.heap.size + 1 + 1) 4 (.bool true) ∧ Boxed W (w.heap.size + 1 + 1 + 1) 27 (.complex .f64 a b))) ∧ ((∀ x ∈ pre, (whl (pt a b x)).isSome = true) ∧ Below w.heap.size w W))
    (fun c pre W => ((W.heap[w.heap.size]? = some (.cells #[.int .i64 0, .int .i64 0] 147 (0, 0)) ∧ W.heap[w.heap.size + 1]? = some (.cells #[.int .i64 0, .int .i64 0] 147 (0, 0))) ∧ Boxed W (w.heap.size + 1 + 1) 4 (.bool false)) ∧ ((c = .exit 0 ∧ ∃ x, whl (pt a b x) = none) ∧ Below w.heap.size w W))
    (OwnFrom.and (OwnFrom.and (OwnFrom.and (Own.from (block_own _ _ (fun _ => #[.int .i64 0, .int .i64 0])) _) (Own.from (block_own _ _ (lcs a b)) _)) (OwnFrom.and (Own.from (boxed_own _ _ _) _) (Own.from (boxed_own _ _ _) _))) (OwnFrom.and (ownFrom_pure _ _) (ownFrom_below (Nat.le_refl _) (by omega))))
    (fun c => OwnFrom.and (OwnFrom.and (OwnFrom.and (Own.from (block_own _ _ (fun _ => #[.int .i64 0, .int .i64 0])) _) (Own.from (block_own _ _ (fun _ => #[.int .i64 0, .int .i64 0])) _)) (Own.from (boxed_own _ _ _) _)) (OwnFrom.and (ownFrom_pure _ _) (ownFrom_below (Nat.le_refl _) (by omega))))
    ⟨⟨⟨hR0, hL0⟩, bO, bZ⟩, by simp, hB0⟩
    (fun x a' W => a' = { tmps := #[.complex .f64 a b, undef, .pointer (some ⟨w.heap.size, 0, none⟩), .bool false, .pointer (some ⟨w.heap.size + 1, 0, none⟩), .pointer (some ⟨w.heap.size + 1 + 1, 0, none⟩), .int .i64 (ix x), .float .f64 (pt a b x), .complex .f64 a b, .func (.func 109) #[] #[.pointer (some ⟨w.heap.size + 1 + 1 + 1, 0, none⟩)], .int .i64 (ix x), .float .f64 (pt a b x), undef, undef, undef, undef, undef, undef, undef, undef, undef, undef], defers := [] })
    (fun x a' _ X Y row hs hg hr => hs)
    ?assign ?body ?done ?stop
  case assign =>
    rintro l pre x W K hi hK
    dsimp only [encs]
    gi_wp2
    exact hK _ _ ((KeepsOthers.refl _).from _) (Kp.refl _ _ _) hi rfl
  case body =>
    rintro l pre x a' W hl ⟨rr, hr⟩ ⟨⟨⟨hR, hL⟩, hO, hZ⟩, hall, hB⟩ rfl hlt
    have hlb := hO.lt
    have cO := hO.cell
    have fO := hO.frozen
    have c0 : W.cell? ⟨w.heap.size + 1, 0, none⟩ = some (.int .i64 (if pre.contains false then pv a else 0)) := by simp [World.cell?, hL, lcs]
    have c1 : W.cell? ⟨w.heap.size + 1, 1, none⟩ = some (.int .i64 (if pre.contains true then pv b else 0)) := by simp [World.cell?, hL, lcs]
    have f0 : W.frozen? ⟨w.heap.size + 1, 0, none⟩ = false := by simp [World.frozen?, hL]
    have f1 : W.frozen? ⟨w.heap.size + 1, 1, none⟩ = false := by simp [World.frozen?, hL]
    cases hx : whl (pt a b x) with
    | some v =>
      have HX := Lib.hid hx
      have hcv : ∀ wx, (convert 65 2 (.float .f64 (pt a b x))).run Tryd.prog wx = .ok (.int .i64 v) wx := fun wx => conv_of hx wx
      have hp : ∀ wx, Calls Tryd.prog 100 #[.float .f64 (pt a b x)] wx fun e w' => e = .returned (.bool true) ∧ wx = w' := fun wx => by have := isPart_any (pt a b x) wx; rwa [hx] at this
      have HP := Lib.hid hp
      clear hp hx
      cases x
      · simp only [ix_f, pt_f] at *
        gi_wp2_with (first | (refine ⟨trivial, fun _ => (by omega), ?_⟩; gi_at_call 100; refine (CallsIn.inRound l (callsIn_wide.2 (HP.out _))).mono ?_; rintro e w' ⟨rfl, rfl⟩) | fail)
        have hE := HX.out
        refine ⟨(KeepsOthers.setCell _ _ _).from _, ⟨(Below.refl _ W).setCell (p := ⟨w.heap.size + 1, 0, none⟩) (Nat.le_succ _) _, fun u hu => (heap_setCell_other W _ _ _ (by dsimp only; omega)).trans hu⟩, ⟨⟨(heap_setCell_other W _ _ _ (by dsimp only; omega)).trans hR, ?_⟩, (heap_setCell_other W _ _ _ (by dsimp only; omega)).trans hO, (heap_setCell_other W _ _ _ (by dsimp only; omega)).trans hZ⟩, ?_, hB.setCell (p := ⟨w.heap.size + 1, 0, none⟩) (Nat.le_succ _) _⟩
        · rw [heap_setCell_same W _ _ _ _ _ hL]
          simp [lcs, pv, hE]
        · intro y hy
          rcases List.mem_append.1 hy with h | h
          · exact hall y h
          · obtain rfl : y = false := by simpa using h
            rw [pt_f, hE]
            rfl
      · simp only [ix_t, pt_t] at *
        gi_wp2_with (first | (refine ⟨trivial, fun _ => (by omega), ?_⟩; gi_at_call 100; refine (CallsIn.inRound l (callsIn_wide.2 (HP.out _))).mono ?_; rintro e w' ⟨rfl, rfl⟩) | fail)
        have hE := HX.out
        refine ⟨(KeepsOthers.setCell _ _ _).from _, ⟨(Below.refl _ W).setCell (p := ⟨w.heap.size + 1, 1, none⟩) (Nat.le_succ _) _, fun u hu => (heap_setCell_other W _ _ _ (by dsimp only; omega)).trans hu⟩, ⟨⟨(heap_setCell_other W _ _ _ (by dsimp only; omega)).trans hR, ?_⟩, (heap_setCell_other W _ _ _ (by dsimp only; omega)).trans hO, (heap_setCell_other W _ _ _ (by dsimp only; omega)).trans hZ⟩, ?_, hB.setCell (p := ⟨w.heap.size + 1, 1, none⟩) (Nat.le_succ _) _⟩
        · rw [heap_setCell_same W _ _ _ _ _ hL]
          simp [lcs, pv, hE]
        · intro y hy
          rcases List.mem_append.1 hy with h | h
          · exact hall y h
          · obtain rfl : y = true := by simpa using h
            rw [pt_t, hE]
            rfl
    | none =>
      have HX := Lib.hid hx
      have hp : ∀ wx, Calls Tryd.prog 100 #[.float .f64 (pt a b x)] wx fun e w' => e = .returned (.bool false) ∧ wx = w' := fun wx => by have := isPart_any (pt a b x) wx; rwa [hx] at this
      have HP := Lib.hid hp
      clear hp hx
      obtain ⟨i, hi⟩ : ∃ i, ix x = i := ⟨_, rfl⟩
      rw [hi]
      clear hi
      gi_wp2_with (first | (refine ⟨trivial, fun _ => (by omega), ?_⟩; gi_at_call 100; refine (CallsIn.inRound l (callsIn_wide.2 (HP.out _))).mono ?_; rintro e w' ⟨rfl, rfl⟩) | fail)
      refine ⟨(((KeepsOthers.setCell _ _ _).trans (KeepsOthers.setCell _ _ _)).trans (KeepsOthers.setCell _ _ _)).from _, ⟨⟨(heap_setCell_other _ _ _ _ (by dsimp only; omega)).trans ((heap_setCell_other _ _ _ _ (by dsimp only; omega)).trans ((heap_setCell_other W _ _ _ (by dsimp only; omega)).trans hR)), ?_⟩, ?_⟩, ⟨rfl, x, HX.out⟩, ((hB.setCell (p := ⟨w.heap.size + 1, 0, none⟩) (Nat.le_succ _) _).setCell (p := ⟨w.heap.size + 1, 1, none⟩) (Nat.le_succ _) _).setCell (p := ⟨w.heap.size + 1 + 1, 0, none⟩) (by dsimp only; omega) _⟩
      · rw [heap_setCell_other _ _ _ _ (by dsimp only; omega), heap_setCell_same _ _ _ _ _ _ (heap_setCell_same W _ _ _ _ _ hL)]
        simp [lcs]
      · exact (Boxed.set (.bool false) (show Boxed _ _ _ (.bool true) from (heap_setCell_other _ _ _ _ (by dsimp only; omega)).trans ((heap_setCell_other W _ _ _ (by dsimp only; omega)).trans hO)))
  case done =>
    rintro D ys W hD rfl ⟨⟨⟨hR, hL⟩, hO, hZ⟩, hall, hB⟩ hK
    have cO := hO.cell
    have hl1 := hO.lt
    have rO : W.frozen? ⟨w.heap.size, 0, none⟩ = false := by simp [World.frozen?, hR]
    have rP : W.frozen? ⟨w.heap.size, 1, none⟩ = false := by simp [World.frozen?, hR]
    have r0 : W.cell? ⟨w.heap.size, 0, none⟩ = some (.int .i64 0) := by simp [World.cell?, hR]
    have r1 : W.cell? ⟨w.heap.size, 1, none⟩ = some (.int .i64 0) := by simp [World.cell?, hR]
    have c0 : W.cell? ⟨w.heap.size + 1, 0, none⟩ = some (.int .i64 (pv a)) := by simp [World.cell?, hL, lcs]
    have c1 : W.cell? ⟨w.heap.size + 1, 1, none⟩ = some (.int .i64 (pv b)) := by simp [World.cell?, hL, lcs]
    gi_wp2
    gi_region
    gi_wp2
    rw [Exit.noGoto_ret]
    have hN : isN a b = true := by
      have h1 := hall false (by simp)
      have h2 := hall true (by simp)
      rw [pt_f] at h1
      rw [pt_t] at h2
      simp [isN, h1, h2]
    have hR2 : ((W.setCell ⟨w.heap.size, 0, none⟩ (.int .i64 (pv a))).setCell ⟨w.heap.size, 1, none⟩ (.int .i64 (pv b))).drew.heap[w.heap.size]? = some (.cells #[.int .i64 (pv a), .int .i64 (pv b)] 147 (0, 0)) :=
      heap_setCell_same _ _ _ _ _ _ (heap_setCell_same W _ _ _ _ _ hR)
    have hKd : ((W.setCell ⟨w.heap.size, 0, none⟩ (.int .i64 (pv a))).setCell ⟨w.heap.size, 1, none⟩ (.int .i64 (pv b))).drew.heap[D]? = some (.deferred (some [])) :=
      (heap_setCell_other _ _ _ _ (by dsimp only; omega)).trans ((heap_setCell_other W _ _ _ (by dsimp only; omega)).trans hK)
    have hb2 : Below w.heap.size w ((W.setCell ⟨w.heap.size, 0, none⟩ (.int .i64 (pv a))).setCell ⟨w.heap.size, 1, none⟩ (.int .i64 (pv b))).drew :=
      ((hB.setCell (p := ⟨w.heap.size, 0, none⟩) (Nat.le_refl _) _).setCell (p := ⟨w.heap.size, 1, none⟩) (Nat.le_refl _) _).drew
    obtain ⟨W2, hW2⟩ : ∃ W2, ((W.setCell ⟨w.heap.size, 0, none⟩ (.int .i64 (pv a))).setCell ⟨w.heap.size, 1, none⟩ (.int .i64 (pv b))).drew = W2 := ⟨_, rfl⟩
    rw [hW2] at hR2 hKd hb2 ⊢
    clear hW2
    refine ⟨by simp, .inl ⟨_, _, rfl, run_takeDeferred hKd, ?_⟩⟩
    have hb' : Below w.heap.size w (W2.putObj D (.deferred none)) := hb2.trans (belowK_b (w := w) (Nat.le_refl _) W2 D _ _ (by omega) hKd rfl rfl)
    have hR3 : (W2.putObj D (.deferred none)).heap[w.heap.size]? = some (.cells #[.int .i64 (pv a), .int .i64 (pv b)] 147 (0, 0)) :=
      ((grownBy_putObj' W2 D (.deferred none)).block _ (Array.getElem?_eq_some_iff.1 hR2).1 (fun e => by cases e; omega)).trans hR2
    have k0 : (W2.putObj D (.deferred none)).cell? ⟨w.heap.size, 0, none⟩ = some (.int .i64 (pv a)) := by simp [World.cell?, hR3]
    have k1 : (W2.putObj D (.deferred none)).cell? ⟨w.heap.size, 1, none⟩ = some (.int .i64 (pv b)) := by simp [World.cell?, hR3]
    refine ⟨.tuple #[.agg #[.int .i64 (pv a), .int .i64 (pv b)], .bool true], ?_, ?_, hb'⟩
    · simp [results, go_sem, k0, k1]
    · simp [re, im, hN]
  case stop =>
    rintro D c pre W hD hp ⟨⟨⟨hR, hL⟩, hO⟩, ⟨rfl, x, hx⟩, hB⟩ hK
    have cO := hO.cell
    have hl1 := hO.lt
    have rO : W.frozen? ⟨w.heap.size, 0, none⟩ = false := by simp [World.frozen?, hR]
    have rP : W.frozen? ⟨w.heap.size, 1, none⟩ = false := by simp [World.frozen?, hR]
    have r0 : W.cell? ⟨w.heap.size, 0, none⟩ = some (.int .i64 0) := by simp [World.cell?, hR]
    have r1 : W.cell? ⟨w.heap.size, 1, none⟩ = some (.int .i64 0) := by simp [World.cell?, hR]
    have c0 : W.cell? ⟨w.heap.size + 1, 0, none⟩ = some (.int .i64 0) := by simp [World.cell?, hL]
    have c1 : W.cell? ⟨w.heap.size + 1, 1, none⟩ = some (.int .i64 0) := by simp [World.cell?, hL]
    gi_wp2
    gi_region
    gi_wp2
    rw [Exit.noGoto_ret]
    have hN : isN a b = false := by
      cases x
      · rw [pt_f] at hx
        simp [isN, hx]
      · rw [pt_t] at hx
        simp [isN, hx]
    have hR2 : ((W.setCell ⟨w.heap.size, 0, none⟩ (.int .i64 0)).setCell ⟨w.heap.size, 1, none⟩ (.int .i64 0)).drew.heap[w.heap.size]? = some (.cells #[.int .i64 0, .int .i64 0] 147 (0, 0)) :=
      heap_setCell_same _ _ _ _ _ _ (heap_setCell_same W _ _ _ _ _ hR)
    have hKd : ((W.setCell ⟨w.heap.size, 0, none⟩ (.int .i64 0)).setCell ⟨w.heap.size, 1, none⟩ (.int .i64 0)).drew.heap[D]? = some (.deferred (some [])) :=
      (heap_setCell_other _ _ _ _ (by dsimp only; omega)).trans ((heap_setCell_other W _ _ _ (by dsimp only; omega)).trans hK)
    have hb2 : Below w.heap.size w ((W.setCell ⟨w.heap.size, 0, none⟩ (.int .i64 0)).setCell ⟨w.heap.size, 1, none⟩ (.int .i64 0)).drew :=
      ((hB.setCell (p := ⟨w.heap.size, 0, none⟩) (Nat.le_refl _) _).setCell (p := ⟨w.heap.size, 1, none⟩) (Nat.le_refl _) _).drew
    obtain ⟨W2, hW2⟩ : ∃ W2, ((W.setCell ⟨w.heap.size, 0, none⟩ (.int .i64 0)).setCell ⟨w.heap.size, 1, none⟩ (.int .i64 0)).drew = W2 := ⟨_, rfl⟩
    rw [hW2] at hR2 hKd hb2 ⊢
    clear hW2
    refine ⟨by simp, .inl ⟨_, _, rfl, run_takeDeferred hKd, ?_⟩⟩
    have hb' : Below w.heap.size w (W2.putObj D (.deferred none)) := hb2.trans (belowK_b (w := w) (Nat.le_refl _) W2 D _ _ (by omega) hKd rfl rfl)
    have hR3 : (W2.putObj D (.deferred none)).heap[w.heap.size]? = some (.cells #[.int .i64 0, .int .i64 0] 147 (0, 0)) :=
      ((grownBy_putObj' W2 D (.deferred none)).block _ (Array.getElem?_eq_some_iff.1 hR2).1 (fun e => by cases e; omega)).trans hR2
    have k0 : (W2.putObj D (.deferred none)).cell? ⟨w.heap.size, 0, none⟩ = some (.int .i64 0) := by simp [World.cell?, hR3]
    have k1 : (W2.putObj D (.deferred none)).cell? ⟨w.heap.size, 1, none⟩ = some (.int .i64 0) := by simp [World.cell?, hR3]
    refine ⟨.tuple #[.agg #[.int .i64 0, .int .i64 0], .bool false], ?_, ?_, hb'⟩
    · simp [results, go_sem, k0, k1]
    · simp [re, im, hN]

theorem whole_any (a b : Nat) (w : World) :
    Calls Tryd.prog 85 #[.complex .f64 a b] w fun e w' => e = .returned (.tuple #[.agg #[.int .i64 (re a b), .int .i64 (im a b)], .bool (isN a b)]) ∧ Below w.heap.size w w' :=
  (callsIn_wide (n := 4)).1 (whole_in 4 (Nat.le_refl _) a b w)
end Go.Proofs.YtgnpbedhpkmkfaaDoor.Gwhole
