/-
  The iterator within: it tells the cores of a mask, rising, to any loop body that keeps what lay there.
-/
import Derived.Test.YtkjmpkoogjbjnaaQub
import Derived.RangeFuncNested
import Derived.RangeFuncBound
import Derived.RangeFuncCalls
import Derived.RangeFuncLeaves
import Derived.Shelf.Abstract
import Derived.Shelf.RegionOpen
import Derived.OwnWalkIn
import Derived.TacticsInMore
import Derived.LoopNIn
import Derived.LoopIn
namespace Go.Proofs.Ytkjmpkoogjbjnaa.Quc
open Go Go.RowKit Go.Shelf Kit Bk Qua Qub
set_option linter.unusedVariables false
attribute [local go_sem] Oper.semAt_some

/-- A core that is there. -/
abbrev Cr (c : Nat) := { k : Nat // k < c }
def vals {c : Nat} (l : List (Cr c)) : List Nat := l.map (·.val)
theorem vals_app {c : Nat} (l : List (Cr c)) (x : Cr c) : vals (l ++ [x]) = vals l ++ [x.val] := by simp [vals]
def encs {c : Nat} (x : Cr c) : Array Value := #[.int .i64 (x.val : Int)]
theorem grown_below {w w' : World} (h : Below w.heap.size w w') : w.grownBy w' none := ⟨h.1, h.2, h.3, h.size, fun k hk _ => h.block k hk⟩
/-- What a round that goes on keeps: what lay below n₀, and the iterator's own boxes. -/
def Kq (n₀ Bb Mb : Nat) (W W' : World) : Prop := Below n₀ W W' ∧ (∀ v, Boxed W Bb 24 v → Boxed W' Bb 24 v) ∧ ∀ v, Boxed W Mb 23 v → Boxed W' Mb 23 v
theorem Kq.trans {n₀ Bb Mb : Nat} {A B C : World} (h : Kq n₀ Bb Mb A B) (k : Kq n₀ Bb Mb B C) : Kq n₀ Bb Mb A C := ⟨h.1.trans k.1, fun v hv => k.2.1 v (h.2.1 v hv), fun v hv => k.2.2 v (h.2.2 v hv)⟩
theorem boxed_put {T : TypeId} {W : World} {Bb l : Nat} {v : Value} {o : Obj} (o' : Obj) (hv : Boxed W Bb T v) (h : W.heap[l]? = some o) (hc : o.isCells = false) : Boxed (W.putObj l o') Bb T v :=
  hv.kept (grownBy_putObj' W l o') (fun e => by
    cases e
    rw [show W.heap[Bb]? = _ from hv] at h
    cases h
    cases hc)
theorem Kq.put {n₀ Bb Mb : Nat} {w : World} (hn : n₀ ≤ w.heap.size) (W : World) (l : Nat) (o o' : Obj) (hl : w.heap.size ≤ l) (h : W.heap[l]? = some o) (hc : o.isCells = false) (hw : o.isWalk = false) : Kq n₀ Bb Mb W (W.putObj l o') :=
  ⟨belowK_b hn W l o o' hl h hc hw, fun v hv => boxed_put o' hv h hc, fun v hv => boxed_put o' hv h hc⟩
theorem Kq.refl (n₀ Bb Mb : Nat) (W : World) : Kq n₀ Bb Mb W W := ⟨Below.refl _ _, fun _ h => h, fun _ h => h⟩
theorem Kq.below {n₀ Bb Mb : Nat} {W W' : World} (h : Below W.heap.size W W') (hn : n₀ ≤ W.heap.size) : Kq n₀ Bb Mb W W' := ⟨h.mono hn, fun v hv => (h.block Bb hv.lt).trans hv, fun v hv => (h.block Mb hv.lt).trans hv⟩

/-- Queues (or none) of c cores, whatever is done above n₀. -/
def Cs (n₀ : Nat) (w : World) (ad : Option Addr) (c : Nat) : Prop := ∀ W, Below n₀ w W → Calls Try.prog 28 #[.pointer ad] W fun e w' => e = .returned (.int .i64 (c : Int)) ∧ W = w'
theorem Cs.low {n₀ c : Nat} {w w' : World} {ad : Option Addr} (h : Cs n₀ w ad c) (hb : Below n₀ w w') : Cs n₀ w' ad c := fun W k => h W (hb.trans k)
theorem cs_nil (n₀ : Nat) (w : World) : Cs n₀ w none 0 := fun W _ => cores_nil W
theorem cs_blk {n₀ q c : Nat} {w : World} (c0 : w.cell? ⟨q, 0, none⟩ = some (.int .i64 (c : Int))) (hq : q < n₀) : Cs n₀ w (some ⟨q, 0, none⟩) c := fun W k => cores_blk W q _ ((k.cell (p := ⟨q, 0, none⟩) hq).trans c0)
theorem cs_qs {q c : Nat} {S : Nat → Prop} {l : Ls} {w : World} (h : Qs w q S c l) : Cs w.heap.size w (some ⟨q, 0, none⟩) c := by
  obtain ⟨vs, G, h⟩ := h
  exact cs_blk h.c0 h.blk.lt

theorem bt_bits (m j : Nat) (hm : m < 4294967296) : (bits .and .u32 ((m : Int) / 2 ^ j) 1 == 1) = bt m j := by
  have h1 : (m : Int) / 2 ^ j = ((m / 2 ^ j : Nat) : Int) := by simp
  have h2 : bits .and .u32 ((m / 2 ^ j : Nat) : Int) ((1 : Nat) : Int) = ((m / 2 ^ j &&& 1 : Nat) : Int) := u32_and_nat _ _ (Nat.lt_of_le_of_lt (Nat.div_le_self _ _) hm) (by decide)
  rw [h1]
  rw [show ((1 : Nat) : Int) = 1 from rfl] at h2
  rw [h2, Nat.and_one_is_mod]
  unfold bt
  rw [Nat.testBit_eq_decide_div_mod_eq]
  rw [Bool.eq_iff_iff]
  simp
  omega

set_option maxRecDepth 100000 in
set_option maxHeartbeats 4000000 in
theorem within1_in (n : Nat) (hn : 1 ≤ n) (l Bb Mb n₀ : Nat) (ad : Option Addr) (c m : Nat) (hc8 : c ≤ 8) (hm : m < 4294967296) (J Jx : List (Cr c) → World → Prop) (W : World) (hJ : AbidesFrom W.heap.size J)
    (hY : ∀ pre x W, J pre W → pre.length < 8 → YieldAt Fence.wide (n - 1) Try.prog l (encs x) W fun e W' =>
      (e = .returned (.bool true) ∧ J (pre ++ [x]) W' ∧ Kq n₀ Bb Mb W W') ∨ (e = .returned (.bool false) ∧ Jx (pre ++ [x]) W'))
    (hn₀ : n₀ ≤ W.heap.size) (hC : Cs n₀ W ad c) (hB : Boxed W Bb 24 (.pointer ad)) (hM : Boxed W Mb 23 (.int .u32 (m : Int))) (h0 : J [] W) :
    CallsIn Fence.wide n Try.prog 45 #[.func (.yield l) #[] #[], .pointer (some ⟨Bb, 0, none⟩), .pointer (some ⟨Mb, 0, none⟩)] W fun e W' => (∃ v, e = .returned v) ∧
      ((∃ ys, vals ys = ws c m ∧ J ys W') ∨ (∃ pre, (∃ k, k ≤ c ∧ vals pre = ws k m) ∧ Jx pre W')) := by
  have hcB := hB.cell
  have HW := Lib.hid ((callsIn_wide (n := n - 1)).2 (hC W (Below.refl _ _)))
  have HB := Lib.hid hB
  have HM := Lib.hid hM
  have HJ := Lib.hid hJ
  have HY := Lib.hid hY
  have HN := Lib.hid hn₀
  clear hC hB hM hJ hY hn₀
  refine callsIn_of_wp Try.func45 rfl trivial ?_ rfl
  simp only [Try.ntmps45, List.size_toArray, List.length_cons, List.length_nil, Nat.reduceAdd, Nat.reduceSub, Array.replicate_succ, Array.replicate_zero, List.push_toArray, List.append_toArray, List.nil_append, List.cons_append]
  gi_wp2_with (refine ⟨trivial, ?_⟩; refine HW.out.mono ?_; rintro e w9 ⟨rfl, rfl⟩)
  clear hcB
  gi_loopw [7] (fun i wr => ∃ (j : Nat) (pre : List (Cr c)), j ≤ c ∧ i = .int .i64 (j : Int) ∧ vals pre = ws j m ∧ J pre wr ∧ Kq n₀ Bb Mb W wr)
    (fun i _ => c - (intOf i).toNat)
  case atStart => exact ⟨0, [], Nat.zero_le _, rfl, rfl, h0, Kq.refl _ _ _ _⟩
  case round =>
    obtain ⟨j, pre, hj, rfl, hpre, hJs, hnx⟩ := hrel
    have hszr := hnx.1.size
    have hcM := (hnx.2.2 _ HM.out).cell
    have HNx := Lib.hid hnx
    by_cases hlt : j < c
    · have hltI : (j : Int) < (c : Int) := by omega
      clear hnx
      have hbit := bt_bits m j hm
      have hJd := Lib.hid hJs
      cases hb : bt m j
      · have hu := ws_no hb
        rw [hb] at hbit
        clear hJs
        gi_wp2
        rename_i hK x1 x2 x3 x4
        refine ⟨fun _ _ => trivial, hK _ _ ?_⟩
        clear x4
        gi_wp2
        go_roundw
        case rel => exact ⟨j + 1, pre, by omega, by go_num, by rw [hu]; exact hpre, hJd.out, HNx.out⟩
        case measure => simp [intOf]; omega
      · have hu := ws_yes hb
        rw [hb] at hbit
        have hbit2 := eq_of_beq hbit
        obtain ⟨fn, tmps, assign, body, hy, hR2⟩ := HY.out _ ⟨j, hlt⟩ wr hJs (by have := ws_len j m; rw [← hpre] at this; unfold vals at this; rw [List.length_map] at this; omega)
        dsimp only [encs] at hy
        clear hJs
        gi_wp2
        refine hR2.mono ?_
        rintro e W3 (⟨rfl, hJ3, hk3⟩ | ⟨rfl, hJx3⟩)
        · gi_wp2
          go_roundw
          case rel => exact ⟨j + 1, pre ++ [⟨j, hlt⟩], by omega, by go_num, by rw [hu, vals_app, hpre], hJ3, HNx.out.trans hk3⟩
          case measure => simp [intOf]; omega
        · gi_wp2
          refine bodyPost_ret (results_none rfl _ _ _) rfl ?_
          exact ⟨⟨_, rfl⟩, .inr ⟨_, ⟨j + 1, by omega, by rw [hu, vals_app, hpre]⟩, hJx3⟩⟩
    · obtain rfl : j = c := by omega
      have HJs := Lib.hid hJs
      clear hnx hJs
      gi_wp2
      go_end0
      exact ⟨⟨_, rfl⟩, .inl ⟨_, hpre, HJs.out⟩⟩
end Go.Proofs.Ytkjmpkoogjbjnaa.Quc
