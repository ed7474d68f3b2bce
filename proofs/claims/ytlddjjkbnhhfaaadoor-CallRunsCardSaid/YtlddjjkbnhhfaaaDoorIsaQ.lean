/-
  The iterator lines of package isa: it tells a text's lines, with their numbers, to any loop body that keeps what lay there.
-/
import Derived.Test.YtlddjjkbnhhfaaaDoorIsaK
import Derived.RangeFuncNested
import Derived.RangeFuncBound
import Derived.RangeFuncCalls
import Derived.RangeFuncLeaves
import Derived.Shelf.Abstract
import Derived.OwnWalkIn
import Derived.TacticsInMore
import Derived.LoopNIn
import Derived.LoopIn
namespace Go.Proofs.YtlddjjkbnhhfaaaDoor.IsaQ
open Go Go.RowKit Go.Shelf Kit IsaM IsaT IsaL IsaC IsaE IsaN IsaD IsaA IsaW IsaS IsaP IsaR IsaB
set_option linter.unusedVariables false

attribute [local go_sem] Oper.semAt_some

/-- Where a text's first line ends. -/
def endOf (t : Tx) : Nat := if Lib.indexByte t 10 < 0 then t.length else (Lib.indexByte t 10).toNat + 1
def rawN : Nat → Tx → List Tx
  | 0, _ => []
  | n + 1, t => if t = [] then [] else t.take (endOf t) :: rawN n (t.drop (endOf t))
/-- A text's lines, with what ends them. -/
def rawL (t : Tx) : List Tx := rawN t.length t
theorem idx_len : ∀ (t : Tx) (i : Nat), Lib.indexByte t 10 = i → i < t.length
  | [], i, h => by have : Lib.indexByte [] 10 = -1 := rfl; rw [this] at h; omega
  | b :: l, i, h => by
    have h2 : (if (b == 10) = true then 0 else if (Lib.indexByte l 10 == -1) = true then -1 else Lib.indexByte l 10 + 1) = (i : Int) := h
    have hg := Lib.indexByte_ge l 10
    split at h2
    · have : i = 0 := by omega
      subst this; simp
    · rename_i hb
      split at h2
      · omega
      · rename_i hl
        simp only [beq_iff_eq] at hl
        have := idx_len l (i - 1) (by omega)
        simp; omega
theorem endOf_pos {t : Tx} (h : t ≠ []) : 1 ≤ endOf t ∧ endOf t ≤ t.length := by
  have hg := Lib.indexByte_ge t 10
  have hl : 1 ≤ t.length := by cases t with | nil => exact absurd rfl h | cons a b => simp
  unfold endOf
  split
  · omega
  · have := idx_len t (Lib.indexByte t 10).toNat (by omega)
    omega
theorem rawN_len : ∀ (n : Nat) (t : Tx), (rawN n t).length ≤ n
  | 0, _ => by simp [rawN]
  | n + 1, t => by
    unfold rawN
    split
    · simp
    · rw [List.length_cons]; have := rawN_len n (t.drop (endOf t)); omega
theorem rawL_len (t : Tx) : (rawL t).length ≤ t.length := rawN_len _ _

def lineAt (s : Tx) (k : Nat) : Tx := (rawL s).getD k []
def num (k : Nat) : Nat := min k 100000 + 1
def encs (s : Tx) (k : Nat) : Array Value := #[.int .i64 ((num k : Nat) : Int), .string (st (lineAt s k))]
theorem rawN_le : ∀ (n : Nat) (t l : Tx), l ∈ rawN n t → l.length ≤ t.length
  | 0, _, l, h => by simp [rawN] at h
  | n + 1, t, l, h => by
    unfold rawN at h
    split at h
    · simp at h
    · rcases List.mem_cons.1 h with h | h
      · rw [h, List.length_take]; omega
      · have := rawN_le n _ l h
        rw [List.length_drop] at this
        omega
theorem lineAt_le (s : Tx) (k : Nat) : (lineAt s k).length ≤ s.length := by
  unfold lineAt
  rw [List.getD_eq_getElem?_getD]
  cases h : (rawL s)[k]? with
  | none => simp
  | some l => exact rawN_le _ _ _ (List.mem_of_getElem? h)

/-- What a round that goes on keeps: what lay below n₀, and the iterator's own box. -/
def Kp (n₀ Bb : Nat) (W W' : World) : Prop := Below n₀ W W' ∧ ∀ v, Boxed W Bb 9 v → Boxed W' Bb 9 v
theorem Kp.trans {n₀ Bb : Nat} {A B C : World} (h : Kp n₀ Bb A B) (k : Kp n₀ Bb B C) : Kp n₀ Bb A C := ⟨h.1.trans k.1, fun v hv => k.2 v (h.2 v hv)⟩
theorem Kp.put {n₀ Bb : Nat} {w : World} (hn : n₀ ≤ w.heap.size) (W : World) (l : Nat) (o o' : Obj) (hl : w.heap.size ≤ l) (h : W.heap[l]? = some o) (hc : o.isCells = false) (hw : o.isWalk = false) : Kp n₀ Bb W (W.putObj l o') :=
  ⟨belowK_b hn W l o o' hl h hc hw, fun v hv => hv.kept (grownBy_putObj' W l o') (fun e => by
    cases e
    rw [show W.heap[Bb]? = _ from hv] at h
    cases h
    cases hc)⟩
theorem Kp.grown {n₀ Bb : Nat} {W W' : World} {row : Option Nat} (hg : W.grownBy W' row) (hn : n₀ ≤ W.heap.size) (hr : ∀ k, row = some k → n₀ ≤ k ∧ k ≠ Bb) : Kp n₀ Bb W W' :=
  ⟨(Below.refl _ _).grown hg hn (fun k e => (hr k e).1), fun v hv => hv.kept hg (fun e => (hr Bb e.symm).2 rfl)⟩
theorem Kp.refl (n₀ Bb : Nat) (W : World) : Kp n₀ Bb W W := ⟨Below.refl _ _, fun _ h => h⟩

theorem ext_data (s : ByteArray) (f : Nat) : (s.extract f s.size).data.toList = s.data.toList.drop f := by
  rw [ByteArray.data_extract, Array.toList_extract]
  simp only [List.extract_eq_take_drop]
  rw [List.take_of_length_le (by simp)]
theorem ext_take (s : ByteArray) (f n : Nat) : s.extract f (f + n) = st ((s.data.toList.drop f).take n) := by
  apply ByteArray.ext
  apply Array.ext'
  rw [ByteArray.data_extract, Array.toList_extract]
  simp [List.extract_eq_take_drop, st]

theorem drop_cons {L : List Tx} {k : Nat} {a : Tx} {r : List Tx} (h : L.drop k = a :: r) : L.getD k [] = a ∧ L.drop (k + 1) = r ∧ k < L.length := by
  have hk : k < L.length := by
    rcases Nat.lt_or_ge k L.length with h1 | h1
    · exact h1
    · rw [List.drop_eq_nil_of_le h1] at h; cases h
  rw [List.drop_eq_getElem_cons hk] at h
  injection h with h1 h2
  exact ⟨by rw [← h1]; simp [List.getD, List.getElem?_eq_getElem hk], h2, hk⟩
set_option maxRecDepth 100000 in
set_option maxHeartbeats 2000000 in
theorem lines1_in (n : Nat) (hn : 1 ≤ n) (l Bb n₀ : Nat) (s : ByteArray) (hlen : s.size ≤ 100000) (J Jx : List Nat → World → Prop) (W : World) (hJ : AbidesFrom W.heap.size J)
    (hY : ∀ pre x W, J pre W → pre.length < (rawL s.data.toList).length → YieldAt Fence.wide (n - 1) Tryd.prog l (encs s.data.toList x) W fun e W' =>
      (e = .returned (.bool true) ∧ J (pre ++ [x]) W' ∧ Kp n₀ Bb W W') ∨ (e = .returned (.bool false) ∧ Jx (pre ++ [x]) W'))
    (hn₀ : n₀ ≤ W.heap.size) (hB : Boxed W Bb 9 (.string s)) (h0 : J [] W) :
    CallsIn Fence.wide n Tryd.prog 55 #[.func (.yield l) #[] #[], .pointer (some ⟨Bb, 0, none⟩)] W fun e W' => (∃ v, e = .returned v) ∧
      ((∃ ys, ys = List.range (rawL s.data.toList).length ∧ J ys W') ∨ (∃ pre, (∃ k, k ≤ (rawL s.data.toList).length ∧ pre = List.range k) ∧ Jx pre W')) := by
  have hlz : (s.size : Int) ≤ 100000 := by omega
  refine callsIn_of_wp Tryd.func55 rfl trivial ?_ rfl
  simp only [Tryd.ntmps55, List.size_toArray, List.length_cons, List.length_nil, Nat.reduceAdd, Nat.reduceSub, Array.replicate_succ, Array.replicate_zero, List.push_toArray, List.append_toArray, List.nil_append, List.cons_append]
  have hBc := hB.cell
  gi_wp2
  clear hBc
  gi_loopw [3, 4] (fun i m wr => ∃ (k f fuel : Nat), k ≤ (rawL s.data.toList).length ∧ i = .int .i64 (f : Int) ∧ m = .int .i64 ((k : Int) + 1) ∧ f ≤ s.size ∧ Hid (rawN fuel (s.data.toList.drop f) = (rawL s.data.toList).drop k ∧ s.size ≤ f + fuel) ∧ J (List.range k) wr ∧ Kp n₀ Bb W wr)
    (fun i _ _ => s.size - (intOf i).toNat)
  case atStart => exact ⟨0, 0, s.data.toList.length, Nat.zero_le _, rfl, rfl, Nat.zero_le _, Lib.hid ⟨rfl, by simp⟩, h0, Kp.refl _ _ _⟩
  case round =>
    obtain ⟨k, f, fuel, hk, rfl, rfl, hf, hR, hJs, hnx⟩ := hrel
    have hbB := hnx.2 _ hB
    have hBlt := hbB.lt
    have hcB := hbB.cell
    by_cases hlt : f < s.size
    · have hlt' : (f : Int) < (s.size : Int) := by omega
      obtain ⟨hR1, hfu⟩ := hR.out
      obtain ⟨fu, rfl⟩ : ∃ fu, fuel = fu + 1 := ⟨fuel - 1, by omega⟩
      have hne : s.data.toList.drop f ≠ [] := fun e => by
        have := congrArg List.length e
        simp at this
        omega
      have hE := endOf_pos hne
      have hdl : (s.data.toList.drop f).length = s.size - f := by simp
      have hL := drop_cons (show (rawL s.data.toList).drop k = (s.data.toList.drop f).take (endOf (s.data.toList.drop f)) :: rawN fu ((s.data.toList.drop f).drop (endOf (s.data.toList.drop f))) by rw [← hR1, rawN, if_neg hne])
      have hk5 : (k : Int) + 1 ≤ 100001 := by
        have h1 := rawL_len s.data.toList
        have h2 : s.data.toList.length = s.size := by simp
        omega
      have hla : lineAt s.data.toList k = (s.data.toList.drop f).take (endOf (s.data.toList.drop f)) := hL.1
      have hnext : rawN fu (s.data.toList.drop (f + endOf (s.data.toList.drop f))) = (rawL s.data.toList).drop (k + 1) := by rw [hL.2.1, List.drop_drop]
      have hst : st (lineAt s.data.toList k) = s.extract f (f + endOf (s.data.toList.drop f)) := by rw [hla, ext_take]
      have hix : ∀ wx, CallsIn Fence.wide (n - 1) Tryd.prog 56 #[.string (s.extract f s.size), .int .u8 10] wx fun e w' => e = .returned (.int .i64 (Lib.indexByte (s.data.toList.drop f) 10)) ∧ wx = w' := fun wx => (callsIn_wide (n := n - 1)).2 ((Shl.strings_IndexByte (s.extract f s.size) 10 wx).mono fun e w' ⟨he, hw⟩ => ⟨by rw [he, ext_data]; rfl, hw.symm⟩)
      have HIX := Lib.hid hix
      have hge := Lib.indexByte_ge (s.data.toList.drop f) 10
      have hEd : endOf (s.data.toList.drop f) = if Lib.indexByte (s.data.toList.drop f) 10 < 0 then s.size - f else (Lib.indexByte (s.data.toList.drop f) 10).toNat + 1 := by unfold endOf; rw [hdl]
      clear hix hR1 hR hla hne
      generalize hEE : endOf (s.data.toList.drop f) = E at *
      generalize hII : Lib.indexByte (s.data.toList.drop f) 10 = I at *
      clear hEE hII
      rw [hdl] at hE
      by_cases hneg : I < 0
      · rw [if_pos hneg] at hEd
        have hto : f + E = s.size := by omega
        rw [hto] at hst hnext
        have hd : decide ((0 : Int) ≤ I) = false := decide_eq_false (by omega)
        clear hEd hdl
        gi_wp2_with (refine ⟨trivial, ?_⟩; refine (HIX.out _).mono ?_; rintro e w9 ⟨rfl, rfl⟩)
        obtain ⟨fn, tmps, assign, body, hy, hR2⟩ := hY _ k wr hJs (by rw [List.length_range]; exact hL.2.2)
        dsimp only [encs] at hy
        rw [show ((num k : Nat) : Int) = (k : Int) + 1 by unfold num; omega] at hy
        rw [hst] at hy
        gi_wp2
        erw [hy]
        rw [Oper.uponIn_round]
        refine ⟨fun _ => hn, ?_⟩
        refine hR2.mono ?_
        rintro e W3 (⟨rfl, hJ3, hk3⟩ | ⟨rfl, hJx3⟩)
        · gi_wp2
          go_roundw
          case rel => exact ⟨k + 1, s.size, fu, by omega, rfl, by go_num, by omega, Lib.hid ⟨hnext, by omega⟩, by rw [List.range_succ]; exact hJ3, hnx.trans hk3⟩
          case measure => simp [intOf]; omega
        · gi_wp2
          refine bodyPost_ret (results_none rfl _ _ _) rfl ?_
          exact ⟨⟨_, rfl⟩, .inr ⟨_, ⟨k + 1, by omega, (List.range_succ).symm⟩, hJx3⟩⟩
      · rw [if_neg hneg] at hEd
        obtain ⟨i, rfl⟩ := Int.eq_ofNat_of_zero_le (show 0 ≤ I by omega)
        have hEi : E = i + 1 := by rw [hEd]; simp
        subst hEi
        have hile : (f : Int) + (i : Int) + 1 ≤ (s.size : Int) := by omega
        clear hEd hdl hneg hge
        gi_wp2_with (refine ⟨trivial, ?_⟩; refine (HIX.out _).mono ?_; rintro e w9 ⟨rfl, rfl⟩)
        obtain ⟨fn, tmps, assign, body, hy, hR2⟩ := hY _ k wr hJs (by rw [List.length_range]; exact hL.2.2)
        dsimp only [encs] at hy
        rw [show ((num k : Nat) : Int) = (k : Int) + 1 by unfold num; omega] at hy
        rw [hst, ← Nat.add_assoc] at hy
        gi_wp2
        erw [hy]
        rw [Oper.uponIn_round]
        refine ⟨fun _ => hn, ?_⟩
        refine hR2.mono ?_
        rintro e W3 (⟨rfl, hJ3, hk3⟩ | ⟨rfl, hJx3⟩)
        · gi_wp2
          go_roundw
          case rel => exact ⟨k + 1, f + (i + 1), fu, by omega, by go_num, by go_num, by omega, Lib.hid ⟨hnext, by omega⟩, by rw [List.range_succ]; exact hJ3, hnx.trans hk3⟩
          case measure => simp [intOf]; omega
        · gi_wp2
          refine bodyPost_ret (results_none rfl _ _ _) rfl ?_
          exact ⟨⟨_, rfl⟩, .inr ⟨_, ⟨k + 1, by omega, (List.range_succ).symm⟩, hJx3⟩⟩
    · have hk2 : k = (rawL s.data.toList).length := by
        obtain ⟨hR1, hfu⟩ := hR.out
        have hnil : s.data.toList.drop f = [] := List.drop_eq_nil_of_le (by simp; omega)
        have : rawN fuel [] = [] := by cases fuel <;> simp [rawN]
        rw [hnil, this] at hR1
        have := congrArg List.length hR1
        simp at this
        omega
      subst hk2
      gi_wp2
      go_end0
      exact ⟨⟨_, rfl⟩, .inl ⟨_, rfl, hJs⟩⟩

set_option maxHeartbeats 1000000 in
theorem lines_in (n : Nat) (s : ByteArray) (w : World) :
    CallsIn Fence.wide n Tryd.prog 44 #[.string s] w fun e w' => e = .returned (.func (.func 55) #[] #[.pointer (some ⟨w.heap.size, 0, none⟩)]) ∧ w' = w.alloc (.cells #[.string s] 9) := by
  refine callsIn_of_wp Tryd.func44 rfl trivial ?_ rfl
  simp only [Tryd.ntmps44, List.size_toArray, List.length_cons, List.length_nil, Nat.reduceAdd, Nat.reduceSub, Array.replicate_succ, Array.replicate_zero, List.push_toArray, List.append_toArray, List.nil_append, List.cons_append]
  gi_wp2
  go_ret
  exact ⟨rfl, rfl⟩

/-- All lines come in their order, or a first part of them. n₀: what lay there when the loop's function began. -/
theorem lines_stops (n : Nat) (hn : 1 ≤ n) (Bb n₀ : Nat) (s : ByteArray) (hlen : s.size ≤ 100000) (w : World) (hn₀ : n₀ ≤ w.heap.size) (hc : Boxed w Bb 9 (.string s)) :
    SeqStopsK Fence.wide n Tryd.prog 55 #[.pointer (some ⟨Bb, 0, none⟩)] (encs s.data.toList) (Kp n₀ Bb) (fun ys => ys = List.range (rawL s.data.toList).length) (fun pre => ∃ k, k ≤ (rawL s.data.toList).length ∧ pre = List.range k) (rawL s.data.toList).length w := fun l J Jx W hW hJ _ hY hJ0 => by
  have hc' : Boxed W Bb 9 (.string s) := (hW.block Bb hc.lt).trans hc
  exact lines1_in n hn l Bb n₀ s hlen J Jx W hJ hY (Nat.le_trans hn₀ hW.size) hc' hJ0
end Go.Proofs.YtlddjjkbnhhfaaaDoor.IsaQ
