/-
  Rising: the iterator's contract for whatever loop body, and the loop's law.
-/
import Derived.Test.YtpblnjphkgilfaaSlc
import Derived.RangeFuncNested
import Derived.RangeFuncBound
import Derived.RangeFuncCalls
import Derived.RangeFuncLeaves
import Derived.Shelf.Abstract
import Derived.Shelf.RegionOpen
import Derived.OwnWalkIn
import Derived.TacticsInMore
import Derived.LoopNIn
import Derived.LoopIn
namespace Go.Proofs.Ytpblnjphkgilfaa.Sld
open Go Go.RowKit Go.Shelf Kit Bk Sla Slb Slc
set_option linter.unusedVariables false
attribute [local go_sem] Oper.semAt_some

/-- The i-th who sleeps: pid, ticks. -/
def pd (L : St) (i : Nat) : Int := (L[i]?.getD (0, 0)).1
def tc (L : St) (i : Nat) : Nat := (L[i]?.getD (0, 0)).2
theorem pd_at {L : St} {i : Nat} (h : i < L.length) : pd L i = L[i].1 := by unfold pd; rw [List.getElem?_eq_getElem h]; rfl
theorem tc_at {L : St} {i : Nat} (h : i < L.length) : tc L i = L[i].2 := by unfold tc; rw [List.getElem?_eq_getElem h]; rfl

/-- What a round may turn: a box, the map, the row that the box holds. -/
def Mine (B : Nat) (m : Option Nat) (W : World) (k : Nat) : Prop := k = B ∨ some k = m ∨ ∃ v T z, W.heap[B]? = some (.cells #[v] T z) ∧ v.ownBlock = some k
/-- What a round that goes on keeps. -/
def Stay (B : Nat) (m : Option Nat) (X Y : World) : Prop := ∀ k cs T z, X.heap[k]? = some (.cells cs T z) → ¬ Mine B m X k → Y.heap[k]? = some (.cells cs T z) ∧ ¬ Mine B m Y k
theorem Stay.refl (B : Nat) (m : Option Nat) (X : World) : Stay B m X X := fun k cs T z h hn => ⟨h, hn⟩
theorem Stay.trans {B : Nat} {m : Option Nat} {X Y Z : World} (h : Stay B m X Y) (k : Stay B m Y Z) : Stay B m X Z := fun j cs T z hj hn => k j cs T z (h j cs T z hj hn).1 (h j cs T z hj hn).2
theorem Mine.same {B : Nat} {m : Option Nat} {X Y : World} (e : Y.heap[B]? = X.heap[B]?) {k : Nat} : Mine B m Y k ↔ Mine B m X k := by unfold Mine; rw [e]
theorem Stay.put {B : Nat} {m : Option Nat} {X : World} {l : Nat} {o : Obj} (hl : l ≠ B) (h : X.heap[l]? = some o) (hc : o.isCells = false) (o' : Obj) : Stay B m X (X.putObj l o') := fun k cs T z hk hn => by
  have hkl : k ≠ l := fun e => by subst e; rw [h] at hk; cases hk; cases hc
  exact ⟨(World.putObj_heap_other hkl).trans hk, fun e => hn ((Mine.same (World.putObj_heap_other (Ne.symm hl))).1 e)⟩
/-- What a caller's own facts abide: all that lay below B0, and all cells, lie as they lay. -/
structure Kz (B0 : Nat) (X Y : World) : Prop where
  os : Y.os = X.os
  tape : Y.tape = X.tape
  output : Y.output = X.output
  size : X.heap.size ≤ Y.heap.size
  block : ∀ k, k < X.heap.size → (k < B0 ∨ ∃ cs T z, X.heap[k]? = some (.cells cs T z)) → Y.heap[k]? = X.heap[k]?
theorem Kz.of_below {B0 : Nat} {X Y : World} (h : Below X.heap.size X Y) : Kz B0 X Y := ⟨h.os, h.tape, h.output, h.size, fun k hk _ => h.block k hk⟩
theorem Kz.putObj {B0 : Nat} {X : World} {l : Nat} {o : Obj} (hl : B0 ≤ l) (h : X.heap[l]? = some o) (hc : o.isCells = false) (o' : Obj) : Kz B0 X (X.putObj l o') :=
  ⟨rfl, rfl, rfl, by simp, fun k hk hn => World.putObj_heap_other (fun e => by
    rcases hn with h1 | ⟨cs, T, z, h1⟩
    · omega
    · rw [e, h] at h1; cases h1; cases hc)⟩
theorem Kz.alloc (B0 : Nat) (X : World) (o : Obj) : Kz B0 X (X.alloc o) := .of_below ((Below.refl _ _).alloc (Nat.le_refl _) _)

/-- maps.Keys, and slices.Sorted at what it answers. -/
theorem keys_any (m : Option Nat) (w : World) : Calls Try.prog 29 #[.map m] w fun e w' => e = .returned (.func (.func 33) #[] #[.pointer (some ⟨w.heap.size, 0, none⟩)]) ∧ w' = w.alloc (.cells #[.map m] 24) :=
  callsIn_wide.1 (Shl.keys_in m w)
theorem sort_pids {L : St} (ho : Ok L) {ss : List Int} (h : ss.Perm (pids L)) : ss.mergeSort (fun x y => decide (x ≤ y)) = pids L := by
  have e1 : ss.mergeSort leI = (pids L).mergeSort leI := mergeSort_of_perm_i h
  have e2 : (pids L).mergeSort leI = pids L := List.mergeSort_of_pairwise (by
    unfold pids
    exact List.pairwise_map.2 (ho.up.imp (fun hlt => by simp only [leI, decide_eq_true_eq]; omega)))
  exact e1.trans e2
/-- The row of pids, as it lies. -/
theorem sorted_any {w : World} {m : Option Nat} {L : St} (h : Ml w m L) (ho : Ok L) (hl : L.length ≤ 90000) :
    Calls Try.prog 28 #[.func (.func 33) #[] #[.pointer (some ⟨w.heap.size, 0, none⟩)]] (w.alloc (.cells #[.map m] 24)) fun e w' => ∃ (a : Option Addr) (c : Nat), e = .returned (.slice a L.length c) ∧
      (L.length ≤ c ∧ c ≤ maxLen) ∧ (∀ i, i < L.length → ∃ r cur, a = some ⟨r, 0, none⟩ ∧ w.heap.size ≤ r ∧ w'.heap[r]? = some (.cells cur 3 (0, 0)) ∧ cur[i]? = some (.int .i64 (pd L i))) ∧ Below w.heap.size w w' := by
  have hB0 := (Below.refl w.heap.size w).alloc (Nat.le_refl _) (.cells #[.map m] 24)
  have key : Calls Try.prog 28 #[.func (.func 33) #[] #[.pointer (some ⟨w.heap.size, 0, none⟩)]] (w.alloc (.cells #[.map m] 24)) fun e w' => ∃ (v : Value) (ss : List Int), e = .returned v ∧ ss.Perm (pids L) ∧
      w'.ownsRow (w.alloc (.cells #[.map m] 24)).heap.size 3 1 v ss.length ((ss.mergeSort (fun x y => decide (x ≤ y))).map encZ) ∧ (v = .slice none 0 0 ↔ ss = []) ∧ Below (w.alloc (.cells #[.map m] 24)).heap.size (w.alloc (.cells #[.map m] 24)) w' := by
    cases m with
    | none =>
      cases h
      refine (callsIn_wide.1 (Shl.sorted_nil w)).mono ?_
      rintro e w' ⟨v, ss, h1, rfl, h2⟩
      exact ⟨v, [], h1, List.Perm.refl _, h2⟩
    | some b =>
      obtain ⟨D, h1, h2⟩ := show Mp w b L from h
      have hk := ow_keys h1 h2 ho.nodup
      refine (callsIn_wide.1 (Shl.sorted_in b L.length D _ w h1 (by rw [hk.2]; unfold maxLen; omega) (by rw [hk.2]; omega))).mono ?_
      rintro e w' ⟨v, ss, h3, h4, h5⟩
      exact ⟨v, ss, h3, h4.trans hk.1.symm, h5⟩
  refine key.mono ?_
  rintro e w' ⟨v, ss, rfl, hp, hrow, _, hb⟩
  rw [sort_pids ho hp] at hrow
  have hlen : ss.length = L.length := by rw [hp.length_eq]; simp [pids]
  rw [hlen] at hrow
  have hB := hB0.trans (hb.mono (by simp))
  rcases hrow.2 with ⟨rfl, h0⟩ | ⟨g, cap, cur, rfl, hg, hh, h3, h4, h5, h6⟩
  · exact ⟨none, 0, by rw [h0], ⟨by omega, Nat.zero_le _⟩, fun i hi => by omega, hB⟩
  · refine ⟨_, cap, rfl, ⟨h3, h4⟩, fun i hi => ⟨g, cur, rfl, by simp at hg; omega, hh, ?_⟩, hB⟩
    have e1 : (cur.toList.take (L.length * 1))[i]? = ((pids L).map encZ)[i]? := by rw [h6]
    rw [List.getElem?_take, if_pos (by omega)] at e1
    rw [← Array.getElem?_toList, e1, List.getElem?_map]
    unfold pids
    rw [List.getElem?_map, List.getElem?_eq_getElem hi, pd_at hi]
    rfl

set_option maxRecDepth 100000 in
set_option maxHeartbeats 4000000 in
theorem rising1_in (n : Nat) (hn : 1 ≤ n) (l Bs B : Nat) (m : Option Nat) (ad : Option Addr) (L : St) (ho : Ok L) (hl : L.length ≤ 90000) (J Jx : Nat → World → Prop) (W : World)
    (hAs : Calls Try.prog 25 #[.pointer ad] W fun e w' => e = .returned (.map m) ∧ W = w') (hMl : Ml W m L)
    (hJ : ∀ i X Y, Below X.heap.size X Y → J i X → J i Y)
    (hLk : ∀ i X, i < L.length → J i X → ∃ q, ad = some ⟨q, 0, none⟩ ∧ X.cell? ⟨q, 0, none⟩ = some (.map m) ∧ (Instr.lookup 24 (.map m) (.int .i64 (pd L i)) false).run Try.prog X = .ok (.int .u32 ((tc L i : Nat) : Int)) X)
    (hY : ∀ i X, i < L.length → J i X → YieldAt Fence.wide (n - 1) Try.prog l #[.int .i64 (pd L i), .int .u32 ((tc L i : Nat) : Int)] X fun e X' =>
      (e = .returned (.bool true) ∧ J (i + 1) X' ∧ Stay B m X X') ∨ (e = .returned (.bool false) ∧ Jx i X'))
    (h0 : J 0 W) (hBs : Boxed W Bs 23 (.pointer ad)) (hM : ∀ k, Mine B m W k → k < W.heap.size ∧ k ≠ Bs) (hB : B < W.heap.size) :
    CallsIn Fence.wide n Try.prog 27 #[.func (.yield l) #[] #[], .pointer (some ⟨Bs, 0, none⟩)] W fun e W' => (∃ v, e = .returned v) ∧ (J L.length W' ∨ ∃ i, i < L.length ∧ Jx i W') := by
  have hcB := hBs.cell
  have HA := Lib.hid ((callsIn_wide (n := n - 1)).2 hAs)
  have HK := Lib.hid (fun m w => (callsIn_wide (n := n - 1)).2 (keys_any m w))
  have HS := Lib.hid ((callsIn_wide (n := n - 1)).2 (sorted_any hMl ho hl))
  have HB := Lib.hid hBs
  have HJ := Lib.hid hJ
  have HL := Lib.hid hLk
  have HY := Lib.hid hY
  have HM := Lib.hid (And.intro hM hB)
  have H0 := Lib.hid h0
  have hlI : (L.length : Int) ≤ 90000 := by omega
  clear hBs hMl hAs hJ hLk hY hM h0 ho hB
  refine callsIn_of_wp Try.func27 rfl trivial ?_ rfl
  simp only [Try.ntmps27, List.size_toArray, List.length_cons, List.length_nil, Nat.reduceAdd, Nat.reduceSub, Array.replicate_succ, Array.replicate_zero, List.push_toArray, List.append_toArray, List.nil_append, List.cons_append]
  gi_wp2_with (first
    | (refine ⟨trivial, ?_⟩; gi_at_call 25; refine HA.out.mono ?_; rintro e w9 ⟨rfl, rfl⟩)
    | (refine ⟨trivial, ?_⟩; gi_at_call 29; refine (HK.out _ _).mono ?_; rintro e w9 ⟨rfl, rfl⟩)
    | (refine ⟨trivial, ?_⟩; gi_at_call 28; refine HS.out.mono ?_; rintro e W1 ⟨a, c, rfl, hc, hrow, hb1⟩)
    | (refine ⟨trivial, fun _ => (by omega), ?_⟩; gi_at_call 25; refine HA.out.mono ?_; rintro e w9 ⟨rfl, rfl⟩)
    | (refine ⟨trivial, fun _ => (by omega), ?_⟩; gi_at_call 29; refine (HK.out _ _).mono ?_; rintro e w9 ⟨rfl, rfl⟩)
    | (refine ⟨trivial, fun _ => (by omega), ?_⟩; gi_at_call 28; refine HS.out.mono ?_; rintro e W1 ⟨a, c, rfl, hc, hrow, hb1⟩))
  have HX := Lib.hid hb1
  have hJ1 := HJ.out 0 _ _ hb1 H0.out
  have hmB : W1.heap[B]? = W.heap[B]? := hb1.block B HM.out.2
  have HN : Hid (∀ k, W.heap.size ≤ k ∨ k = Bs → ¬ Mine B m W1 k) := Lib.hid (fun k hk e => by
    have h1 := HM.out.1 k ((Mine.same hmB).1 e)
    omega)
  have HBx : Hid (Boxed W1 Bs 23 (.pointer ad)) := Lib.hid ((hb1.block Bs HB.out.lt).trans HB.out)
  have HR := Lib.hid hrow
  clear hrow hcB hb1 hmB hc H0
  gi_loopw [10] (fun i wr => ∃ k : Nat, k ≤ L.length ∧ i = .int .i64 (k : Int) ∧ J k wr ∧ Stay B m W1 wr) (fun i _ => L.length - (intOf i).toNat)
  case atStart => exact ⟨0, Nat.zero_le _, rfl, hJ1, Stay.refl _ _ _⟩
  case round =>
    obtain ⟨k, hk, rfl, hJs, hst⟩ := hrel
    by_cases hlt : k < L.length
    · have hltI : (k : Int) < (L.length : Int) := by omega
      obtain ⟨r, cur, rfl, hr, hrb, hrc⟩ := HR.out k hlt
      obtain ⟨q, rfl, hq, hlk⟩ := HL.out k wr hlt hJs
      have hck : wr.cell? ⟨r, k, none⟩ = some (.int .i64 (pd L k)) := by
        have h1 := (hst r _ _ _ hrb (HN.out r (.inl hr))).1
        simp [World.cell?, h1, hrc]
      have hcb : wr.cell? ⟨Bs, 0, none⟩ = some (.pointer (some ⟨q, 0, none⟩)) := by
        have h1 := (hst Bs _ _ _ HBx.out (HN.out Bs (.inr rfl))).1
        simp [World.cell?, h1]
      obtain ⟨fn, tmps, assign, body, hy, hR2⟩ := HY.out k wr hlt hJs
      have HST := Lib.hid hst
      clear hst hJs hrb hrc hr
      gi_wp2
      refine hR2.mono ?_
      rintro e W3 (⟨rfl, hJ3, hk3⟩ | ⟨rfl, hJx3⟩)
      · gi_wp2
        go_roundw
        case rel => exact ⟨k + 1, by omega, by go_num, hJ3, HST.out.trans hk3⟩
        case measure => simp [intOf]; omega
      · gi_wp2
        refine bodyPost_ret (results_none rfl _ _ _) rfl ?_
        exact ⟨⟨_, rfl⟩, .inr ⟨k, hlt, hJx3⟩⟩
    · obtain rfl : k = L.length := by omega
      have HJs := Lib.hid hJs
      clear hst hJs
      gi_wp2
      go_end0
      exact ⟨⟨_, rfl⟩, .inl HJs.out⟩
end Go.Proofs.Ytpblnjphkgilfaa.Sld
