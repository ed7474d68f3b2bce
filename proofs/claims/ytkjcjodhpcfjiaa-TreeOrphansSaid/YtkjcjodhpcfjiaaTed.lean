/-
  All; rising: what the iterator tells, for whatever loop body.
-/
import Derived.Test.YtkjcjodhpcfjiaaTec
import Derived.RangeFuncNested
import Derived.RangeFuncBound
import Derived.RangeFuncCalls
import Derived.RangeFuncLeaves
import Derived.Shelf.Abstract
import Derived.Shelf.RegionOpen
import Derived.OwnWalkIn
import Derived.TacticsInMore
import Derived.LoopNIn
import Derived.LoopIn
namespace Go.Proofs.Ytkjcjodhpcfjiaa.Ted
open Go Go.RowKit Go.Shelf Kit Bk Tea Teb Tec
set_option linter.unusedVariables false
attribute [local go_sem] Oper.semAt_some

/-- The i-th process: pid, record. -/
def pd (L : St) (i : Nat) : Int := (L[i]?.getD (0, Z)).1
def rc (L : St) (i : Nat) : Rc := (L[i]?.getD (0, Z)).2
theorem pd_at {L : St} {i : Nat} (h : i < L.length) : pd L i = L[i].1 := by unfold pd; rw [List.getElem?_eq_getElem h]; rfl
theorem rc_at {L : St} {i : Nat} (h : i < L.length) : rc L i = L[i].2 := by unfold rc; rw [List.getElem?_eq_getElem h]; rfl
def ints (l : List Int) : List Value := l.map fun x => Value.int .i64 x
theorem ints_app (l k : List Int) : ints (l ++ k) = ints l ++ ints k := by simp [ints]
/-- A slice that reads as numbers. -/
abbrev Nr (w : World) (u : Value) (l : List Int) : Prop := w.ownsRow 0 3 1 u l.length (ints l)
theorem nr_cells {w : World} {u : Value} {B : Nat} {l : List Int} (h : w.ownsRow B 3 1 u l.length (ints l)) : ∃ a c, u = .slice a l.length c ∧ c ≤ maxLen ∧ l.length ≤ c ∧ ∀ i (hi : i < l.length), ∃ r, a = some ⟨r, 0, none⟩ ∧ w.cell? ⟨r, i, none⟩ = some (.int .i64 l[i]) := by
  rcases h.2 with ⟨rfl, h0⟩ | ⟨g, cap, cur, rfl, hg, hh, h3, h4, h5, h6⟩
  · exact ⟨none, 0, by rw [h0], Nat.zero_le _, by omega, fun i hi => by omega⟩
  · refine ⟨_, cap, rfl, h4, h3, fun i hi => ⟨g, rfl, ?_⟩⟩
    rw [h.cellAt i (by omega)]
    simp [ints, hi]

/-- maps.Keys, and slices.Sorted at what it answers. -/
theorem keys_any (m : Option Nat) (w : World) : Calls Try.prog 37 #[.map m] w fun e w' => e = .returned (.func (.func 43) #[] #[.pointer (some ⟨w.heap.size, 0, none⟩)]) ∧ w' = w.alloc (.cells #[.map m] 62) :=
  callsIn_wide.1 (Shl.keys_in m w)
theorem sort_pids {L : St} (ho : Up L) {ss : List Int} (h : ss.Perm (pids L)) : ss.mergeSort (fun x y => decide (x ≤ y)) = pids L := by
  have e1 : ss.mergeSort leI = (pids L).mergeSort leI := mergeSort_of_perm_i h
  have e2 : (pids L).mergeSort leI = pids L := List.mergeSort_of_pairwise (by
    unfold pids
    exact List.pairwise_map.2 (ho.imp (fun hlt => by simp only [leI, decide_eq_true_eq]; omega)))
  exact e1.trans e2
theorem sorted_any {w : World} {b : Nat} {L : St} (h : Mp w b L) (ho : Up L) (hl : L.length ≤ 90000) :
    Calls Try.prog 36 #[.func (.func 43) #[] #[.pointer (some ⟨w.heap.size, 0, none⟩)]] (w.alloc (.cells #[.map (some b)] 62)) fun e w' => ∃ u, e = .returned u ∧ w'.ownsRow w.heap.size 3 1 u L.length (ints (pids L)) ∧ Below w.heap.size w w' := by
  have hB0 := (Below.refl w.heap.size w).alloc (Nat.le_refl _) (.cells #[.map (some b)] 62)
  obtain ⟨D, h1, h2⟩ := h
  have hk := ow_keys h1 h2 ho.nodup
  refine (callsIn_wide.1 (Shl.sorted_in b L.length D _ w h1 (by rw [hk.2]; unfold maxLen; omega) (by rw [hk.2]; omega))).mono ?_
  rintro e w' ⟨v, ss, rfl, hp, hrow, _, hb⟩
  replace hp := hp.trans hk.1.symm
  rw [sort_pids ho hp] at hrow
  have hlen : ss.length = L.length := by rw [hp.length_eq]; simp [pids]
  rw [hlen] at hrow
  exact ⟨v, rfl, own_base hrow (by simp), hB0.trans (hb.mono (by simp))⟩
theorem all_any {B : Nat} {w : World} {q b : Nat} {v : Value} {rm : Nat} {L : St} {S : List Bool} (h : Tb B w q b v rm L S) (ho : Up L) (hl : L.length ≤ 90000) :
    Calls Try.prog 19 #[pv q] w fun e w' => ∃ u, e = .returned u ∧ w'.ownsRow w.heap.size 3 1 u L.length (ints (pids L)) ∧ Below w.heap.size w w' := by
  have HA := Lib.hid (processes_any h)
  have HK := Lib.hid (fun m w => keys_any m w)
  have HS := Lib.hid (sorted_any h.map ho hl)
  clear h ho hl
  generalize ints (pids L) = l at *
  generalize L.length = n at *
  go_enter Try.func19, Try.ntmps19
  go_wp2_with (first
    | (go_at_call 35; (with_reducible refine HA.out.mono ?_); rintro e w1 ⟨rfl, rfl⟩)
    | (go_at_call 37; (with_reducible refine (HK.out _ _).mono ?_); rintro e w2 ⟨rfl, rfl⟩)
    | (go_at_call 36; (with_reducible refine HS.out.mono ?_); rintro e w3 ⟨u, rfl, h1, h2⟩; have HE := Lib.hid (And.intro h1 h2); clear h1 h2))
  go_ret
  exact ⟨u, rfl, HE.out.1, HE.out.2⟩
theorem all_nil (w : World) :
    Calls Try.prog 19 #[.pointer none] w fun e w' => ∃ u, e = .returned u ∧ w'.ownsRow w.heap.size 3 1 u 0 [] ∧ Below w.heap.size w w' := by
  have HA := Lib.hid (processes_nil w)
  have HK := Lib.hid (fun m w => keys_any m w)
  have HS : Hid (Calls Try.prog 36 #[.func (.func 43) #[] #[.pointer (some ⟨w.heap.size, 0, none⟩)]] (w.alloc (.cells #[.map none] 62)) fun e w' => ∃ u, e = .returned u ∧ w'.ownsRow w.heap.size 3 1 u 0 [] ∧ Below w.heap.size w w') := Lib.hid (by
    refine (callsIn_wide.1 (Shl.sorted_nil w)).mono ?_
    rintro e w' ⟨v, ss, rfl, rfl, hrow, _, hb⟩
    have hrow2 : w'.ownsRow (w.alloc (.cells #[.map none] 62)).heap.size 3 1 v 0 [] := by simpa using hrow
    exact ⟨v, rfl, own_base hrow2 (by simp), ((Below.refl w.heap.size w).alloc (Nat.le_refl _) _).trans (hb.mono (by simp))⟩)
  go_enter Try.func19, Try.ntmps19
  go_wp2_with (first
    | (go_at_call 35; (with_reducible refine HA.out.mono ?_); rintro e w1 ⟨rfl, rfl⟩)
    | (go_at_call 37; (with_reducible refine (HK.out _ _).mono ?_); rintro e w2 ⟨rfl, rfl⟩)
    | (go_at_call 36; (with_reducible refine HS.out.mono ?_); rintro e w3 ⟨u, rfl, h1, h2⟩; have HE := Lib.hid (And.intro h1 h2); clear h1 h2))
  go_ret
  exact ⟨u, rfl, HE.out.1, HE.out.2⟩

/-- What a round may turn: boxes, the map, the rows that the boxes hold. -/
def Mine (P : Nat → Prop) (b : Nat) (W : World) (k : Nat) : Prop := P k ∨ k = b ∨ ∃ g, P g ∧ ∃ v T z, W.heap[g]? = some (.cells #[v] T z) ∧ v.ownBlock = some k
/-- What a round that goes on keeps. -/
def Stay (P : Nat → Prop) (b : Nat) (X Y : World) : Prop := ∀ k cs T z, X.heap[k]? = some (.cells cs T z) → ¬ Mine P b X k → Y.heap[k]? = some (.cells cs T z) ∧ ¬ Mine P b Y k
theorem Stay.refl (P : Nat → Prop) (b : Nat) (X : World) : Stay P b X X := fun k cs T z h hn => ⟨h, hn⟩
theorem Stay.trans {P : Nat → Prop} {b : Nat} {X Y Z : World} (h : Stay P b X Y) (k : Stay P b Y Z) : Stay P b X Z := fun j cs T z hj hn => k j cs T z (h j cs T z hj hn).1 (h j cs T z hj hn).2
theorem Mine.same {P : Nat → Prop} {b : Nat} {X Y : World} (e : ∀ g, P g → Y.heap[g]? = X.heap[g]?) {k : Nat} : Mine P b Y k ↔ Mine P b X k := by
  unfold Mine
  refine or_congr Iff.rfl (or_congr Iff.rfl ⟨?_, ?_⟩)
  · rintro ⟨g, hg, v, T, z, h1, h2⟩; exact ⟨g, hg, v, T, z, by rw [← e g hg]; exact h1, h2⟩
  · rintro ⟨g, hg, v, T, z, h1, h2⟩; exact ⟨g, hg, v, T, z, by rw [e g hg]; exact h1, h2⟩
theorem Stay.put {P : Nat → Prop} {b : Nat} {X : World} {l : Nat} {o : Obj} (hl : ¬ P l) (h : X.heap[l]? = some o) (hc : o.isCells = false) (o' : Obj) : Stay P b X (X.putObj l o') := fun k cs T z hk hn => by
  have hkl : k ≠ l := fun e => by subst e; rw [h] at hk; cases hk; cases hc
  exact ⟨(World.putObj_heap_other hkl).trans hk, fun e => hn ((Mine.same (fun g hg => World.putObj_heap_other (fun e => hl (by rw [← e]; exact hg)))).1 e)⟩
theorem Stay.below {P : Nat → Prop} {b : Nat} {X Y : World} (hP : ∀ g, P g → g < X.heap.size) (h : Below X.heap.size X Y) : Stay P b X Y := fun k cs T z hk hn =>
  ⟨(h.block k (Array.getElem?_eq_some_iff.1 hk).1).trans hk, fun e => hn ((Mine.same (fun g hg => h.block g (hP g hg))).1 e)⟩
/-- What a caller's own facts abide: all that lay below B0, and all cells, lie as they lay. -/
structure Kz (B0 : Nat) (X Y : World) : Prop where
  os : Y.os = X.os
  tape : Y.tape = X.tape
  output : Y.output = X.output
  size : X.heap.size ≤ Y.heap.size
  block : ∀ k, k < X.heap.size → (k < B0 ∨ ∃ cs T z, X.heap[k]? = some (.cells cs T z)) → Y.heap[k]? = X.heap[k]?
theorem Kz.of_below {B0 : Nat} {X Y : World} (h : Below X.heap.size X Y) : Kz B0 X Y := ⟨h.os, h.tape, h.output, h.size, fun k hk _ => h.block k hk⟩
theorem Kz.putObj {B0 : Nat} {X : World} {l : Nat} {o : Obj} (hl : B0 ≤ l) (h : X.heap[l]? = some o) (hc : o.isCells = false) (o' : Obj) : Kz B0 X (X.putObj l o') :=
  ⟨rfl, rfl, rfl, by simp, fun k hk hn => World.putObj_heap_other (fun e => by
    rcases hn with h1 | ⟨cs, T, z, h1⟩
    · omega
    · rw [e, h] at h1; cases h1; cases hc)⟩
theorem Kz.alloc (B0 : Nat) (X : World) (o : Obj) : Kz B0 X (X.alloc o) := .of_below ((Below.refl _ _).alloc (Nat.le_refl _) _)

/-- A round's contract at whatever depth. -/
theorem round_any {n m : Nat} {P : Program} {l : Nat} {f : FuncId} {tmps : Array Value} {assign body : Code} {w : World} {R : Ending → World → Prop} (h : RoundIn Fence.wide n P l f tmps assign body w R) : RoundIn Fence.wide m P l f tmps assign body w R := ⟨h.1, fun c cs _ => h.2 c cs (room_wide _)⟩
theorem calls_any {n m : Nat} {f : FuncId} {args : Array Value} {w : World} {R : Ending → World → Prop} (h : CallsIn Fence.wide n Try.prog f args w R) : CallsIn Fence.wide m Try.prog f args w R := callsIn_wide.2 (callsIn_wide.1 h)
/-- What an iterator tells at a world: function F with its variables; the i-th is val i; E is what it needs of the worlds meanwhile. -/
def Tells (P : Nat → Prop) (b : Nat) (F : FuncId) (fv : Array Value) (c : Nat) (val : Nat → Array Value) (E : Nat → World → Prop) (W : World) : Prop :=
  ∀ (l : Nat) (J Jx : Nat → World → Prop), (∀ i X Y, Kz W.heap.size X Y → J i X → J i Y) → (∀ i X Y, Kz W.heap.size X Y → Jx i X → Jx i Y) → (∀ i X, J i X → E i X) →
    (∀ i X, i < c → J i X → YieldAt Fence.wide 0 Try.prog l (val i) X fun e X' => KeepsFrom W.heap.size X X' ∧ ((e = .returned (.bool true) ∧ J (i + 1) X' ∧ Stay P b X X') ∨ (e = .returned (.bool false) ∧ Jx i X'))) →
    J 0 W → CallsIn Fence.wide 8 Try.prog F (#[.func (.yield l) #[] #[]] ++ fv) W fun e W' => (∃ v, e = .returned v) ∧ (J c W' ∨ ∃ i, i < c ∧ Jx i W')
/-- The table can be read, and the i-th is as it was. -/
def Er (q b : Nat) (L : St) (i : Nat) (X : World) : Prop := X.cell? ⟨q, 1, none⟩ = some (.map (some b)) ∧ (i < L.length → (Instr.lookup 62 (.map (some b)) (.int .i64 (pd L i)) false).run Try.prog X = .ok (rv (rc L i)) X)

set_option maxRecDepth 100000 in
set_option maxHeartbeats 4000000 in
theorem rising_tells {B : Nat} {W : World} {q b : Nat} {v : Value} {rm : Nat} {L : St} {S : List Bool} (h : Tb B W q b v rm L S) (ho : Up L) (hl : L.length ≤ 90000) {P : Nat → Prop} {Bs : Nat} (hBs : Boxed W Bs 22 (pv q)) (hM : ∀ k, Mine P b W k → k < W.heap.size ∧ k ≠ Bs) :
    Tells P b 44 #[.pointer (some ⟨Bs, 0, none⟩)] L.length (fun i => #[.int .i64 (pd L i), rv (rc L i)]) (Er q b L) W := by
  intro l J Jx hJ hJx hE hY h0
  have hcB := hBs.cell
  have HA := Lib.hid ((callsIn_wide (n := 8 - 1)).2 (all_any h ho hl))
  have HB := Lib.hid hBs
  have HJ := Lib.hid hJ
  have HL := Lib.hid hE
  have HY := Lib.hid hY
  have HM := Lib.hid hM
  have H0 := Lib.hid h0
  have hlI : (L.length : Int) ≤ 90000 := by omega
  have hpl : (pids L).length = L.length := by simp [pids]
  clear hBs hJ hJx hE hY hM h0 ho h
  refine callsIn_of_wp Try.func44 rfl trivial ?_ rfl
  simp only [Try.ntmps44, List.size_toArray, List.length_cons, List.length_nil, Nat.reduceAdd, Nat.reduceSub, Array.replicate_succ, Array.replicate_zero, List.push_toArray, List.append_toArray, List.nil_append, List.cons_append]
  gi_wp2_with (first
    | (refine ⟨trivial, ?_⟩; gi_at_call 19; refine HA.out.mono ?_; rintro e W1 ⟨u, rfl, hrow, hb1⟩; rw [← hpl] at hrow; obtain ⟨a, c, rfl, hc1, hc2, hcs⟩ := nr_cells hrow; rw [hpl] at hrow hc2 ⊢)
    | (refine ⟨trivial, fun _ => (by omega), ?_⟩; gi_at_call 19; refine HA.out.mono ?_; rintro e W1 ⟨u, rfl, hrow, hb1⟩; rw [← hpl] at hrow; obtain ⟨a, c, rfl, hc1, hc2, hcs⟩ := nr_cells hrow; rw [hpl] at hrow hc2 ⊢))
  have hJ1 := HJ.out 0 _ _ (Kz.of_below hb1) H0.out
  have hmB : ∀ g, P g → W1.heap[g]? = W.heap[g]? := fun g hg => hb1.block g (HM.out g (.inl hg)).1
  have HN : Hid (∀ k, W.heap.size ≤ k ∨ k = Bs → ¬ Mine P b W1 k) := Lib.hid (fun k hk e => by
    have h1 := HM.out k ((Mine.same hmB).1 e)
    omega)
  have HBx : Hid (Boxed W1 Bs 22 (pv q)) := Lib.hid ((hb1.block Bs HB.out.lt).trans HB.out)
  have HR := Lib.hid (And.intro hrow hcs)
  clear hrow hcB hb1 hmB H0 hcs
  gi_loopw [8] (fun i wr => ∃ k : Nat, k ≤ L.length ∧ i = .int .i64 (k : Int) ∧ J k wr ∧ Stay P b W1 wr) (fun i _ => L.length - (intOf i).toNat)
  case atStart => exact ⟨0, Nat.zero_le _, rfl, hJ1, Stay.refl _ _ _⟩
  case round =>
    obtain ⟨k, hk, rfl, hJs, hst⟩ := hrel
    by_cases hlt : k < L.length
    · have hltI : (k : Int) < (L.length : Int) := by omega
      obtain ⟨r, rfl, hrc⟩ := HR.out.2 k (by rw [hpl]; exact hlt)
      obtain ⟨hb0, hbk⟩ := own_cells HR.out.1 (g := r) (by rfl)
      obtain ⟨cur, hrb⟩ := hbk
      obtain ⟨hq, hlk⟩ := HL.out k wr hJs
      replace hlk := hlk hlt
      have hpk : (pids L)[k]'(by rw [hpl]; exact hlt) = pd L k := by rw [pd_at hlt]; simp [pids]
      rw [hpk] at hrc
      have hck : wr.cell? ⟨r, k, none⟩ = some (.int .i64 (pd L k)) := by
        have h1 := (hst r _ _ _ hrb (HN.out r (.inl hb0))).1
        rw [← hrc]
        simp [World.cell?, h1, hrb]
      have hcb : wr.cell? ⟨Bs, 0, none⟩ = some (.pointer (some ⟨q, 0, none⟩)) := by
        have h1 := (hst Bs _ _ _ HBx.out (HN.out Bs (.inr rfl))).1
        simp [World.cell?, h1]
      obtain ⟨fn, tmps, assign, body, hy, hR2⟩ := HY.out k wr hlt hJs
      have HST := Lib.hid hst
      have HRR := Lib.hid hR2
      generalize rv (rc L k) = x at *
      clear hst hJs hrb hrc hb0 hpk hR2
      gi_wp2
      refine (round_any HRR.out).mono ?_
      rintro e W3 ⟨-, (⟨rfl, hJ3, hk3⟩ | ⟨rfl, hJx3⟩)⟩
      · gi_wp2
        go_roundw
        case rel => exact ⟨k + 1, by omega, by go_num, hJ3, HST.out.trans hk3⟩
        case measure => simp [intOf]; omega
      · gi_wp2
        refine bodyPost_ret (results_none rfl _ _ _) rfl ?_
        exact ⟨⟨_, rfl⟩, .inr ⟨k, hlt, hJx3⟩⟩
    · obtain rfl : k = L.length := by omega
      have HJs := Lib.hid hJs
      clear hst hJs
      gi_wp2
      go_end0
      exact ⟨⟨_, rfl⟩, .inl HJs.out⟩
end Go.Proofs.Ytkjcjodhpcfjiaa.Ted
