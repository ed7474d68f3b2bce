/-
  The iterator steps: it tells each step's Cpu and trap to any loop body that keeps all variables but its own.
-/
import Derived.Test.YtgnpbedhpkmkfaaDoorZPs
import Derived.RangeFuncNested
import Derived.RangeFuncBound
import Derived.RangeFuncCalls
import Derived.RangeFuncLeaves
import Derived.Shelf.Abstract
import Derived.Shelf.RegionOpen
import Derived.OwnWalkIn
import Derived.TacticsInMore
import Derived.LoopNIn
import Derived.LoopIn
namespace Go.Proofs.YtgnpbedhpkmkfaaDoor.Ru
open Go Go.RowKit Go.Shelf Kit Bk CoM CoR CoB CoC CoW CoI CoE CoY Ps IsaT
set_option linter.unusedVariables false

attribute [local go_sem] Oper.semAt_some
attribute [local go_sem ↓] ldc_wrap stc_wrap

/-- The state, the trap and the bytes behind i steps. -/
def sq (s : St) (b : CoM.Bs) : Nat → St × Int × CoM.Bs
  | 0 => (s, 0, b)
  | i + 1 => stepP (sq s b i).1 (sq s b i).2.2

/-- What the iterator's own steps keep: all that lay below B, and what is no variable. -/
structure Rp (B : Nat) (X Y : World) : Prop where
  os : Y.os = X.os
  tape : Y.tape = X.tape
  output : Y.output = X.output
  size : X.heap.size ≤ Y.heap.size
  block : ∀ k, k < X.heap.size → (k < B ∨ ∀ cs T z, X.heap[k]? ≠ some (.cells cs T z)) → Y.heap[k]? = X.heap[k]?
theorem Rp.refl (B : Nat) (X : World) : Rp B X X := ⟨rfl, rfl, rfl, Nat.le_refl _, fun _ _ _ => rfl⟩
theorem Rp.alloc (B : Nat) (X : World) (o : Obj) : Rp B X (X.alloc o) := ⟨rfl, rfl, rfl, by simp, fun k hk _ => Below.heap_alloc X o k hk⟩
theorem Rp.of_kp {B g : Nat} {X Y : World} {cs : Array Value} {T : TypeId} (h : Kp (fun j => j = g) X Y) (hg : Blk X g cs T) (hB : B ≤ g) : Rp B X Y :=
  ⟨h.os, h.tape, h.output, h.size, fun k hk hn => h.block k hk (fun e => by
    subst e
    rcases hn with h1 | h1
    · omega
    · exact h1 _ _ _ hg)⟩
/-- What a round has to keep: all variables but those of S. -/
def Kb (S : Nat → Prop) (X Y : World) : Prop := ∀ k cs T z, X.heap[k]? = some (.cells cs T z) → ¬ S k → Y.heap[k]? = X.heap[k]?
theorem Kb.trans {S : Nat → Prop} {X Y Z : World} (h : Kb S X Y) (k : Kb S Y Z) : Kb S X Z := fun j cs T z hj hs => (k j cs T z ((h j cs T z hj hs).trans hj) hs).trans (h j cs T z hj hs)
theorem Kb.blk {S : Nat → Prop} {X Y : World} {g : Nat} {cs : Array Value} {T : TypeId} (h : Kb S X Y) (hg : Blk X g cs T) (hs : ¬ S g) : Blk Y g cs T := (h g cs T _ hg hs).trans hg

set_option maxRecDepth 100000 in
set_option maxHeartbeats 2000000 in
theorem steps1_in (n : Nat) (hn : 1 ≤ n) (l Bc Bn Bm M Bx : Nat) (ad : Option Addr) (cap : Nat) (s : St) (b : CoM.Bs) (most : Int) (cnt : Nat) (hcnt : most = (cnt : Int) ∨ (most ≤ 0 ∧ cnt = 0)) (hc2 : cnt < 9223372036854775808) (S : Nat → Prop) (J Jm : Nat → World → Prop) (Jx : Nat → World → Prop) (W : World)
    (B : Nat) (hBB : B ≤ W.heap.size) (hJ : ∀ i X Y, Rp B X Y → J i X → J i Y) (hJm : ∀ i X Y, Rp B X Y → Jm i X → Jm i Y)
    (hS : ∀ k, S k → k < B) (hSc : ¬ S Bc) (hSn : ¬ S Bn) (hSm : ¬ S Bm)
    (hM : ∀ i X, i < cnt → J i X → Tabs X ∧ RamAt X M ad cap (sq s b i).2.2 ∧ Lies X Bx ad cap (sq s b i).2.2 ∧ (sq s b i).1.Ok) (hMx : M ≠ Bx) (hBx : Bx < B)
    (hJJ : ∀ i X Y, i < cnt → J i X → Wrote X Bx ad cap (sq s b (i + 1)).2.2 Y → Jm i Y) (hxc : Bx ≠ Bc ∧ Bx ≠ Bn ∧ Bx ≠ Bm) (hlow : Bn < B ∧ Bm < B)
    (hY : ∀ i X, Jm i X → i < cnt → YieldAt Fence.wide (n - 1) Tryd.prog l #[cv (sq s b (i + 1)).1, .int .i64 (sq s b (i + 1)).2.1] X fun e Y =>
      (e = .returned (.bool true) ∧ J (i + 1) Y ∧ Kb S X Y) ∨ (e = .returned (.bool false) ∧ Jx i Y))
    (hBc : Blk W Bc (cs s) 30) (hBn : Blk W Bn #[.int .i64 most] 3) (hBm : Blk W Bm #[mv M] 67) (h0 : J 0 W) :
    CallsIn Fence.wide n Tryd.prog 61 #[.func (.yield l) #[] #[], .pointer (some ⟨Bc, 0, none⟩), .pointer (some ⟨Bn, 0, none⟩), .pointer (some ⟨Bm, 0, none⟩)] W fun e W' => (∃ v, e = .returned v) ∧
      (J cnt W' ∨ ∃ i, i < cnt ∧ Jx i W') := by
  have hcb := hBc.lt
  have hE1 := Blk.new W zcs 30
  have h1 := run_stC hE1 rfl (cs_size s) (cs_one s)
  have h00 := run_ldC hBc (cs_size s)
  have hE2 := CoC.Blk.setAll hE1 (ds := cs s) rfl
  have kA : Kp (fun j => j = W.heap.size) W (World.setCells (W.alloc (.cells zcs 30)) W.heap.size 0 (cs s).toList) := (Kp.alloc _ W _).trans (Kp.sets (S := fun j => j = W.heap.size) W.heap.size rfl (cs s).toList 0 _) (fun _ h => .inl h)
  have hJ0 := hJ 0 _ _ (Rp.of_kp (Kp.sets (S := fun j => j = W.heap.size) W.heap.size rfl (cs s).toList 0 _) hE1 hBB) (hJ 0 _ _ (Rp.alloc B W _) h0)
  have hc3 := hBc.kept kA (by omega)
  have hn3 := hBn.kept kA (by have := hBn.lt; omega)
  have hm3 := hBm.kept kA (by have := hBm.lt; omega)
  obtain ⟨W2, hW2⟩ : ∃ W2, World.setCells (W.alloc (.cells zcs 30)) W.heap.size 0 (cs s).toList = W2 := ⟨_, rfl⟩
  rw [hW2] at h1 hE2 hJ0 hc3 hn3 hm3
  clear hW2 kA hE1
  have c1 := hn3.cell 0
  refine callsIn_of_wp Tryd.func61 rfl trivial ?_ rfl
  simp only [Tryd.ntmps61, List.size_toArray, List.length_cons, List.length_nil, Nat.reduceAdd, Nat.reduceSub, Array.replicate_succ, Array.replicate_zero, List.push_toArray, List.append_toArray, List.nil_append, List.cons_append]
  gi_wp2
  gi_loopw [9] (fun i wr => ∃ k : Nat, k ≤ cnt ∧ i = .int .i64 (k : Int) ∧ Blk wr W.heap.size (cs (sq s b k).1) 30 ∧ J k wr ∧ Blk wr Bn #[.int .i64 most] 3 ∧ Blk wr Bm #[mv M] 67) (fun i _ => cnt - (intOf i).toNat)
  case atStart => exact ⟨0, Nat.zero_le _, rfl, hE2, hJ0, hn3, hm3⟩
  case round =>
    clear hBc h1 h00 hE2 hJ0 hc3 hn3 hm3 c1 h0 hBn hBm
    obtain ⟨k, hk, rfl, hg, hJk, hBn, hBm⟩ := hrel
    have c1 := hBn.cell 0
    have hk0 : (0 : Int) ≤ (k : Int) := by omega
    by_cases hlt : k < cnt
    · have hmost : most = (cnt : Int) := by omega
      subst hmost
      have d : decide ((k : Int) < (cnt : Int)) = true := decide_eq_true (by omega)
      have l1 := run_ldC hg (cs_size _)
      have m1 := hBm.cell 0
      obtain ⟨hT, hR, hL, hok⟩ := hM k wr hlt hJk
      have hst := step_any wr hT M Bx ad cap (sq s b k).2.2 hR hL hMx (sq s b k).1 hok
      have e1 : stepP (sq s b k).1 (sq s b k).2.2 = sq s b (k + 1) := rfl
      rw [e1] at hst
      have HST := Lib.hid hst
      have hG : Bx ≠ W.heap.size := by omega
      have HH := Lib.hid (And.intro hg (And.intro hJk (And.intro hBn hBm)))
      have HK := Lib.hid hlt
      have hj1 := hJJ k wr
      have hy1 := hY k
      obtain ⟨X1, hX1⟩ : ∃ X1, (sq s b (k + 1)).1 = X1 := ⟨_, rfl⟩
      obtain ⟨tr, htr⟩ : ∃ tr, (sq s b (k + 1)).2.1 = tr := ⟨_, rfl⟩
      obtain ⟨b1, hb1⟩ : ∃ b1, (sq s b (k + 1)).2.2 = b1 := ⟨_, rfl⟩
      rw [hX1, htr, hb1] at HST
      rw [hb1] at hj1
      rw [hX1, htr] at hy1
      have HJ1 := Lib.hid (hj1 · hlt hJk)
      have HY1 := Lib.hid hy1
      have HX1 := Lib.hid hX1
      have HGS := Lib.hid hBB
      have HXC := Lib.hid hxc
      clear hst e1 hj1 hy1 hX1 htr hb1 hT hR hL hok hg hJk hBn hBm hxc hlt hk hM hJJ hY hcnt
      gi_wp2_with (first | (refine ⟨trivial, ?_⟩; gi_at_call 12; refine (callsIn_wide.2 HST.out).mono ?_; rintro e Y ⟨rfl, hw⟩; refine Hid.out ?_) | fail)
      refine Lib.hid ?_
      have hgY := HH.out.1.kept hw.kp (fun e => hG e.symm)
      have hnY := HH.out.2.2.1.kept hw.kp (fun e => HXC.out.2.1 e.symm)
      have hmY := HH.out.2.2.2.kept hw.kp (fun e => HXC.out.2.2 e.symm)
      have hjY := HJ1.out Y hw
      have h2 := run_stC hgY (cs_size _) (cs_size X1) (cs_one _)
      have hgZ := CoC.Blk.setAll hgY (ds := cs X1) rfl
      have kZ := Kp.sets (S := fun j => j = W.heap.size) W.heap.size rfl (cs X1).toList 0 Y
      have hnZ := hnY.kept kZ (by omega)
      have hmZ := hmY.kept kZ (by omega)
      have hjZ := hJm k _ _ (Rp.of_kp kZ hgY hBB) hjY
      obtain ⟨Z, hZ⟩ : ∃ Z, World.setCells Y W.heap.size 0 (cs X1).toList = Z := ⟨_, rfl⟩
      rw [hZ] at h2 hgZ hnZ hmZ hjZ
      have l2 := run_ldC hgZ (cs_size _)
      obtain ⟨fn, tmps, assign, body, hy, hR2⟩ := HY1.out Z hjZ HK.out
      have HR := Lib.hid hR2
      have HZ := Lib.hid (And.intro hgZ (And.intro hnZ hmZ))
      clear hR2 hgZ hnZ hmZ hjZ hZ kZ hgY hnY hmY hjY hw l1 m1 c1
      gi_wp2
      refine HR.out.mono ?_
      rintro e W3 (⟨rfl, hJ3, hk3⟩ | ⟨rfl, hJx3⟩)
      · have hg3 := hk3.blk HZ.out.1 (fun e => by have := hS _ e; omega)
        have hn3 := hk3.blk HZ.out.2.1 hSn
        have hm3 := hk3.blk HZ.out.2.2 hSm
        clear hk3
        gi_wp2
        exact ⟨⟨k + 1, HK.out, by go_num, by rw [HX1.out]; exact hg3, hJ3, hn3, hm3⟩, by have := HK.out; simp [intOf]; omega⟩
      · gi_wp2
        refine bodyPost_ret (results_none rfl _ _ _) rfl ?_
        exact ⟨⟨_, rfl⟩, .inr ⟨k, HK.out, hJx3⟩⟩
    · have d : decide ((k : Int) < most) = false := decide_eq_false (by omega)
      have hic : k = cnt := by omega
      clear hlt
      gi_wp2
      go_end0
      exact ⟨⟨_, rfl⟩, .inl (by rw [← hic]; exact hJk)⟩
end Go.Proofs.YtgnpbedhpkmkfaaDoor.Ru
