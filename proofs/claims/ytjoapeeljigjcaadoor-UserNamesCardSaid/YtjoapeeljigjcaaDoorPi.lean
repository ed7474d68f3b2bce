/-
  The iterator pieces of package space: it tells the pieces of some bytes, rising, to any loop body that keeps its own variables.
-/
import Derived.Test.YtjoapeeljigjcaaDoorBk
import Derived.RangeFuncNested
import Derived.RangeFuncBound
import Derived.RangeFuncCalls
import Derived.RangeFuncLeaves
import Derived.Shelf.Abstract
import Derived.Shelf.RegionOpen
import Derived.OwnWalkIn
import Derived.TacticsInMore
import Derived.LoopNIn
import Derived.LoopIn
namespace Go.Proofs.YtjoapeeljigjcaaDoor.Pz
open Go Go.RowKit Go.Shelf Kit Bk
set_option linter.unusedVariables false

attribute [local go_sem] Oper.semAt_some

/-- How many pieces m bytes from an address on have; of the i-th: its page, where in it it begins, and which bytes these are. -/
def cn (a m : Nat) : Nat := if m = 0 then 0 else (a % 64 + m + 63) / 64
def po (a i : Nat) : Nat := if i = 0 then a % 64 else 0
def fr (a i : Nat) : Nat := 64 * i - a % 64
def to (a m i : Nat) : Nat := min m (fr a (i + 1))
theorem cn_iff (a m i : Nat) : i < cn a m ↔ fr a i < m := by
  unfold cn fr
  split <;> omega
theorem fr_zero (a : Nat) : fr a 0 = 0 := by unfold fr; omega
theorem fr_le {a m i : Nat} (h : i ≤ cn a m) : i = cn a m ∨ fr a i < m := by
  rcases Nat.lt_or_eq_of_le h with h | h
  · exact .inr ((cn_iff a m i).1 h)
  · exact .inl h
theorem to_last (a m : Nat) : min m (fr a (cn a m)) = m := by
  have := (cn_iff a m (cn a m))
  omega
theorem to_eq (a m i : Nat) (h : i < cn a m) : to a m i = fr a i + min (m - fr a i) (64 - po a i) := by
  have := (cn_iff a m i).1 h
  unfold to po fr at *
  split <;> omega
theorem to_next {a m i : Nat} (h : i + 1 < cn a m) : to a m i = fr a (i + 1) := by
  have := (cn_iff a m (i + 1)).1 h
  unfold to
  omega
theorem fr_to {a m i : Nat} (h : i < cn a m) : fr a i < to a m i ∧ to a m i ≤ m ∧ po a i + (to a m i - fr a i) ≤ 64 := by
  have h1 := (cn_iff a m i).1 h
  unfold to po fr at *
  refine ⟨by omega, by omega, ?_⟩
  split <;> omega
theorem page_bd {a m i : Nat} (ha : a < 4294967296) (hm : m < 9223372036854775808) (h : i < cn a m) : a / 64 + i < 4611686018427387904 := by
  have := (cn_iff a m i).1 h
  unfold fr at this
  omega
abbrev pcs (a m i : Nat) : Array Value := #[.int .i64 ((a / 64 + i : Nat) : Int), .int .i64 (po a i : Int), .int .i64 (fr a i : Int), .int .i64 (to a m i : Int)]

/-- What the iterator's own steps keep: all but pieces from B on. -/
structure Rp (B : Nat) (X Y : World) : Prop where
  os : Y.os = X.os
  tape : Y.tape = X.tape
  output : Y.output = X.output
  size : X.heap.size ≤ Y.heap.size
  block : ∀ k, k < X.heap.size → (k < B ∨ ∀ cs z, X.heap[k]? ≠ some (.cells cs 92 z)) → Y.heap[k]? = X.heap[k]?
theorem Rp.refl (B : Nat) (X : World) : Rp B X X := ⟨rfl, rfl, rfl, Nat.le_refl _, fun _ _ _ => rfl⟩
theorem Rp.alloc (B : Nat) (X : World) (o : Obj) : Rp B X (X.alloc o) := ⟨rfl, rfl, rfl, by simp, fun k hk _ => Below.heap_alloc X o k hk⟩
theorem Rp.setc {B : Nat} {X Y : World} {g : Nat} {cs : Array Value} (h : Rp B X Y) (hg : Blk Y g cs 92) (hB : B ≤ g) (i : Nat) (v : Value) : Rp B X (Y.setCell ⟨g, i, none⟩ v) :=
  ⟨h.os, h.tape, h.output, by simpa [World.setCell] using h.size, fun k hk hn => by
    have e1 := h.block k hk hn
    refine (Below.heap_setCell Y _ _ k (fun e => ?_)).trans e1
    have e : k = g := e
    rcases hn with h1 | h1
    · omega
    · exact h1 cs (0, 0) (e1.symm.trans (by rw [e]; exact hg))⟩
/-- What a round has to keep: the iterator's own boxes, and pieces. -/
def Kb (Ba Bn : Nat) (X Y : World) : Prop := ∀ k, (k = Ba ∨ k = Bn ∨ ∃ cs z, X.heap[k]? = some (.cells cs 92 z)) → k < X.heap.size → Y.heap[k]? = X.heap[k]?
theorem Kb.refl (Ba Bn : Nat) (X : World) : Kb Ba Bn X X := fun _ _ _ => rfl
theorem Kb.trans {Ba Bn : Nat} {X Y Z : World} (h : Kb Ba Bn X Y) (k : Kb Ba Bn Y Z) : Kb Ba Bn X Z := fun j hj hl => by
  have e := h j hj hl
  have hl2 : j < Y.heap.size := by
    rw [Array.getElem?_eq_getElem hl] at e
    exact (Array.getElem?_eq_some_iff.1 e).1
  refine (k j (hj.imp id (Or.imp id (fun ⟨cs, z, hc⟩ => ⟨cs, z, e.trans hc⟩))) hl2).trans e
theorem Kb.kept {Ba Bn : Nat} {S : Nat → Prop} {X Y : World} (h : Kp S X Y) (ha : ¬ S Ba) (hn : ¬ S Bn) (hp : ∀ k cs z, X.heap[k]? = some (.cells cs 92 z) → ¬ S k) : Kb Ba Bn X Y := fun k hk hl =>
  h.block k hl (by
    rcases hk with rfl | rfl | ⟨cs, z, hc⟩
    · exact ha
    · exact hn
    · exact hp k cs z hc)

theorem set4 {w : World} {b : Nat} {T : TypeId} {a0 a1 a2 a3 : Value} (h : Blk w b #[a0, a1, a2, a3] T) (v0 v1 v2 v3 : Value) :
    Blk ((((w.setCell ⟨b, 0, none⟩ v0).setCell ⟨b, 1, none⟩ v1).setCell ⟨b, 2, none⟩ v2).setCell ⟨b, 3, none⟩ v3) b #[v0, v1, v2, v3] T := by
  have := (((h.set 0 v0).set 1 v1).set 2 v2).set 3 v3
  simpa using this
set_option maxRecDepth 100000 in
set_option maxHeartbeats 2000000 in
theorem pieces1_in (n : Nat) (hn : 1 ≤ n) (l Ba Bn a m : Nat) (N : Int) (hN : N = (m : Int) ∨ (N ≤ 0 ∧ m = 0)) (hm : m < 9223372036854775808) (ha : a < 4294967296) (J : Nat → World → Prop) (Jx : Nat → World → Prop) (W : World)
    (B : Nat) (hBB : B ≤ W.heap.size) (hJ : ∀ i X Y, Rp B X Y → J i X → J i Y)
    (hY : ∀ i X, J i X → i < cn a m → YieldAt Fence.wide (n - 1) Tryd.prog l #[.agg (pcs a m i)] X fun e Y =>
      (e = .returned (.bool true) ∧ J (i + 1) Y ∧ Kb Ba Bn X Y) ∨ (e = .returned (.bool false) ∧ Jx i Y))
    (hBa : Blk W Ba #[.int .u32 (a : Int)] 25) (hBn : Blk W Bn #[.int .i64 N] 3) (h0 : J 0 W) :
    CallsIn Fence.wide n Tryd.prog 64 #[.func (.yield l) #[] #[], .pointer (some ⟨Ba, 0, none⟩), .pointer (some ⟨Bn, 0, none⟩)] W fun e W' => (∃ v, e = .returned v) ∧
      (J (cn a m) W' ∨ ∃ i, i < cn a m ∧ Jx i W') := by
  have c0 := hBa.cell 0
  have c1 := hBn.cell 0
  refine callsIn_of_wp Tryd.func64 rfl trivial ?_ rfl
  simp only [Tryd.ntmps64, List.size_toArray, List.length_cons, List.length_nil, Nat.reduceAdd, Nat.reduceSub, Array.replicate_succ, Array.replicate_zero, List.push_toArray, List.append_toArray, List.nil_append, List.cons_append]
  gi_wp2
  have hg0 := Blk.new W #[.int .i64 ((a : Int) / 64), .int .i64 ((a : Int) % 64), .int .i64 0, .int .i64 0] 92
  gi_loopw [] (fun wr => ∃ i : Nat, i ≤ cn a m ∧ Blk wr W.heap.size #[.int .i64 ((a / 64 + i : Nat) : Int), .int .i64 (po a i : Int), .int .i64 ((min m (fr a i) : Nat) : Int), .int .i64 0] 92 ∧ J i wr ∧ Blk wr Ba #[.int .u32 (a : Int)] 25 ∧ Blk wr Bn #[.int .i64 N] 3)
    (fun wr => match wr.cell? ⟨W.heap.size, 0, none⟩ with
      | some (.int _ v) => cn a m - (v.toNat - a / 64)
      | _ => 0)
  case atStart =>
    refine ⟨0, Nat.zero_le _, ?_, hJ 0 _ _ (Rp.alloc B W _) h0, hBa.kept (.alloc (fun _ => False) _ _) (fun e => e), hBn.kept (.alloc (fun _ => False) _ _) (fun e => e)⟩
    rw [fr_zero, show po a 0 = a % 64 from rfl]
    simpa using hg0
  case round =>
    obtain ⟨i, hi, hg, hJs, hBa, hBn⟩ := hrel
    have g0 := hg.cell 0
    have g1 := hg.cell 1
    have g2 := hg.cell 2
    have g3 := hg.cell 3
    have gf := hg.free 3
    have c1 := hBn.cell 0
    by_cases hlt : i < cn a m
    · have hFm := (cn_iff a m i).1 hlt
      have hN' : N = (m : Int) := by omega
      subst hN'
      have hmin : min m (fr a i) = fr a i := by omega
      rw [hmin] at hg g2
      have hto := to_eq a m i hlt
      have hnA := hBa.ne hg (by decide)
      have hnB := hBn.ne hg (by decide)
      have hF : (fr a i : Int) < (m : Int) := by omega
      have hm' : (m : Int) < 9223372036854775808 := by omega
      have hO : (po a i : Int) ≤ 63 := by unfold po; split <;> omega
      have HLT := Lib.hid hlt
      have HGr := Lib.hid hg
      have HN := Lib.hid (And.intro hnA hnB)
      have HPB := Lib.hid (page_bd ha hm hlt)
      have hP : ((a / 64 + i : Nat) : Int) = (a : Int) / 64 + (i : Int) := by omega
      by_cases hle : (m : Int) - (fr a i : Int) ≤ 64 - (po a i : Int)
      · have hT : ((to a m i : Nat) : Int) = (fr a i : Int) + ((m : Int) - (fr a i : Int)) := by omega
        obtain ⟨fn, tmps, assign, body, hy, hR2⟩ := hY i _ (hJ i _ _ (Rp.setc (Rp.refl B wr) hg hBB 3 (.int .i64 ((fr a i : Int) + ((m : Int) - (fr a i : Int))))) hJs) hlt
        have hg3 : Blk (wr.setCell ⟨W.heap.size, 3, none⟩ (.int .i64 ((fr a i : Int) + ((m : Int) - (fr a i : Int))))) W.heap.size #[.int .i64 ((a : Int) / 64 + (i : Int)), .int .i64 (po a i : Int), .int .i64 (fr a i : Int), (.int .i64 ((fr a i : Int) + ((m : Int) - (fr a i : Int))))] 92 := by
          have := hg.set 3 (.int .i64 ((fr a i : Int) + ((m : Int) - (fr a i : Int))))
          rw [hP] at this
          simpa using this
        have hBa3 := hBa.other W.heap.size 3 (.int .i64 ((fr a i : Int) + ((m : Int) - (fr a i : Int)))) hnA
        have hBn3 := hBn.other W.heap.size 3 (.int .i64 ((fr a i : Int) + ((m : Int) - (fr a i : Int)))) hnB
        unfold pcs at hy
        rw [hT, hP] at hy
        have HR := Lib.hid hR2
        have HJ := Lib.hid hJ
        have HH := Lib.hid (And.intro hg3 (And.intro hBa3 hBn3))
        have HT := Lib.hid hT
        clear hR2 hg3 hBa3 hBn3 hJ hY hJs hN hto hi hlt hT
        generalize hF : fr a i = F at *
        generalize hO : po a i = O at *
        gi_wp2
        refine HR.out.mono ?_
        rintro e W3 (⟨rfl, hJ3, hk3⟩ | ⟨rfl, hJx3⟩)
        · have hG3 : Blk W3 W.heap.size #[.int .i64 ((a : Int) / 64 + (i : Int)), .int .i64 (O : Int), .int .i64 (F : Int), (.int .i64 ((F : Int) + ((m : Int) - (F : Int))))] 92 := (hk3 _ (.inr (.inr ⟨_, _, HH.out.1⟩)) HH.out.1.lt).trans HH.out.1
          have hA3 : Blk W3 Ba #[.int .u32 (a : Int)] 25 := (hk3 _ (.inl rfl) HH.out.2.1.lt).trans HH.out.2.1
          have hB3 : Blk W3 Bn #[.int .i64 (m : Int)] 3 := (hk3 _ (.inr (.inl rfl)) HH.out.2.2.lt).trans HH.out.2.2
          have k0 := Blk.cell hG3 0
          have k3 := Blk.cell hG3 3
          have f0 := Blk.free hG3 0
          have f1 := Blk.free hG3 1
          have f2 := Blk.free hG3 2
          have f3 := Blk.free hG3 3
          have k1 := Blk.cell hG3 1
          have k2 := Blk.cell hG3 2
          have HG := Lib.hid (And.intro hG3 (And.intro hA3 hB3))
          clear hk3 hG3 hA3 hB3 hg hBa hBn hmin hle h0 hnA hnB g0 g1 g2 g3 gf hP
          replace hF := Lib.hid hF
          replace hO := Lib.hid hO
          have hPm : (a : Int) / 64 + (i : Int) < 4611686018427387904 := by have := HPB.out; omega
          have hP0 : 0 ≤ (a : Int) / 64 + (i : Int) := by omega
          generalize hPg : (a : Int) / 64 + (i : Int) = Pg at *
          replace hPg := Lib.hid hPg
          clear hm ha hm'
          gi_wp2
          have hS2 := set4 HG.out.1 (.int .i64 (Pg + 1)) (.int .i64 0) (.int .i64 ((F : Int) + ((m : Int) - (F : Int)))) (.int .i64 0)
          have e1 : ((a / 64 + (i + 1) : Nat) : Int) = Pg + 1 := by have := hPg.out; omega
          have e2 : ((po a (i + 1) : Nat) : Int) = 0 := rfl
          have e3 : ((min m (fr a (i + 1)) : Nat) : Int) = ((F : Int) + ((m : Int) - (F : Int))) := HT.out
          refine ⟨⟨i + 1, HLT.out, ?_, HJ.out (i + 1) _ _ (((((Rp.refl B W3).setc HG.out.1 hBB _ _).setc (HG.out.1.set 0 _) hBB _ _).setc ((HG.out.1.set 0 _).set 1 _) hBB _ _).setc (((HG.out.1.set 0 _).set 1 _).set 2 _) hBB _ _) hJ3, ?_, ?_⟩, ?_⟩
          · rw [e1, e2, e3]
            exact hS2
          · exact (((HG.out.2.1.other _ _ _ HN.out.1).other _ _ _ HN.out.1).other _ _ _ HN.out.1).other _ _ _ HN.out.1
          · exact (((HG.out.2.2.other _ _ _ HN.out.2).other _ _ _ HN.out.2).other _ _ _ HN.out.2).other _ _ _ HN.out.2
          · rw [show _ = some (Value.int .i64 (Pg + 1)) from hS2.cell 0, show _ = some (Value.int .i64 ((a / 64 + i : Nat) : Int)) from HGr.out.cell 0]
            show cn a m - ((Pg + 1).toNat - a / 64) < cn a m - ((((a / 64 + i : Nat) : Int)).toNat - a / 64)
            have := hPg.out
            have := HLT.out
            omega
        · gi_wp2
          refine bodyPost_ret (results_none rfl _ _ _) rfl ?_
          exact ⟨⟨_, rfl⟩, .inr ⟨i, HLT.out, hJx3⟩⟩

      · have hT : ((to a m i : Nat) : Int) = (fr a i : Int) + (64 - (po a i : Int)) := by omega
        obtain ⟨fn, tmps, assign, body, hy, hR2⟩ := hY i _ (hJ i _ _ (Rp.setc (Rp.refl B wr) hg hBB 3 (.int .i64 ((fr a i : Int) + (64 - (po a i : Int))))) hJs) hlt
        have hg3 : Blk (wr.setCell ⟨W.heap.size, 3, none⟩ (.int .i64 ((fr a i : Int) + (64 - (po a i : Int))))) W.heap.size #[.int .i64 ((a : Int) / 64 + (i : Int)), .int .i64 (po a i : Int), .int .i64 (fr a i : Int), (.int .i64 ((fr a i : Int) + (64 - (po a i : Int))))] 92 := by
          have := hg.set 3 (.int .i64 ((fr a i : Int) + (64 - (po a i : Int))))
          rw [hP] at this
          simpa using this
        have hBa3 := hBa.other W.heap.size 3 (.int .i64 ((fr a i : Int) + (64 - (po a i : Int)))) hnA
        have hBn3 := hBn.other W.heap.size 3 (.int .i64 ((fr a i : Int) + (64 - (po a i : Int)))) hnB
        unfold pcs at hy
        rw [hT, hP] at hy
        have HR := Lib.hid hR2
        have HJ := Lib.hid hJ
        have HH := Lib.hid (And.intro hg3 (And.intro hBa3 hBn3))
        have HT := Lib.hid hT
        clear hR2 hg3 hBa3 hBn3 hJ hY hJs hN hto hi hlt hT
        generalize hF : fr a i = F at *
        generalize hO : po a i = O at *
        gi_wp2
        refine HR.out.mono ?_
        rintro e W3 (⟨rfl, hJ3, hk3⟩ | ⟨rfl, hJx3⟩)
        · have hG3 : Blk W3 W.heap.size #[.int .i64 ((a : Int) / 64 + (i : Int)), .int .i64 (O : Int), .int .i64 (F : Int), (.int .i64 ((F : Int) + (64 - (O : Int))))] 92 := (hk3 _ (.inr (.inr ⟨_, _, HH.out.1⟩)) HH.out.1.lt).trans HH.out.1
          have hA3 : Blk W3 Ba #[.int .u32 (a : Int)] 25 := (hk3 _ (.inl rfl) HH.out.2.1.lt).trans HH.out.2.1
          have hB3 : Blk W3 Bn #[.int .i64 (m : Int)] 3 := (hk3 _ (.inr (.inl rfl)) HH.out.2.2.lt).trans HH.out.2.2
          have k0 := Blk.cell hG3 0
          have k3 := Blk.cell hG3 3
          have f0 := Blk.free hG3 0
          have f1 := Blk.free hG3 1
          have f2 := Blk.free hG3 2
          have f3 := Blk.free hG3 3
          have k1 := Blk.cell hG3 1
          have k2 := Blk.cell hG3 2
          have HG := Lib.hid (And.intro hG3 (And.intro hA3 hB3))
          clear hk3 hG3 hA3 hB3 hg hBa hBn hmin hle h0 hnA hnB g0 g1 g2 g3 gf hP
          replace hF := Lib.hid hF
          replace hO := Lib.hid hO
          have hPm : (a : Int) / 64 + (i : Int) < 4611686018427387904 := by have := HPB.out; omega
          have hP0 : 0 ≤ (a : Int) / 64 + (i : Int) := by omega
          generalize hPg : (a : Int) / 64 + (i : Int) = Pg at *
          replace hPg := Lib.hid hPg
          clear hm ha hm'
          gi_wp2
          have hS2 := set4 HG.out.1 (.int .i64 (Pg + 1)) (.int .i64 0) (.int .i64 ((F : Int) + (64 - (O : Int)))) (.int .i64 0)
          have e1 : ((a / 64 + (i + 1) : Nat) : Int) = Pg + 1 := by have := hPg.out; omega
          have e2 : ((po a (i + 1) : Nat) : Int) = 0 := rfl
          have e3 : ((min m (fr a (i + 1)) : Nat) : Int) = ((F : Int) + (64 - (O : Int))) := HT.out
          refine ⟨⟨i + 1, HLT.out, ?_, HJ.out (i + 1) _ _ (((((Rp.refl B W3).setc HG.out.1 hBB _ _).setc (HG.out.1.set 0 _) hBB _ _).setc ((HG.out.1.set 0 _).set 1 _) hBB _ _).setc (((HG.out.1.set 0 _).set 1 _).set 2 _) hBB _ _) hJ3, ?_, ?_⟩, ?_⟩
          · rw [e1, e2, e3]
            exact hS2
          · exact (((HG.out.2.1.other _ _ _ HN.out.1).other _ _ _ HN.out.1).other _ _ _ HN.out.1).other _ _ _ HN.out.1
          · exact (((HG.out.2.2.other _ _ _ HN.out.2).other _ _ _ HN.out.2).other _ _ _ HN.out.2).other _ _ _ HN.out.2
          · rw [show _ = some (Value.int .i64 (Pg + 1)) from hS2.cell 0, show _ = some (Value.int .i64 ((a / 64 + i : Nat) : Int)) from HGr.out.cell 0]
            show cn a m - ((Pg + 1).toNat - a / 64) < cn a m - ((((a / 64 + i : Nat) : Int)).toNat - a / 64)
            have := hPg.out
            have := HLT.out
            omega
        · gi_wp2
          refine bodyPost_ret (results_none rfl _ _ _) rfl ?_
          exact ⟨⟨_, rfl⟩, .inr ⟨i, HLT.out, hJx3⟩⟩

    · have hic : i = cn a m := by omega
      have hmin : min m (fr a i) = m := by rw [hic]; exact to_last a m
      rw [hmin] at hg g2
      have hd : N ≤ (m : Int) := by omega
      have hd2 : decide ((m : Int) < N) = false := decide_eq_false (by omega)
      clear hN hlt hi hmin
      gi_wp2
      go_end0
      exact ⟨⟨_, rfl⟩, .inl (by rw [← hic]; exact hJs)⟩

end Go.Proofs.YtjoapeeljigjcaaDoor.Pz
