/-
  A Ram with a program is made, a Cpu's new variable, and a call in between: the three orders.
-/
import Derived.Test.YtgnpbedhpkmkfaaDoorZAl
namespace Go.Proofs.YtgnpbedhpkmkfaaDoor.Rx
open Go Go.RowKit Kit Bk CoM CoR CoB CoC CoW CoI CoE CoY Bytes3 IsaT IsaU IsaV Sm Ru Rw Ar Av
open IsaP (Ml)
set_option linter.unusedVariables false
abbrev zob : Obj := .cells zcs 30
theorem aft {W w2 : World} {g : Nat} (hB : Blk w2 g zcs 30) (hb : Below W.heap.size W w2) (hg : W.heap.size ≤ g) (X : St) :
    ∃ wN, (stC (.pointer (some ⟨g, 0, none⟩)) (.agg (cs X))).run Tryd.prog w2 = .ok () wN ∧ Blk wN g (cs X) 30 ∧ Below W.heap.size W wN :=
  ⟨_, run_stC hB rfl (cs_size X) (cs_one _), CoC.Blk.setAll hB (ds := cs X) rfl, below_all g hg (cs X).toList 0 hb⟩
variable {W w1 w2 : World} {b b' : CoM.Bs} {M B cap : Nat} {ad : Option Addr}
theorem bel_of {U : World} (hr : RamR U b M B ad cap w1) (hu : Below W.heap.size W U) (hw : Wrote w1 B ad cap b' w2) : Below W.heap.size W w2 :=
  (hu.trans (hr.bel.mono hu.size)).trans (hw.kp.below ((hu.trans (hr.bel.mono hu.size)).size) (fun j e => by have := hr.hB; have := hu.size; omega))
/-- The variable last. -/
theorem aft_C (hr : RamR W.drew b M B ad cap w1) (hw : Wrote w1 B ad cap b' w2) (X : St) :
    (∃ wN, (stC (.pointer (some ⟨w2.heap.size, 0, none⟩)) (.agg (cs X))).run Tryd.prog (w2.alloc (.cells zcs 30)) = .ok () wN ∧ Blk wN w2.heap.size (cs X) 30 ∧ Below W.heap.size W wN) ∧ Below W.heap.size W w2 :=
  have hb := bel_of hr (Below.refl _ W).drew hw
  ⟨aft (Blk.new w2 zcs _) (hb.alloc hb.size _) hb.size X, hb⟩
/-- The variable first. -/
theorem aft_A (hr : RamR (W.alloc (.cells zcs 30)).drew b M B ad cap w1) (hw : Wrote w1 B ad cap b' w2) (X : St) :
    (∃ wN, (stC (.pointer (some ⟨W.heap.size, 0, none⟩)) (.agg (cs X))).run Tryd.prog w2 = .ok () wN ∧ Blk wN W.heap.size (cs X) 30 ∧ Below W.heap.size W wN) ∧ Below W.heap.size W w2 :=
  have hb := bel_of hr ((Below.refl W.heap.size W).alloc (Nat.le_refl _) _).drew hw
  have h0 : Blk (W.alloc (.cells zcs 30)).drew W.heap.size zcs 30 := Blk.new W zcs _
  ⟨aft ((h0.below hr.bel).kept hw.kp (by have := hr.hB; have := h0.lt; omega)) hb (Nat.le_refl _) X, hb⟩
/-- The variable between. -/
theorem aft_B (hr : RamR W.drew b M B ad cap w1) (hw : Wrote (w1.alloc (.cells zcs 30)) B ad cap b' w2) (X : St) :
    (∃ wN, (stC (.pointer (some ⟨w1.heap.size, 0, none⟩)) (.agg (cs X))).run Tryd.prog w2 = .ok () wN ∧ Blk wN w1.heap.size (cs X) 30 ∧ Below W.heap.size W wN) ∧ Below W.heap.size W w2 :=
  have hr2 := Av.RamR.below hr ((Below.refl _ w1).alloc (Nat.le_refl _) (.cells zcs 30))
  have hb := bel_of hr2 (Below.refl _ W).drew hw
  ⟨aft ((Blk.new w1 zcs _).kept hw.kp (by have := hr.hM; have := hr.m.lt; omega)) hb (((Below.refl _ W).drew.trans (hr.bel.mono (Nat.le_refl _))).size) X, hb⟩
end Go.Proofs.YtgnpbedhpkmkfaaDoor.Rx
