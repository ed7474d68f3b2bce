/-
  As XRx, where the Ram is made in a world behind the first.
-/
import Derived.Test.YtgnpbedhpkmkfaaDoorZRx
import Derived.Test.YtgnpbedhpkmkfaaDoorZCq
namespace Go.Proofs.YtgnpbedhpkmkfaaDoor.Ry
open Go Go.RowKit Kit Bk CoM CoR CoB CoC CoW CoI CoE CoY Bytes3 IsaT IsaU IsaV Sm Ru Rw Ar Av Rx Cq
open IsaP (Ml)
set_option linter.unusedVariables false
variable {W U w1 w2 : World} {b b' : CoM.Bs} {M B cap g : Nat} {ad : Option Addr}
/-- The variable last. -/
theorem aft_C (hu : Below W.heap.size W U) (hr : RamR U b M B ad cap w1) (hw : Wrote w1 B ad cap b' w2) (X : St) :
    (∃ wN, (stC (.pointer (some ⟨w2.heap.size, 0, none⟩)) (.agg (cs X))).run Tryd.prog (w2.alloc (.cells zcs 30)) = .ok () wN ∧ Blk wN w2.heap.size (cs X) 30 ∧ Below W.heap.size W wN) ∧ Below W.heap.size W w2 :=
  have hb := bel_of hr hu hw
  ⟨aft (Blk.new w2 zcs _) (hb.alloc hb.size _) hb.size X, hb⟩
/-- The variable first. -/
theorem aft_A (hu : Below W.heap.size W U) (h0 : Blk U g zcs 30) (hg : W.heap.size ≤ g) (hr : RamR U b M B ad cap w1) (hw : Wrote w1 B ad cap b' w2) (X : St) :
    (∃ wN, (stC (.pointer (some ⟨g, 0, none⟩)) (.agg (cs X))).run Tryd.prog w2 = .ok () wN ∧ Blk wN g (cs X) 30 ∧ Below W.heap.size W wN) ∧ Below W.heap.size W w2 :=
  have hb := bel_of hr hu hw
  ⟨aft ((h0.below hr.bel).kept hw.kp (by have := hr.hB; have := h0.lt; omega)) hb hg X, hb⟩
/-- The variable between. -/
theorem aft_B (hu : Below W.heap.size W U) (hr : RamR U b M B ad cap w1) (hw : Wrote (w1.alloc (.cells zcs 30)) B ad cap b' w2) (X : St) :
    (∃ wN, (stC (.pointer (some ⟨w1.heap.size, 0, none⟩)) (.agg (cs X))).run Tryd.prog w2 = .ok () wN ∧ Blk wN w1.heap.size (cs X) 30 ∧ Below W.heap.size W wN) ∧ Below W.heap.size W w2 :=
  have hr2 := Av.RamR.below hr ((Below.refl _ w1).alloc (Nat.le_refl _) (.cells zcs 30))
  have hb := bel_of hr2 hu hw
  ⟨aft ((Blk.new w1 zcs _).kept hw.kp (by have := hr.hM; have := hr.m.lt; omega)) hb (hu.trans (hr.bel.mono hu.size)).size X, hb⟩
theorem step_at {u w w1 : World} {M B : Nat} {ad : Option Addr} {cap : Nat} {b : CoM.Bs} (hT : Tabs u) (hu : Below u.heap.size u w) (hr : RamR w b M B ad cap w1) (s : St) (hs : s.Ok) :
    Calls Tryd.prog 12 #[cv s, mv M] w1 fun e w' => e = .returned (.tuple #[cv (stepP s b).1, .int .i64 (stepP s b).2.1]) ∧ Wrote w1 B ad cap (stepP s b).2.2 w' ∧ Below w.heap.size w w' := by
  have h1 := hr.hM
  have h2 := hr.hB
  have h3 := hu.size
  refine (step_any w1 (hT.below (hu.trans (hr.bel.mono hu.size))) M B ad cap b hr.m hr.l (by omega) s hs).mono ?_
  rintro e w' ⟨he, hw⟩
  exact ⟨he, hw, hr.bel.trans (hw.kp.below hr.bel.size (fun j e => by omega))⟩
theorem run_ld8 {w : World} {g : Nat} {s : St} {T : TypeId} (h : Blk w g (rs s) T) : (ldR (.pointer (some ⟨g, 0, none⟩))).run Tryd.prog w = .ok (.agg (rs s)) w := by
  have := run_loadAt_mid (P := Tryd.prog) w g 0 23 (rs s).toList _ (fun j v hj => by
    rw [Nat.zero_add, h.cell, ← hj, Array.getElem?_toList]) Tryd.underlying23 rfl infoR
  rw [Array.toArray_toList] at this
  exact this
theorem rs_set {k : Nat} (hk : k < 6) (v : Int) : ([Value.int IntKind.u32 0, Value.int IntKind.u32 0, Value.int IntKind.u32 0, Value.int IntKind.u32 0, Value.int IntKind.u32 0, Value.int IntKind.u32 0, Value.int IntKind.u32 0, Value.int IntKind.u32 0].set k (.int .u32 v)).toArray = rs (zk k v) :=
  k6 (P := fun k => ([Value.int IntKind.u32 0, Value.int IntKind.u32 0, Value.int IntKind.u32 0, Value.int IntKind.u32 0, Value.int IntKind.u32 0, Value.int IntKind.u32 0, Value.int IntKind.u32 0, Value.int IntKind.u32 0].set k (.int .u32 v)).toArray = rs (zk k v)) hk rfl rfl rfl rfl rfl rfl
end Go.Proofs.YtgnpbedhpkmkfaaDoor.Ry
