/-
  A Run of a program that is written out.
-/
import Derived.Test.YtgnpbedhpkmkfaaDoorZAr
namespace Go.Proofs.YtgnpbedhpkmkfaaDoor.Av
open Go Go.RowKit Kit Bk CoM CoR CoB CoC CoW CoI CoE CoY Bytes3 IsaT IsaU IsaV Sm Ru Rw Ar
open IsaP (Ml)
set_option linter.unusedVariables false

theorem RamR.below {w w1 w2 : World} {b : CoM.Bs} {M B : Nat} {ad : Option Addr} {cap : Nat} (h : RamR w b M B ad cap w1) (k : Below w1.heap.size w1 w2) : RamR w b M B ad cap w2 :=
  ⟨h.m.below k, Lies.below h.l k, h.cp, h.hB, h.hM, h.bel.trans (k.mono h.bel.size)⟩
theorem run_to {u w w1 : World} {M B : Nat} {ad : Option Addr} {cap : Nat} {b : CoM.Bs} (hT : Tabs u) (hu : Below u.heap.size u w) (hr : RamR w b M B ad cap w1) (s : St) (hs : s.Ok) (most : Nat) (hm : most < 9223372036854775808) {X : St} {k : Nat} {t : Int} {b' : CoM.Bs} (hE : Rw.Ends s b most X k t b') :
    Calls Tryd.prog 15 #[cv s, mv M, .int .i64 (most : Int)] w1 fun e w' => e = .returned (.tuple #[cv X, .int .i64 (k : Int), .int .i64 t]) ∧ Wrote w1 B ad cap b' w' ∧ Below w.heap.size w w' := by
  have hlt : M < w1.heap.size := hr.m.lt
  have h1 := hr.hM
  have h2 := hr.hB
  have h3 := hu.size
  refine (run_any u w1 hT (hu.trans (hr.bel.mono hu.size)) M B ad cap b hr.m hr.l (by omega) (by omega) (by omega) s hs most most (.inl rfl) hm).mono ?_
  rintro e w' ⟨y, k', t', c', hE', he, hw⟩
  obtain ⟨rfl, rfl, rfl, rfl⟩ := hE'.det hE
  exact ⟨he, hw, hr.bel.trans (hw.kp.below hr.bel.size (fun j e => by omega))⟩
/-- A program's bytes. -/
def pg (s : List UInt8) : CoM.Bs := allB ((asm s).elim (fun _ => []) id)
/-- A trap comes. -/
theorem ends_trap {s : St} {b : CoM.Bs} {most k : Nat} (hk : k < most) (h : ∀ j, j < k + 1 → (sq s b j).2.1 = 0) (ht : (sq s b (k + 1)).2.1 ≠ 0) : Rw.Ends s b most (sq s b (k + 1)).1 k (sq s b (k + 1)).2.1 (sq s b (k + 1)).2.2 :=
  ⟨Nat.le_of_lt hk, fun j hj => h j (by omega), .inr ⟨hk, ht, rfl, rfl, rfl⟩⟩
theorem ends_full {s : St} {b : CoM.Bs} {k : Nat} (h : ∀ j, j < k + 1 → (sq s b j).2.1 = 0) : Rw.Ends s b k (sq s b k).1 k 0 (sq s b k).2.2 :=
  ⟨Nat.le_refl _, fun j hj => h j (by omega), .inl ⟨rfl, rfl, rfl, rfl⟩⟩
def z0 : St := ⟨fun _ => 0, fun _ => (0, 0), 0⟩
def z1 : St := ⟨fun j => if j = 1 then 2 else if j = 2 then 3 else 0, fun _ => (0, 0), 0⟩
theorem z0_ok : z0.Ok := ⟨fun _ => Int.le_refl 0, fun _ => (by decide : (0 : Int) < 4294967296), by decide, by decide⟩
theorem z1_ok : z1.Ok := ⟨fun j => by unfold z1; dsimp only; split <;> (try split) <;> decide, fun j => by unfold z1; dsimp only; split <;> (try split) <;> decide, by decide, by decide⟩
abbrev p1 : ByteArray := { data := #[108, 105, 32, 49, 32, 53, 10, 97, 100, 100, 32, 49, 32, 49, 10, 115, 121, 115, 10] }
abbrev p2 : ByteArray := { data := #[122, 115, 101, 116, 32, 48, 32, 49, 10, 122, 109, 117, 108, 32, 48, 32, 48, 10, 122, 103, 101, 116, 32, 48, 32, 52, 10] }
set_option maxRecDepth 100000
theorem a1 : asm p1.data.toList = .inr [17825797, 68222976, 402653184] := by kernel_rfl
theorem a2 : asm p2.data.toList = .inr [419495936, 469762048, 436469760] := by kernel_rfl
theorem lt3 {P : Nat → Prop} (h0 : P 0) (h1 : P 1) (h2 : P 2) : ∀ j, j < 3 → P j := fun j hj => by
  have : j = 0 ∨ j = 1 ∨ j = 2 := by omega
  rcases this with rfl | rfl | rfl
  · exact h0
  · exact h1
  · exact h2
theorem lt4 {P : Nat → Prop} (h0 : P 0) (h1 : P 1) (h2 : P 2) (h3 : P 3) : ∀ j, j < 4 → P j := fun j hj => by
  have : j = 0 ∨ j = 1 ∨ j = 2 ∨ j = 3 := by omega
  rcases this with rfl | rfl | rfl | rfl
  · exact h0
  · exact h1
  · exact h2
  · exact h3
theorem e1 : ∃ X b', Rw.Ends z0 (allB [17825797, 68222976, 402653184]) 99 X 2 1 b' ∧ X.r 1 = 10 ∧ X.pc = 8 := by
  have h : (sq z0 (allB [17825797, 68222976, 402653184]) 3).2.1 = 1 := by kernel_rfl
  have hE := ends_trap (s := z0) (b := allB [17825797, 68222976, 402653184]) (most := 99) (k := 2) (by decide) (lt3 (by kernel_rfl) (by kernel_rfl) (by kernel_rfl)) (by rw [h]; decide)
  rw [h] at hE
  exact ⟨_, _, hE, by kernel_rfl, by kernel_rfl⟩
theorem e2 : ∃ X b', Rw.Ends z1 (allB [419495936, 469762048, 436469760]) 3 X 3 0 b' ∧ X.r 4 = 4294967291 ∧ X.r 5 = 12 ∧ X.z 0 = (13840687554816376832, 4622945017495814144) :=
  ⟨_, _, ends_full (lt4 (by kernel_rfl) (by kernel_rfl) (by kernel_rfl) (by kernel_rfl)), by kernel_rfl, by kernel_rfl, by kernel_rfl⟩
end Go.Proofs.YtgnpbedhpkmkfaaDoor.Av
