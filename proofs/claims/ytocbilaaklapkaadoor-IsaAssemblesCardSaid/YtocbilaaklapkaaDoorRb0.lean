/-
  The document's May: which instructions may be.
-/
import Derived.Test.YtocbilaaklapkaaDoorRa
import Derived.Test.YtocbilaaklapkaaDoorIsaP
namespace Go.Proofs.YtocbilaaklapkaaDoor.Rb0
open Go Go.RowKit Go.Shelf Kit IsaM IsaT IsaL IsaC IsaE IsaN IsaP Ra
set_option linter.unusedVariables false

theorem fits_calc (k : Nat) (hk : k < 30) (a b i : Int) : Fits k a b i ↔ ((mA k ≠ 0 ∧ 0 ≤ a ∧ a ≤ mst (k : Int) 97) ∨ (mA k = 0 ∧ a = 0)) ∧ ((mB k ≠ 0 ∧ 0 ≤ b ∧ b ≤ mst (k : Int) 98) ∨ (mB k = 0 ∧ b = 0)) ∧ ((mI k ≠ 0 ∧ -32768 ≤ i ∧ i ≤ 32767) ∨ (mI k = 0 ∧ i = 0)) := by
  have h := nms_fin ⟨k, hk⟩
  simp only at h
  obtain ⟨-, -, -, hA, hB⟩ := h
  have cA := mA_cases hk
  have cB := mB_cases hk
  have cI := mI_cases hk
  constructor
  · rintro ⟨_, a0, a1, b0, b1, i0, i1⟩
    unfold lo at i0
    refine ⟨by omega, by omega, ?_⟩
    split at i0 <;> omega
  · rintro ⟨h1, h2, h3⟩
    refine ⟨hk, by omega, by omega, by omega, by omega, ?_, by omega⟩
    unfold lo
    split <;> omega
theorem nm_ne (k : Nat) (hk : k < 30) : (nm k).isEmpty = false := by
  have : ∀ k : Fin 30, (nm k.val).isEmpty = false := by decide +kernel
  exact this ⟨k, hk⟩
theorem nms_size (k : Nat) : (st (nms k)).size ≤ 3 := by rw [st_size]; unfold nms; split <;> split <;> split <;> simp

theorem hb (k : Nat) (c : Nat) (hc : c < 256) (x : Bool) (h : hasB (nms k) (UInt8.ofNat c) = x) (wx : World) : Calls Tryd.prog 30 #[.string (st (nms k)), .int .u8 (c : Int)] wx fun e w' => e = .returned (.bool x) ∧ wx = w' := by
  have := has_any (st (nms k)) (UInt8.ofNat c) (c : Int) (by simp; omega) (by have := nms_size k; omega) wx
  rwa [st_data, h] at this

end Go.Proofs.YtocbilaaklapkaaDoor.Rb0
