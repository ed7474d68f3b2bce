/-
  The walk of WordSigns: Sign of lowest bits, for any two words and any count.
-/
import Derived.Test.YthacghmgkpbdoaaAlive
namespace Go.Proofs.Ythacghmgkpbdoaa.Walk
open Go Go.RowKit Nums Kit Leaf Alive
set_option linter.unusedVariables false

theorem sign_int (v : Nat) (i : Int) (w : World) (h : 1 ≤ i ∧ i ≤ 32) (A : Int) (hA : sgn v i.toNat = A) :
    Calls Try.prog 24 #[.int .u32 (v : Int), .int .i64 i] w fun e w' => e = .returned (.tuple #[.int .i32 A, .int .i64 0]) ∧ w = w' := by
  obtain ⟨n, rfl⟩ := Int.eq_ofNat_of_zero_le (show 0 ≤ i by omega)
  subst hA
  exact sign_any v n w (by simp [isC]; omega)

theorem wordSigns (a0 a1 a2 : Int) (w : World) (w0 : (Lit.int .u32 a0).wf = true) (w1 : (Lit.int .u32 a1).wf = true) (w2 : (Lit.int .u8 a2).wf = true) :
    Calls Try.prog 10 #[.int .u32 a0, .int .u32 a1, .int .u8 a2] w fun e w' => e = .returned (.bool true) ∧ Below w.heap.size w w' := by
  obtain ⟨v, rfl, hv⟩ := u32_nat w0
  obtain ⟨x, rfl, hx⟩ := u32_nat w1
  obtain ⟨b, rfl, hb⟩ := u8_nat w2
  clear w0 w1 w2
  obtain ⟨m, hm, hml⟩ : ∃ m : Nat, (b : Int) % 32 = (m : Int) ∧ m ≤ 31 := ⟨b % 32, by omega, by omega⟩
  have hn : 1 ≤ 1 + m ∧ 1 + m ≤ 32 := by omega
  obtain ⟨A, hA⟩ : ∃ A, sgn v (1 + m) = A := ⟨_, rfl⟩
  have hAb := sgn_bounds (v := v) hn.1 hn.2
  rw [hA] at hAb
  have hp := pw_le hn.2
  obtain ⟨L, hL⟩ : ∃ L : Nat, pw (1 + m) - 1 = L := ⟨_, rfl⟩
  have hL1 : IntKind.u64.wrap (IntKind.u64.wrap (2 ^ (1 + m)) - 1) = (L : Int) := by
    have e : ((2 : Int) ^ (1 + m)) = ((pw (1 + m) : Nat) : Int) := by simp [pw]
    have := pw_pos (1 + m)
    rw [e, u64_in (by omega), IntKind.wrap_u64]; omega
  have cv : IntKind.u64.wrap (v : Int) = (v : Int) := u64_in (by omega)
  have cx : IntKind.u64.wrap (x : Int) = (x : Int) := u64_in (by omega)
  obtain ⟨M, hM⟩ : ∃ M : Nat, mix v x (1 + m) = M := ⟨_, rfl⟩
  have hMl : M < 4294967296 := by rw [← hM]; exact mix_lt hx hn.2
  have hmb : bits .or .u64 (bits .and .u64 (v : Int) (L : Int)) (bits .andNot .u64 (x : Int) (L : Int)) = (M : Int) := by
    rw [← hM, ← hL]; exact mix_bits hv hx hn.2
  have hSM : sgn M (1 + m) = A := by rw [← hM, ← hA]; exact sgn_congr (mix_mod _ _ _)
  obtain ⟨U, hU⟩ : ∃ U : Nat, wordOf A = U := ⟨_, rfl⟩
  have hpow : ((2 ^ (1 + m - 1) : Nat) : Int) ≤ 2147483648 := by
    have h1 : 2 ^ (1 + m - 1) ≤ 2 ^ 31 := Nat.pow_le_pow_right (by decide) (by omega)
    have h2 : (2 : Nat) ^ 31 = 2147483648 := by decide
    omega
  obtain ⟨P, hP⟩ : ∃ P : Int, (2 : Int) ^ m = P := ⟨_, rfl⟩
  have hPN : ((2 ^ (1 + m - 1) : Nat) : Int) = P := by rw [← hP, show 1 + m - 1 = m from by omega]; simp
  rw [hPN] at hAb hpow
  have hPpos : 1 ≤ P := by
    have := pow_pos (1 + m - 1)
    omega
  clear hPN
  have hA1 : -P ≤ A := hAb.1
  have hA2 : A < P := hAb.2
  have hw1 : wrap64 P = P := IntWalk.wrap64_in _ (by omega)
  have hw2 : wrap64 (-P) = -P := IntWalk.wrap64_in _ (by omega)
  have hUc : A % 4294967296 = (U : Int) := by rw [← hU]; exact wordOf_cast A
  have hUl : U < 4294967296 := by rw [← hU]; exact wordOf_lt A
  have hSU : sgn U 32 = A := by rw [← hU]; exact sgn_wordOf (by omega)
  have cU : IntKind.u64.wrap (U : Int) = (U : Int) := u64_in (by omega)
  have hlow : bits .and .u64 (U : Int) (L : Int) = bits .and .u64 (v : Int) (L : Int) := by
    have hp0 := pw_pos (1 + m)
    rw [u64_and_nat _ _ (by omega) (by omega), u64_and_nat _ _ (by omega) (by omega), ← hL]
    show ((U &&& (2 ^ (1 + m) - 1) : Nat) : Int) = ((v &&& (2 ^ (1 + m) - 1) : Nat) : Int)
    rw [and_most, and_most, ← hU, ← hA, wordOf_mod hn.1 hn.2]
  have hT : (1 + (m : Int)).toNat = 1 + m := by omega
  have HA := Lib.hid (show sgn v (1 + (m : Int)).toNat = A by rw [hT]; exact hA)
  have HSM := Lib.hid (show sgn M (1 + (m : Int)).toNat = A by rw [hT]; exact hSM)
  have HSU := Lib.hid (show sgn U (32 : Int).toNat = A from hSU)
  clear hT hA hL hM hSM hU hSU
  go_enter Try.func10, Try.ntmps10
  go_wp2_with (first | (go_at_call 30; refine (alive_any _).mono ?_; rintro e w1 ⟨rfl, hb1⟩) | (go_at_call 24; ((with_reducible refine (sign_int v (1 + (m : Int)) _ (by omega) A HA.out).mono ?_); rintro e w2 ⟨rfl, rfl⟩)) | (go_at_call 24; ((with_reducible refine (sign_int M (1 + (m : Int)) _ (by omega) A HSM.out).mono ?_); rintro e w2 ⟨rfl, rfl⟩)) | (go_at_call 24; ((with_reducible refine (sign_int U 32 _ (by omega) A HSU.out).mono ?_); rintro e w2 ⟨rfl, rfl⟩)))
  go_ret
  exact ⟨rfl, hb1⟩
end Go.Proofs.Ythacghmgkpbdoaa.Walk
