/-
  CoreSums' programs: what they leave, for any two words.
-/
import Derived.Test.YtgnpbedhpkmkfaaDoorZAv
import Derived.Test.YtgnpbedhpkmkfaaDoorZGn
namespace Go.Proofs.YtgnpbedhpkmkfaaDoor.Su
open Go Go.RowKit Kit Bk CoM CoR CoB CoC CoW CoI CoE CoY Bytes3 IsaT IsaU IsaV Sm Ru Rw Ar Av
set_option linter.unusedVariables false
set_option maxRecDepth 100000
def zab (a b : Int) : St := ⟨fun j => if j = 1 then a else if j = 2 then b else 0, fun _ => (0, 0), 0⟩
theorem zab_ok (a b : Int) (ha : 0 ≤ a ∧ a < 4294967296) (hb : 0 ≤ b ∧ b < 4294967296) : (zab a b).Ok :=
  ⟨fun j => by unfold zab; dsimp only; split <;> (try split) <;> omega, fun j => by unfold zab; dsimp only; split <;> (try split) <;> omega, Int.le_refl 0, (by decide : (0 : Int) < 4294967296)⟩
theorem m32_id {x : Int} (h : 0 ≤ x ∧ x < 4294967296) : m32 x = x := by unfold m32; omega
theorem s1 : asm (ByteArray.mk #[97, 100, 100, 32, 49, 32, 50, 10, 115, 117, 98, 32, 49, 32, 50, 10]).data.toList = .inr [68288512, 85065728] := by kernel_rfl
theorem sum1 (a b : Int) (ha : 0 ≤ a ∧ a < 4294967296) (hb : 0 ≤ b ∧ b < 4294967296) : ∃ X b', Rw.Ends (zab a b) (allB [68288512, 85065728]) 2 X 2 0 b' ∧ X.r 1 = a := by
  refine ⟨_, _, ends_full (lt3 (by kernel_rfl) (by kernel_rfl) (by kernel_rfl)), ?_⟩
  have h : (sq (zab a b) (allB [68288512, 85065728]) 2).1.r 1 = m32 (m32 (a + b) - b) := by kernel_rfl
  rw [h]
  unfold m32
  omega
theorem s2 : asm (ByteArray.mk #[120, 111, 114, 32, 49, 32, 50, 10, 120, 111, 114, 32, 49, 32, 50, 10]).data.toList = .inr [152174592, 152174592] := by kernel_rfl
theorem sum2 (a b : Int) (ha : 0 ≤ a ∧ a < 4294967296) (hb : 0 ≤ b ∧ b < 4294967296) : ∃ X b', Rw.Ends (zab a b) (allB [152174592, 152174592]) 2 X 2 0 b' ∧ X.r 1 = a := by
  refine ⟨_, _, ends_full (lt3 (by kernel_rfl) (by kernel_rfl) (by kernel_rfl)), ?_⟩
  have h : (sq (zab a b) (allB [152174592, 152174592]) 2).1.r 1 = bits .xor .u32 (bits .xor .u32 a b) b := by kernel_rfl
  rw [h]
  obtain ⟨x, rfl⟩ := Int.eq_ofNat_of_zero_le ha.1
  obtain ⟨y, rfl⟩ := Int.eq_ofNat_of_zero_le hb.1
  have hx : x < 2 ^ 32 := by omega
  have hy : y < 2 ^ 32 := by omega
  have hz := Nat.xor_lt_two_pow hx hy
  rw [u32_xor_nat x y (by omega) (by omega), u32_xor_nat (x ^^^ y) y (by omega) (by omega), Nat.xor_assoc, Nat.xor_self, Nat.xor_zero]
theorem s4 : asm (ByteArray.mk #[109, 111, 118, 32, 51, 32, 49, 10, 115, 108, 116, 32, 51, 32, 50, 10, 109, 111, 118, 32, 52, 32, 50, 10, 115, 108, 116, 32, 52, 32, 49, 10, 109, 111, 118, 32, 53, 32, 49, 10, 115, 101, 113, 32, 53, 32, 50, 10, 97, 100, 100, 32, 51, 32, 52, 10, 97, 100, 100, 32, 51, 32, 53, 10]).data.toList = .inr [53542912, 221380608, 54657024, 222363648, 55640064, 240254976, 70516736, 70582272] := by kernel_rfl
theorem lt9 {P : Nat → Prop} (h : P 0 ∧ P 1 ∧ P 2 ∧ P 3 ∧ P 4 ∧ P 5 ∧ P 6 ∧ P 7 ∧ P 8) : ∀ j, j < 9 → P j := fun j hj => by
  obtain ⟨h0, h1, h2, h3, h4, h5, h6, h7, h8⟩ := h
  have : j = 0 ∨ j = 1 ∨ j = 2 ∨ j = 3 ∨ j = 4 ∨ j = 5 ∨ j = 6 ∨ j = 7 ∨ j = 8 := by omega
  rcases this with rfl | rfl | rfl | rfl | rfl | rfl | rfl | rfl | rfl <;> assumption
theorem sum4 (a b : Int) (ha : 0 ≤ a ∧ a < 4294967296) (hb : 0 ≤ b ∧ b < 4294967296) : ∃ X b', Rw.Ends (zab a b) (allB [53542912, 221380608, 54657024, 222363648, 55640064, 240254976, 70516736, 70582272]) 8 X 8 0 b' ∧ X.r 3 = 1 := by
  refine ⟨_, _, ends_full (lt9 ⟨by kernel_rfl, by kernel_rfl, by kernel_rfl, by kernel_rfl, by kernel_rfl, by kernel_rfl, by kernel_rfl, by kernel_rfl, by kernel_rfl⟩), ?_⟩
  have h : (sq (zab a b) (allB [53542912, 221380608, 54657024, 222363648, 55640064, 240254976, 70516736, 70582272]) 8).1.r 3 = m32 (m32 ((if sgn a < sgn b then 1 else 0) + (if sgn b < sgn a then 1 else 0)) + (if a = b then 1 else 0)) := by kernel_rfl
  rw [h]
  unfold m32 sgn
  by_cases h1 : a = b
  · subst h1; simp
  · have h2 : ¬ (if 2147483648 ≤ a then a - 4294967296 else a) = (if 2147483648 ≤ b then b - 4294967296 else b) := by split <;> split <;> omega
    rw [if_neg h1]
    generalize (if 2147483648 ≤ a then a - 4294967296 else a) = p at h2 ⊢
    generalize (if 2147483648 ≤ b then b - 4294967296 else b) = q at h2 ⊢
    by_cases h3 : p < q
    · rw [if_pos h3, if_neg (by omega)]; rfl
    · rw [if_neg h3, if_pos (by omega)]; rfl
theorem and_or : ∀ n x y : Nat, x < 2 ^ n → (x &&& y) + (x ||| y) = x + y
  | 0, x, y, h => by
    obtain rfl : x = 0 := by simpa using h
    simp
  | n + 1, x, y, h => by
    have ih := and_or n (x / 2) (y / 2) (by rw [Nat.pow_succ] at h; omega)
    have a1 : (x &&& y) / 2 = x / 2 &&& y / 2 := Nat.and_div_two
    have o1 : (x ||| y) / 2 = x / 2 ||| y / 2 := Nat.or_div_two
    have a2 : (x &&& y) % 2 = (x % 2) * (y % 2) := by
      have q := @Nat.and_mod_two_eq_one x y
      rcases Nat.mod_two_eq_zero_or_one x with h1 | h1 <;> rcases Nat.mod_two_eq_zero_or_one y with h2 | h2 <;> rcases Nat.mod_two_eq_zero_or_one (x &&& y) with h3 | h3 <;> rw [h1, h2, h3] at q <;> rw [h1, h2, h3] <;> revert q <;> decide
    have o2 : (x ||| y) % 2 = x % 2 + y % 2 - (x % 2) * (y % 2) := by
      have q := @Nat.or_mod_two_eq_one x y
      rcases Nat.mod_two_eq_zero_or_one x with h1 | h1 <;> rcases Nat.mod_two_eq_zero_or_one y with h2 | h2 <;> rcases Nat.mod_two_eq_zero_or_one (x ||| y) with h3 | h3 <;> rw [h1, h2, h3] at q <;> rw [h1, h2, h3] <;> revert q <;> decide
    rcases Nat.mod_two_eq_zero_or_one x with h1 | h1 <;> rcases Nat.mod_two_eq_zero_or_one y with h2 | h2 <;> rw [h1, h2] at a2 o2 <;> rw [← a1, ← o1] at ih <;> generalize x &&& y = p at * <;> generalize x ||| y = q at * <;> clear a1 o1 <;> omega
theorem s3 : asm (ByteArray.mk #[109, 111, 118, 32, 51, 32, 49, 10, 97, 110, 100, 32, 51, 32, 50, 10, 109, 111, 118, 32, 52, 32, 49, 10, 111, 114, 32, 52, 32, 50, 10, 97, 100, 100, 32, 51, 32, 52, 10]).data.toList = .inr [53542912, 120717312, 54591488, 138543104, 70516736] := by kernel_rfl
theorem lt6 {P : Nat → Prop} (h : P 0 ∧ P 1 ∧ P 2 ∧ P 3 ∧ P 4 ∧ P 5) : ∀ j, j < 6 → P j := fun j hj => by
  obtain ⟨h0, h1, h2, h3, h4, h5⟩ := h
  have : j = 0 ∨ j = 1 ∨ j = 2 ∨ j = 3 ∨ j = 4 ∨ j = 5 := by omega
  rcases this with rfl | rfl | rfl | rfl | rfl | rfl <;> assumption
theorem sum3 (a b : Int) (ha : 0 ≤ a ∧ a < 4294967296) (hb : 0 ≤ b ∧ b < 4294967296) : ∃ X b', Rw.Ends (zab a b) (allB [53542912, 120717312, 54591488, 138543104, 70516736]) 5 X 5 0 b' ∧ X.r 3 = m32 (a + b) := by
  refine ⟨_, _, ends_full (lt6 ⟨by kernel_rfl, by kernel_rfl, by kernel_rfl, by kernel_rfl, by kernel_rfl, by kernel_rfl⟩), ?_⟩
  have h : (sq (zab a b) (allB [53542912, 120717312, 54591488, 138543104, 70516736]) 5).1.r 3 = m32 (bits .and .u32 a b + bits .or .u32 a b) := by kernel_rfl
  rw [h]
  obtain ⟨x, rfl⟩ := Int.eq_ofNat_of_zero_le ha.1
  obtain ⟨y, rfl⟩ := Int.eq_ofNat_of_zero_le hb.1
  rw [u32_and_nat x y (by omega) (by omega), u32_or_nat x y (by omega) (by omega)]
  have := and_or 32 x y (by omega)
  congr 1
  omega
end Go.Proofs.YtgnpbedhpkmkfaaDoor.Su
