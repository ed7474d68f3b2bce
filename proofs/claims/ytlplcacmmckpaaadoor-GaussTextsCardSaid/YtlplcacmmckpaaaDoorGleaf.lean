/-
  What layer 2's small functions come to: isPart and wrap, and the document's part and wrap; for any float64, any whole number.
-/
import Derived.Test.YtlplcacmmckpaaaDoorKit
import Derived.Test.YtlplcacmmckpaaaDoorWhole
import Derived.WalkKit
import Derived.WalkLawsBesides
import Derived.Deep.QuietTactic
import Derived.BigQuiet
import Derived.Lib.Hide
import Derived.IntWalk
namespace Go.Proofs.YtlplcacmmckpaaaDoor.Gleaf
open Go Go.RowKit Kit Fl Whole
set_option linter.unusedVariables false

/-- The part that a whole number wraps to. -/
def wr (n : Int) : Int := (n + 524288) % 1048576 - 524288
theorem wr_range (n : Int) : -524288 ≤ wr n ∧ wr n ≤ 524287 := by unfold wr; omega
theorem wr_id {n : Int} (h : -524288 ≤ n ∧ n ≤ 524287) : wr n = n := by unfold wr; omega
theorem wr_congr {a b : Int} (h : a % 1048576 = b % 1048576) : wr a = wr b := by unfold wr; omega
theorem wr_mod (n : Int) : wr n % 1048576 = n % 1048576 := by unfold wr; omega

theorem i64_low20 (n : Int) : bits .and .i64 n 1048575 = n % 1048576 := by
  have h127 : (BitVec.ofInt 64 1048575).toNat = 2 ^ 20 - 1 := by decide
  have key : (BitVec.ofInt 64 n &&& BitVec.ofInt 64 1048575).toNat = (n % ((2 ^ 64 : Nat) : Int)).toNat % 2 ^ 20 := by
    rw [BitVec.toNat_and, BitVec.toNat_ofInt, h127, Nat.and_two_pow_sub_one_eq_mod]
  show IntKind.i64.wrap ((BitVec.ofInt 64 n &&& BitVec.ofInt 64 1048575).toNat : Nat) = n % 1048576
  rw [key, IntKind.wrap_i64]
  omega

theorem wrap_any (n : Int) (w : World) :
    Calls Tryd.prog 31 #[.int .i64 n] w fun e w' => e = .returned (.int .i64 (wr n)) ∧ w = w' := by
  have hb := fun x => i64_low20 x
  go_enter Tryd.func31, Tryd.ntmps31
  go_wp2
  go_ret
  exact ⟨ret_int (by unfold wr; simp only [wrap64]; omega), rfl⟩

theorem conv_of {b : Nat} {v : Int} (h : whl b = some v) (wx : World) : (convert 22 2 (.float .f64 b)).run Tryd.prog wx = .ok (.int .i64 v) wx := by
  cases tests b with
  | yes n hw h1 h2 h3 h4 h5 h6 h7 =>
    rw [hw] at h
    cases h
    exact run_convert_float_int wx _ _ _ _ _ _ (by kernel_rfl) Tryd.underlying2 h4
  | nan hw => rw [hw] at h; cases h
  | low hw => rw [hw] at h; cases h
  | high hw => rw [hw] at h; cases h
  | near hw => rw [hw] at h; cases h
  | part n hn hw => rw [hw] at h; cases h

theorem isPart_any (b : Nat) (w : World) :
    Calls Tryd.prog 38 #[.float .f64 b] w fun e w' => e = .returned (.bool (whl b).isSome) ∧ w = w' := by
  have hcv : ∀ n : Int, floatToIntVal .f64 b .i64 = some n → ∀ wx, (convert 22 2 (.float .f64 b)).run Tryd.prog wx = .ok (.int .i64 n) wx := fun n h wx => run_convert_float_int wx _ _ _ _ b n (by kernel_rfl) Tryd.underlying2 h
  cases tests b with
  | yes n hw h1 h2 h3 h4 h5 h6 h7 =>
    have hc := hcv n h4
    have t1 : (FloatKind.f64.format.order b 13916122848574832640 == some .gt || FloatKind.f64.format.order b 13916122848574832640 == some .eq) = true := by
      change (od b 13916122848574832640 == some .gt || od b 13916122848574832640 == some .eq) = true
      rcases h1 with h | h <;> rw [h] <;> rfl
    have t2 : FloatKind.f64.format.order b 4692750811720056832 = some .lt := h2
    have t3 : FloatKind.f64.format.order b (floatOfInt .f64 n) = some .eq := h5
    clear hcv h1 h2 h3 h4 h5 h6 h7
    go_enter Tryd.func38, Tryd.ntmps38
    go_wp2
    go_ret
    exact ⟨by rw [hw]; rfl, rfl⟩
  | nan hw h1 h7 =>
    have t1 : FloatKind.f64.format.order b 13916122848574832640 = none := h1
    clear hcv h1 h7
    go_enter Tryd.func38, Tryd.ntmps38
    go_wp2
    go_ret
    exact ⟨by rw [hw]; rfl, rfl⟩
  | low hw h1 h7 =>
    have t1 : FloatKind.f64.format.order b 13916122848574832640 = some .lt := h1
    clear hcv h1 h7
    go_enter Tryd.func38, Tryd.ntmps38
    go_wp2
    go_ret
    exact ⟨by rw [hw]; rfl, rfl⟩
  | high hw h1 h2 h3 h7 =>
    have t1 : FloatKind.f64.format.order b 13916122848574832640 = some .gt := h1
    have t2 : (FloatKind.f64.format.order b 4692750811720056832 == some .lt) = false := by
      change (od b 4692750811720056832 == some .lt) = false
      rcases h2 with h | h <;> rw [h] <;> rfl
    clear hcv h1 h2 h3 h7
    go_enter Tryd.func38, Tryd.ntmps38
    go_wp2
    go_ret
    exact ⟨by rw [hw]; rfl, rfl⟩
  | near hw h1 h2 h3 h4 h5 h7 =>
    have hc := hcv _ h4
    have t1 : FloatKind.f64.format.order b 13916122848574832640 = some .gt := h1
    have t2 : FloatKind.f64.format.order b 4692750811720056832 = some .lt := h2
    have t3 : FloatKind.f64.format.order b (floatOfInt .f64 524287) = some .gt := h5
    clear hcv h1 h2 h3 h4 h5 h7
    go_enter Tryd.func38, Tryd.ntmps38
    go_wp2
    go_ret
    exact ⟨by rw [hw]; rfl, rfl⟩
  | part n hn hw h1 h2 h3 h4 h5 h6 h7 =>
    have hc := hcv _ h4
    have t1 : FloatKind.f64.format.order b 13916122848574832640 = some .gt := h1
    have t2 : FloatKind.f64.format.order b 4692750811720056832 = some .lt := h2
    have t3 : (FloatKind.f64.format.order b (floatOfInt .f64 n) == some .eq) = false := by
      change (od b (fl n) == some .eq) = false
      rcases h5 with h | h <;> rw [h] <;> rfl
    clear hcv h1 h2 h3 h4 h5 h6 h7 hn
    go_enter Tryd.func38, Tryd.ntmps38
    go_wp2
    go_ret
    exact ⟨by rw [hw]; rfl, rfl⟩

/-- What the document's part answers: a whole number, and whether it is the float. -/
def PartR (b : Nat) (e : Ending) : Prop := ∃ n : Int, e = .returned (.tuple #[.int .i64 n, .bool (whl b).isSome]) ∧ ∀ m, whl b = some m → n = m
theorem rpart_any (b : Nat) (w : World) :
    Calls Tryd.prog 32 #[.float .f64 b] w fun e w' => PartR b e ∧ w = w' := by
  have hcv : ∀ n : Int, floatToIntVal .f64 b .i64 = some n → ∀ wx, (convert 22 2 (.float .f64 b)).run Tryd.prog wx = .ok (.int .i64 n) wx := fun n h wx => run_convert_float_int wx _ _ _ _ b n (by kernel_rfl) Tryd.underlying2 h
  cases tests b with
  | yes n hw h1 h2 h3 h4 h5 h6 h7 =>
    have hc := hcv n h4
    have t0 : FloatKind.f64.format.order b b = some .eq := h7
    have t1 : (FloatKind.f64.format.order b 13916122848574832640 == some .lt) = false := by
      change (od b 13916122848574832640 == some .lt) = false
      rcases h1 with h | h <;> rw [h] <;> rfl
    have t2 : (FloatKind.f64.format.order b 4692750794540187648 == some .gt) = false := by
      change (od b 4692750794540187648 == some .gt) = false
      rcases h3 with h | h <;> rw [h] <;> rfl
    have t3 : FloatKind.f64.format.order (floatOfInt .f64 n) b = some .eq := h6
    clear hcv h1 h2 h3 h4 h5 h6 h7
    go_enter Tryd.func32, Tryd.ntmps32
    go_wp2
    go_ret2
    exact ⟨⟨n, by rw [hw]; rfl, fun m h => by rw [hw] at h; exact Option.some.inj h⟩, rfl⟩
  | nan hw h1 h7 =>
    have t0 : FloatKind.f64.format.order b b = none := h7
    clear hcv h1 h7
    go_enter Tryd.func32, Tryd.ntmps32
    go_wp2
    go_ret2
    exact ⟨⟨0, by rw [hw]; rfl, fun m h => by rw [hw] at h; cases h⟩, rfl⟩
  | low hw h1 h7 =>
    have t0 : FloatKind.f64.format.order b b = some .eq := h7
    have t1 : FloatKind.f64.format.order b 13916122848574832640 = some .lt := h1
    clear hcv h1 h7
    go_enter Tryd.func32, Tryd.ntmps32
    go_wp2
    go_ret2
    exact ⟨⟨0, by rw [hw]; rfl, fun m h => by rw [hw] at h; cases h⟩, rfl⟩
  | high hw h1 h2 h3 h7 =>
    have t0 : FloatKind.f64.format.order b b = some .eq := h7
    have t1 : FloatKind.f64.format.order b 13916122848574832640 = some .gt := h1
    have t2 : FloatKind.f64.format.order b 4692750794540187648 = some .gt := h3
    clear hcv h1 h2 h3 h7
    go_enter Tryd.func32, Tryd.ntmps32
    go_wp2
    go_ret2
    exact ⟨⟨0, by rw [hw]; rfl, fun m h => by rw [hw] at h; cases h⟩, rfl⟩
  | near hw h1 h2 h3 h4 h5 h7 =>
    have t0 : FloatKind.f64.format.order b b = some .eq := h7
    have t1 : FloatKind.f64.format.order b 13916122848574832640 = some .gt := h1
    have t2 : FloatKind.f64.format.order b 4692750794540187648 = some .gt := h3
    clear hcv h1 h2 h3 h4 h5 h7
    go_enter Tryd.func32, Tryd.ntmps32
    go_wp2
    go_ret2
    exact ⟨⟨0, by rw [hw]; rfl, fun m h => by rw [hw] at h; cases h⟩, rfl⟩
  | part n hn hw h1 h2 h3 h4 h5 h6 h7 =>
    have hc := hcv _ h4
    have t0 : FloatKind.f64.format.order b b = some .eq := h7
    have t1 : FloatKind.f64.format.order b 13916122848574832640 = some .gt := h1
    have t2 : FloatKind.f64.format.order b 4692750794540187648 = some .lt := h3
    have t3 : (FloatKind.f64.format.order (floatOfInt .f64 n) b == some .eq) = false := by
      change (od (fl n) b == some .eq) = false
      rcases h6 with h | h <;> rw [h] <;> rfl
    clear hcv h1 h2 h3 h4 h5 h6 h7 hn
    go_enter Tryd.func32, Tryd.ntmps32
    go_wp2
    go_ret2
    exact ⟨⟨n, by rw [hw]; rfl, fun m h => by rw [hw] at h; cases h⟩, rfl⟩

theorem rwrap_any (n : Int) (w : World) (hn : -9223372036854775808 ≤ n ∧ n ≤ 9223372036854775807) :
    Calls Tryd.prog 36 #[.int .i64 n] w fun e w' => e = .returned (.int .i64 (wr n)) ∧ w = w' := by
  obtain ⟨m, hm⟩ : ∃ m, n.tmod 1048576 = m := ⟨_, rfl⟩
  have hb : -1048576 < m ∧ m < 1048576 ∧ (m - n) % 1048576 = 0 := by
    by_cases h0 : 0 ≤ n
    · rw [Int.tmod_eq_emod_of_nonneg h0] at hm
      omega
    · obtain ⟨k, rfl⟩ : ∃ k, n = -k := ⟨-n, by omega⟩
      rw [Int.neg_tmod, Int.tmod_eq_emod_of_nonneg (by omega)] at hm
      omega
  obtain ⟨b1, b2, b3⟩ := hb
  have B3 := Lib.hid b3
  clear b3 hn
  by_cases h0 : m < 0
  · by_cases h1 : 524288 ≤ m + 1048576
    all_goals
      go_enter Tryd.func36, Tryd.ntmps36
      go_wp2
      go_ret
      exact ⟨ret_int (by have := B3.out; unfold wr; omega), rfl⟩
  · by_cases h1 : 524288 ≤ m
    all_goals
      go_enter Tryd.func36, Tryd.ntmps36
      go_wp2
      go_ret
      exact ⟨ret_int (by have := B3.out; unfold wr; omega), rfl⟩
end Go.Proofs.YtlplcacmmckpaaaDoor.Gleaf
