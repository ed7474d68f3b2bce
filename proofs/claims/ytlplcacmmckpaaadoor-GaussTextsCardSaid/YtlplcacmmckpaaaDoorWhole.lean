/-
  The whole number of the range of layer 2 that a float64 is, if it is one; what the tests of the program, and of the document's answer, say of any float64. No program is mentioned here.
-/
import Derived.Test.YtlplcacmmckpaaaDoorFloat
namespace Go.Proofs.YtlplcacmmckpaaaDoor.Whole
open Go Go.RowKit Ieee Fl
set_option linter.unusedVariables false

theorem order_fl' (s : Bool) (m : Nat) (i : Int) {n : Int} (h : n.natAbs < 2 ^ 53) :
    (double.read (fl n)).order (Datum.number s m i) = some (compare (n * den i) (num s m i)) := by
  by_cases h0 : n = 0
  · subst h0
    rw [fl_zero, read_zero, order_number]
    have e : num false 0 (-1074) = 0 := by decide
    rw [e, Int.zero_mul]
    have hd : (0 : Int) < den (-1074) := den_pos _
    have := compare_scale 0 (num s m i) (den (-1074)) hd
    rw [Int.zero_mul] at this
    rw [this]
  · obtain ⟨d, hd⟩ := read_fl h0 h
    rw [hd, order_number, num_fl, den_fl, Int.mul_right_comm, compare_scale]
    have := Nat.two_pow_pos d
    omega

theorem c_lo : fl (-524288) = 13916122848574832640 := by decide
theorem c_hi : fl 524288 = 4692750811720056832 := by decide
theorem c_top : fl 524287 = 4692750794540187648 := by decide

/-- The whole number of the range that it is. -/
def whl (b : Nat) : Option Int :=
  match double.read b with
  | .number s m i => if num s m i = (num s m i).tdiv (den i) * den i ∧ -524288 ≤ (num s m i).tdiv (den i) ∧ (num s m i).tdiv (den i) ≤ 524287 then some ((num s m i).tdiv (den i)) else none
  | _ => none

theorem whl_range {b : Nat} {n : Int} (h : whl b = some n) : -524288 ≤ n ∧ n ≤ 524287 := by
  unfold whl at h
  split at h
  · split at h
    · rename_i hc
      cases h
      exact hc.2
    · cases h
  · cases h

theorem tdiv_exact {n d : Int} (hd : 0 < d) : (n * d).tdiv d = n := Int.mul_tdiv_cancel _ (by omega)

theorem whl_fl {n : Int} (h : -524288 ≤ n ∧ n ≤ 524287) : whl (fl n) = some n := by
  unfold whl
  by_cases h0 : n = 0
  · subst h0
    rw [fl_zero, read_zero]
    have e : num false 0 (-1074) = 0 := by decide
    dsimp only
    rw [e, Int.zero_tdiv, if_pos ⟨by rw [Int.zero_mul], by omega, by omega⟩]
  · obtain ⟨d, hd⟩ := read_fl h0 (by omega)
    rw [hd]
    dsimp only
    rw [num_fl, den_fl, tdiv_exact (by have := Nat.two_pow_pos d; omega), if_pos ⟨rfl, h⟩]

/-- Cut towards zero, as a 64-bit number. -/
theorem cv_of {b : Nat} {s : Bool} {m : Nat} {i : Int} (hr : double.read b = .number s m i) (h : -524288 ≤ (num s m i).tdiv (den i) ∧ (num s m i).tdiv (den i) ≤ 524288) :
    floatToIntVal .f64 b .i64 = some ((num s m i).tdiv (den i)) := by
  unfold floatToIntVal
  rw [show FloatKind.f64.decode b = double.read b from rfl, hr, toInt_number]
  dsimp only
  rw [if_pos]
  have e1 : IntKind.i64.min = -9223372036854775808 := by decide
  have e2 : IntKind.i64.max = 9223372036854775807 := by decide
  rw [e1, e2]
  omega

def od (x y : Nat) : Option Ordering := double.order x y

theorem ord_num {b : Nat} {s : Bool} {m : Nat} {i : Int} (hr : double.read b = .number s m i) {n : Int} (h : n.natAbs < 2 ^ 53) : od b (fl n) = some (compare (num s m i) (n * den i)) := by
  show (double.read b).order _ = _
  rw [hr, order_fl _ _ _ h]
theorem ord_num' {b : Nat} {s : Bool} {m : Nat} {i : Int} (hr : double.read b = .number s m i) {n : Int} (h : n.natAbs < 2 ^ 53) : od (fl n) b = some (compare (n * den i) (num s m i)) := by
  show (double.read _).order (double.read b) = _
  rw [hr, order_fl' _ _ _ h]
theorem ord_self {b : Nat} {s : Bool} {m : Nat} {i : Int} (hr : double.read b = .number s m i) : od b b = some .eq := by
  show (double.read b).order (double.read b) = _
  rw [hr, order_number, compare_eq rfl]
theorem read_const {n : Int} (h : n.natAbs < 2 ^ 53) : ∃ s m i, double.read (fl n) = .number s m i := by
  by_cases h0 : n = 0
  · subst h0
    rw [fl_zero, read_zero]
    exact ⟨_, _, _, rfl⟩
  · obtain ⟨d, hd⟩ := read_fl h0 h
    exact ⟨_, _, _, hd⟩

/-- What the tests say of a float64. -/
inductive Tests (b : Nat) : Prop
  | yes (n : Int) (hw : whl b = some n) (h1 : od b 13916122848574832640 = some .gt ∨ od b 13916122848574832640 = some .eq) (h2 : od b 4692750811720056832 = some .lt)
      (h3 : od b 4692750794540187648 = some .lt ∨ od b 4692750794540187648 = some .eq) (h4 : floatToIntVal .f64 b .i64 = some n) (h5 : od b (fl n) = some .eq) (h6 : od (fl n) b = some .eq) (h7 : od b b = some .eq)
  | nan (hw : whl b = none) (h1 : od b 13916122848574832640 = none) (h7 : od b b = none)
  | low (hw : whl b = none) (h1 : od b 13916122848574832640 = some .lt) (h7 : od b b = some .eq)
  | high (hw : whl b = none) (h1 : od b 13916122848574832640 = some .gt) (h2 : od b 4692750811720056832 = some .gt ∨ od b 4692750811720056832 = some .eq) (h3 : od b 4692750794540187648 = some .gt) (h7 : od b b = some .eq)
  | near (hw : whl b = none) (h1 : od b 13916122848574832640 = some .gt) (h2 : od b 4692750811720056832 = some .lt) (h3 : od b 4692750794540187648 = some .gt) (h4 : floatToIntVal .f64 b .i64 = some 524287)
      (h5 : od b (fl 524287) = some .gt) (h7 : od b b = some .eq)
  | part (n : Int) (hn : -524288 ≤ n ∧ n ≤ 524287) (hw : whl b = none) (h1 : od b 13916122848574832640 = some .gt) (h2 : od b 4692750811720056832 = some .lt) (h3 : od b 4692750794540187648 = some .lt) (h4 : floatToIntVal .f64 b .i64 = some n)
      (h5 : od b (fl n) = some .gt ∨ od b (fl n) = some .lt) (h6 : od (fl n) b = some .gt ∨ od (fl n) b = some .lt) (h7 : od b b = some .eq)

theorem tdiv_bounds {N D q : Int} (hD : 0 < D) (hq : N.tdiv D = q) : (0 ≤ N → q * D ≤ N ∧ N < (q + 1) * D ∧ 0 ≤ q) ∧ (N < 0 → (q - 1) * D < N ∧ N ≤ q * D ∧ q ≤ 0) := by
  subst hq
  constructor
  · intro h
    rw [Int.tdiv_eq_ediv_of_nonneg h]
    exact ⟨Int.ediv_mul_le _ (by omega), Int.lt_ediv_add_one_mul_self _ hD, Int.ediv_nonneg h (by omega)⟩
  · intro h
    obtain ⟨M, rfl⟩ : ∃ M, N = -M := ⟨-N, by omega⟩
    rw [Int.neg_tdiv, Int.tdiv_eq_ediv_of_nonneg (by omega)]
    have h1 := Int.ediv_mul_le M (b := D) (by omega)
    have h2 := Int.lt_ediv_add_one_mul_self M hD
    have h3 : 0 ≤ M / D := Int.ediv_nonneg (by omega) (by omega)
    refine ⟨?_, ?_, by omega⟩
    · rw [show -(M / D) - 1 = -(M / D + 1) from by omega, Int.neg_mul]
      omega
    · rw [Int.neg_mul]
      omega
theorem le_of_mul {a b D : Int} (hD : 0 < D) (h : a * D < (b + 1) * D) : a ≤ b := by
  have := Int.lt_of_mul_lt_mul_right h (by omega)
  omega

theorem tests (b : Nat) : Tests b := by
  have k1 : (-524288 : Int).natAbs < 2 ^ 53 := by decide
  have k2 : (524288 : Int).natAbs < 2 ^ 53 := by decide
  have k3 : (524287 : Int).natAbs < 2 ^ 53 := by decide
  cases hr : double.read b with
  | nan s f =>
    have hw : whl b = none := by unfold whl; rw [hr]
    have ho : ∀ c, od b c = none := fun c => by show (double.read b).order _ = _; rw [hr]; cases double.read c <;> rfl
    exact .nan hw (ho _) (ho _)
  | infinity s =>
    have hw : whl b = none := by unfold whl; rw [hr]
    have ho : ∀ n : Int, n.natAbs < 2 ^ 53 → od b (fl n) = some (if s then .lt else .gt) := fun n h => by
      obtain ⟨t, m, i, e⟩ := read_const h
      show (double.read b).order _ = _
      rw [hr, e]
      rfl
    have h7 : od b b = some .eq := by
      show (double.read b).order (double.read b) = _
      rw [hr]
      show some (compare s.toNat s.toNat) = _
      cases s <;> rfl
    have h1 := ho _ k1
    have h2 := ho _ k2
    have h3 := ho _ k3
    rw [c_lo] at h1
    rw [c_hi] at h2
    rw [c_top] at h3
    cases s
    · exact .high hw h1 (.inl h2) h3 h7
    · exact .low hw h1 h7
  | number s m i =>
    have hD := den_pos i
    have h1 := ord_num hr k1
    have h2 := ord_num hr k2
    have h3 := ord_num hr k3
    have h7 := ord_self hr
    have hcv := cv_of hr
    have hn : ∀ n : Int, -524288 ≤ n ∧ n ≤ 524287 → od b (fl n) = some (compare (num s m i) (n * den i)) := fun n h => ord_num hr (by omega)
    have hn' : ∀ n : Int, -524288 ≤ n ∧ n ≤ 524287 → od (fl n) b = some (compare (n * den i) (num s m i)) := fun n h => ord_num' hr (by omega)
    rw [c_lo] at h1
    rw [c_hi] at h2
    rw [c_top] at h3
    have hw : whl b = if num s m i = (num s m i).tdiv (den i) * den i ∧ -524288 ≤ (num s m i).tdiv (den i) ∧ (num s m i).tdiv (den i) ≤ 524287 then some ((num s m i).tdiv (den i)) else none := by unfold whl; rw [hr]
    generalize num s m i = N at *
    generalize den i = D at *
    obtain ⟨q, hq⟩ : ∃ q, N.tdiv D = q := ⟨_, rfl⟩
    rw [hq] at hw hcv
    obtain ⟨hpos, hneg⟩ := tdiv_bounds hD hq
    by_cases hlo : N < -524288 * D
    · have hw' : whl b = none := by
        rw [hw, if_neg]
        rintro ⟨e1, e2, -⟩
        have := Int.mul_le_mul_of_nonneg_right e2 (show 0 ≤ D by omega)
        omega
      exact .low hw' (by rw [h1, compare_lt hlo]) h7
    · by_cases hhi : 524288 * D ≤ N
      · have hw' : whl b = none := by
          rw [hw, if_neg]
          rintro ⟨e1, -, e2⟩
          have := Int.mul_le_mul_of_nonneg_right e2 (show 0 ≤ D by omega)
          omega
        refine .high hw' (by rw [h1, compare_gt (by omega)]) ?_ (by rw [h3, compare_gt (by omega)]) h7
        by_cases e : N = 524288 * D
        · exact .inr (by rw [h2, compare_eq e])
        · exact .inl (by rw [h2, compare_gt (by omega)])
      · have hr1 : -524288 ≤ q := by
          by_cases h0 : 0 ≤ N
          · have := (hpos h0).2.2
            omega
          · have := hneg (by omega)
            have h' : -524288 * D ≤ N := by omega
            rcases Int.lt_or_le q (-524288) with hh | hh
            · have := Int.mul_lt_mul_of_pos_right hh hD
              omega
            · exact hh
        have hr2 : q ≤ 524287 := by
          by_cases h0 : 0 ≤ N
          · have := hpos h0
            exact le_of_mul hD (by omega)
          · have := (hneg (by omega)).2.2
            omega
        have h2' : od b 4692750811720056832 = some .lt := by rw [h2, compare_lt (by omega)]
        have h4 := hcv ⟨hr1, by omega⟩
        by_cases hex : N = q * D
        · refine .yes q (by rw [hw, if_pos ⟨hex, hr1, hr2⟩]) ?_ h2' ?_ h4 (by rw [hn q ⟨hr1, hr2⟩, compare_eq hex]) (by rw [hn' q ⟨hr1, hr2⟩, compare_eq hex.symm]) h7
          · by_cases e : N = -524288 * D
            · exact .inr (by rw [h1, compare_eq e])
            · exact .inl (by rw [h1, compare_gt (by omega)])
          · by_cases e : N = 524287 * D
            · exact .inr (by rw [h3, compare_eq e])
            · have := Int.mul_le_mul_of_nonneg_right hr2 (show 0 ≤ D by omega)
              exact .inl (by rw [h3, compare_lt (by omega)])
        · have hw' : whl b = none := by
            rw [hw, if_neg]
            rintro ⟨e1, -⟩
            exact hex e1
          have hlo' : -524288 * D < N := by
            rcases Int.lt_or_eq_of_le (show -524288 * D ≤ N by omega) with h | h
            · exact h
            · exfalso
              rw [← h, tdiv_exact hD] at hq
              subst hq
              exact hex h.symm
          by_cases htop : 524287 * D < N
          · obtain rfl : q = 524287 := by
              have := hpos (by omega)
              have := le_of_mul (a := 524287) (b := q) hD (by omega)
              omega
            exact .near hw' (by rw [h1, compare_gt hlo']) h2' (by rw [h3, compare_gt htop]) h4 (by rw [hn _ ⟨hr1, hr2⟩, compare_gt htop]) h7
          · have htop' : N < 524287 * D := by
              rcases Int.lt_or_eq_of_le (show N ≤ 524287 * D by omega) with h | h
              · exact h
              · exfalso
                rw [h, tdiv_exact hD] at hq
                subst hq
                exact hex h
            refine .part q ⟨hr1, hr2⟩ hw' (by rw [h1, compare_gt hlo']) h2' (by rw [h3, compare_lt htop']) h4 ?_ ?_ h7
            · rw [hn _ ⟨hr1, hr2⟩]
              rcases Int.lt_trichotomy N (q * D) with h | h | h
              · exact .inr (by rw [compare_lt h])
              · exact absurd h hex
              · exact .inl (by rw [compare_gt h])
            · rw [hn' _ ⟨hr1, hr2⟩]
              rcases Int.lt_trichotomy N (q * D) with h | h | h
              · exact .inl (by rw [compare_gt h])
              · exact absurd h hex
              · exact .inr (by rw [compare_lt h])
end Go.Proofs.YtlplcacmmckpaaaDoor.Whole
