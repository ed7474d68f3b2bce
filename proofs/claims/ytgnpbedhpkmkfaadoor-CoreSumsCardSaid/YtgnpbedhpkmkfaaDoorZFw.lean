/-
  Plain facts on floats: whole numbers below 2^53 as float64, how they compare, and the whole number that a float64 is, if it is one of the range of layer 2. No program is mentioned here.
-/
import Derived.WalkKit
import Derived.Laws.FloatArith
namespace Go.Proofs.YtgnpbedhpkmkfaaDoor.Fl
open Go Go.RowKit Ieee
set_option linter.unusedVariables false

/-- The value of a finite datum is num / den. -/
def num (s : Bool) (m : Nat) (i : Int) : Int := signed s m i.toNat
def den (i : Int) : Int := ((2 ^ (-i).toNat : Nat) : Int)
theorem den_pos (i : Int) : 0 < den i := by
  unfold den
  have := Nat.two_pow_pos (-i).toNat
  omega
theorem signed_eq (s : Bool) (m u : Nat) : signed s m u = (if s then -((m * 2 ^ u : Nat) : Int) else ((m * 2 ^ u : Nat) : Int)) := by
  unfold signed
  rw [Nat.shiftLeft_eq]
theorem signed_add (s : Bool) (m u v : Nat) : signed s m (u + v) = signed s m u * ((2 ^ v : Nat) : Int) := by
  rw [signed_eq, signed_eq, Nat.pow_add, ← Nat.mul_assoc]
  split
  · rw [Int.natCast_mul (m * 2 ^ u), Int.neg_mul]
  · rw [Int.natCast_mul (m * 2 ^ u)]

theorem compare_lt {a b : Int} (h : a < b) : compare a b = .lt := by
  show compareOfLessAndEq a b = _
  unfold compareOfLessAndEq
  rw [if_pos h]
theorem compare_eq {a b : Int} (h : a = b) : compare a b = .eq := by
  show compareOfLessAndEq a b = _
  unfold compareOfLessAndEq
  rw [if_neg (by omega), if_pos h]
theorem compare_gt {a b : Int} (h : b < a) : compare a b = .gt := by
  show compareOfLessAndEq a b = _
  unfold compareOfLessAndEq
  rw [if_neg (by omega), if_neg (by omega)]
theorem compare_scale (a b c : Int) (hc : 0 < c) : compare (a * c) (b * c) = compare a b := by
  rcases Int.lt_trichotomy a b with h | h | h
  · rw [compare_lt h, compare_lt (Int.mul_lt_mul_of_pos_right h hc)]
  · subst h
    rw [compare_eq rfl, compare_eq rfl]
  · rw [compare_gt h, compare_gt (Int.mul_lt_mul_of_pos_right h hc)]

/-- Two finite data compare as their values. -/
theorem order_number (s : Bool) (m : Nat) (i : Int) (t : Bool) (n : Nat) (j : Int) :
    (Datum.number s m i).order (Datum.number t n j) = some (compare (num s m i * den j) (num t n j * den i)) := by
  have key : ∀ (s : Bool) (m : Nat) (i j : Int), num s m i * den j = signed s m (i - min i j).toNat * ((2 ^ ((-i).toNat + (-j).toNat - (-(min i j)).toNat + (min i j).toNat) : Nat) : Int) := by
    intro s m i j
    unfold num den
    rw [← signed_add, ← signed_add]
    congr 1
    omega
  unfold Datum.order
  dsimp only
  rw [key s m i j, key t n j i]
  have e : min j i = min i j := Int.min_comm j i
  rw [e, Nat.add_comm (-j).toNat (-i).toNat, compare_scale]
  have := Nat.two_pow_pos ((-i).toNat + (-j).toNat - (-(min i j)).toNat + (min i j).toNat)
  omega

/-- Whole numbers as float64. -/
def fl (n : Int) : Nat := floatOfInt .f64 n

theorem double_vals : double.fractionBits = 52 ∧ double.exponentBits = 11 ∧ double.binade = 2 ^ 52 ∧ double.leastPlace = -1074 ∧ double.signWeight = 2 ^ 63 ∧ double.infRung = 2047 * 2 ^ 52 := by
  refine ⟨rfl, rfl, rfl, by decide, by decide, by decide⟩

theorem cut_zero (way : Toward) (neg : Bool) (n : Nat) (hw : way = .even) : way.cut neg n 0 = n := by
  subst hw
  unfold Toward.cut
  simp [Nat.mod_one]

theorem rung_le (d : Nat) {X : Nat} (h : X < 2 ^ 53) : (1074 - d) * 2 ^ 52 + X ≤ 2047 * 2 ^ 52 := by
  have e1 : (2 : Nat) ^ 52 = 4503599627370496 := by decide
  have e2 : (2 : Nat) ^ 53 = 9007199254740992 := by decide
  rw [e2] at h
  rw [e1]
  omega
/-- What a whole number's float64 stands for. -/
theorem read_fl {n : Int} (h0 : n ≠ 0) (h : n.natAbs < 2 ^ 53) :
    ∃ d : Nat, double.read (fl n) = .number (decide (n < 0)) (n.natAbs * 2 ^ d) (-(d : Int)) := by
  obtain ⟨hf, he, hb, hl, hs, hi⟩ := double_vals
  have hm0 : n.natAbs ≠ 0 := by omega
  have hL : n.natAbs.log2 < 53 := (Nat.log2_lt hm0).2 h
  obtain ⟨d, hd⟩ : ∃ d, d + n.natAbs.log2 = 52 := ⟨52 - n.natAbs.log2, by omega⟩
  have hlo : 2 ^ n.natAbs.log2 ≤ n.natAbs := Nat.log2_self_le hm0
  have hhi : n.natAbs < 2 ^ (n.natAbs.log2 + 1) := Nat.lt_log2_self
  have k1 : 2 ^ 52 ≤ n.natAbs * 2 ^ d := by
    rw [show (2 : Nat) ^ 52 = 2 ^ n.natAbs.log2 * 2 ^ d from by rw [← Nat.pow_add]; congr 1; omega]
    exact Nat.mul_le_mul_right _ hlo
  have k2 : n.natAbs * 2 ^ d < 2 ^ 53 := by
    rw [show (2 : Nat) ^ 53 = 2 ^ (n.natAbs.log2 + 1) * 2 ^ d from by rw [← Nat.pow_add]; congr 1; omega]
    exact Nat.mul_lt_mul_of_pos_right hhi (Nat.two_pow_pos d)
  refine ⟨d, ?_⟩
  have hlast : max ((0 : Int) + (n.natAbs.log2 : Nat) - (double.fractionBits : Nat)) double.leastPlace = -(d : Int) := by
    rw [hf, hl]
    omega
  have hw : fl n = double.word (decide (n < 0)) ((1074 - d) * 2 ^ 52 + n.natAbs * 2 ^ d) := by
    show double.nearest (decide (n < 0)) n.natAbs 0 = _
    unfold Format.nearest
    rw [if_neg hm0]
    dsimp only
    rw [hlast]
    rw [show ((0 : Int) - -(d : Int)).toNat = d from by omega, show (-(d : Int) - 0).toNat = 0 from by omega, cut_zero _ _ _ rfl, Nat.shiftLeft_eq, hb, hl, hi]
    rw [show (-(d : Int) - -1074).toNat = 1074 - d from by omega]
    rw [Nat.min_eq_left (rung_le d k2)]
  rw [hw]
  generalize hX : n.natAbs * 2 ^ d = X at *
  have hrung : (1074 - d) * 2 ^ 52 + X < 2047 * 2 ^ 52 := by
    have : (1074 - d) * 2 ^ 52 ≤ 1074 * 2 ^ 52 := Nat.mul_le_mul_right _ (by omega)
    omega
  have hsg : ∀ neg : Bool, double.word neg ((1074 - d) * 2 ^ 52 + X) / double.signWeight % 2 = (if neg then 1 else 0) ∧ double.word neg ((1074 - d) * 2 ^ 52 + X) % double.signWeight = (1074 - d) * 2 ^ 52 + X := by
    intro neg
    unfold Format.word
    rw [hs]
    generalize (1074 - d) * 2 ^ 52 + X = Y at *
    cases neg
    · simp only [Bool.false_eq_true, if_false]
      omega
    · simp only [if_true]
      omega
  unfold Format.read
  dsimp only
  rw [(hsg _).1, (hsg _).2, hb, hi, hl]
  have hneg : ((if decide (n < 0) = true then 1 else 0 : Nat) == 1) = decide (n < 0) := by
    by_cases hn : n < 0 <;> simp [hn]
  rw [hneg]
  have hge : ¬ (1074 - d) * 2 ^ 52 + X < 2 ^ 52 := by omega
  rw [if_neg hge, if_pos hrung]
  have e1 : ((1074 - d) * 2 ^ 52 + X) % 2 ^ 52 = X - 2 ^ 52 := by omega
  have e2 : ((1074 - d) * 2 ^ 52 + X) / 2 ^ 52 = 1074 - d + 1 := by omega
  have e3 : 2 ^ 52 + (X - 2 ^ 52) = X := by omega
  have e4 : (-1074 : Int) + ((1074 - d + 1 - 1 : Nat) : Int) = -(d : Int) := by omega
  rw [e1, e2, e3, e4]

theorem num_fl {n : Int} (d : Nat) : num (decide (n < 0)) (n.natAbs * 2 ^ d) (-(d : Int)) = n * ((2 ^ d : Nat) : Int) := by
  unfold num
  rw [signed_eq, show (-(d : Int)).toNat = 0 from by omega, Nat.pow_zero, Nat.mul_one]
  by_cases h : n < 0
  · rw [decide_eq_true h, if_pos rfl, Int.natCast_mul, ← Int.neg_mul]
    congr 1
    omega
  · rw [decide_eq_false h, if_neg (by decide), Int.natCast_mul]
    congr 1
    omega
theorem den_fl (d : Nat) : den (-(d : Int)) = ((2 ^ d : Nat) : Int) := by
  unfold den
  rw [show (-(-(d : Int))).toNat = d from by omega]

theorem fl_zero : fl 0 = 0 := by decide
theorem read_zero : double.read 0 = .number false 0 (-1074) := by decide

/-- A finite datum beside a whole number. -/
theorem order_fl (s : Bool) (m : Nat) (i : Int) {n : Int} (h : n.natAbs < 2 ^ 53) :
    (Datum.number s m i).order (double.read (fl n)) = some (compare (num s m i) (n * den i)) := by
  by_cases h0 : n = 0
  · subst h0
    rw [fl_zero, read_zero, order_number]
    have e : num false 0 (-1074) = 0 := by decide
    rw [e, Int.zero_mul]
    have hd : (0 : Int) < den (-1074) := den_pos _
    have := compare_scale (num s m i) 0 (den (-1074)) hd
    rw [Int.zero_mul] at this
    rw [this]
  · obtain ⟨d, hd⟩ := read_fl h0 h
    rw [hd, order_number, num_fl, den_fl, Int.mul_right_comm, compare_scale]
    have := Nat.two_pow_pos d
    omega
theorem order_fl_fl {n k : Int} (h : n.natAbs < 2 ^ 53) (hk : k.natAbs < 2 ^ 53) : double.order (fl n) (fl k) = some (compare n k) := by
  show (double.read (fl n)).order (double.read (fl k)) = _
  by_cases h0 : n = 0
  · subst h0
    rw [fl_zero, read_zero, order_fl _ _ _ hk]
    have e : num false 0 (-1074) = 0 := by decide
    rw [e]
    have hd : (0 : Int) < den (-1074) := den_pos _
    have := compare_scale 0 k (den (-1074)) hd
    rw [Int.zero_mul] at this
    rw [this]
  · obtain ⟨d, hd⟩ := read_fl h0 h
    rw [hd, order_fl _ _ _ hk, num_fl, den_fl, compare_scale]
    have := Nat.two_pow_pos d
    omega

/-- Cut towards zero. -/
theorem toInt_number (s : Bool) (m : Nat) (i : Int) : (Datum.number s m i).toInt .zero = some ((num s m i).tdiv (den i)) := by
  unfold Datum.toInt Datum.integral
  dsimp only
  have hc : Toward.cut .zero s (m <<< i.toNat) (-i).toNat = m * 2 ^ i.toNat / 2 ^ (-i).toNat := by
    unfold Toward.cut
    dsimp only
    simp only [Bool.toNat_false, Nat.add_zero, Nat.shiftLeft_eq, Nat.one_mul]
    generalize m * 2 ^ i.toNat = N
    rcases Nat.le_total (-i).toNat (N.log2 + 2) with hle | hle
    · rw [Nat.min_eq_left hle]
    · rw [Nat.min_eq_right hle]
      have h1 : N < 2 ^ (N.log2 + 2) := Nat.lt_of_lt_of_le Nat.lt_log2_self (Nat.pow_le_pow_right (by decide) (by omega))
      have h2 : N < 2 ^ (-i).toNat := Nat.lt_of_lt_of_le h1 (Nat.pow_le_pow_right (by decide) hle)
      rw [Nat.div_eq_of_lt h1, Nat.div_eq_of_lt h2]
  rw [hc, signed_eq, Nat.pow_zero, Nat.mul_one]
  unfold num den
  rw [signed_eq]
  congr 1
  cases s
  · simp only [Bool.false_eq_true, if_false]
    rw [Int.ofNat_tdiv]
  · simp only [if_true]
    rw [Int.neg_tdiv, Int.ofNat_tdiv]
end Go.Proofs.YtgnpbedhpkmkfaaDoor.Fl

/-
  The whole number of the range of layer 2 that a float64 is, if it is one; what the tests of the program, and of the document's answer, say of any float64. No program is mentioned here.
-/
namespace Go.Proofs.YtgnpbedhpkmkfaaDoor.Whole
open Go Go.RowKit Ieee Fl
set_option linter.unusedVariables false

theorem order_fl' (s : Bool) (m : Nat) (i : Int) {n : Int} (h : n.natAbs < 2 ^ 53) :
    (double.read (fl n)).order (Datum.number s m i) = some (compare (n * den i) (num s m i)) := by
  by_cases h0 : n = 0
  · subst h0
    rw [fl_zero, read_zero, order_number]
    have e : num false 0 (-1074) = 0 := by decide
    rw [e, Int.zero_mul]
    have hd : (0 : Int) < den (-1074) := den_pos _
    have := compare_scale 0 (num s m i) (den (-1074)) hd
    rw [Int.zero_mul] at this
    rw [this]
  · obtain ⟨d, hd⟩ := read_fl h0 h
    rw [hd, order_number, num_fl, den_fl, Int.mul_right_comm, compare_scale]
    have := Nat.two_pow_pos d
    omega

theorem c_lo : fl (-524288) = 13916122848574832640 := by decide
theorem c_hi : fl 524288 = 4692750811720056832 := by decide
theorem c_top : fl 524287 = 4692750794540187648 := by decide

/-- The whole number of the range that it is. -/
def whl (b : Nat) : Option Int :=
  match double.read b with
  | .number s m i => if num s m i = (num s m i).tdiv (den i) * den i ∧ -524288 ≤ (num s m i).tdiv (den i) ∧ (num s m i).tdiv (den i) ≤ 524287 then some ((num s m i).tdiv (den i)) else none
  | _ => none

theorem whl_range {b : Nat} {n : Int} (h : whl b = some n) : -524288 ≤ n ∧ n ≤ 524287 := by
  unfold whl at h
  split at h
  · split at h
    · rename_i hc
      cases h
      exact hc.2
    · cases h
  · cases h

theorem tdiv_exact {n d : Int} (hd : 0 < d) : (n * d).tdiv d = n := Int.mul_tdiv_cancel _ (by omega)

theorem whl_fl {n : Int} (h : -524288 ≤ n ∧ n ≤ 524287) : whl (fl n) = some n := by
  unfold whl
  by_cases h0 : n = 0
  · subst h0
    rw [fl_zero, read_zero]
    have e : num false 0 (-1074) = 0 := by decide
    dsimp only
    rw [e, Int.zero_tdiv, if_pos ⟨by rw [Int.zero_mul], by omega, by omega⟩]
  · obtain ⟨d, hd⟩ := read_fl h0 (by omega)
    rw [hd]
    dsimp only
    rw [num_fl, den_fl, tdiv_exact (by have := Nat.two_pow_pos d; omega), if_pos ⟨rfl, h⟩]

/-- Cut towards zero, as a 64-bit number. -/
theorem cv_of {b : Nat} {s : Bool} {m : Nat} {i : Int} (hr : double.read b = .number s m i) (h : -524288 ≤ (num s m i).tdiv (den i) ∧ (num s m i).tdiv (den i) ≤ 524288) :
    floatToIntVal .f64 b .i64 = some ((num s m i).tdiv (den i)) := by
  unfold floatToIntVal
  rw [show FloatKind.f64.decode b = double.read b from rfl, hr, toInt_number]
  dsimp only
  rw [if_pos]
  have e1 : IntKind.i64.min = -9223372036854775808 := by decide
  have e2 : IntKind.i64.max = 9223372036854775807 := by decide
  rw [e1, e2]
  omega

def od (x y : Nat) : Option Ordering := double.order x y

theorem ord_num {b : Nat} {s : Bool} {m : Nat} {i : Int} (hr : double.read b = .number s m i) {n : Int} (h : n.natAbs < 2 ^ 53) : od b (fl n) = some (compare (num s m i) (n * den i)) := by
  show (double.read b).order _ = _
  rw [hr, order_fl _ _ _ h]
theorem ord_num' {b : Nat} {s : Bool} {m : Nat} {i : Int} (hr : double.read b = .number s m i) {n : Int} (h : n.natAbs < 2 ^ 53) : od (fl n) b = some (compare (n * den i) (num s m i)) := by
  show (double.read _).order (double.read b) = _
  rw [hr, order_fl' _ _ _ h]
theorem ord_self {b : Nat} {s : Bool} {m : Nat} {i : Int} (hr : double.read b = .number s m i) : od b b = some .eq := by
  show (double.read b).order (double.read b) = _
  rw [hr, order_number, compare_eq rfl]
theorem read_const {n : Int} (h : n.natAbs < 2 ^ 53) : ∃ s m i, double.read (fl n) = .number s m i := by
  by_cases h0 : n = 0
  · subst h0
    rw [fl_zero, read_zero]
    exact ⟨_, _, _, rfl⟩
  · obtain ⟨d, hd⟩ := read_fl h0 h
    exact ⟨_, _, _, hd⟩

/-- What the tests say of a float64. -/
inductive Tests (b : Nat) : Prop
  | yes (n : Int) (hw : whl b = some n) (h1 : od b 13916122848574832640 = some .gt ∨ od b 13916122848574832640 = some .eq) (h2 : od b 4692750811720056832 = some .lt)
      (h3 : od b 4692750794540187648 = some .lt ∨ od b 4692750794540187648 = some .eq) (h4 : floatToIntVal .f64 b .i64 = some n) (h5 : od b (fl n) = some .eq) (h6 : od (fl n) b = some .eq) (h7 : od b b = some .eq)
  | nan (hw : whl b = none) (h1 : od b 13916122848574832640 = none) (h7 : od b b = none)
  | low (hw : whl b = none) (h1 : od b 13916122848574832640 = some .lt) (h7 : od b b = some .eq)
  | high (hw : whl b = none) (h1 : od b 13916122848574832640 = some .gt) (h2 : od b 4692750811720056832 = some .gt ∨ od b 4692750811720056832 = some .eq) (h3 : od b 4692750794540187648 = some .gt) (h7 : od b b = some .eq)
  | near (hw : whl b = none) (h1 : od b 13916122848574832640 = some .gt) (h2 : od b 4692750811720056832 = some .lt) (h3 : od b 4692750794540187648 = some .gt) (h4 : floatToIntVal .f64 b .i64 = some 524287)
      (h5 : od b (fl 524287) = some .gt) (h7 : od b b = some .eq)
  | part (n : Int) (hn : -524288 ≤ n ∧ n ≤ 524287) (hw : whl b = none) (h1 : od b 13916122848574832640 = some .gt) (h2 : od b 4692750811720056832 = some .lt) (h3 : od b 4692750794540187648 = some .lt) (h4 : floatToIntVal .f64 b .i64 = some n)
      (h5 : od b (fl n) = some .gt ∨ od b (fl n) = some .lt) (h6 : od (fl n) b = some .gt ∨ od (fl n) b = some .lt) (h7 : od b b = some .eq)

theorem tdiv_bounds {N D q : Int} (hD : 0 < D) (hq : N.tdiv D = q) : (0 ≤ N → q * D ≤ N ∧ N < (q + 1) * D ∧ 0 ≤ q) ∧ (N < 0 → (q - 1) * D < N ∧ N ≤ q * D ∧ q ≤ 0) := by
  subst hq
  constructor
  · intro h
    rw [Int.tdiv_eq_ediv_of_nonneg h]
    exact ⟨Int.ediv_mul_le _ (by omega), Int.lt_ediv_add_one_mul_self _ hD, Int.ediv_nonneg h (by omega)⟩
  · intro h
    obtain ⟨M, rfl⟩ : ∃ M, N = -M := ⟨-N, by omega⟩
    rw [Int.neg_tdiv, Int.tdiv_eq_ediv_of_nonneg (by omega)]
    have h1 := Int.ediv_mul_le M (b := D) (by omega)
    have h2 := Int.lt_ediv_add_one_mul_self M hD
    have h3 : 0 ≤ M / D := Int.ediv_nonneg (by omega) (by omega)
    refine ⟨?_, ?_, by omega⟩
    · rw [show -(M / D) - 1 = -(M / D + 1) from by omega, Int.neg_mul]
      omega
    · rw [Int.neg_mul]
      omega
theorem le_of_mul {a b D : Int} (hD : 0 < D) (h : a * D < (b + 1) * D) : a ≤ b := by
  have := Int.lt_of_mul_lt_mul_right h (by omega)
  omega

theorem tests (b : Nat) : Tests b := by
  have k1 : (-524288 : Int).natAbs < 2 ^ 53 := by decide
  have k2 : (524288 : Int).natAbs < 2 ^ 53 := by decide
  have k3 : (524287 : Int).natAbs < 2 ^ 53 := by decide
  cases hr : double.read b with
  | nan s f =>
    have hw : whl b = none := by unfold whl; rw [hr]
    have ho : ∀ c, od b c = none := fun c => by show (double.read b).order _ = _; rw [hr]; cases double.read c <;> rfl
    exact .nan hw (ho _) (ho _)
  | infinity s =>
    have hw : whl b = none := by unfold whl; rw [hr]
    have ho : ∀ n : Int, n.natAbs < 2 ^ 53 → od b (fl n) = some (if s then .lt else .gt) := fun n h => by
      obtain ⟨t, m, i, e⟩ := read_const h
      show (double.read b).order _ = _
      rw [hr, e]
      rfl
    have h7 : od b b = some .eq := by
      show (double.read b).order (double.read b) = _
      rw [hr]
      show some (compare s.toNat s.toNat) = _
      cases s <;> rfl
    have h1 := ho _ k1
    have h2 := ho _ k2
    have h3 := ho _ k3
    rw [c_lo] at h1
    rw [c_hi] at h2
    rw [c_top] at h3
    cases s
    · exact .high hw h1 (.inl h2) h3 h7
    · exact .low hw h1 h7
  | number s m i =>
    have hD := den_pos i
    have h1 := ord_num hr k1
    have h2 := ord_num hr k2
    have h3 := ord_num hr k3
    have h7 := ord_self hr
    have hcv := cv_of hr
    have hn : ∀ n : Int, -524288 ≤ n ∧ n ≤ 524287 → od b (fl n) = some (compare (num s m i) (n * den i)) := fun n h => ord_num hr (by omega)
    have hn' : ∀ n : Int, -524288 ≤ n ∧ n ≤ 524287 → od (fl n) b = some (compare (n * den i) (num s m i)) := fun n h => ord_num' hr (by omega)
    rw [c_lo] at h1
    rw [c_hi] at h2
    rw [c_top] at h3
    have hw : whl b = if num s m i = (num s m i).tdiv (den i) * den i ∧ -524288 ≤ (num s m i).tdiv (den i) ∧ (num s m i).tdiv (den i) ≤ 524287 then some ((num s m i).tdiv (den i)) else none := by unfold whl; rw [hr]
    generalize num s m i = N at *
    generalize den i = D at *
    obtain ⟨q, hq⟩ : ∃ q, N.tdiv D = q := ⟨_, rfl⟩
    rw [hq] at hw hcv
    obtain ⟨hpos, hneg⟩ := tdiv_bounds hD hq
    by_cases hlo : N < -524288 * D
    · have hw' : whl b = none := by
        rw [hw, if_neg]
        rintro ⟨e1, e2, -⟩
        have := Int.mul_le_mul_of_nonneg_right e2 (show 0 ≤ D by omega)
        omega
      exact .low hw' (by rw [h1, compare_lt hlo]) h7
    · by_cases hhi : 524288 * D ≤ N
      · have hw' : whl b = none := by
          rw [hw, if_neg]
          rintro ⟨e1, -, e2⟩
          have := Int.mul_le_mul_of_nonneg_right e2 (show 0 ≤ D by omega)
          omega
        refine .high hw' (by rw [h1, compare_gt (by omega)]) ?_ (by rw [h3, compare_gt (by omega)]) h7
        by_cases e : N = 524288 * D
        · exact .inr (by rw [h2, compare_eq e])
        · exact .inl (by rw [h2, compare_gt (by omega)])
      · have hr1 : -524288 ≤ q := by
          by_cases h0 : 0 ≤ N
          · have := (hpos h0).2.2
            omega
          · have := hneg (by omega)
            have h' : -524288 * D ≤ N := by omega
            rcases Int.lt_or_le q (-524288) with hh | hh
            · have := Int.mul_lt_mul_of_pos_right hh hD
              omega
            · exact hh
        have hr2 : q ≤ 524287 := by
          by_cases h0 : 0 ≤ N
          · have := hpos h0
            exact le_of_mul hD (by omega)
          · have := (hneg (by omega)).2.2
            omega
        have h2' : od b 4692750811720056832 = some .lt := by rw [h2, compare_lt (by omega)]
        have h4 := hcv ⟨hr1, by omega⟩
        by_cases hex : N = q * D
        · refine .yes q (by rw [hw, if_pos ⟨hex, hr1, hr2⟩]) ?_ h2' ?_ h4 (by rw [hn q ⟨hr1, hr2⟩, compare_eq hex]) (by rw [hn' q ⟨hr1, hr2⟩, compare_eq hex.symm]) h7
          · by_cases e : N = -524288 * D
            · exact .inr (by rw [h1, compare_eq e])
            · exact .inl (by rw [h1, compare_gt (by omega)])
          · by_cases e : N = 524287 * D
            · exact .inr (by rw [h3, compare_eq e])
            · have := Int.mul_le_mul_of_nonneg_right hr2 (show 0 ≤ D by omega)
              exact .inl (by rw [h3, compare_lt (by omega)])
        · have hw' : whl b = none := by
            rw [hw, if_neg]
            rintro ⟨e1, -⟩
            exact hex e1
          have hlo' : -524288 * D < N := by
            rcases Int.lt_or_eq_of_le (show -524288 * D ≤ N by omega) with h | h
            · exact h
            · exfalso
              rw [← h, tdiv_exact hD] at hq
              subst hq
              exact hex h.symm
          by_cases htop : 524287 * D < N
          · obtain rfl : q = 524287 := by
              have := hpos (by omega)
              have := le_of_mul (a := 524287) (b := q) hD (by omega)
              omega
            exact .near hw' (by rw [h1, compare_gt hlo']) h2' (by rw [h3, compare_gt htop]) h4 (by rw [hn _ ⟨hr1, hr2⟩, compare_gt htop]) h7
          · have htop' : N < 524287 * D := by
              rcases Int.lt_or_eq_of_le (show N ≤ 524287 * D by omega) with h | h
              · exact h
              · exfalso
                rw [h, tdiv_exact hD] at hq
                subst hq
                exact hex h
            refine .part q ⟨hr1, hr2⟩ hw' (by rw [h1, compare_gt hlo']) h2' (by rw [h3, compare_lt htop']) h4 ?_ ?_ h7
            · rw [hn _ ⟨hr1, hr2⟩]
              rcases Int.lt_trichotomy N (q * D) with h | h | h
              · exact .inr (by rw [compare_lt h])
              · exact absurd h hex
              · exact .inl (by rw [compare_gt h])
            · rw [hn' _ ⟨hr1, hr2⟩]
              rcases Int.lt_trichotomy N (q * D) with h | h | h
              · exact .inl (by rw [compare_gt h])
              · exact absurd h hex
              · exact .inr (by rw [compare_lt h])
end Go.Proofs.YtgnpbedhpkmkfaaDoor.Whole
