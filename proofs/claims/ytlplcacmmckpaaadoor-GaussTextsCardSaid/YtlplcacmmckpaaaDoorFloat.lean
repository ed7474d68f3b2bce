/-
  Plain facts on floats: whole numbers below 2^53 as float64, how they compare, and the whole number that a float64 is, if it is one of the range of layer 2. No program is mentioned here.
-/
import Derived.WalkKit
import Derived.Laws.FloatArith
namespace Go.Proofs.YtlplcacmmckpaaaDoor.Fl
open Go Go.RowKit Ieee
set_option linter.unusedVariables false

/-- The value of a finite datum is num / den. -/
def num (s : Bool) (m : Nat) (i : Int) : Int := signed s m i.toNat
def den (i : Int) : Int := ((2 ^ (-i).toNat : Nat) : Int)
theorem den_pos (i : Int) : 0 < den i := by
  unfold den
  have := Nat.two_pow_pos (-i).toNat
  omega
theorem signed_eq (s : Bool) (m u : Nat) : signed s m u = (if s then -((m * 2 ^ u : Nat) : Int) else ((m * 2 ^ u : Nat) : Int)) := by
  unfold signed
  rw [Nat.shiftLeft_eq]
theorem signed_add (s : Bool) (m u v : Nat) : signed s m (u + v) = signed s m u * ((2 ^ v : Nat) : Int) := by
  rw [signed_eq, signed_eq, Nat.pow_add, ← Nat.mul_assoc]
  split
  · rw [Int.natCast_mul (m * 2 ^ u), Int.neg_mul]
  · rw [Int.natCast_mul (m * 2 ^ u)]

theorem compare_lt {a b : Int} (h : a < b) : compare a b = .lt := by
  show compareOfLessAndEq a b = _
  unfold compareOfLessAndEq
  rw [if_pos h]
theorem compare_eq {a b : Int} (h : a = b) : compare a b = .eq := by
  show compareOfLessAndEq a b = _
  unfold compareOfLessAndEq
  rw [if_neg (by omega), if_pos h]
theorem compare_gt {a b : Int} (h : b < a) : compare a b = .gt := by
  show compareOfLessAndEq a b = _
  unfold compareOfLessAndEq
  rw [if_neg (by omega), if_neg (by omega)]
theorem compare_scale (a b c : Int) (hc : 0 < c) : compare (a * c) (b * c) = compare a b := by
  rcases Int.lt_trichotomy a b with h | h | h
  · rw [compare_lt h, compare_lt (Int.mul_lt_mul_of_pos_right h hc)]
  · subst h
    rw [compare_eq rfl, compare_eq rfl]
  · rw [compare_gt h, compare_gt (Int.mul_lt_mul_of_pos_right h hc)]

/-- Two finite data compare as their values. -/
theorem order_number (s : Bool) (m : Nat) (i : Int) (t : Bool) (n : Nat) (j : Int) :
    (Datum.number s m i).order (Datum.number t n j) = some (compare (num s m i * den j) (num t n j * den i)) := by
  have key : ∀ (s : Bool) (m : Nat) (i j : Int), num s m i * den j = signed s m (i - min i j).toNat * ((2 ^ ((-i).toNat + (-j).toNat - (-(min i j)).toNat + (min i j).toNat) : Nat) : Int) := by
    intro s m i j
    unfold num den
    rw [← signed_add, ← signed_add]
    congr 1
    omega
  unfold Datum.order
  dsimp only
  rw [key s m i j, key t n j i]
  have e : min j i = min i j := Int.min_comm j i
  rw [e, Nat.add_comm (-j).toNat (-i).toNat, compare_scale]
  have := Nat.two_pow_pos ((-i).toNat + (-j).toNat - (-(min i j)).toNat + (min i j).toNat)
  omega

/-- Whole numbers as float64. -/
def fl (n : Int) : Nat := floatOfInt .f64 n

theorem double_vals : double.fractionBits = 52 ∧ double.exponentBits = 11 ∧ double.binade = 2 ^ 52 ∧ double.leastPlace = -1074 ∧ double.signWeight = 2 ^ 63 ∧ double.infRung = 2047 * 2 ^ 52 := by
  refine ⟨rfl, rfl, rfl, by decide, by decide, by decide⟩

theorem cut_zero (way : Toward) (neg : Bool) (n : Nat) (hw : way = .even) : way.cut neg n 0 = n := by
  subst hw
  unfold Toward.cut
  simp [Nat.mod_one]

theorem rung_le (d : Nat) {X : Nat} (h : X < 2 ^ 53) : (1074 - d) * 2 ^ 52 + X ≤ 2047 * 2 ^ 52 := by
  have e1 : (2 : Nat) ^ 52 = 4503599627370496 := by decide
  have e2 : (2 : Nat) ^ 53 = 9007199254740992 := by decide
  rw [e2] at h
  rw [e1]
  omega
/-- What a whole number's float64 stands for. -/
theorem read_fl {n : Int} (h0 : n ≠ 0) (h : n.natAbs < 2 ^ 53) :
    ∃ d : Nat, double.read (fl n) = .number (decide (n < 0)) (n.natAbs * 2 ^ d) (-(d : Int)) := by
  obtain ⟨hf, he, hb, hl, hs, hi⟩ := double_vals
  have hm0 : n.natAbs ≠ 0 := by omega
  have hL : n.natAbs.log2 < 53 := (Nat.log2_lt hm0).2 h
  obtain ⟨d, hd⟩ : ∃ d, d + n.natAbs.log2 = 52 := ⟨52 - n.natAbs.log2, by omega⟩
  have hlo : 2 ^ n.natAbs.log2 ≤ n.natAbs := Nat.log2_self_le hm0
  have hhi : n.natAbs < 2 ^ (n.natAbs.log2 + 1) := Nat.lt_log2_self
  have k1 : 2 ^ 52 ≤ n.natAbs * 2 ^ d := by
    rw [show (2 : Nat) ^ 52 = 2 ^ n.natAbs.log2 * 2 ^ d from by rw [← Nat.pow_add]; congr 1; omega]
    exact Nat.mul_le_mul_right _ hlo
  have k2 : n.natAbs * 2 ^ d < 2 ^ 53 := by
    rw [show (2 : Nat) ^ 53 = 2 ^ (n.natAbs.log2 + 1) * 2 ^ d from by rw [← Nat.pow_add]; congr 1; omega]
    exact Nat.mul_lt_mul_of_pos_right hhi (Nat.two_pow_pos d)
  refine ⟨d, ?_⟩
  have hlast : max ((0 : Int) + (n.natAbs.log2 : Nat) - (double.fractionBits : Nat)) double.leastPlace = -(d : Int) := by
    rw [hf, hl]
    omega
  have hw : fl n = double.word (decide (n < 0)) ((1074 - d) * 2 ^ 52 + n.natAbs * 2 ^ d) := by
    show double.nearest (decide (n < 0)) n.natAbs 0 = _
    unfold Format.nearest
    rw [if_neg hm0]
    dsimp only
    rw [hlast]
    rw [show ((0 : Int) - -(d : Int)).toNat = d from by omega, show (-(d : Int) - 0).toNat = 0 from by omega, cut_zero _ _ _ rfl, Nat.shiftLeft_eq, hb, hl, hi]
    rw [show (-(d : Int) - -1074).toNat = 1074 - d from by omega]
    rw [Nat.min_eq_left (rung_le d k2)]
  rw [hw]
  generalize hX : n.natAbs * 2 ^ d = X at *
  have hrung : (1074 - d) * 2 ^ 52 + X < 2047 * 2 ^ 52 := by
    have : (1074 - d) * 2 ^ 52 ≤ 1074 * 2 ^ 52 := Nat.mul_le_mul_right _ (by omega)
    omega
  have hsg : ∀ neg : Bool, double.word neg ((1074 - d) * 2 ^ 52 + X) / double.signWeight % 2 = (if neg then 1 else 0) ∧ double.word neg ((1074 - d) * 2 ^ 52 + X) % double.signWeight = (1074 - d) * 2 ^ 52 + X := by
    intro neg
    unfold Format.word
    rw [hs]
    generalize (1074 - d) * 2 ^ 52 + X = Y at *
    cases neg
    · simp only [Bool.false_eq_true, if_false]
      omega
    · simp only [if_true]
      omega
  unfold Format.read
  dsimp only
  rw [(hsg _).1, (hsg _).2, hb, hi, hl]
  have hneg : ((if decide (n < 0) = true then 1 else 0 : Nat) == 1) = decide (n < 0) := by
    by_cases hn : n < 0 <;> simp [hn]
  rw [hneg]
  have hge : ¬ (1074 - d) * 2 ^ 52 + X < 2 ^ 52 := by omega
  rw [if_neg hge, if_pos hrung]
  have e1 : ((1074 - d) * 2 ^ 52 + X) % 2 ^ 52 = X - 2 ^ 52 := by omega
  have e2 : ((1074 - d) * 2 ^ 52 + X) / 2 ^ 52 = 1074 - d + 1 := by omega
  have e3 : 2 ^ 52 + (X - 2 ^ 52) = X := by omega
  have e4 : (-1074 : Int) + ((1074 - d + 1 - 1 : Nat) : Int) = -(d : Int) := by omega
  rw [e1, e2, e3, e4]

theorem num_fl {n : Int} (d : Nat) : num (decide (n < 0)) (n.natAbs * 2 ^ d) (-(d : Int)) = n * ((2 ^ d : Nat) : Int) := by
  unfold num
  rw [signed_eq, show (-(d : Int)).toNat = 0 from by omega, Nat.pow_zero, Nat.mul_one]
  by_cases h : n < 0
  · rw [decide_eq_true h, if_pos rfl, Int.natCast_mul, ← Int.neg_mul]
    congr 1
    omega
  · rw [decide_eq_false h, if_neg (by decide), Int.natCast_mul]
    congr 1
    omega
theorem den_fl (d : Nat) : den (-(d : Int)) = ((2 ^ d : Nat) : Int) := by
  unfold den
  rw [show (-(-(d : Int))).toNat = d from by omega]

theorem fl_zero : fl 0 = 0 := by decide
theorem read_zero : double.read 0 = .number false 0 (-1074) := by decide

/-- A finite datum beside a whole number. -/
theorem order_fl (s : Bool) (m : Nat) (i : Int) {n : Int} (h : n.natAbs < 2 ^ 53) :
    (Datum.number s m i).order (double.read (fl n)) = some (compare (num s m i) (n * den i)) := by
  by_cases h0 : n = 0
  · subst h0
    rw [fl_zero, read_zero, order_number]
    have e : num false 0 (-1074) = 0 := by decide
    rw [e, Int.zero_mul]
    have hd : (0 : Int) < den (-1074) := den_pos _
    have := compare_scale (num s m i) 0 (den (-1074)) hd
    rw [Int.zero_mul] at this
    rw [this]
  · obtain ⟨d, hd⟩ := read_fl h0 h
    rw [hd, order_number, num_fl, den_fl, Int.mul_right_comm, compare_scale]
    have := Nat.two_pow_pos d
    omega
theorem order_fl_fl {n k : Int} (h : n.natAbs < 2 ^ 53) (hk : k.natAbs < 2 ^ 53) : double.order (fl n) (fl k) = some (compare n k) := by
  show (double.read (fl n)).order (double.read (fl k)) = _
  by_cases h0 : n = 0
  · subst h0
    rw [fl_zero, read_zero, order_fl _ _ _ hk]
    have e : num false 0 (-1074) = 0 := by decide
    rw [e]
    have hd : (0 : Int) < den (-1074) := den_pos _
    have := compare_scale 0 k (den (-1074)) hd
    rw [Int.zero_mul] at this
    rw [this]
  · obtain ⟨d, hd⟩ := read_fl h0 h
    rw [hd, order_fl _ _ _ hk, num_fl, den_fl, compare_scale]
    have := Nat.two_pow_pos d
    omega

/-- Cut towards zero. -/
theorem toInt_number (s : Bool) (m : Nat) (i : Int) : (Datum.number s m i).toInt .zero = some ((num s m i).tdiv (den i)) := by
  unfold Datum.toInt Datum.integral
  dsimp only
  have hc : Toward.cut .zero s (m <<< i.toNat) (-i).toNat = m * 2 ^ i.toNat / 2 ^ (-i).toNat := by
    unfold Toward.cut
    dsimp only
    simp only [Bool.toNat_false, Nat.add_zero, Nat.shiftLeft_eq, Nat.one_mul]
    generalize m * 2 ^ i.toNat = N
    rcases Nat.le_total (-i).toNat (N.log2 + 2) with hle | hle
    · rw [Nat.min_eq_left hle]
    · rw [Nat.min_eq_right hle]
      have h1 : N < 2 ^ (N.log2 + 2) := Nat.lt_of_lt_of_le Nat.lt_log2_self (Nat.pow_le_pow_right (by decide) (by omega))
      have h2 : N < 2 ^ (-i).toNat := Nat.lt_of_lt_of_le h1 (Nat.pow_le_pow_right (by decide) hle)
      rw [Nat.div_eq_of_lt h1, Nat.div_eq_of_lt h2]
  rw [hc, signed_eq, Nat.pow_zero, Nat.mul_one]
  unfold num den
  rw [signed_eq]
  congr 1
  cases s
  · simp only [Bool.false_eq_true, if_false]
    rw [Int.ofNat_tdiv]
  · simp only [if_true]
    rw [Int.neg_tdiv, Int.ofNat_tdiv]
end Go.Proofs.YtlplcacmmckpaaaDoor.Fl
