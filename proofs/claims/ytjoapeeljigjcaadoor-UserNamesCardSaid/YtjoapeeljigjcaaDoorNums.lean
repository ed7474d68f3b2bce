/-
  Plain numbers for layer 1 (word): fields of words, their bounds, the sign of lowest bits. No program is mentioned here.
-/
import Derived.WalkKit
namespace Go.Proofs.YtjoapeeljigjcaaDoor.Nums
open Go Go.RowKit
set_option linter.unusedVariables false

/-- The number of the field of w that begins at bit f and has n bits. -/
def field (w f n : Nat) : Nat := w / 2 ^ f % 2 ^ n
/-- w with the field's number v. -/
def put (w f n v : Nat) : Nat := w - field w f n * 2 ^ f + v * 2 ^ f
/-- The number with a sign that the n lowest bits of w are. -/
def sgn (w n : Nat) : Int := if w % 2 ^ n < 2 ^ (n - 1) then ((w % 2 ^ n : Nat) : Int) else ((w % 2 ^ n : Nat) : Int) - ((2 ^ n : Nat) : Int)

/-- Is that a field? -/
def isB (f n : Int) : Bool := decide (1 ≤ n) && decide (n ≤ 32) && decide (0 ≤ f) && decide (f < 32) && decide (f + n ≤ 32)
def isC (n : Int) : Bool := decide (1 ≤ n) && decide (n ≤ 32)

theorem pow_le_32 {n : Nat} (h : n ≤ 32) : 2 ^ n ≤ 4294967296 := Nat.pow_le_pow_right (n := 2) (by decide) h
theorem pow_pos (n : Nat) : 0 < 2 ^ n := Nat.two_pow_pos n
theorem pow_split {n : Nat} (h : n ≤ 32) : 2 ^ (32 - n) * 2 ^ n = 4294967296 := by
  rw [← Nat.pow_add, Nat.sub_add_cancel h]
theorem pow_split3 {f n : Nat} (h : f + n ≤ 32) : 2 ^ f * 2 ^ n * 2 ^ (32 - (f + n)) = 4294967296 := by
  rw [← Nat.pow_add, ← Nat.pow_add, show f + n + (32 - (f + n)) = 32 from by omega]

theorem most_eq {n : Nat} (h : n ≤ 32) : 4294967295 / 2 ^ (32 - n) = 2 ^ n - 1 := by
  have e := pow_split h
  have p := pow_pos n
  have q := pow_pos (32 - n)
  generalize 2 ^ n = a at *
  generalize 2 ^ (32 - n) = b at *
  obtain ⟨c, rfl⟩ : ∃ c, a = c + 1 := ⟨a - 1, by omega⟩
  rw [Nat.add_sub_cancel]
  have e2 : b * c + b = 4294967296 := by rw [← e, Nat.mul_add, Nat.mul_one]
  apply Nat.div_eq_of_lt_le
  · rw [Nat.mul_comm]; omega
  · rw [Nat.add_mul, Nat.one_mul, Nat.mul_comm c b]; omega

theorem field_lt (w f n : Nat) : field w f n < 2 ^ n := Nat.mod_lt _ (pow_pos n)
theorem field_le32 {w f n : Nat} (h : n ≤ 32) : field w f n < 4294967296 := Nat.lt_of_lt_of_le (field_lt w f n) (pow_le_32 h)
theorem and_most (x n : Nat) : x &&& (2 ^ n - 1) = x % 2 ^ n := Nat.and_two_pow_sub_one_eq_mod x n

theorem testBit_most_shift (n f i : Nat) : (((2 ^ n - 1) * 2 ^ f).testBit i) = (decide (f ≤ i) && decide (i < f + n)) := by
  rw [Nat.mul_comm, Nat.testBit_two_pow_mul, Nat.testBit_two_pow_sub_one]
  by_cases h : f ≤ i
  · simp [h]; omega
  · simp [h]

/-- w without its field, as the bits say. -/
theorem clear_eq {w f n : Nat} (hw : w < 4294967296) (h : f + n ≤ 32) :
    w &&& (4294967295 - (2 ^ n - 1) * 2 ^ f) = w - field w f n * 2 ^ f := by
  have key : w - field w f n * 2 ^ f = 2 ^ (f + n) * (w / 2 ^ (f + n)) + w % 2 ^ f := by
    unfold field
    have h1 := Nat.div_add_mod w (2 ^ f)
    have h2 := Nat.div_add_mod (w / 2 ^ f) (2 ^ n)
    rw [Nat.div_div_eq_div_mul, ← Nat.pow_add] at h2
    rw [show (2 : Nat) ^ (f + n) = 2 ^ f * 2 ^ n from Nat.pow_add 2 f n] at *
    generalize w / 2 ^ f % 2 ^ n = r at *
    generalize hA : w / (2 ^ f * 2 ^ n) = A at *
    generalize 2 ^ n = b at *
    generalize 2 ^ f = a at *
    generalize w / a = Q at *
    generalize w % a = s at *
    subst h2
    have : a * (b * A + r) = a * b * A + r * a := by
      rw [Nat.mul_add, Nat.mul_comm a r, ← Nat.mul_assoc]
    omega
  rw [key]
  apply Nat.eq_of_testBit_eq
  intro i
  have hm : (2 ^ n - 1) * 2 ^ f < 2 ^ 32 := by
    have e := pow_split3 h
    have p := pow_pos n
    have q := pow_pos f
    have r := pow_pos (32 - (f + n))
    have h3 : (2 ^ n - 1) * 2 ^ f < 2 ^ n * 2 ^ f := Nat.mul_lt_mul_of_pos_right (by omega) q
    have h4 : 2 ^ f * 2 ^ n * 1 ≤ 2 ^ f * 2 ^ n * 2 ^ (32 - (f + n)) := Nat.mul_le_mul_left _ r
    rw [e, Nat.mul_one, Nat.mul_comm] at h4
    exact Nat.lt_of_lt_of_le h3 h4
  have hc : (4294967295 - (2 ^ n - 1) * 2 ^ f).testBit i = (decide (i < 32) && !((2 ^ n - 1) * 2 ^ f).testBit i) := by
    rw [show 4294967295 - (2 ^ n - 1) * 2 ^ f = 2 ^ 32 - ((2 ^ n - 1) * 2 ^ f + 1) from by omega]
    exact Nat.testBit_two_pow_sub_succ hm i
  have hb : w.testBit i = (decide (i < 32) && w.testBit i) := by
    by_cases hi : i < 32
    · simp [hi]
    · have : w < 2 ^ i := Nat.lt_of_lt_of_le hw (Nat.pow_le_pow_right (by decide) (by omega) : 2 ^ 32 ≤ 2 ^ i)
      simp [hi, Nat.testBit_lt_two_pow this]
  have hlt : w % 2 ^ f < 2 ^ (f + n) := Nat.lt_of_lt_of_le (Nat.mod_lt _ (pow_pos f)) (Nat.pow_le_pow_right (by decide) (by omega))
  rw [Nat.testBit_and, hc, testBit_most_shift, Nat.testBit_two_pow_mul_add _ hlt]
  rw [Nat.testBit_mod_two_pow, Nat.testBit_div_two_pow]
  by_cases h1 : i < f + n
  · by_cases h2 : i < f
    · simp [h1, h2, show ¬ f ≤ i from by omega, show i < 32 from by omega]
    · simp [h1, h2, show f ≤ i from by omega]
  · have hz : ¬ i < 32 → w.testBit i = false := fun h3 => by rw [hb]; simp [h3]
    simp only [h1, show f ≤ i from by omega, if_neg, decide_true, decide_false, Bool.and_false, Bool.not_false, Bool.and_true, not_false_eq_true, show i - (f + n) + (f + n) = i from by omega]
    by_cases h3 : i < 32
    · simp [h3]
    · simp [h3, hz h3]

theorem div_lt {w : Nat} (f : Nat) (hw : w < 4294967296) : w / 2 ^ f < 4294967296 := Nat.lt_of_le_of_lt (Nat.div_le_self _ _) hw
theorem bits_field {w f n : Nat} (hw : w < 4294967296) (hn : n ≤ 32) :
    bits .and .u32 ((w : Int) / 2 ^ f) ((2 ^ n - 1 : Nat) : Int) = ((field w f n : Nat) : Int) := by
  have e : ((w : Int) / 2 ^ f) = ((w / 2 ^ f : Nat) : Int) := by simp
  have hp := pow_le_32 hn
  have hp0 := pow_pos n
  rw [e, u32_and_nat _ _ (div_lt f hw) (by omega), and_most]
  rfl

theorem shl_most {f n : Nat} (h : f + n ≤ 32) : (2 ^ n - 1) * 2 ^ f < 4294967296 := by
  have e := pow_split3 h
  have p := pow_pos n
  have q := pow_pos f
  have r := pow_pos (32 - (f + n))
  have h3 : (2 ^ n - 1) * 2 ^ f < 2 ^ n * 2 ^ f := Nat.mul_lt_mul_of_pos_right (by omega) q
  have h4 : 2 ^ f * 2 ^ n * 1 ≤ 2 ^ f * 2 ^ n * 2 ^ (32 - (f + n)) := Nat.mul_le_mul_left _ r
  rw [e, Nat.mul_one, Nat.mul_comm] at h4
  exact Nat.lt_of_lt_of_le h3 h4
theorem shl_val {f n v : Nat} (h : f + n ≤ 32) (hv : v < 2 ^ n) : v * 2 ^ f < 4294967296 :=
  Nat.lt_of_le_of_lt (Nat.mul_le_mul_right _ (by omega : v ≤ 2 ^ n - 1)) (shl_most h)
theorem wrap_u32_nat {a : Nat} (h : a < 4294967296) : IntKind.u32.wrap (a : Int) = (a : Int) := by
  rw [IntKind.wrap_u32]; omega

/-- Bits of w outside its field, and a number in it, do not meet. -/
theorem or_put {w f n v : Nat} (hw : w < 4294967296) (h : f + n ≤ 32) (hv : v < 2 ^ n) :
    (w - field w f n * 2 ^ f) ||| (v * 2 ^ f) = put w f n v := by
  unfold put
  rw [← clear_eq hw h]
  apply Nat.eq_of_testBit_eq
  intro i
  have key : w &&& (4294967295 - (2 ^ n - 1) * 2 ^ f) = 2 ^ (f + n) * (w / 2 ^ (f + n)) + w % 2 ^ f := by
    rw [clear_eq hw h]
    unfold field
    have h1 := Nat.div_add_mod w (2 ^ f)
    have h2 := Nat.div_add_mod (w / 2 ^ f) (2 ^ n)
    rw [Nat.div_div_eq_div_mul, ← Nat.pow_add] at h2
    rw [show (2 : Nat) ^ (f + n) = 2 ^ f * 2 ^ n from Nat.pow_add 2 f n] at *
    generalize w / 2 ^ f % 2 ^ n = r at *
    generalize hA : w / (2 ^ f * 2 ^ n) = A at *
    generalize 2 ^ n = b at *
    generalize 2 ^ f = a at *
    generalize w / a = Q at *
    generalize w % a = s at *
    subst h2
    have : a * (b * A + r) = a * b * A + r * a := by
      rw [Nat.mul_add, Nat.mul_comm a r, ← Nat.mul_assoc]
    omega
  have hlt : w % 2 ^ f < 2 ^ (f + n) := Nat.lt_of_lt_of_le (Nat.mod_lt _ (pow_pos f)) (Nat.pow_le_pow_right (by decide) (by omega))
  have hs : w % 2 ^ f < 2 ^ f := Nat.mod_lt _ (pow_pos f)
  have hv2 : v * 2 ^ f + w % 2 ^ f < 2 ^ (f + n) := by
    rw [Nat.pow_add]
    have : (v + 1) * 2 ^ f ≤ 2 ^ n * 2 ^ f := Nat.mul_le_mul_right _ hv
    rw [Nat.add_mul, Nat.one_mul, Nat.mul_comm (2 ^ n)] at this
    omega
  have e2 : w &&& (4294967295 - (2 ^ n - 1) * 2 ^ f) = w &&& (4294967295 - (2 ^ n - 1) * 2 ^ f) := rfl
  rw [Nat.testBit_or, key, show 2 ^ (f + n) * (w / 2 ^ (f + n)) + w % 2 ^ f + v * 2 ^ f = 2 ^ (f + n) * (w / 2 ^ (f + n)) + (v * 2 ^ f + w % 2 ^ f) from by omega,
    Nat.testBit_two_pow_mul_add _ hlt, Nat.testBit_two_pow_mul_add _ hv2, Nat.mul_comm v, Nat.testBit_two_pow_mul, Nat.testBit_two_pow_mul_add _ hs]
  by_cases h1 : i < f
  · simp [h1, show i < f + n from by omega, show ¬ f ≤ i from by omega]
  · by_cases h2 : i < f + n
    · simp only [h1, h2, show f ≤ i from by omega, if_true, if_false, decide_true, Bool.true_and]
      rw [Nat.testBit_lt_two_pow (Nat.lt_of_lt_of_le hs (Nat.pow_le_pow_right (by decide) (by omega)))]
      simp
    · have : v < 2 ^ (i - f) := Nat.lt_of_lt_of_le hv (Nat.pow_le_pow_right (by decide) (by omega))
      simp [h2, Nat.testBit_lt_two_pow this]

theorem put_lt {w f n v : Nat} (hw : w < 4294967296) (h : f + n ≤ 32) (hv : v < 2 ^ n) : put w f n v < 4294967296 := by
  rw [← or_put hw h hv]
  exact Nat.or_lt_two_pow (n := 32) (by omega) (shl_val h hv)

theorem bits_put {w f n v : Nat} (hw : w < 4294967296) (h : f + n ≤ 32) (hv : v < 2 ^ n) :
    bits .or .u32 (bits .andNot .u32 (w : Int) (((2 ^ n - 1 : Nat) : Int) * 2 ^ f % 4294967296)) ((v : Int) * 2 ^ f % 4294967296) = ((put w f n v : Nat) : Int) := by
  have e1 : (((2 ^ n - 1 : Nat) : Int) * 2 ^ f) = (((2 ^ n - 1) * 2 ^ f : Nat) : Int) := by simp
  have e2 : ((v : Int) * 2 ^ f) = ((v * 2 ^ f : Nat) : Int) := by simp
  have m1 : (((2 ^ n - 1) * 2 ^ f : Nat) : Int) % 4294967296 = (((2 ^ n - 1) * 2 ^ f : Nat) : Int) := by have := shl_most h; omega
  have m2 : ((v * 2 ^ f : Nat) : Int) % 4294967296 = ((v * 2 ^ f : Nat) : Int) := by have := shl_val h hv; omega
  rw [e1, e2, m1, m2, u32_andNot_nat _ _ hw (shl_most h), clear_eq hw h, u32_or_nat _ _ (by omega) (shl_val h hv), or_put hw h hv]

theorem sgn_eq {w n : Nat} (h1 : 1 ≤ n) (h2 : n ≤ 32) :
    wrap32 ((w : Int) * 2 ^ (32 - n) % 4294967296) / 2 ^ (32 - n) = sgn w n := by
  have e := pow_split h2
  have q := pow_pos (32 - n)
  have hm : ((w : Int) * 2 ^ (32 - n)) = ((w * 2 ^ (32 - n) : Nat) : Int) := by simp
  have hmod : w * 2 ^ (32 - n) % 4294967296 = (w % 2 ^ n) * 2 ^ (32 - n) := by
    rw [← e, Nat.mul_comm (2 ^ (32 - n)) (2 ^ n), Nat.mul_mod_mul_right]
  have hh : 2 ^ (n - 1) * 2 ^ (32 - n) = 2147483648 := by
    rw [← Nat.pow_add, show n - 1 + (32 - n) = 31 from by omega]
  have hd : 2 ^ n = 2 * 2 ^ (n - 1) := by
    rw [← Nat.pow_succ']; congr 1; omega
  have hlt := Nat.mod_lt w (pow_pos n)
  rw [hm, wrap32]
  have hc : ((w * 2 ^ (32 - n) : Nat) : Int) % 4294967296 = (((w % 2 ^ n) * 2 ^ (32 - n) : Nat) : Int) := by
    rw [← hmod]; simp
  rw [hc]
  have hp : ((2 : Int) ^ (32 - n)) = ((2 ^ (32 - n) : Nat) : Int) := by simp
  rw [hp]
  unfold sgn
  generalize w % 2 ^ n = r at *
  generalize 2 ^ (32 - n) = b at *
  rw [hd] at e hlt ⊢
  generalize 2 ^ (n - 1) = a at *
  have hb0 : (0 : Int) < (b : Int) := by omega
  by_cases hr : r < a
  · rw [if_pos hr]
    have hlt2 : r * b < 2147483648 := by rw [← hh]; exact Nat.mul_lt_mul_of_pos_right hr q
    rw [show (((r * b : Nat) : Int) + 2147483648) % 4294967296 - 2147483648 = ((r * b : Nat) : Int) from by omega]
    rw [Int.natCast_mul, Int.mul_ediv_cancel _ (by omega)]
  · rw [if_neg hr]
    have h3 : 2147483648 ≤ r * b := by rw [← hh]; exact Nat.mul_le_mul_right _ (by omega)
    have h4 : r * b < 4294967296 := by
      have := Nat.mul_lt_mul_of_pos_right hlt q
      rw [Nat.mul_comm b] at e
      omega
    rw [show (((r * b : Nat) : Int) + 2147483648) % 4294967296 - 2147483648 = ((r * b : Nat) : Int) - 4294967296 from by omega]
    rw [show ((r * b : Nat) : Int) - 4294967296 = ((r : Int) - ((2 * a : Nat) : Int)) * (b : Int) from by
      rw [Int.sub_mul, ← Int.natCast_mul, ← Int.natCast_mul, Nat.mul_comm (2 * a) b, e]; rfl]
    rw [Int.mul_ediv_cancel _ (by omega)]

theorem u64_double {a : Nat} (h : a ≤ 4294967296) : IntKind.u64.wrap (2 * (a : Int)) = ((a * 2 : Nat) : Int) := by
  rw [IntKind.wrap_u64]; omega

/-- A power of two, behind a name. -/
def pw (n : Nat) : Nat := 2 ^ n
theorem pw_pos (n : Nat) : 0 < pw n := pow_pos n
theorem pw_le {n : Nat} (h : n ≤ 32) : pw n ≤ 4294967296 := pow_le_32 h
theorem pw_succ (n : Nat) : pw (n + 1) = pw n * 2 := Nat.pow_succ 2 n
theorem pw_ne (n : Nat) : ¬ ((pw n : Nat) : Int) = 0 := by have := pw_pos n; omega
theorem u64_in {a : Nat} (h : a < 18446744073709551616) : IntKind.u64.wrap (a : Int) = (a : Int) := by
  rw [IntKind.wrap_u64]; omega

theorem rfield_eq {v f n : Nat} (hv : v < 4294967296) (hn : n ≤ 32) :
    (IntKind.u64.wrap ((v : Int) / (pw f : Int))).tmod (pw n : Int) % 4294967296 = ((field v f n : Nat) : Int) := by
  have h1 : v / pw f < 4294967296 := div_lt f hv
  have h2 := field_le32 (w := v) (f := f) hn
  rw [← Int.natCast_ediv, u64_in (by omega)]
  have e : (((v / pw f : Nat) : Int)).tmod (pw n : Int) = ((field v f n : Nat) : Int) := rfl
  rw [e]
  omega
theorem field_mul_le (w f n : Nat) : field w f n * pw f ≤ w := by
  unfold field pw
  exact Nat.le_trans (Nat.mul_le_mul_right _ (Nat.mod_le _ _)) (Nat.div_mul_le_self _ _)
theorem rput_eq {v f n x : Nat} (hv : v < 4294967296) (h : f + n ≤ 32) (hx : x < 2 ^ n) :
    IntKind.u64.wrap (IntKind.u64.wrap ((v : Int) - IntKind.u64.wrap ((field v f n : Nat) * (pw f : Int))) + IntKind.u64.wrap ((x : Int) * (pw f : Int))) % 4294967296 = ((put v f n x : Nat) : Int) := by
  have h1 := put_lt hv h hx
  have h2 := field_mul_le v f n
  have h3 := shl_val h hx
  have e : put v f n x = v - field v f n * pw f + x * pw f := rfl
  rw [e] at h1 ⊢
  rw [← Int.natCast_mul, ← Int.natCast_mul]
  change x * pw f < _ at h3
  generalize field v f n * pw f = A at *
  generalize x * pw f = B at *
  simp only [IntKind.wrap_u64]
  omega

theorem rsgn_hi {v n : Nat} (h1 : 1 ≤ n) (h2 : n ≤ 32) (h : pw (n - 1) ≤ field v 0 n) :
    wrap32 (wrap64 (wrap64 ((field v 0 n : Nat) : Int) - ((pw n : Nat) : Int))) = sgn v n := by
  have hp := pw_le h2
  have hf := field_lt v 0 n
  have hd : pw n = 2 * pw (n - 1) := by
    unfold pw; rw [← Nat.pow_succ']; congr 1; omega
  have e : field v 0 n = v % 2 ^ n := by unfold field; simp
  unfold sgn
  change _ < pw n at hf
  rw [← e]
  change _ = if field v 0 n < pw (n - 1) then _ else _ - ((pw n : Nat) : Int)
  rw [if_neg (by omega)]
  unfold wrap32 wrap64
  omega
theorem rsgn_lo {v n : Nat} (h2 : n ≤ 32) (h1 : 1 ≤ n) (h : ¬ pw (n - 1) ≤ field v 0 n) :
    wrap32 (wrap64 ((field v 0 n : Nat) : Int)) = sgn v n := by
  have hp := pw_le h2
  have hd : pw n = 2 * pw (n - 1) := by
    unfold pw; rw [← Nat.pow_succ']; congr 1; omega
  have e : field v 0 n = v % 2 ^ n := by unfold field; simp
  unfold sgn
  rw [← e]
  change _ = if field v 0 n < pw (n - 1) then _ else _
  rw [if_pos (by omega)]
  unfold wrap32 wrap64
  omega

/-- A number without its n lowest bits, as the bits say, in a word of W bits. -/
theorem clear0 {W n x : Nat} (hx : x < 2 ^ W) (hn : n ≤ W) : x &&& (2 ^ W - 1 - (2 ^ n - 1)) = x / 2 ^ n * 2 ^ n := by
  apply Nat.eq_of_testBit_eq
  intro i
  have hm : 2 ^ n - 1 < 2 ^ W := Nat.lt_of_lt_of_le (Nat.sub_lt (pow_pos n) (by decide)) (Nat.pow_le_pow_right (by decide) hn)
  rw [Nat.testBit_and, show 2 ^ W - 1 - (2 ^ n - 1) = 2 ^ W - ((2 ^ n - 1) + 1) from by omega, Nat.testBit_two_pow_sub_succ hm, Nat.testBit_two_pow_sub_one, Nat.mul_comm, Nat.testBit_two_pow_mul, Nat.testBit_div_two_pow]
  by_cases h1 : i < n
  · simp [h1, show ¬ n ≤ i from by omega]
  · by_cases h2 : i < W
    · simp [h1, h2, show n ≤ i from by omega]
    · have : x < 2 ^ i := Nat.lt_of_lt_of_le hx (Nat.pow_le_pow_right (by decide) (by omega))
      simp only [h2, decide_false, Bool.false_and, Bool.and_false]
      rw [show i - n + n = i from by omega, Nat.testBit_lt_two_pow this]
      simp

/-- The n lowest bits of v below the others of x. -/
def mix (v x n : Nat) : Nat := v % 2 ^ n + x / 2 ^ n * 2 ^ n
theorem mix_mod (v x n : Nat) : mix v x n % 2 ^ n = v % 2 ^ n := by
  unfold mix
  rw [Nat.add_mul_mod_self_right, Nat.mod_mod]
theorem mix_lt {v x n : Nat} (hx : x < 4294967296) (hn : n ≤ 32) : mix v x n < 4294967296 := by
  unfold mix
  have h1 := Nat.mod_lt v (pow_pos n)
  have e := pow_split hn
  have h3 : x / 2 ^ n < 2 ^ (32 - n) := by
    apply Nat.div_lt_of_lt_mul
    rw [Nat.mul_comm, e]; exact hx
  have h4 : (x / 2 ^ n + 1) * 2 ^ n ≤ 2 ^ (32 - n) * 2 ^ n := Nat.mul_le_mul_right _ h3
  rw [e, Nat.add_mul, Nat.one_mul] at h4
  omega
theorem sgn_congr {v w n : Nat} (h : v % 2 ^ n = w % 2 ^ n) : sgn v n = sgn w n := by unfold sgn; rw [h]
theorem mix_bits {v x n : Nat} (hv : v < 4294967296) (hx : x < 4294967296) (hn : n ≤ 32) :
    bits .or .u64 (bits .and .u64 (v : Int) ((2 ^ n - 1 : Nat) : Int)) (bits .andNot .u64 (x : Int) ((2 ^ n - 1 : Nat) : Int)) = ((mix v x n : Nat) : Int) := by
  have hp := pow_le_32 hn
  have hp0 := pow_pos n
  have hml := mix_lt (v := v) hx hn
  rw [u64_and_nat _ _ (by omega) (by omega), u64_andNot_nat _ _ (by omega) (by omega), and_most]
  have hc := clear0 (W := 64) (n := n) (x := x) (by omega) (by omega)
  rw [show (2 : Nat) ^ 64 - 1 = 18446744073709551615 from rfl] at hc
  rw [hc]
  have h1 := Nat.mod_lt v hp0
  have h2 : x / 2 ^ n * 2 ^ n ≤ x := Nat.div_mul_le_self _ _
  rw [u64_or_nat _ _ (by omega) (by omega), Nat.or_comm, nat_join n _ _ (Nat.mul_mod_left _ _) h1]
  unfold mix
  rw [Nat.add_comm]
theorem sgn_bounds {v n : Nat} (h1 : 1 ≤ n) (h2 : n ≤ 32) : -((2 ^ (n - 1) : Nat) : Int) ≤ sgn v n ∧ sgn v n < ((2 ^ (n - 1) : Nat) : Int) := by
  have hlt := Nat.mod_lt v (pow_pos n)
  have hd : 2 ^ n = 2 * 2 ^ (n - 1) := by rw [← Nat.pow_succ']; congr 1; omega
  unfold sgn
  split <;> omega
/-- The word that a number with a sign is. -/
def wordOf (a : Int) : Nat := (a % 4294967296).toNat
theorem wordOf_cast (a : Int) : a % 4294967296 = ((wordOf a : Nat) : Int) := by unfold wordOf; omega
theorem wordOf_lt (a : Int) : wordOf a < 4294967296 := by unfold wordOf; omega
theorem sgn_wordOf {a : Int} (h : -2147483648 ≤ a ∧ a < 2147483648) : sgn (wordOf a) 32 = a := by
  unfold sgn wordOf
  split <;> omega
theorem wordOf_mod {v n : Nat} (h1 : 1 ≤ n) (h2 : n ≤ 32) : wordOf (sgn v n) % 2 ^ n = v % 2 ^ n := by
  have e := pow_split h2
  have hp0 := pow_pos n
  have hp := pow_le_32 h2
  have hlt := Nat.mod_lt v hp0
  unfold wordOf sgn
  split
  · rw [show (((v % 2 ^ n : Nat) : Int) % 4294967296).toNat = v % 2 ^ n from by omega, Nat.mod_mod]
  · rw [show ((((v % 2 ^ n : Nat) : Int) - ((2 ^ n : Nat) : Int)) % 4294967296).toNat = v % 2 ^ n + (4294967296 - 2 ^ n) from by omega]
    rw [show v % 2 ^ n + (4294967296 - 2 ^ n) = v % 2 ^ n + (2 ^ (32 - n) - 1) * 2 ^ n from by rw [Nat.sub_mul, e, Nat.one_mul], Nat.add_mul_mod_self_right, Nat.mod_mod]

/-- The parts of a word about a field. -/
theorem parts (w f n : Nat) : w = w / 2 ^ (f + n) * 2 ^ (f + n) + field w f n * 2 ^ f + w % 2 ^ f := by
  unfold field
  have h1 := Nat.div_add_mod w (2 ^ f)
  have h2 := Nat.div_add_mod (w / 2 ^ f) (2 ^ n)
  rw [Nat.div_div_eq_div_mul, ← Nat.pow_add] at h2
  rw [show (2 : Nat) ^ (f + n) = 2 ^ f * 2 ^ n from Nat.pow_add 2 f n] at *
  generalize w / 2 ^ f % 2 ^ n = r at *
  generalize w / (2 ^ f * 2 ^ n) = A at *
  generalize 2 ^ n = b at *
  generalize 2 ^ f = a at *
  generalize w / a = Q at *
  generalize w % a = s at *
  subst h2
  have : a * (b * A + r) = A * (a * b) + r * a := by
    rw [Nat.mul_add, Nat.mul_comm a r, ← Nat.mul_assoc, Nat.mul_comm (a * b) A]
  omega
theorem put_parts (w f n v : Nat) : put w f n v = w / 2 ^ (f + n) * 2 ^ (f + n) + v * 2 ^ f + w % 2 ^ f := by
  have h := parts w f n
  unfold put
  generalize field w f n * 2 ^ f = F at *
  omega
theorem low_parts (w f n : Nat) : w % 2 ^ (f + n) = field w f n * 2 ^ f + w % 2 ^ f := by
  have h := parts w f n
  have hf := field_lt w f n
  have hs : w % 2 ^ f < 2 ^ f := Nat.mod_lt _ (pow_pos f)
  have hlt : field w f n * 2 ^ f + w % 2 ^ f < 2 ^ (f + n) := by
    have h4 : (field w f n + 1) * 2 ^ f ≤ 2 ^ n * 2 ^ f := Nat.mul_le_mul_right _ hf
    rw [Nat.add_mul, Nat.one_mul, Nat.mul_comm (2 ^ n), ← Nat.pow_add] at h4
    omega
  have e : w % 2 ^ (f + n) = (w / 2 ^ (f + n) * 2 ^ (f + n) + (field w f n * 2 ^ f + w % 2 ^ f)) % 2 ^ (f + n) := by
    rw [← Nat.add_assoc, ← h]
  rw [e, Nat.add_comm, Nat.add_mul_mod_self_right, Nat.mod_eq_of_lt hlt]
theorem put_low {v w f n : Nat} (h : v % 2 ^ f = w % 2 ^ f) : put v f n (field w f n) % 2 ^ (f + n) = w % 2 ^ (f + n) := by
  rw [put_parts, Nat.add_assoc, Nat.add_comm, Nat.add_mul_mod_self_right, h, ← low_parts, Nat.mod_mod]

theorem put_bit {w f n x i : Nat} (hx : x < 2 ^ n) (h : i < f ∨ f + n ≤ i) : put w f n x / 2 ^ i % 2 = w / 2 ^ i % 2 := by
  have hs : w % 2 ^ f < 2 ^ f := Nat.mod_lt _ (pow_pos f)
  rcases h with h | h
  · have e1 : put w f n x % 2 ^ f = w % 2 ^ f := by
      rw [put_parts, Nat.pow_add, ← Nat.mul_assoc, Nat.mul_right_comm, ← Nat.add_mul, Nat.add_comm, Nat.add_mul_mod_self_right, Nat.mod_mod]
    have e2 : ∀ y : Nat, y / 2 ^ i % 2 = y % 2 ^ f / 2 ^ i % 2 := by
      intro y
      have h1 : y.testBit i = (y % 2 ^ f).testBit i := by rw [Nat.testBit_mod_two_pow]; simp [h]
      rw [Nat.testBit_eq_decide_div_mod_eq, Nat.testBit_eq_decide_div_mod_eq] at h1
      have h2 := decide_eq_decide.1 h1
      omega
    rw [e2 (put w f n x), e2 w, e1]
  · have hlt : x * 2 ^ f + w % 2 ^ f < 2 ^ (f + n) := by
      have h4 : (x + 1) * 2 ^ f ≤ 2 ^ n * 2 ^ f := Nat.mul_le_mul_right _ hx
      rw [Nat.add_mul, Nat.one_mul, Nat.mul_comm (2 ^ n), ← Nat.pow_add] at h4
      omega
    have e1 : put w f n x / 2 ^ (f + n) = w / 2 ^ (f + n) := by
      rw [put_parts, Nat.add_assoc, Nat.add_comm, Nat.add_mul_div_right _ _ (pow_pos _), Nat.div_eq_of_lt hlt, Nat.zero_add]
    obtain ⟨d, rfl⟩ : ∃ d, i = f + n + d := ⟨i - (f + n), by omega⟩
    rw [Nat.pow_add 2 (f + n) d, ← Nat.div_div_eq_div_mul, ← Nat.div_div_eq_div_mul, e1]
theorem field_put {w f n x : Nat} (hx : x < 2 ^ n) : field (put w f n x) f n = x := by
  have hs : w % 2 ^ f < 2 ^ f := Nat.mod_lt _ (pow_pos f)
  have e1 : put w f n x / 2 ^ f = w / 2 ^ (f + n) * 2 ^ n + x := by
    rw [put_parts, Nat.pow_add, ← Nat.mul_assoc, Nat.mul_right_comm, ← Nat.add_mul, Nat.add_comm, Nat.add_mul_div_right _ _ (pow_pos f), Nat.div_eq_of_lt hs, Nat.zero_add]
  unfold field
  rw [e1, Nat.add_comm, Nat.add_mul_mod_self_right, Nat.mod_eq_of_lt hx]
theorem bit_of {w i : Nat} (hw : w < 4294967296) : bits .and .u32 ((w : Int) / 2 ^ i) 1 = ((w / 2 ^ i % 2 : Nat) : Int) := by
  have h := bits_field (f := i) (n := 1) hw (by decide)
  refine Eq.trans h ?_
  unfold field
  rfl
theorem shl_congr {a b n : Nat} (hn : n ≤ 32) (h : a % 2 ^ n = b % 2 ^ n) : a * 2 ^ (32 - n) % 4294967296 = b * 2 ^ (32 - n) % 4294967296 := by
  have e := pow_split hn
  rw [← e, Nat.mul_comm (2 ^ (32 - n)) (2 ^ n), Nat.mul_mod_mul_right, Nat.mul_mod_mul_right, h]
theorem shl_cast (a k : Nat) : (a : Int) * 2 ^ k % 4294967296 = ((a * 2 ^ k % 4294967296 : Nat) : Int) := by
  rw [Int.natCast_emod, Int.natCast_mul, Int.natCast_pow]; rfl
theorem shr_lt {v n : Nat} (hv : v < 4294967296) (hn : n ≤ 32) : v / 2 ^ (32 - n) < 2 ^ n := by
  have e := pow_split hn
  apply Nat.div_lt_of_lt_mul
  rw [e]; exact hv
end Go.Proofs.YtjoapeeljigjcaaDoor.Nums
