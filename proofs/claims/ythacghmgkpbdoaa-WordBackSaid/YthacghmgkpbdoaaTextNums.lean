/-
  Texts of words, as lists of bytes: a word's text is read as the word, what is read has its text, texts stand in the order of their words. No program is mentioned here but by name.
-/
import Derived.Test.YthacghmgkpbdoaaRefText
namespace Go.Proofs.Ythacghmgkpbdoaa.TextNums
open Go Go.RowKit Nums Kit Text RefText
set_option linter.unusedVariables false

theorem byt_str (xs : List Int) (i : Nat) : byt (strOfNums xs) i = ((xs[i]?.map fun n => UInt8.ofNat n.toNat).getD 0).toNat := by
  unfold byt
  rw [strOfNums_data, List.getElem?_map]
theorem byt_txt {v i : Nat} (h : i < 8) : byt (txtS v) i = hexb (nib v i) := by
  unfold txtS
  have hl := hexb_lt (nib_lt v i)
  rw [byt_str]
  have e : (txt v)[i]? = some ((hexb (nib v i) : Nat) : Int) := by simp [txt, h]
  rw [e]
  simp
  omega
theorem dig_txt {v i : Nat} (h : i < 8) : isDig (byt (txtS v) i) = true ∧ dval (byt (txtS v) i) = nib v i := by
  rw [byt_txt h]; exact hexb_dig (nib_lt v i)
theorem allDig_txt (v k : Nat) (h : k ≤ 8) : allDig (txtS v) k = true := by
  induction k with
  | zero => rfl
  | succ k ih => unfold allDig; rw [ih (by omega), (dig_txt (by omega)).1]; rfl
theorem pow16 (k : Nat) : 2 ^ (4 * k) = 16 ^ k := by rw [Nat.pow_mul]
theorem nib_16 {v i : Nat} (h : i < 8) : nib v i = v / 16 ^ (7 - i) % 16 := by
  unfold nib
  rw [← pow16, show 28 - 4 * i = 4 * (7 - i) from by omega]
theorem hv_txt {v : Nat} (hv' : v < 4294967296) (k : Nat) (h : k ≤ 8) : hv (txtS v) k = v / 16 ^ (8 - k) := by
  induction k with
  | zero =>
    show 0 = v / 16 ^ 8
    rw [Nat.div_eq_of_lt (show v < 16 ^ 8 from hv')]
  | succ k ih =>
    unfold hv
    rw [ih (by omega), (dig_txt (by omega)).2, nib_16 (by omega)]
    rw [show 8 - k = (7 - k) + 1 from by omega, show 8 - (k + 1) = 7 - k from by omega, Nat.pow_succ, ← Nat.div_div_eq_div_mul]
    omega
theorem txtS_size (v : Nat) : (txtS v).size = 8 := by unfold txtS; rw [strOfNums_size, txt_length]
theorem parse_txt {v : Nat} (h : v < 4294967296) : parseR (txtS v) = .tuple #[.int .u32 (v : Int), .int .i64 0] := by
  rw [parseR_yes (allDig_txt v 8 (Nat.le_refl _)), hv_txt h 8 (Nat.le_refl _)]
  simp

theorem hv_succ (s : ByteArray) (n : Nat) : hv s (n + 1) = hv s n * 16 + dval (byt s n) := rfl
theorem hv_div (s : ByteArray) (j k : Nat) : hv s (k + j) / 16 ^ j = hv s k := by
  induction j with
  | zero => simp
  | succ j ih =>
    have hd := dval_lt (byt s (k + j))
    rw [show k + (j + 1) = (k + j) + 1 from rfl, hv_succ]
    rw [Nat.pow_succ, Nat.mul_comm (16 ^ j) 16, ← Nat.div_div_eq_div_mul, show (hv s (k + j) * 16 + dval (byt s (k + j))) / 16 = hv s (k + j) from by omega]
    exact ih
theorem nib_hv {s : ByteArray} {i : Nat} (h : i < 8) : nib (hv s 8) i = dval (byt s i) := by
  rw [nib_16 h]
  have e := hv_div s (7 - i) (i + 1)
  rw [show i + 1 + (7 - i) = 8 from by omega] at e
  rw [e]
  have hd := dval_lt (byt s i)
  show (hv s i * 16 + dval (byt s i)) % 16 = _
  omega
theorem allDig_at {s : ByteArray} {n i : Nat} (h : allDig s n = true) (hi : i < n) : isDig (byt s i) = true := by
  induction n with
  | zero => omega
  | succ n ih =>
    unfold allDig at h
    simp only [Bool.and_eq_true] at h
    by_cases e : i = n
    · subst e; exact h.2
    · exact ih h.1 (by omega)
theorem str_ext {s t : ByteArray} (hs : s.size = 8) (ht : t.size = 8) (h : ∀ i, i < 8 → byt s i = byt t i) : s = t := by
  apply ByteArray.ext
  apply Array.ext'
  have h1 : s.data.toList.length = 8 := by simpa using hs
  have h2 : t.data.toList.length = 8 := by simpa using ht
  apply List.ext_getElem (by omega)
  intro i hi1 hi2
  have e := h i (by omega)
  unfold byt at e
  rw [List.getElem?_eq_getElem hi1, List.getElem?_eq_getElem hi2] at e
  simp only [Option.getD_some] at e
  exact UInt8.toNat_inj.1 e
/-- What is read of a text has that text. -/
theorem txt_hv {s : ByteArray} (hs : s.size = 8) (hd : allDig s 8 = true) : txtS (hv s 8) = s := by
  refine str_ext (txtS_size _) hs fun i hi => ?_
  rw [byt_txt hi, nib_hv hi, dig_hexb (allDig_at hd hi)]
theorem hv8_lt (s : ByteArray) : hv s 8 < 4294967296 := hv_lt s 8

/-! ### The order of texts -/
def bl (l : List Int) : List UInt8 := l.map fun n => UInt8.ofNat n.toNat
theorem hexb_lt_iff {a b : Nat} (ha : a < 16) (hb : b < 16) : hexb a < hexb b ↔ a < b := by
  unfold hexb; split <;> split <;> omega
theorem hexb_inj {a b : Nat} (ha : a < 16) (hb : b < 16) : hexb a = hexb b ↔ a = b := by
  unfold hexb; split <;> split <;> omega
theorem less_tail (a b k : Nat) : Op.bytesLess (bl (tail a k)) (bl (tail b k)) = decide (a % 16 ^ k < b % 16 ^ k) := by
  induction k with
  | zero => simp [tail, bl, Op.bytesLess, Nat.mod_one]
  | succ k ih =>
    have ha : sh a k % 16 < 16 := Nat.mod_lt _ (by decide)
    have hb : sh b k % 16 < 16 := Nat.mod_lt _ (by decide)
    have la := hexb_lt ha
    have lb := hexb_lt hb
    have e : ∀ x : Nat, x % 16 ^ (k + 1) = (sh x k % 16) * 16 ^ k + x % 16 ^ k := by
      intro x
      unfold sh
      rw [Nat.pow_succ, Nat.mod_mul, Nat.mul_comm (16 ^ k), Nat.add_comm]
    have lta : a % 16 ^ k < 16 ^ k := Nat.mod_lt _ (Nat.pow_pos (by decide))
    have ltb : b % 16 ^ k < 16 ^ k := Nat.mod_lt _ (Nat.pow_pos (by decide))
    have h8 : ∀ n : Nat, n < 256 → (UInt8.ofNat ((n : Int)).toNat).toNat = n := fun n h => by simp; omega
    have el : decide (UInt8.ofNat (((hexb (sh a k % 16) : Nat) : Int)).toNat < UInt8.ofNat (((hexb (sh b k % 16) : Nat) : Int)).toNat) = decide (sh a k % 16 < sh b k % 16) := by
      rw [decide_eq_decide, UInt8.lt_iff_toNat_lt, h8 _ la, h8 _ lb, hexb_lt_iff ha hb]
    have ee : (UInt8.ofNat (((hexb (sh a k % 16) : Nat) : Int)).toNat == UInt8.ofNat (((hexb (sh b k % 16) : Nat) : Int)).toNat) = decide (sh a k % 16 = sh b k % 16) := by
      rw [Bool.eq_iff_iff, beq_iff_eq, decide_eq_true_iff, ← UInt8.toNat_inj, h8 _ la, h8 _ lb, hexb_inj ha hb]
    show (decide (UInt8.ofNat (((hexb (sh a k % 16) : Nat) : Int)).toNat < UInt8.ofNat (((hexb (sh b k % 16) : Nat) : Int)).toNat) || ((UInt8.ofNat (((hexb (sh a k % 16) : Nat) : Int)).toNat == UInt8.ofNat (((hexb (sh b k % 16) : Nat) : Int)).toNat) && Op.bytesLess (bl (tail a k)) (bl (tail b k)))) = _
    rw [el, ee, ih, e a, e b]
    generalize sh a k % 16 = p at *
    generalize sh b k % 16 = q at *
    generalize a % 16 ^ k = x at *
    generalize b % 16 ^ k = y at *
    generalize 16 ^ k = P at *
    rcases Nat.lt_trichotomy p q with h | h | h
    · have : p * P + P ≤ q * P := by
        have := Nat.mul_le_mul_right P (show p + 1 ≤ q by omega)
        rw [Nat.add_mul, Nat.one_mul] at this
        exact this
      simp [h]
      omega
    · subst h; simp
    · have : q * P + P ≤ p * P := by
        have := Nat.mul_le_mul_right P (show q + 1 ≤ p by omega)
        rw [Nat.add_mul, Nat.one_mul] at this
        exact this
      simp [show ¬ p < q from by omega, show ¬ p = q from by omega]
      omega
theorem less_txt {a b : Nat} (ha : a < 4294967296) (hb : b < 4294967296) : Op.bytesLess (txtS a).toList (txtS b).toList = decide (a < b) := by
  rw [ByteArray.toList_eq, ByteArray.toList_eq]
  unfold txtS
  rw [strOfNums_data, strOfNums_data, ← tail_full, ← tail_full]
  have h := less_tail a b 8
  rw [Nat.mod_eq_of_lt (show a < 16 ^ 8 from ha), Nat.mod_eq_of_lt (show b < 16 ^ 8 from hb)] at h
  exact h

/-! ### A text with another byte at one place -/
def swap (v k c : Nat) : ByteArray := (txtS v).extract 0 k ++ strOfNums [(c : Int)] ++ (txtS v).extract (k + 1) 8
theorem list_of (v : Nat) : (txtS v).data.toList.length = 8 := by have := txtS_size v; simpa using this
theorem swap_list (v k c : Nat) : (swap v k c).data.toList = (txtS v).data.toList.take k ++ [UInt8.ofNat c] ++ (txtS v).data.toList.drop (k + 1) := by
  have hl := list_of v
  unfold swap
  rw [ByteArray.data_append, ByteArray.data_append, Array.toList_append, Array.toList_append, ByteArray.data_extract, ByteArray.data_extract, Array.toList_extract, Array.toList_extract, List.extract_eq_take_drop, List.extract_eq_take_drop, strOfNums_data]
  rw [List.take_of_length_le (show ((txtS v).data.toList.drop (k + 1)).length ≤ 8 - (k + 1) by rw [List.length_drop, hl]; omega)]
  rfl
theorem swap_size {v k c : Nat} (hk : k ≤ 7) : (swap v k c).size = 8 := by
  have h1 : (swap v k c).size = (swap v k c).data.toList.length := by simp
  rw [h1, swap_list]
  have := list_of v
  simp only [List.length_append, List.length_take, List.length_drop, List.length_cons, List.length_nil]
  omega
theorem swap_byt {v k c : Nat} (hk : k ≤ 7) (hc : c < 256) (i : Nat) (hi : i < 8) : byt (swap v k c) i = if i = k then c else byt (txtS v) i := by
  have h8 := list_of v
  unfold byt
  rw [swap_list]
  by_cases h : i = k
  · subst h
    have hlen : (List.take i (txtS v).data.toList).length = i := by rw [List.length_take, h8, Nat.min_eq_left (by omega)]
    rw [if_pos rfl, List.append_assoc, List.getElem?_append_right (by rw [hlen]; exact Nat.le_refl _)]
    simp [List.length_take, h8, Nat.min_eq_left (show i ≤ 8 by omega)]
    omega
  · rw [if_neg h]
    by_cases h2 : i < k
    · have hlen : (List.take k (txtS v).data.toList).length = k := by rw [List.length_take, h8, Nat.min_eq_left (by omega)]
      rw [List.append_assoc, List.getElem?_append_left (by rw [hlen]; exact h2), List.getElem?_take, if_pos h2]
    · have hlen : (List.take k (txtS v).data.toList ++ [UInt8.ofNat c]).length = k + 1 := by
        rw [List.length_append, List.length_take, h8, Nat.min_eq_left (by omega)]; rfl
      rw [List.getElem?_append_right (by rw [hlen]; omega), List.getElem?_drop, hlen, show k + 1 + (i - (k + 1)) = i from by omega]
theorem swap_dig {v k c : Nat} (hk : k ≤ 7) (hc : c < 256) (h : isDig c = true) : allDig (swap v k c) 8 = true := by
  have : ∀ n, n ≤ 8 → allDig (swap v k c) n = true := by
    intro n
    induction n with
    | zero => intro _; rfl
    | succ n ih =>
      intro hn
      unfold allDig
      rw [ih (by omega), swap_byt hk hc n (by omega)]
      by_cases e : n = k
      · rw [if_pos e, h]; rfl
      · rw [if_neg e, (dig_txt (by omega)).1]; rfl
  exact this 8 (Nat.le_refl _)
theorem swap_none {v k c : Nat} (hk : k ≤ 7) (hc : c < 256) (h : isDig c = false) : parseR (swap v k c) = .tuple #[.int .u32 0, .int .i64 10] :=
  parseR_no (k := k) (by omega) (by rw [swap_byt hk hc k (by omega), if_pos rfl]; exact h)
theorem longer_size (v : Nat) : (txtS v ++ (⟨#[48]⟩ : ByteArray)).size = 9 := by
  rw [ByteArray.size_append, txtS_size]; rfl
theorem shorter_size (v : Nat) : ((txtS v).extract 0 7).size = 7 := by
  rw [ByteArray.size_extract, txtS_size]; rfl
end Go.Proofs.Ythacghmgkpbdoaa.TextNums
