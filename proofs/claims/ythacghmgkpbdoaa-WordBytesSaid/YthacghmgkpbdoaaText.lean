/-
  Texts of words: what Text, value and Parse of package word come to.
-/
import Derived.Test.YthacghmgkpbdoaaLeaf
namespace Go.Proofs.Ythacghmgkpbdoaa.Text
open Go Go.RowKit Nums Kit Leaf
set_option linter.unusedVariables false

/-- The byte of a hexadecimal digit. -/
def hexb (d : Nat) : Nat := if d < 10 then 48 + d else 87 + d
/-- The digit at place i of a word's text. -/
def nib (v i : Nat) : Nat := v / 2 ^ (28 - 4 * i) % 16
/-- The eight cells of a text, the first k of them written. -/
def arr (v k : Nat) : Array Value := ((List.range 8).map fun i => if i < k then Value.int .u8 (hexb (nib v i) : Nat) else Value.int .u8 0).toArray
theorem arr_size (v k : Nat) : (arr v k).size = 8 := by simp [arr]
theorem nib_lt (v i : Nat) : nib v i < 16 := Nat.mod_lt _ (by decide)
theorem nib_eq {v k : Nat} (hv : v < 4294967296) (hk : k < 8) : bits .and .u32 ((v : Int) / 2 ^ (32 - 4 * (k + 1))) 15 = ((nib v k : Nat) : Int) := by
  have h := bits_field (f := 32 - 4 * (k + 1)) (n := 4) hv (by decide)
  refine Eq.trans h ?_
  unfold field nib
  rw [show 32 - 4 * (k + 1) = 28 - 4 * k from by omega]
theorem arr_at {v k : Nat} (h : k < 8) : (arr v k)[k]? = some (.int .u8 0) := by
  have hs := arr_size v k
  have e : (arr v k)[k]? = some ((arr v k)[k]'(by omega)) := Array.getElem?_eq_getElem (by omega)
  rw [e]
  simp [arr]
theorem arr_set {v k : Nat} : (arr v k).setIfInBounds k (.int .u8 (hexb (nib v k) : Nat)) = arr v (k + 1) := by
  apply Array.ext'
  simp only [arr, Array.toList_setIfInBounds]
  apply List.ext_getElem
  · simp
  · intro i h1 h2
    simp at h1
    rw [List.getElem_set]
    by_cases e : k = i
    · subst e; simp
    · simp only [e, if_false, List.getElem_map, List.getElem_range]
      by_cases hi : i < k
      · simp [hi, show i < k + 1 from by omega]
      · simp [hi, show ¬ i < k + 1 from by omega]

theorem hexb_digit {d : Nat} (h : d < 16) : ((#[48, 49, 50, 51, 52, 53, 54, 55, 56, 57, 97, 98, 99, 100, 101, 102] : Array UInt8)[d]'(by simpa using h)).toNat = hexb d := by
  have : ∀ d : Fin 16, ((#[48, 49, 50, 51, 52, 53, 54, 55, 56, 57, 97, 98, 99, 100, 101, 102] : Array UInt8)[d.1]'(by simp)).toNat = hexb d.1 := by decide
  exact this ⟨d, h⟩

/-- A word's text, as numbers of bytes; as a string. -/
def txt (v : Nat) : List Int := (List.range 8).map fun i => ((hexb (nib v i) : Nat) : Int)
def txtS (v : Nat) : ByteArray := strOfNums (txt v)
theorem txt_length (v : Nat) : (txt v).length = 8 := by simp [txt]
theorem arr_full {v i : Nat} (h : i < 8) : (arr v 8)[i]? = some (.int .u8 ((txt v).getD i 0)) := by
  have hs := arr_size v 8
  rw [Array.getElem?_eq_getElem (by omega)]
  simp [arr, txt, h]

theorem text_any (v : Nat) (w : World) (hv : v < 4294967296) :
    Calls Try.prog 28 #[.int .u32 (v : Int)] w fun e w' => e = .returned (.string (txtS v)) ∧ Below w.heap.size w w' := by
  go_enter Try.func28, Try.ntmps28
  go_wp2
  go_loopw [5] (fun i wr => ∃ k : Nat, k ≤ 8 ∧ i = .int .i64 k ∧ wr = w.alloc (.cells (arr v k) 70)) (fun i _ => 8 - (intOf i).toNat)
  case atStart => exact ⟨0, by omega, rfl, rfl⟩
  case round =>
    obtain ⟨k, hk, rfl, rfl⟩ := hrel
    by_cases hlt : k < 8
    · have hat := arr_at (v := v) hlt
      have hsh : 0 ≤ 32 - 4 * ((k : Int) + 1) ∧ 32 - 4 * ((k : Int) + 1) ≤ 32 := by omega
      have hn := nib_lt v k
      have hb := nib_eq hv hlt
      go_wp2
      go_round
      case rel =>
        refine ⟨k + 1, by omega, by go_num, ?_⟩
        rw [← arr_set]
        rw [← hexb_digit hn]
        rfl
      case measure => simp [intOf]; omega
    · obtain rfl : k = 8 := by omega
      have hcv := run_convert_bytes_arg (P := Try.prog) (w.alloc (.cells (arr v 8) 70)) 24 5 Try.underlying24 Try.underlying5 w.heap.size 0 8 8 (txt v) (txt_length v) (fun i hi => by rw [World.cell?_alloc_at _ _ _ _ rfl, Nat.zero_add]; exact arr_full hi) 9 Try.underlying9
      go_wp2
      go_ret
      exact ⟨rfl, (Below.refl _ _).alloc (Nat.le_refl _) _⟩

def isDig (c : Nat) : Bool := (decide (48 ≤ c) && decide (c ≤ 57)) || (decide (97 ≤ c) && decide (c ≤ 102))
def dval (c : Nat) : Nat := if isDig c then (if c ≤ 57 then c - 48 else c - 87) else 0
theorem dval_lt (c : Nat) : dval c < 16 := by
  unfold dval isDig
  split
  · rename_i h
    simp at h
    split <;> omega
  · decide

theorem dig_lo {c : Nat} (h1 : 48 ≤ c) (h2 : c ≤ 57) : isDig c = true ∧ dval c = c - 48 := by
  have h : isDig c = true := by simp [isDig]; omega
  exact ⟨h, by unfold dval; rw [if_pos h, if_pos h2]⟩
theorem dig_hi {c : Nat} (h1 : 97 ≤ c) (h2 : c ≤ 102) : isDig c = true ∧ dval c = c - 87 := by
  have h : isDig c = true := by simp [isDig]; omega
  exact ⟨h, by unfold dval; rw [if_pos h, if_neg (by omega)]⟩
theorem dig_no {c : Nat} (h : isDig c = false) : dval c = 0 := by unfold dval; rw [h]; rfl

theorem value_any (c : Nat) (w : World) (hc : c < 256) :
    Calls Try.prog 39 #[.int .u8 (c : Int)] w fun e w' => e = .returned (.tuple #[.int .u32 (dval c : Nat), .bool (isDig c)]) ∧ w = w' := by
  by_cases h1 : 48 ≤ c
  · by_cases h2 : c ≤ 57
    · have hd := Lib.hid (dig_lo h1 h2)
      go_enter Try.func39, Try.ntmps39
      go_wp2
      go_ret2
      exact ⟨ret_ib (by have := hd.out.2; omega) hd.out.1.symm, rfl⟩
    · by_cases h3 : 97 ≤ c
      · by_cases h4 : c ≤ 102
        · have hd := Lib.hid (dig_hi h3 h4)
          go_enter Try.func39, Try.ntmps39
          go_wp2
          go_ret2
          exact ⟨ret_ib (by have := hd.out.2; omega) hd.out.1.symm, rfl⟩
        · have hn : isDig c = false := by simp [isDig]; omega
          have hd := Lib.hid (dig_no hn)
          have hN := Lib.hid hn
          clear hn
          go_enter Try.func39, Try.ntmps39
          go_wp2
          go_ret2
          exact ⟨ret_ib (by rw [hd.out]; rfl) hN.out.symm, rfl⟩
      · have hn : isDig c = false := by simp [isDig]; omega
        have hd := Lib.hid (dig_no hn)
        have hN := Lib.hid hn
        clear hn
        go_enter Try.func39, Try.ntmps39
        go_wp2
        go_ret2
        exact ⟨ret_ib (by rw [hd.out]; rfl) hN.out.symm, rfl⟩
  · have hn : isDig c = false := by simp [isDig]; omega
    have hd := Lib.hid (dig_no hn)
    have hN := Lib.hid hn
    clear hn
    go_enter Try.func39, Try.ntmps39
    go_wp2
    go_ret2
    exact ⟨ret_ib (by rw [hd.out]; rfl) hN.out.symm, rfl⟩

/-- The number of the byte at place i. -/
def byt (s : ByteArray) (i : Nat) : Nat := ((s.data.toList)[i]?.getD 0).toNat
theorem byt_lt (s : ByteArray) (i : Nat) : byt s i < 256 := UInt8.toNat_lt _
theorem byt_eq {s : ByteArray} {i : Nat} (h : i < s.size) : s[i].toNat = byt s i := by
  unfold byt
  have : i < s.data.toList.length := by simpa using h
  rw [List.getElem?_eq_getElem this]
  rfl
/-- The number of the first k digits. -/
def hv (s : ByteArray) : Nat → Nat
  | 0 => 0
  | k + 1 => hv s k * 16 + dval (byt s k)
theorem hv_lt (s : ByteArray) (k : Nat) : hv s k < 16 ^ k := by
  induction k with
  | zero => simp [hv]
  | succ k ih => have := dval_lt (byt s k); rw [hv, Nat.pow_succ]; omega
def allDig (s : ByteArray) : Nat → Bool
  | 0 => true
  | k + 1 => allDig s k && isDig (byt s k)
theorem hv_bits {s : ByteArray} {k : Nat} (hk : k < 8) : bits .or .u32 (((hv s k : Nat) : Int) * 16 % 4294967296) ((dval (byt s k) : Nat) : Int) = ((hv s (k + 1) : Nat) : Int) := by
  have h1 := hv_lt s k
  have h2 : 16 ^ k ≤ 16 ^ 7 := Nat.pow_le_pow_right (by decide) (by omega)
  have h3 := dval_lt (byt s k)
  rw [show ((hv s k : Nat) : Int) * 16 % 4294967296 = ((hv s k * 16 : Nat) : Int) from by omega, u32_or_nat _ _ (by omega) (by omega)]
  rw [hv, nat_join 4 _ _ (by omega) (by omega)]

theorem parse_len (s : ByteArray) (w : World) (hs : s.size ≤ maxLen) (h : ¬ s.size = 8) :
    Calls Try.prog 26 #[.string s] w fun e w' => e = .returned (.tuple #[.int .u32 0, .int .i64 10]) ∧ w = w' := by
  have hb : ((s.size : Int) != 8) = true := by simp; omega
  have hb2 : (s.size != 8) = true := by simp; omega
  clear h
  go_enter Try.func26, Try.ntmps26
  go_wp2
  go_ret2
  exact ⟨rfl, rfl⟩

/-- What a text of eight bytes is. -/
def parseR (s : ByteArray) : Value := if allDig s 8 then .tuple #[.int .u32 (hv s 8 : Nat), .int .i64 0] else .tuple #[.int .u32 0, .int .i64 10]
theorem allDig_no {s : ByteArray} {k n : Nat} (hk : k < n) (h : isDig (byt s k) = false) : allDig s n = false := by
  induction n with
  | zero => omega
  | succ n ih =>
    unfold allDig
    by_cases e : k = n
    · subst e; simp [h]
    · rw [ih (by omega)]; rfl
theorem parseR_no {s : ByteArray} {k : Nat} (hk : k < 8) (h : isDig (byt s k) = false) : parseR s = .tuple #[.int .u32 0, .int .i64 10] := by
  unfold parseR; rw [allDig_no hk h]; rfl
theorem parseR_yes {s : ByteArray} (h : allDig s 8 = true) : parseR s = .tuple #[.int .u32 (hv s 8 : Nat), .int .i64 0] := by
  unfold parseR; rw [h]; rfl

theorem parse_any (s : ByteArray) (w : World) (h : s.size = 8) :
    Calls Try.prog 26 #[.string s] w fun e w' => e = .returned (parseR s) ∧ w = w' := by
  have hb : ((s.size : Int) != 8) = false := by simp; omega
  have hH := Lib.hid h
  have hle : 8 ≤ s.size ∧ s.size ≤ 8 := by omega
  clear h
  go_enter Try.func26, Try.ntmps26
  go_wp2
  go_loop [4, 13] (fun v i => ∃ k : Nat, k ≤ 8 ∧ i = .int .i64 k ∧ v = .int .u32 (hv s k : Nat) ∧ Hid (allDig s k = true)) (fun _ i => 8 - (intOf i).toNat)
  case atStart => exact ⟨0, by omega, rfl, rfl, rfl⟩
  case round =>
    obtain ⟨k, hk, rfl, rfl, hall⟩ := hrel
    by_cases hlt : k < 8
    · have hk2 : k < s.size := by omega
      have hbt := byt_lt s k
      have he := byt_eq hk2
      have hbits := hv_bits (s := s) hlt
      by_cases hd : isDig (byt s k) = true
      · go_wp2_with (go_at_call 39; refine (value_any _ _ hbt).mono ?_; rintro e w' ⟨rfl, rfl⟩)
        go_round
        case rel => exact ⟨k + 1, by omega, by go_num, rfl, by unfold allDig; rw [hall, hd]; rfl⟩
        case measure => simp [intOf]; omega
      · have hd : isDig (byt s k) = false := by simpa using hd
        have hr := Lib.hid (parseR_no hlt hd)
        go_wp2_with (go_at_call 39; refine (value_any _ _ hbt).mono ?_; rintro e w' ⟨rfl, rfl⟩)
        go_ret2
        exact ⟨by rw [hr.out]; rfl, rfl⟩
    · obtain rfl : k = 8 := by omega
      have hr := Lib.hid (parseR_yes hall)
      clear hall
      go_wp2
      go_ret2
      exact ⟨by rw [hr.out]; rfl, rfl⟩
end Go.Proofs.Ythacghmgkpbdoaa.Text
