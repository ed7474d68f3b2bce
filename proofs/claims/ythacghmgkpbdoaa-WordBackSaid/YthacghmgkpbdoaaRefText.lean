/-
  The document's texts of words: digit, Text and Parse of carryallref01.
-/
import Derived.Test.YthacghmgkpbdoaaText
namespace Go.Proofs.Ythacghmgkpbdoaa.RefText
open Go Go.RowKit Nums Kit Leaf Text
set_option linter.unusedVariables false

theorem digit_any (n : Nat) (w : World) (h : n < 16) :
    Calls Try.prog 40 #[.int .u32 (n : Int)] w fun e w' => e = .returned (.string (strOfNums [((hexb n : Nat) : Int)])) ∧ Below w.heap.size w w' := by
  have hcv := fun (c : Int) => run_convert_bytes_arg (P := Try.prog) (w.alloc (.cells #[.int .u8 c] 5)) 24 5 Try.underlying24 Try.underlying5 w.heap.size 0 1 1 [c] rfl (fun i hi => by rw [World.cell?_alloc_at _ _ _ _ rfl]; obtain rfl : i = 0 := (by omega); rfl) 9 Try.underlying9
  by_cases hlt : n < 10
  · go_enter Try.func40, Try.ntmps40
    go_wp2
    go_ret
    exact ⟨by unfold hexb; rw [if_pos hlt]; rfl, (Below.refl _ _).alloc (Nat.le_refl _) _⟩
  · go_enter Try.func40, Try.ntmps40
    go_wp2
    go_ret
    refine ⟨?_, (Below.refl _ _).alloc (Nat.le_refl _) _⟩
    have e : ((hexb n : Nat) : Int) = 97 + (n : Int) - 10 := by unfold hexb; rw [if_neg hlt]; omega
    rw [e]
    rfl

theorem strOfNums_append (xs ys : List Int) : strOfNums xs ++ strOfNums ys = strOfNums (xs ++ ys) := by
  apply ByteArray.ext
  simp [strOfNums]

/-- A word without its last k digits. -/
def sh (v k : Nat) : Nat := v / 16 ^ k
theorem sh_succ (v k : Nat) : sh v (k + 1) = sh v k / 16 := by unfold sh; rw [Nat.pow_succ, Nat.div_div_eq_div_mul]
theorem sh_le (v k : Nat) : sh v k ≤ v := Nat.div_le_self _ _
/-- The last k digits of a word. -/
def tail (v : Nat) : Nat → List Int
  | 0 => []
  | k + 1 => ((hexb (sh v k % 16) : Nat) : Int) :: tail v k
theorem tail_full (v : Nat) : tail v 8 = txt v := by
  simp [tail, txt, nib, sh, List.range, List.range.loop]
theorem tail_length (v k : Nat) : (tail v k).length = k := by
  induction k with
  | zero => rfl
  | succ k ih => simp [tail, ih]
theorem size_le {xs : List Int} {n : Nat} (h : xs.length ≤ n) : (strOfNums xs).size ≤ n := by rw [strOfNums_size]; exact h

theorem rtext_any (v : Nat) (w : World) (hv : v < 4294967296) :
    Calls Try.prog 29 #[.int .u32 (v : Int)] w fun e w' => e = .returned (.string (txtS v)) ∧ Below w.heap.size w w' := by
  go_enter Try.func29, Try.ntmps29
  go_wp2
  go_loopw [0, 3, 4] (fun x s i wr => ∃ k : Nat, k ≤ 8 ∧ i = .int .i64 k ∧ x = .int .u32 ((sh v k : Nat) : Int) ∧ s = .string (strOfNums (tail v k)) ∧ Below w.heap.size w wr) (fun _ _ i _ => 8 - (intOf i).toNat)
  case atStart => exact ⟨0, by omega, rfl, by simp [sh], rfl, Below.refl _ _⟩
  case round =>
    obtain ⟨k, hk, rfl, rfl, rfl, hb⟩ := hrel
    by_cases hlt : k < 8
    · have hm : sh v k % 16 < 16 := Nat.mod_lt _ (by decide)
      have hd : sh v k < 4294967296 := Nat.lt_of_le_of_lt (sh_le v k) hv
      have z1 : (strOfNums [((hexb (sh v k % 16) : Nat) : Int)]).size ≤ 1 := size_le (by simp)
      have z2 : (strOfNums (tail v k)).size ≤ k := size_le (by rw [tail_length]; exact Nat.le_refl _)
      go_wp2_with (go_at_call 40; refine (digit_any _ _ hm).mono ?_; rintro e w1 ⟨rfl, hb1⟩)
      go_roundw
      case rel =>
        refine ⟨k + 1, by omega, by go_num, ?_, ?_, hb.trans (hb1.mono hb.size)⟩
        · rw [sh_succ]; go_num
        · rw [strOfNums_append]; rfl
      case measure => simp [intOf]; omega
    · obtain rfl : k = 8 := by omega
      go_wp2
      go_ret
      exact ⟨by unfold txtS; rw [← tail_full]; rfl, hb⟩

theorem byte_piece {s : ByteArray} {k : Nat} (h : k < s.size) : s.extract k (k + 1) = strOfNums [((byt s k : Nat) : Int)] := by
  apply ByteArray.ext
  have hk : k < s.data.toList.length := by simpa using h
  apply Array.ext'
  rw [ByteArray.data_extract, Array.toList_extract, strOfNums_data]
  simp only [List.map_cons, List.map_nil, Int.toNat_natCast]
  unfold byt
  rw [List.getElem?_eq_getElem hk]
  simp only [List.extract_eq_take_drop, Option.getD_some, UInt8.ofNat_toNat]
  rw [List.drop_eq_getElem_cons hk]
  simp
theorem piece_eq {a b : Nat} (ha : a < 256) (hb : b < 256) : ((strOfNums [(a : Int)]).toList == (strOfNums [(b : Int)]).toList) = decide (a = b) := by
  rw [ByteArray.toList_eq, ByteArray.toList_eq, strOfNums_data, strOfNums_data]
  simp only [List.map_cons, List.map_nil, Int.toNat_natCast]
  by_cases h : a = b
  · subst h; simp
  · rw [decide_eq_false h, beq_eq_false_iff_ne]
    intro e2
    simp only [List.cons.injEq, and_true] at e2
    have := congrArg UInt8.toNat e2
    simp at this
    omega
theorem run_piece {s : ByteArray} {k : Nat} (hk : k < s.size) (wx : World) :
    (Instr.slice 9 (.string s) (some (.int .i64 (k : Int))) (some (.int .i64 ((k : Int) + 1))) none).run Try.prog wx = .ok (.string (strOfNums [((byt s k : Nat) : Int)])) wx := by
  have := run_slice_string (P := Try.prog) wx 9 s .i64 .i64 (k : Int) ((k : Int) + 1) Try.underlying9 (by omega) (by omega) (by omega)
  rw [this, ← byte_piece hk]
  congr 3
theorem hexb_lt {d : Nat} (h : d < 16) : hexb d < 256 := by unfold hexb; split <;> omega
theorem hexb_dig {d : Nat} (h : d < 16) : isDig (hexb d) = true ∧ dval (hexb d) = d := by
  unfold hexb
  split
  · rename_i h1
    have := dig_lo (c := 48 + d) (by omega) (by omega)
    exact ⟨this.1, by rw [this.2]; omega⟩
  · have := dig_hi (c := 87 + d) (by omega) (by omega)
    exact ⟨this.1, by rw [this.2]; omega⟩
theorem dig_hexb {c : Nat} (h : isDig c = true) : hexb (dval c) = c := by
  have h' := h
  simp [isDig] at h'
  rcases h' with h1 | h1
  · rw [(dig_lo h1.1 h1.2).2]; unfold hexb; rw [if_pos (by omega)]; omega
  · rw [(dig_hi h1.1 h1.2).2]; unfold hexb; rw [if_neg (by omega)]; omega

/-- What the document's search for a digit has found when it has tried m of them. -/
def found (c m : Nat) : Nat := if isDig c && decide (dval c < m) then dval c else 16
theorem found_hit {m : Nat} (h : m < 16) : found (hexb m) (m + 1) = m := by
  have := hexb_dig h
  unfold found; rw [this.1, this.2]; simp
theorem found_miss {c m : Nat} (h : ¬ hexb m = c) : found c (m + 1) = found c m := by
  unfold found
  by_cases hd : isDig c = true
  · have hne : dval c ≠ m := fun e => h (by rw [← e]; exact dig_hexb hd)
    rw [hd]
    by_cases h1 : dval c < m
    · simp [h1, show dval c < m + 1 from by omega]
    · simp [h1, show ¬ dval c < m + 1 from by omega]
  · simp [hd]
theorem found_full {c : Nat} : found c 16 = if isDig c then dval c else 16 := by
  have := dval_lt c
  unfold found
  simp [this]

theorem rparse_len (s : ByteArray) (w : World) (hs : s.size ≤ maxLen) (h : ¬ s.size = 8) :
    Calls Try.prog 27 #[.string s] w fun e w' => e = .returned (.tuple #[.int .u32 0, .int .i64 10]) ∧ w = w' := by
  have hb : ((s.size : Int) != 8) = true := by simp; omega
  have hb2 : (s.size != 8) = true := by simp; omega
  clear h
  go_enter Try.func27, Try.ntmps27
  go_wp2
  go_ret2
  exact ⟨rfl, rfl⟩

theorem rparse_any (s : ByteArray) (w : World) (h : s.size = 8) :
    Calls Try.prog 27 #[.string s] w fun e w' => e = .returned (parseR s) ∧ Below w.heap.size w w' := by
  have hb : ((s.size : Int) != 8) = false := by simp; omega
  have hH := Lib.hid h
  have hle : 8 ≤ s.size ∧ s.size ≤ 8 := by omega
  clear h
  go_enter Try.func27, Try.ntmps27
  go_wp2
  go_loopw [4, 5] (fun v i wr => ∃ k : Nat, k ≤ 8 ∧ i = .int .i64 k ∧ v = .int .u32 (hv s k : Nat) ∧ Hid (allDig s k = true) ∧ Below w.heap.size w wr) (fun _ i _ => 8 - (intOf i).toNat)
  case atStart => exact ⟨0, by omega, rfl, rfl, rfl, Below.refl _ _⟩
  case round =>
    obtain ⟨k, hk, rfl, rfl, hall, hbel⟩ := hrel
    by_cases hlt : k < 8
    · have hk2 : k < s.size := by omega
      obtain ⟨wo, rfl⟩ : ∃ wo : World, wo = wr := ⟨_, rfl⟩
      have hdk : decide ((k : Int) < 8) = true := by simp; omega
      go_wp2
      go_loopw [6, 7] (fun n j wr => ∃ m : Nat, m ≤ 16 ∧ j = .int .u32 m ∧ n = .int .u32 (found (byt s k) m : Nat) ∧ Below w.heap.size w wr) (fun _ j _ => 16 - (intOf j).toNat)
      case atStart => exact ⟨0, by omega, rfl, by simp [found], hbel⟩
      case round =>
        obtain ⟨m, hm, rfl, rfl, hbel2⟩ := hrel
        by_cases hml : m < 16
        · have z1 : (strOfNums [((hexb m : Nat) : Int)]).size ≤ 1 := size_le (by simp)
          have hbt := byt_lt s k
          have hx := hexb_lt hml
          have hp := run_piece hk2
          by_cases e : hexb m = byt s k
          · have hq : ((strOfNums [((hexb m : Nat) : Int)]).toList == (strOfNums [((byt s k : Nat) : Int)]).toList) = true := by rw [piece_eq hx hbt]; simpa using e
            have hE := Lib.hid e
            clear e
            go_wp2_with (go_at_call 40; refine (digit_any _ _ hml).mono ?_; rintro e w1 ⟨rfl, hb1⟩)
            go_roundw
            case rel => exact ⟨m + 1, by omega, by go_num, by rw [← hE.out, found_hit hml], hbel2.trans (hb1.mono hbel2.size)⟩
            case measure => simp [intOf]; omega
          · have hq : ((strOfNums [((hexb m : Nat) : Int)]).toList == (strOfNums [((byt s k : Nat) : Int)]).toList) = false := by rw [piece_eq hx hbt]; simpa using e
            have hE := Lib.hid e
            clear e
            go_wp2_with (go_at_call 40; refine (digit_any _ _ hml).mono ?_; rintro e w1 ⟨rfl, hb1⟩)
            go_roundw
            case rel => exact ⟨m + 1, by omega, by go_num, by rw [found_miss hE.out], hbel2.trans (hb1.mono hbel2.size)⟩
            case measure => simp [intOf]; omega
        · obtain rfl : m = 16 := by omega
          by_cases hd : isDig (byt s k) = true
          · have hf : found (byt s k) 16 = dval (byt s k) := by rw [found_full, if_pos hd]
            have hdl := dval_lt (byt s k)
            have hvl := hv_lt s k
            have hpw : 16 ^ k ≤ 16 ^ 7 := Nat.pow_le_pow_right (by decide) (by omega)
            have hdl2 : ¬ dval (byt s k) = 16 := by omega
            have hs := Lib.hid (show hv s (k + 1) = hv s k * 16 + dval (byt s k) from rfl)
            have hvl2 : hv s k < 268435456 := by omega
            have hD := Lib.hid hd
            clear hd hvl hpw
            go_wp2
            go_roundw
            case rel => exact ⟨k + 1, by omega, by go_num, by rw [hs.out]; go_num, by unfold allDig; rw [hall, hD]; rfl, hbel2⟩
            case measure => simp [intOf]; omega
          · have hd : isDig (byt s k) = false := by simpa using hd
            have hf : found (byt s k) 16 = 16 := by rw [found_full, hd]; rfl
            have hr := Lib.hid (parseR_no hlt hd)
            clear hd
            go_wp2
            go_ret2
            exact ⟨by rw [hr.out]; rfl, hbel2⟩
    · obtain rfl : k = 8 := by omega
      have hr := Lib.hid (parseR_yes hall)
      clear hall
      go_wp2
      go_ret2
      exact ⟨by rw [hr.out]; rfl, hbel⟩
end Go.Proofs.Ythacghmgkpbdoaa.RefText
