/-
  Plain facts on texts of layer 2's numbers: where their sign stands, and what is read of their parts. No program is walked here.
-/
import Derived.Test.YtlplcacmmckpaaaDoorLast
import Derived.Test.YtlplcacmmckpaaaDoorTextG
import Derived.Lib.ParseIntBTie
import Derived.Lib.ItoaMem
namespace Go.Proofs.YtlplcacmmckpaaaDoor.TxtNums
open Go Go.RowKit Gleaf TextG LastG
set_option linter.unusedVariables false

def InR (n : Int) : Prop := -524288 ≤ n ∧ n ≤ 524287

/- Digits. -/
theorem dec_digit (u : Nat) : ∀ b ∈ Lib.decDigits u, 48 ≤ b.toNat ∧ b.toNat ≤ 57 := by
  induction u using Nat.strongRecOn with
  | _ u ih =>
    intro b hb
    rw [Lib.decDigits] at hb
    split at hb
    · obtain rfl : b = UInt8.ofNat (48 + u) := by simpa using hb
      rw [UInt8.toNat_ofNat']
      omega
    · rcases List.mem_append.1 hb with h | h
      · exact ih (u / 10) (by omega) b h
      · obtain rfl : b = UInt8.ofNat (48 + u % 10) := by simpa using h
        rw [UInt8.toNat_ofNat']
        omega
theorem dec_ne (u : Nat) : Lib.decDigits u ≠ [] := by
  rw [Lib.decDigits]
  split <;> simp
theorem dec_pm (u : Nat) : ∀ b ∈ Lib.decDigits u, isPm b = false := by
  intro b hb
  have h := dec_digit u b hb
  unfold isPm
  rw [Bool.or_eq_false_iff]
  constructor
  · rw [beq_eq_false_iff_ne]
    rintro rfl
    exact absurd h.1 (by decide)
  · rw [beq_eq_false_iff_ne]
    rintro rfl
    exact absurd h.1 (by decide)
theorem dec_asc (u : Nat) : Asc (Lib.decDigits u) := fun b hb => by have := dec_digit u b hb; omega

/-- One digit more. -/
theorem step_digit (M acc d : Nat) (r : List UInt8) (hd : d < 10) (ha : acc * 10 + d ≤ M) (hM : M ≤ 18446744073709551615) (h2 : acc < 1844674407370955162) :
    Lib.parseUintM M acc (UInt8.ofNat (48 + d) :: r) = Lib.parseUintM M (acc * 10 + d) r := by
  have e : (UInt8.ofNat (48 + d)).toNat = 48 + d := by rw [UInt8.toNat_ofNat']; omega
  rw [Lib.parseUintM, e, if_pos (by omega), if_neg (by omega), show 48 + d - 48 = d from by omega, if_neg (by omega)]
theorem parse_dec (M : Nat) (hM : 10000000 ≤ M) (hM2 : M ≤ 18446744073709551615) (u : Nat) (hu : u ≤ 1000000) : ∀ r, Lib.parseUintM M 0 (Lib.decDigits u ++ r) = Lib.parseUintM M u r := by
  induction u using Nat.strongRecOn with
  | _ u ih =>
    intro r
    rw [Lib.decDigits]
    split
    · rw [List.cons_append, List.nil_append, step_digit M 0 u r (by omega) (by omega) hM2 (by omega)]
      congr 1
      omega
    · rw [List.append_assoc, ih (u / 10) (by omega) (by omega), List.cons_append, List.nil_append, step_digit M (u / 10) (u % 10) r (by omega) (by omega) hM2 (by omega)]
      congr 1
      omega
theorem parseU_dec (u : Nat) (hu : u ≤ 1000000) : Lib.parseUintB 64 (Lib.decDigits u) = .ok u := by
  unfold Lib.parseUintB
  rw [if_neg (dec_ne u)]
  have h := parse_dec (2 ^ 64 - 1) (by decide) (by decide) u hu []
  rw [List.append_nil] at h
  rw [h]
  rfl

theorem pow63 : (2 : Nat) ^ (64 - 1) = 9223372036854775808 := by decide
theorem parse_plain (u : Nat) (hu : u ≤ 1000000) : Lib.parseIntB 64 (Lib.decDigits u) = .ok (u : Int) := by
  have hp := parseU_dec u hu
  cases hl : Lib.decDigits u with
  | nil => exact absurd hl (dec_ne u)
  | cons c r =>
    have hc := dec_digit u c (by rw [hl]; simp)
    rw [hl] at hp
    unfold Lib.parseIntB
    dsimp only
    rw [if_neg (by omega), hp]
    dsimp only
    rw [if_neg (by intro h; rw [pow63] at h; omega), if_neg (by omega), if_neg (by omega)]
theorem parse_plus (u : Nat) (hu : u ≤ 1000000) : Lib.parseIntB 64 (43 :: Lib.decDigits u) = .ok (u : Int) := by
  have hp := parseU_dec u hu
  unfold Lib.parseIntB
  dsimp only
  rw [if_pos (by decide), hp]
  dsimp only
  rw [if_neg (by intro h; rw [pow63] at h; omega), if_neg (by intro h; exact absurd h.1 (by decide)), if_neg (by decide)]
theorem parse_minus (u : Nat) (hu : u ≤ 1000000) : Lib.parseIntB 64 (45 :: Lib.decDigits u) = .ok (-(u : Int)) := by
  have hp := parseU_dec u hu
  unfold Lib.parseIntB
  dsimp only
  rw [if_pos (by decide), hp]
  dsimp only
  rw [if_neg (by intro h; exact absurd (by decide) h.1), if_neg (by intro h; rw [pow63] at h; omega), if_pos (by decide)]
theorem parse_itoa {p : Int} (h : InR p) : Lib.parseIntB 64 (Lib.itoa p) = .ok p := by
  unfold InR at h
  unfold Lib.itoa
  split
  · rw [parse_minus _ (by omega)]
    congr 1
    omega
  · rw [parse_plain _ (by omega)]
    congr 1
    omega

/-- The imaginary part's text, with its sign. -/
def sq (q : Int) : List UInt8 := if 0 ≤ q then 43 :: Lib.itoa q else Lib.itoa q
theorem parse_sq {q : Int} (h : InR q) : Lib.parseIntB 64 (sq q) = .ok q := by
  unfold InR at h
  unfold sq
  split
  · rename_i h0
    rw [show Lib.itoa q = Lib.decDigits q.toNat from by unfold Lib.itoa; rw [if_neg (by omega)], parse_plus _ (by omega)]
    congr 1
    omega
  · exact parse_itoa h
/-- The text ahead of the i. -/
def bd (p q : Int) : List UInt8 := Lib.itoa p ++ sq q
theorem txt_eq (p q : Int) : txt p q = ⟨(bd p q ++ [105]).toArray⟩ := by
  unfold txt bd sq
  rw [List.append_assoc]
theorem sq_shape (q : Int) : ∃ c u, isPm c = true ∧ c.toNat < 128 ∧ sq q = c :: Lib.decDigits u := by
  unfold sq Lib.itoa
  split
  · rw [if_neg (by omega)]
    exact ⟨43, _, by decide, by decide, rfl⟩
  · rw [if_pos (by omega)]
    exact ⟨45, _, by decide, by decide, rfl⟩
theorem itoa_asc (p : Int) : Asc (Lib.itoa p) := by
  unfold Lib.itoa
  split
  · intro b hb
    rcases List.mem_cons.1 hb with rfl | h
    · decide
    · exact dec_asc _ b h
  · exact dec_asc _
theorem bd_asc (p q : Int) : Asc (bd p q) := by
  obtain ⟨c, u, h1, h2, h3⟩ := sq_shape q
  unfold bd
  rw [h3]
  intro b hb
  rcases List.mem_append.1 hb with h | h
  · exact itoa_asc p b h
  · rcases List.mem_cons.1 h with rfl | h
    · exact h2
    · exact dec_asc u b h

/-- Behind the last sign there are digits alone. -/
theorem lx_tail (a : List UInt8) (c : UInt8) (d : List UInt8) (hc : isPm c = true) (hd : ∀ b ∈ d, isPm b = false) : ∀ k, k ≤ d.length → lx (a ++ c :: d) (a.length + 1 + k) = a.length := by
  intro k
  induction k with
  | zero =>
    intro _
    rw [Nat.add_zero]
    unfold lx
    have e : (a ++ c :: d).getD a.length 0 = c := by simp [List.getD]
    rw [e, hc, if_pos rfl]
  | succ k ih =>
    intro hk
    rw [← Nat.add_assoc]
    unfold lx
    have e : (a ++ c :: d).getD (a.length + 1 + k) 0 = d[k]'(by omega) := by
      simp only [List.getD]
      rw [List.getElem?_append_right (by omega), show a.length + 1 + k - a.length = k + 1 from by omega, List.getElem?_cons_succ, List.getElem?_eq_getElem (by omega)]
      rfl
    rw [e, hd _ (List.getElem_mem _), if_neg (by decide)]
    exact ih (by omega)
theorem lx_bd (p q : Int) : lx (bd p q) (bd p q).length = (Lib.itoa p).length := by
  obtain ⟨c, u, h1, h2, h3⟩ := sq_shape q
  have h := lx_tail (Lib.itoa p) c (Lib.decDigits u) h1 (dec_pm u) (Lib.decDigits u).length (Nat.le_refl _)
  unfold bd
  rw [h3]
  rw [show (Lib.itoa p ++ c :: Lib.decDigits u).length = (Lib.itoa p).length + 1 + (Lib.decDigits u).length from by simp; omega]
  exact h
theorem bd_take (p q : Int) : (bd p q).take (Lib.itoa p).length = Lib.itoa p := by unfold bd; simp
theorem bd_drop (p q : Int) : (bd p q).drop (Lib.itoa p).length = sq q := by unfold bd; simp
theorem suf_bd (l : List UInt8) : Lib.hasSuffix (l ++ [105]) [105] = true := by
  unfold Lib.hasSuffix
  rw [List.isSuffixOf_iff_suffix]
  exact List.suffix_append _ _
theorem trim_bd (l : List UInt8) : Lib.trimSuffix (l ++ [105]) [105] = l := by
  unfold Lib.trimSuffix
  rw [suf_bd, if_pos rfl]
  simp

/-- A text is of one number. -/
theorem txt_inj {p q p' q' : Int} (hp : InR p) (hq : InR q) (hp' : InR p') (hq' : InR q') (h : txt p q = txt p' q') : p = p' ∧ q = q' := by
  rw [txt_eq, txt_eq] at h
  have h1 : bd p q ++ [105] = bd p' q' ++ [105] := by
    have := congrArg (fun s : ByteArray => s.data.toList) h
    simpa using this
  have h2 : bd p q = bd p' q' := List.append_cancel_right h1
  have h3 := lx_bd p q
  have h4 := lx_bd p' q'
  rw [← h2, h3] at h4
  have h5 : (Lib.itoa p).length = (Lib.itoa p').length := by omega
  have e1 : Lib.itoa p = Lib.itoa p' := by rw [← bd_take p q, ← bd_take p' q', h2, h5]
  have e2 : sq q = sq q' := by rw [← bd_drop p q, ← bd_drop p' q', h2, h5]
  have f1 := parse_itoa hp
  have f2 := parse_sq hq
  rw [e1, parse_itoa hp'] at f1
  rw [e2, parse_sq hq'] at f2
  exact ⟨(Lib.NumEnd.ok.inj f1).symm, (Lib.NumEnd.ok.inj f2).symm⟩
end Go.Proofs.YtlplcacmmckpaaaDoor.TxtNums
