/-
  Plain facts on a line's parts: what strings.SplitN cuts is the parts between blanks, as far as a line's reading looks.
-/
import Derived.Test.YtlddjjkbnhhfaaaDoorIsaM
import Derived.Lib.Split
namespace Go.Proofs.YtlddjjkbnhhfaaaDoor.IsaS
open Go IsaM
set_option linter.unusedVariables false

theorem idx_cons (b : UInt8) (l : Tx) : Lib.index (b :: l) [32] = if b = 32 then 0 else if Lib.index l [32] = -1 then -1 else Lib.index l [32] + 1 := by
  show (if [32].isPrefixOf (b :: l) = true then 0 else if (Lib.index l [32] == -1) = true then -1 else Lib.index l [32] + 1) = _
  by_cases h : b = 32
  · subst h; simp [List.isPrefixOf]
  · have h2 : (32 : UInt8) ≠ b := fun e => h e.symm
    rw [if_neg (by simp [List.isPrefixOf, h2]), if_neg h]
    simp only [beq_iff_eq]
theorem split_miss : ∀ t : Tx, Lib.index t [32] = -1 → splitSp t = [t]
  | [], _ => rfl
  | b :: l, h => by
    rw [idx_cons] at h
    by_cases hb : b = 32
    · rw [if_pos hb] at h; omega
    · rw [if_neg hb] at h
      have hg := Lib.index_ge l [32]
      by_cases hl : Lib.index l [32] = -1
      · unfold splitSp
        rw [if_neg hb, split_miss l hl]
      · rw [if_neg hl] at h; omega
theorem split_hit : ∀ (t : Tx) (i : Nat), Lib.index t [32] = i → splitSp t = t.take i :: splitSp (t.drop (i + 1)) ∧ i < t.length
  | [], i, h => by
    have : Lib.index [] [32] = -1 := rfl
    rw [this] at h; omega
  | b :: l, i, h => by
    rw [idx_cons] at h
    by_cases hb : b = 32
    · rw [if_pos hb] at h
      obtain rfl : i = 0 := by omega
      exact ⟨by conv => lhs; unfold splitSp
                rw [if_pos hb]; rfl, by simp⟩
    · rw [if_neg hb] at h
      by_cases hl : Lib.index l [32] = -1
      · rw [if_pos hl] at h; omega
      · rw [if_neg hl] at h
        have hg := Lib.index_ge l [32]
        obtain ⟨j, rfl⟩ : ∃ j, i = j + 1 := ⟨i - 1, by omega⟩
        have := split_hit l j (by omega)
        refine ⟨?_, by simp; exact this.2⟩
        conv => lhs; unfold splitSp
        rw [if_neg hb, this.1]
        rfl
theorem splitK_all : ∀ (m : Nat) (t : Tx), (splitSp t).length ≤ m + 1 → Lib.splitK [32] 0 m t = splitSp t
  | 0, t, h => by
    rcases (show Lib.index t [32] < 0 ∨ 0 ≤ Lib.index t [32] by omega) with h1 | h1
    · have := Lib.index_ge t [32]
      rw [split_miss t (by omega)]
      rfl
    · obtain ⟨i, hi⟩ := Int.eq_ofNat_of_zero_le h1
      have := split_hit t i hi
      rw [this.1] at h
      have h2 := splitSp_ne (t.drop (i + 1))
      cases hs : splitSp (t.drop (i + 1)) with
      | nil => exact absurd hs h2
      | cons a b => rw [hs] at h; simp at h
  | m + 1, t, h => by
    unfold Lib.splitK
    rcases (show Lib.index t [32] < 0 ∨ 0 ≤ Lib.index t [32] by omega) with h1 | h1
    · have := Lib.index_ge t [32]
      rw [if_pos (by simp; omega), split_miss t (by omega)]
    · obtain ⟨i, hi⟩ := Int.eq_ofNat_of_zero_le h1
      have := split_hit t i hi
      rw [if_neg (by simp; omega), this.1]
      rw [this.1] at h
      have e : (Lib.index t [32]).toNat = i := by omega
      rw [e]
      show t.take i :: Lib.splitK [32] 0 m (t.drop (i + 1)) = _
      rw [splitK_all m _ (by simpa using h)]
theorem splitK_long : ∀ (m : Nat) (t : Tx), m + 1 < (splitSp t).length → (Lib.splitK [32] 0 m t).length = m + 1
  | 0, t, h => rfl
  | m + 1, t, h => by
    unfold Lib.splitK
    rcases (show Lib.index t [32] < 0 ∨ 0 ≤ Lib.index t [32] by omega) with h1 | h1
    · have := Lib.index_ge t [32]
      rw [split_miss t (by omega)] at h
      simp at h
    · obtain ⟨i, hi⟩ := Int.eq_ofNat_of_zero_le h1
      have := split_hit t i hi
      rw [if_neg (by simp; omega)]
      rw [this.1] at h
      have e : (Lib.index t [32]).toNat = i := by omega
      rw [e]
      show (t.take i :: Lib.splitK [32] 0 m (t.drop (i + 1))).length = _
      rw [List.length_cons, splitK_long m _ (by simpa using h)]
theorem splitSp_len : ∀ t : Tx, (splitSp t).length ≤ t.length + 1
  | [] => by simp [splitSp]
  | c :: r => by
    have := splitSp_len r
    unfold splitSp
    split
    · simp; omega
    · split
      · simp
      · rename_i h; rw [h] at this; simp at this ⊢; omega
theorem eat_len {m : Int} {j : Bool} {st st' : List Tx} {v : Int} {l : Tx} (h : eat m j st = some (v, l, st')) : st.length ≤ st'.length + 1 := by
  unfold eat at h
  split at h
  · simp at h; obtain ⟨_, _, rfl⟩ := h; omega
  · split at h
    · cases h
    · split at h
      · simp at h; obtain ⟨_, _, rfl⟩ := h; simp
      · split at h
        · cases h
        · simp at h; obtain ⟨_, _, rfl⟩ := h; simp
theorem eats_len {k : Nat} {st : List Tx} (h : 4 ≤ st.length) : eats k st = none := by
  unfold eats
  split
  · rfl
  · rename_i a l1 s1 h1
    split
    · rfl
    · rename_i b l2 s2 h2
      split
      · rfl
      · rename_i i l s3 h3
        rw [if_neg]
        rintro ⟨h4, _⟩
        have e1 := eat_len h1
        have e2 := eat_len h2
        have e3 := eat_len h3
        rw [h4] at e3
        simp at e3
        omega
theorem parseL_len {L : List Tx} (h : 5 ≤ L.length) : parseL L = none := by
  unfold parseL
  split
  · rfl
  · rename_i a st
    split
    · rfl
    · rw [eats_len (by simpa using h)]
/-- What SplitN cuts into five is read as the line is. -/
theorem parse_cut (t : Tx) : parseL (Lib.splitK [32] 0 (min 5 (t.length + 1) - 1) t) = parse t := by
  unfold parse
  have hl := splitSp_len t
  by_cases h : (splitSp t).length ≤ min 5 (t.length + 1) - 1 + 1
  · rw [splitK_all _ _ h]
  · have h2 := splitK_long _ _ (Nat.lt_of_not_le h)
    rw [parseL_len (by omega), parseL_len (by omega)]
theorem cut_ne (t : Tx) (m : Nat) : Lib.splitK [32] 0 m t ≠ [] := by
  cases m with
  | zero => simp [Lib.splitK]
  | succ m => unfold Lib.splitK; split <;> simp
end Go.Proofs.YtlddjjkbnhhfaaaDoor.IsaS
