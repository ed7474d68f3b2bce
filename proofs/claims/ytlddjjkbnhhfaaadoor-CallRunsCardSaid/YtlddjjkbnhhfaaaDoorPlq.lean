/-
  Plain words: two told lines are assembled to their two words.
-/
import Derived.Test.YtlddjjkbnhhfaaaDoorIsaO
import Derived.Test.YtlddjjkbnhhfaaaDoorIsaU
namespace Go.Proofs.YtlddjjkbnhhfaaaDoor.Plq
open Go IsaM IsaE IsaF IsaG IsaH IsaI IsaJ IsaB IsaK IsaQ IsaR IsaU IsaO
set_option linter.unusedVariables false

theorem idx_none : ∀ (t : Tx), (10 : UInt8) ∉ t → Lib.indexByte t 10 = -1
  | [], _ => rfl
  | b :: l, h => by
    rw [List.mem_cons, not_or] at h
    show (if (b == 10) = true then 0 else if (Lib.indexByte l 10 == -1) = true then -1 else Lib.indexByte l 10 + 1) = (-1 : Int)
    rw [if_neg (by simp; exact fun e => h.1 e.symm), idx_none l h.2]; rfl
theorem idx_at : ∀ (t r : Tx), (10 : UInt8) ∉ t → Lib.indexByte (t ++ 10 :: r) 10 = t.length
  | [], r, _ => rfl
  | b :: l, r, h => by
    rw [List.mem_cons, not_or] at h
    show (if (b == 10) = true then 0 else if (Lib.indexByte (l ++ 10 :: r) 10 == -1) = true then -1 else Lib.indexByte (l ++ 10 :: r) 10 + 1) = ((b :: l).length : Int)
    rw [if_neg (by simp; exact fun e => h.1 e.symm), idx_at l r h.2, if_neg (by simp)]
    simp
theorem endOf_at (t r : Tx) (h : (10 : UInt8) ∉ t) : endOf (t ++ 10 :: r) = t.length + 1 := by
  unfold endOf
  rw [idx_at t r h, if_neg (by omega)]
  simp
theorem rawN_enough : ∀ (n m : Nat) (t : Tx), t.length ≤ n → t.length ≤ m → rawN n t = rawN m t
  | 0, 0, t, _, _ => rfl
  | 0, m + 1, t, h, _ => by
    obtain rfl : t = [] := List.length_eq_zero_iff.1 (by omega)
    simp [rawN]
  | n + 1, 0, t, _, h => by
    obtain rfl : t = [] := List.length_eq_zero_iff.1 (by omega)
    simp [rawN]
  | n + 1, m + 1, t, h1, h2 => by
    unfold rawN
    split
    · rfl
    · rename_i hne
      have := endOf_pos hne
      rw [rawN_enough n m _ (by rw [List.length_drop]; omega) (by rw [List.length_drop]; omega)]
theorem rawL_cons (t r : Tx) (h : (10 : UInt8) ∉ t) : rawL (t ++ 10 :: r) = (t ++ [10]) :: rawL r := by
  unfold rawL
  have hl : (t ++ 10 :: r).length = (t.length + r.length) + 1 := by simp; omega
  rw [hl]
  show (if t ++ 10 :: r = [] then [] else _) = _
  rw [if_neg (by simp), endOf_at t r h]
  have e1 : (t ++ 10 :: r).take (t.length + 1) = t ++ [10] := by
    rw [List.take_append, List.take_of_length_le (by omega)]; simp
  have e2 : (t ++ 10 :: r).drop (t.length + 1) = r := by
    rw [List.drop_append, List.drop_of_length_le (by omega)]; simp
  rw [e1, e2, rawN_enough _ r.length r (by omega) (Nat.le_refl _)]
theorem rawL_nil : rawL [] = [] := rfl
/-- A line more at the text's head. -/
theorem walk_line (n : Nat) (t r : Tx) (h : (10 : UInt8) ∉ t) (p : PSt) : walkX (linesX n (rawL (t ++ 10 :: r))) p = match takeS n t p with | none => .inl n | some q => walkX (linesX (n + 1) (rawL r)) q := by
  rw [rawL_cons t r h]
  show walkX ((n, t ++ [10]) :: linesX (n + 1) (rawL r)) p = _
  rw [walkX_cons]
  have e : stepL n (t ++ [10]) p = takeS n t p := by
    unfold stepL cutL
    rw [if_pos (by simp), List.dropLast_concat]
    rfl
  rw [e]
  cases takeS n t p <;> rfl

theorem nm_chars : ∀ k : Fin 30, (nm k.val).all (fun c => decide (97 ≤ c.toNat ∧ c.toNat ≤ 122)) = true := by decide +kernel
/-- Letters, digits, blanks, and '-'. -/
def Ok (c : UInt8) : Prop := c = 32 ∨ c = 45 ∨ (48 ≤ c.toNat ∧ c.toNat ≤ 57) ∨ (97 ≤ c.toNat ∧ c.toNat ≤ 122)
theorem dd_ok (u : Nat) : ∀ c ∈ Lib.decDigits u, Ok c := fun c hc => by
  have := List.all_eq_true.1 (dd_all u) c hc
  simp [isDg] at this
  exact .inr (.inr (.inl this))
theorem itoa_ok (v : Int) : ∀ c ∈ Lib.itoa v, Ok c := by
  intro c hc
  by_cases hv : v < 0
  · obtain ⟨u, rfl⟩ : ∃ u : Nat, v = -(u : Int) := ⟨v.natAbs, by omega⟩
    rw [Lib.itoa_neg u (by omega), List.mem_cons] at hc
    rcases hc with rfl | hc
    · exact .inr (.inl rfl)
    · exact dd_ok u c hc
  · obtain ⟨u, rfl⟩ := Int.eq_ofNat_of_zero_le (show 0 ≤ v by omega)
    rw [Lib.itoa_nonneg] at hc
    exact dd_ok u c hc
theorem fld_ok (m v : Int) : ∀ c ∈ fld m v, Ok c := by
  intro c hc
  unfold fld at hc
  split at hc
  · simp at hc
  · rw [List.mem_cons] at hc
    rcases hc with rfl | hc
    · exact .inl rfl
    · exact itoa_ok v c hc
theorem line_ok {k : Nat} (hk : k < 30) (a b i : Int) : ∀ c ∈ line k a b i, Ok c := by
  intro c hc
  unfold line at hc
  simp only [List.mem_append] at hc
  rcases hc with ((hc | hc) | hc) | hc
  · have := List.all_eq_true.1 (nm_chars ⟨k, hk⟩) c hc
    simp at this
    exact .inr (.inr (.inr this))
  · exact fld_ok _ _ c hc
  · exact fld_ok _ _ c hc
  · exact fld_ok _ _ c hc
theorem ok_10 {t : Tx} (h : ∀ c ∈ t, Ok c) : (10 : UInt8) ∉ t := fun hc => by
  rcases h 10 hc with h | h | h | h
  · exact absurd h (by decide)
  · exact absurd h (by decide)
  · exact absurd h.1 (by decide)
  · exact absurd h.1 (by decide)
theorem ok_58 {t : Tx} (h : ∀ c ∈ t, Ok c) : t.getLast? ≠ some 58 := fun e => by
  rcases h 58 (List.mem_of_getLast? e) with h | h | h | h
  · exact absurd h (by decide)
  · exact absurd h (by decide)
  · exact absurd h.2 (by decide)
  · exact absurd h.1 (by decide)
/-- What is an instruction's is not said by its number. -/
theorem parse_noword {s : Tx} {x : Nat × Int × Int × Int} {l : Tx} (h : parse s = some (x, l)) : wordP.isPrefixOf s = false := by
  cases hp : wordP.isPrefixOf s with
  | false => rfl
  | true =>
    rw [List.isPrefixOf_iff_prefix] at hp
    obtain ⟨r, rfl⟩ := hp
    exfalso
    unfold parse at h
    rw [show wordP ++ r = [119, 111, 114, 100] ++ 32 :: r from rfl, split_app _ r (by decide)] at h
    unfold parseL at h
    simp only at h
    rw [show opOf [119, 111, 114, 100] = none by decide +kernel] at h
    cases h
theorem take_ins (n : Nat) {s : Tx} (p : PSt) {k : Nat} {a b i : Int} {l : Tx} (hp : parse s = some ((k, a, b, i), l)) (hs : s.getLast? ≠ some 58) (hl : p.words.length ≠ 512) : takeS n s p = some (addW (if l = [] then p else addJ p ⟨n, p.words.length, k, a, b, i, l⟩) (enc k a b i).toNat) := by
  unfold takeS
  rw [if_neg hs, if_neg (by rw [parse_noword hp]; simp), hp]
  simp only
  rw [if_neg hl]
theorem asm_two {k k' : Nat} {a b i a' b' i' : Int} (h : May k a b i) (h' : May k' a' b' i') :
    asm (line k a b i ++ 10 :: (line k' a' b' i' ++ 10 :: [])) = .inr [(enc k a b i).toNat, (enc k' a' b' i').toNat] := by
  have hk : k < 30 := by have := h.2.k30; simpa using this
  have hk' : k' < 30 := by have := h'.2.k30; simpa using this
  have o1 := line_ok hk a b i
  have o2 := line_ok hk' a' b' i'
  unfold asm
  rw [walk_line 1 _ _ (ok_10 o1), take_ins 1 p0 (parse_line h) (ok_58 o1) (by simp [p0])]
  simp only
  rw [if_pos trivial, walk_line _ _ _ (ok_10 o2), take_ins _ _ (parse_line h') (ok_58 o2) (by simp [addW, p0])]
  rfl
end Go.Proofs.YtlddjjkbnhhfaaaDoor.Plq
