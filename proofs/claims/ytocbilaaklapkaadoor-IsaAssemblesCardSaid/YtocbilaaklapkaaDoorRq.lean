/-
  Plain words for the walk of the document's Assemble.
-/
import Derived.Test.YtocbilaaklapkaaDoorRfi
import Derived.Test.YtocbilaaklapkaaDoorRt
import Derived.Test.YtocbilaaklapkaaDoorBytes3
namespace Go.Proofs.YtocbilaaklapkaaDoor.Rq
open Go IsaM IsaE IsaH IsaN IsaI IsaK IsaQ IsaO Rp Tkp Rfi
set_option linter.unusedVariables false

/-- Ahead of the place j: whole lines L, and the next one begins at at'. -/
def Sp (t : Tx) (at' j : Nat) (L : List Tx) : Prop := j ≤ t.length ∧ at' ≤ j ∧ spl t = L ++ spl (t.drop at') ∧ (10 : UInt8) ∉ (t.drop at').take (j - at')
theorem len_eq (s : ByteArray) : s.data.toList.length = s.size := by simp
theorem drop_mid {t : Tx} {at' j : Nat} (h : at' ≤ j) (hj : j < t.length) : t.drop at' = (t.drop at').take (j - at') ++ t[j] :: t.drop (j + 1) := by
  have h1 := (List.take_append_drop (j - at') (t.drop at')).symm
  rw [List.drop_drop, show at' + (j - at') = j by omega, List.drop_eq_getElem_cons hj] at h1
  exact h1
theorem Sp.on {t : Tx} {at' j : Nat} {L : List Tx} (hj : j < t.length) (h : Sp t at' j L) (hc : t[j] ≠ 10) : Sp t at' (j + 1) L := by
  obtain ⟨_, h1, h2, h3⟩ := h
  refine ⟨by omega, by omega, h2, ?_⟩
  rw [show j + 1 - at' = (j - at') + 1 by omega, List.take_succ_eq_append_getElem (by rw [List.length_drop]; omega)]
  rw [List.mem_append, not_or]
  refine ⟨h3, ?_⟩
  rw [List.mem_singleton, List.getElem_drop]
  simp only [show at' + (j - at') = j by omega]
  exact fun e => hc e.symm
theorem Sp.cut {t : Tx} {at' j : Nat} {L : List Tx} (hj : j < t.length) (h : Sp t at' j L) (hc : t[j] = 10) : Sp t (j + 1) (j + 1) (L ++ [(t.drop at').take (j - at')]) := by
  obtain ⟨_, h1, h2, h3⟩ := h
  refine ⟨by omega, by omega, ?_, by simp⟩
  rw [h2]
  conv => lhs; rw [drop_mid h1 hj, hc, spl_app _ _ h3]
  simp
theorem Sp.fin {t : Tx} {at' : Nat} {L : List Tx} (h : Sp t at' t.length L) : linesT t = L ∧ restT t = t.drop at' := by
  obtain ⟨_, h1, h2, h3⟩ := h
  have e : (t.drop at').take (t.length - at') = t.drop at' := List.take_of_length_le (by rw [List.length_drop]; omega)
  rw [e] at h3
  rw [spl_one _ h3] at h2
  unfold linesT restT
  rw [h2]
  exact ⟨by simp, by simp⟩
theorem line_le : ∀ (t : Tx), ∀ l ∈ linesT t, l.length ≤ t.length := by
  have h : ∀ (t : Tx), ∀ l ∈ spl t, l.length ≤ t.length := by
    intro s
    induction s with
    | nil => intro p h; simp [spl] at h; subst h; simp
    | cons c r ih =>
      intro p h
      rw [spl_cons] at h
      split at h
      · rcases List.mem_cons.1 h with h | h
        · subst h; simp
        · have := ih p h; simp; omega
      · split at h
        · rw [List.mem_singleton] at h; subst h; simp
        · rename_i q qs hq
          rw [hq] at ih
          rcases List.mem_cons.1 h with h | h
          · subst h
            have := ih q (by simp)
            simp; omega
          · have := ih p (by simp [h])
            simp; omega
  intro t l hl
  exact h t l (List.dropLast_subset _ hl)

/-- One line of the first round, way by way. -/
theorem one_lab_bad {l : Tx} {pl : List (Tx × Nat)} {n : Nat} (h : l.getLast? = some 58) (hn : isNm l.dropLast = false) : one1 l pl n = none := by
  unfold one1; rw [if_pos h, if_neg (fun e => by rw [hn] at e; cases e.1)]
theorem one_lab_old {l : Tx} {pl : List (Tx × Nat)} {n q : Nat} (h : l.getLast? = some 58) (hf : fnd l.dropLast pl = some q) : one1 l pl n = none := by
  unfold one1; rw [if_pos h, if_neg (fun e => by rw [hf] at e; cases e.2)]
theorem one_lab {l : Tx} {pl : List (Tx × Nat)} {n : Nat} (h : l.getLast? = some 58) (hn : isNm l.dropLast = true) (hf : fnd l.dropLast pl = none) : one1 l pl n = some (pl ++ [(l.dropLast, n)], n) := by
  unfold one1; rw [if_pos h, if_pos ⟨hn, hf⟩]
def okB (l : Tx) : Prop := (isWord l = true ∧ (wordNo l).isSome = true) ∨ (isWord l = false ∧ (parse l).isSome = true)
theorem one_no {l : Tx} {pl : List (Tx × Nat)} {n : Nat} (h : l.getLast? ≠ some 58) (hb : ¬ okB l ∨ n = 512) : one1 l pl n = none := by
  unfold one1
  rw [if_neg h, if_neg]
  rintro ⟨h1, h2⟩
  rcases hb with hb | hb
  · apply hb
    unfold okB
    cases hw : isWord l with
    | true => rw [hw, if_pos rfl] at h1; exact .inl ⟨rfl, h1⟩
    | false => rw [hw, if_neg (by simp)] at h1; exact .inr ⟨rfl, h1⟩
  · exact h2 hb
theorem one_yes {l : Tx} {pl : List (Tx × Nat)} {n : Nat} (h : l.getLast? ≠ some 58) (hb : okB l) (hn : n ≠ 512) : one1 l pl n = some (pl, n + 1) := by
  unfold one1
  rw [if_neg h, if_pos]
  refine ⟨?_, hn⟩
  rcases hb with ⟨h1, h2⟩ | ⟨h1, h2⟩
  · rw [h1, if_pos rfl]; exact h2
  · rw [h1, if_neg (by simp)]; exact h2
theorem r1_stop {m n : Nat} {L : List Tx} {pl : List (Tx × Nat)} {j : Nat} {l : Tx} {R : Nat ⊕ (List (Tx × Nat) × Nat)} (hj : j < L.length) (hl : L[j] = l) (hR : round1 m (L.drop j) pl n = R) (h1 : one1 l pl n = none) : R = .inl m := by
  rw [List.drop_eq_getElem_cons hj, hl] at hR
  unfold round1 at hR
  rw [h1] at hR
  exact hR.symm
theorem r1_step {m n n' : Nat} {L : List Tx} {pl pl' : List (Tx × Nat)} {j : Nat} {l : Tx} {R : Nat ⊕ (List (Tx × Nat) × Nat)} (hj : j < L.length) (hl : L[j] = l) (hR : round1 m (L.drop j) pl n = R) (h1 : one1 l pl n = some (pl', n')) : round1 (m + 1) (L.drop (j + 1)) pl' n' = R := by
  rw [List.drop_eq_getElem_cons hj, hl] at hR
  rw [round1] at hR
  rw [h1] at hR
  exact hR
/-- What a line that went right was. -/
theorem one_some {l : Tx} {pl pl' : List (Tx × Nat)} {n n' : Nat} (h : one1 l pl n = some (pl', n')) : (l.getLast? = some 58 ∧ n' = n) ∨ (l.getLast? ≠ some 58 ∧ okB l ∧ n' = n + 1 ∧ n ≠ 512) := by
  by_cases h58 : l.getLast? = some 58
  · unfold one1 at h
    rw [if_pos h58] at h
    split at h
    · cases h; exact .inl ⟨h58, rfl⟩
    · cases h
  · by_cases hb : okB l
    · by_cases hn : n = 512
      · rw [one_no h58 (.inr hn)] at h; cases h
      · rw [one_yes h58 hb hn] at h
        cases h
        exact .inr ⟨h58, hb, rfl, hn⟩
    · rw [one_no h58 (.inl hb)] at h; cases h
theorem r1_ex {m n : Nat} {L : List Tx} {pl : List (Tx × Nat)} {j : Nat} {l : Tx} {x : List (Tx × Nat) × Nat} (hj : j < L.length) (hl : L[j] = l) (hR : round1 m (L.drop j) pl n = .inr x) : ∃ pl' n', one1 l pl n = some (pl', n') ∧ round1 (m + 1) (L.drop (j + 1)) pl' n' = .inr x := by
  cases h1 : one1 l pl n with
  | none =>
    have := r1_stop hj hl hR h1
    cases this
  | some y => exact ⟨y.1, y.2, rfl, r1_step hj hl hR h1⟩
theorem r1_le : ∀ (L : List Tx) (m : Nat) (pl : List (Tx × Nat)) (n : Nat) (x : List (Tx × Nat) × Nat), round1 m L pl n = .inr x → n ≤ 512 → n ≤ x.2 ∧ x.2 ≤ 512
  | [], m, pl, n, x, h, hn => by cases h; exact ⟨Nat.le_refl _, hn⟩
  | l :: r, m, pl, n, x, h, hn => by
    rw [round1] at h
    cases h1 : one1 l pl n with
    | none => rw [h1] at h; cases h
    | some y =>
      rw [h1] at h
      have h2 : n ≤ y.2 ∧ y.2 ≤ 512 := by
        rcases one_some (pl' := y.1) (n' := y.2) h1 with ⟨_, e⟩ | ⟨_, _, e, e2⟩ <;> omega
      have := r1_le r (m + 1) y.1 y.2 x h h2.2
      omega
theorem r1_pl : ∀ (L : List Tx) (m : Nat) (pl : List (Tx × Nat)) (n : Nat) (x : List (Tx × Nat) × Nat), round1 m L pl n = .inr x → n ≤ 512 → (∀ t q, fnd t pl = some q → q ≤ n) → ∀ t q, fnd t x.1 = some q → q ≤ x.2
  | [], m, pl, n, x, h, hn, hp => by cases h; exact hp
  | l :: r, m, pl, n, x, h, hn, hp => by
    rw [round1] at h
    cases h1 : one1 l pl n with
    | none => rw [h1] at h; cases h
    | some y =>
      rw [h1] at h
      have h2 : n ≤ y.2 ∧ y.2 ≤ 512 := by
        rcases one_some (pl' := y.1) (n' := y.2) h1 with ⟨_, e⟩ | ⟨_, _, e, e2⟩ <;> omega
      refine r1_pl r (m + 1) y.1 y.2 x h h2.2 fun t q hq => ?_
      by_cases h58 : l.getLast? = some 58
      · unfold one1 at h1
        rw [if_pos h58] at h1
        split at h1
        · cases h1
          rw [fnd_snoc] at hq
          cases hf : fnd t pl with
          | some qq => rw [hf] at hq; cases hq; exact hp t _ hf
          | none =>
            rw [hf] at hq
            simp only at hq
            split at hq
            · cases hq; exact Nat.le_refl _
            · cases hq
        · cases h1
      · by_cases hb : okB l
        · by_cases hn5 : n = 512
          · rw [one_no h58 (.inr hn5)] at h1; cases h1
          · rw [one_yes h58 hb hn5] at h1
            cases h1
            have := hp t q hq
            show q ≤ n + 1
            omega
        · rw [one_no h58 (.inl hb)] at h1; cases h1
theorem r2_step {m : Nat} {L : List Tx} {pl : List (Tx × Nat)} {j : Nat} {l : Tx} {out o : List Nat} {R : Nat ⊕ List Nat} (hj : j < L.length) (hl : L[j] = l) (hR : round2 pl m (L.drop j) out = R) (h1 : one2 pl l out = some o) : round2 pl (m + 1) (L.drop (j + 1)) o = R := by
  rw [List.drop_eq_getElem_cons hj, hl] at hR
  rw [round2] at hR
  rw [h1] at hR
  exact hR
theorem r2_stop {m : Nat} {L : List Tx} {pl : List (Tx × Nat)} {j : Nat} {l : Tx} {out : List Nat} {R : Nat ⊕ List Nat} (hj : j < L.length) (hl : L[j] = l) (hR : round2 pl m (L.drop j) out = R) (h1 : one2 pl l out = none) : R = .inl m := by
  rw [List.drop_eq_getElem_cons hj, hl] at hR
  unfold round2 at hR
  rw [h1] at hR
  exact hR.symm
theorem two_lab {pl : List (Tx × Nat)} {l : Tx} {out : List Nat} (h : l.getLast? = some 58) : one2 pl l out = some out := by unfold one2; rw [if_pos h]
theorem two_word {pl : List (Tx × Nat)} {l : Tx} {out : List Nat} {v : Nat} (h : l.getLast? ≠ some 58) (hw : isWord l = true) (hv : wordNo l = some v) : one2 pl l out = some (out ++ [v]) := by unfold one2; rw [if_neg h, if_pos hw, hv]; rfl
theorem two_ins {pl : List (Tx × Nat)} {l : Tx} {out : List Nat} {k : Nat} {a b i : Int} (h : l.getLast? ≠ some 58) (hw : isWord l = false) (hp : parse l = some ((k, a, b, i), [])) : one2 pl l out = some (out ++ [encN k a b i]) := by unfold one2; rw [if_neg h, if_neg (by rw [hw]; simp), hp]; simp
theorem two_jump {pl : List (Tx × Nat)} {l lb : Tx} {out : List Nat} {k q : Nat} {a b i : Int} (h : l.getLast? ≠ some 58) (hw : isWord l = false) (hp : parse l = some ((k, a, b, i), lb)) (hl : lb ≠ []) (hf : fnd lb pl = some q) : one2 pl l out = some (out ++ [encN k a b (immOf q out.length)]) := by unfold one2; rw [if_neg h, if_neg (by rw [hw]; simp), hp]; simp only; rw [if_neg hl, hf]
theorem two_lost {pl : List (Tx × Nat)} {l lb : Tx} {out : List Nat} {k : Nat} {a b i : Int} (h : l.getLast? ≠ some 58) (hw : isWord l = false) (hp : parse l = some ((k, a, b, i), lb)) (hl : lb ≠ []) (hf : fnd lb pl = none) : one2 pl l out = none := by unfold one2; rw [if_neg h, if_neg (by rw [hw]; simp), hp]; simp only; rw [if_neg hl, hf]
/-- The last byte of a text. -/
theorem last_at {l : Tx} {S : ByteArray} (hS : st l = S) {m : Nat} (hm : S.size = m + 1) (h : m < S.size) : l.getLast? = some S[m] := by
  subst hS
  have hl : l.length = m + 1 := by rw [← hm, st_size]
  rw [List.getLast?_eq_getElem?, hl]
  have : (st l)[m] = l[m]'(by omega) := by
    show (st l).data[m]'_ = _
    simp [st]
  rw [this]
  simp
theorem cut_last {l : Tx} {S : ByteArray} (hS : st l = S) {m : Nat} (hm : S.size = m + 1) : S.extract 0 m = st l.dropLast := by
  subst hS
  have hl : l.length = m + 1 := by rw [← hm, st_size]
  have := ext_take (st l) 0 m
  rw [Nat.zero_add, st_data, List.drop_zero] at this
  rw [this, List.dropLast_eq_take, hl]
  rfl
theorem isWord_S {l : Tx} {S : ByteArray} (hS : st l = S) : isWord l = (decide (5 < S.size) && ((S.extract 0 5).toList == wordP)) := by
  subst hS
  unfold isWord
  have := ext_take (st l) 0 5
  rw [Nat.zero_add, st_data, List.drop_zero] at this
  rw [this, ByteArray.toList_eq, st_data, st_size]
theorem drop5 {l : Tx} {S : ByteArray} (hS : st l = S) : S.extract 5 S.size = st (l.drop 5) := by
  subst hS
  apply ByteArray.ext
  apply Array.ext'
  rw [ext_data]
  rfl
end Go.Proofs.YtocbilaaklapkaaDoor.Rq
