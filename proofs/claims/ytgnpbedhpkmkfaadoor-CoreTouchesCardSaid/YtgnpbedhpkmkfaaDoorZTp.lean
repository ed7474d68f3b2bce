/-
  Plain: what a step turns, what it hangs on.
-/
import Derived.Test.YtgnpbedhpkmkfaaDoorZPs
namespace Go.Proofs.YtgnpbedhpkmkfaaDoor.Tp
open Go Go.RowKit Kit Bk CoM CoR CoB CoW CoE Ps
set_option linter.unusedVariables false

theorem at_set_ne (b : CoM.Bs) (i v j : Nat) (h : i ≠ j) : at_ (b.set i v) j = at_ b j := by
  unfold at_
  rw [List.getElem?_set, if_neg h]
/-- What traps turns nothing. -/
theorem step_trapped (s : St) (a : CoM.Bs) (h : (stepP s a).2.1 ≠ 0) : (stepP s a).1 = s ∧ (stepP s a).2.2 = a := by
  unfold stepP at h ⊢
  cases hf : fetchP s.pc a with
  | inl t => exact ⟨rfl, rfl⟩
  | inr x =>
    obtain ⟨k, A, B, i⟩ := x
    rw [hf] at h
    dsimp only at h ⊢
    unfold execP at h ⊢
    by_cases h24 : k = 24
    · rw [if_pos h24]; exact ⟨rfl, rfl⟩
    · rw [if_neg h24] at h ⊢
      cases hm : isMem k with
      | true =>
        rw [hm] at h
        simp only [if_true] at h ⊢
        cases hr : rch a (memAt k B i s) (lng k) with
        | true => rw [hr] at h; simp at h
        | false => simp
      | false =>
        rw [hm] at h
        simp only [Bool.false_eq_true, if_false] at h
        split at h <;> exact absurd rfl h
/-- A step turns no byte but those that it writes. -/
theorem step_turns (s : St) (a : CoM.Bs) (i : Nat) (h : at_ (stepP s a).2.2 i ≠ at_ a i) : (touchP s a).2.2 = true ∧ (touchP s a).1 ≤ (i : Int) ∧ (i : Int) < (touchP s a).1 + (touchP s a).2.1 := by
  unfold stepP at h
  unfold touchP
  cases hf : fetchP s.pc a with
  | inl t => rw [hf] at h; exact absurd rfl h
  | inr x =>
    obtain ⟨k, A, B, im⟩ := x
    rw [hf] at h
    dsimp only at h ⊢
    unfold execP at h
    by_cases h24 : k = 24
    · rw [if_pos h24] at h; exact absurd rfl h
    · rw [if_neg h24] at h
      cases hm : isMem k with
      | true =>
        rw [hm] at h
        simp only [if_true] at h ⊢
        cases hr : rch a (memAt k B im s) (lng k) with
        | false => rw [hr] at h; exact absurd rfl h
        | true =>
          rw [hr] at h
          simp only [if_true] at h
          have h0 := (m32_bd (s.r B + m32 im)).1
          have h0' : 0 ≤ memAt k B im s := h0
          generalize memAt k B im s = p at h h0' ⊢
          obtain ⟨q, rfl⟩ := Int.eq_ofNat_of_zero_le h0'
          unfold memP at h
          by_cases h16 : k = 16
          · subst h16
            rw [if_pos rfl] at h
            unfold put4 at h
            simp only [Int.toNat_natCast] at h
            refine ⟨rfl, ?_⟩
            show (q : Int) ≤ i ∧ (i : Int) < q + 4
            rcases Nat.lt_or_ge i q with h1 | h1
            · rw [at_set_ne _ _ _ _ (by omega), at_set_ne _ _ _ _ (by omega), at_set_ne _ _ _ _ (by omega), at_set_ne _ _ _ _ (by omega)] at h; exact absurd rfl h
            · rcases Nat.lt_or_ge i (q + 4) with h2 | h2
              · omega
              · rw [at_set_ne _ _ _ _ (by omega), at_set_ne _ _ _ _ (by omega), at_set_ne _ _ _ _ (by omega), at_set_ne _ _ _ _ (by omega)] at h; exact absurd rfl h
          · rw [if_neg h16] at h
            by_cases h18 : k = 18
            · subst h18
              rw [if_pos rfl] at h
              unfold put1 at h
              simp only [Int.toNat_natCast] at h
              refine ⟨rfl, ?_⟩
              show (q : Int) ≤ i ∧ (i : Int) < q + 1
              by_cases h1 : q = i
              · omega
              · rw [at_set_ne _ _ _ _ h1] at h; exact absurd rfl h
            · rw [if_neg h18] at h; exact absurd rfl h
      | false =>
        rw [hm] at h
        simp only [Bool.false_eq_true, if_false] at h
        split at h <;> exact absurd rfl h
theorem word_near (a c : CoM.Bs) (p : Nat) (h : ∀ j, j < 4 → at_ c (p + j) = at_ a (p + j)) : wordAt c p = wordAt a p := by
  unfold wordAt
  have h0 := h 0 (by decide)
  rw [Nat.add_zero] at h0
  rw [h0, h 1 (by decide), h 2 (by decide), h 3 (by decide)]
/-- A step hangs on no byte but those of its word, and those that it reads. -/
theorem step_near (s : St) (hs : s.Ok) (a c : CoM.Bs) (hl : c.length = a.length) (h1 : ∀ i, i < a.length → s.pc ≤ (i : Int) → (i : Int) < s.pc + 4 → at_ c i = at_ a i)
    (h2 : 0 < (touchP s a).2.1 → ∀ i, i < a.length → (touchP s a).1 ≤ (i : Int) → (i : Int) < (touchP s a).1 + (touchP s a).2.1 → at_ c i = at_ a i) :
    (stepP s c).1 = (stepP s a).1 ∧ (stepP s c).2.1 = (stepP s a).2.1 := by
  have hp0 := hs.p0
  have hF : fetchP s.pc c = fetchP s.pc a := by
    have hW : fetchW s.pc c = fetchW s.pc a := by
      unfold fetchW
      rw [hl]
      split
      · rename_i hc
        rw [word_near a c _ (fun j hj => h1 _ (by omega) (by omega) (by omega))]
      · rfl
    unfold fetchP
    rw [hW]
  unfold stepP
  unfold touchP at h2
  rw [hF]
  cases hf : fetchP s.pc a with
  | inl t => exact ⟨rfl, rfl⟩
  | inr x =>
    obtain ⟨k, A, B, im⟩ := x
    rw [hf] at h2
    dsimp only at h2 ⊢
    unfold execP
    by_cases h24 : k = 24
    · rw [if_pos h24, if_pos h24]; exact ⟨rfl, rfl⟩
    · rw [if_neg h24, if_neg h24]
      cases hm : isMem k with
      | true =>
        rw [hm] at h2
        simp only [if_true] at h2 ⊢
        have hr : rch c (memAt k B im s) (lng k) = rch a (memAt k B im s) (lng k) := by unfold rch; rw [hl]
        rw [hr]
        cases hr2 : rch a (memAt k B im s) (lng k) with
        | false => exact ⟨rfl, rfl⟩
        | true =>
          simp only [if_true]
          have hle : memAt k B im s + lng k ≤ a.length := by
            unfold rch at hr2
            simp only [Bool.and_eq_true, decide_eq_true_eq] at hr2
            exact hr2.1
          have h0 := (m32_bd (s.r B + m32 im)).1
          have h0' : 0 ≤ memAt k B im s := h0
          have hV : memV k (memAt k B im s) (s.r A) c = memV k (memAt k B im s) (s.r A) a := by
            unfold memV
            by_cases h15 : k = 15
            · subst h15
              rw [if_pos rfl, if_pos rfl]
              have e4 : lng 15 = 4 := rfl
              rw [e4] at h2 hle
              rw [word_near a c _ (fun j hj => h2 (by decide) _ (by omega) (by omega) (by omega))]
            · rw [if_neg h15, if_neg h15]
              by_cases h17 : k = 17
              · subst h17
                rw [if_pos rfl, if_pos rfl]
                have e4 : lng 17 = 1 := rfl
                rw [e4] at h2 hle
                rw [h2 (by decide) _ (by omega) (by omega) (by omega)]
              · rw [if_neg h17, if_neg h17]
          rw [hV]
          exact ⟨rfl, trivial⟩
      | false =>
        simp only [Bool.false_eq_true, if_false]
        split <;> exact ⟨rfl, rfl⟩
end Go.Proofs.YtgnpbedhpkmkfaaDoor.Tp
