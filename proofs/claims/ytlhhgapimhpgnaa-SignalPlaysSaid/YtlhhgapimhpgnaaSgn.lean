/-
  SignalOnce in plain words: what is met, round by round.
-/
import Derived.Test.YtlhhgapimhpgnaaSgi
namespace Go.Proofs.Ytlhhgapimhpgnaa.Sgn
open Go Go.RowKit Kit Bk Sga Sgb Sgd Sgh
set_option linter.unusedVariables false

theorem may_setB {s : Sg} (h : may s = true) (b : Bool) : may (setB s b) = true := h
theorem may_sub {s : Sg} {p : Nat} (h : may s = true) (hp : ∀ j, Sga.hs p j = true → Sga.hs s.p j = true) : may (setP s p) = true := by
  have hb := may_bits.1 h
  exact may_bits.2 ⟨fun j hj => hb.1 j (hp j hj), hb.2⟩
theorem clrd_sub {s : Sg} (hk : s.Ok) {k : Nat} (hk2 : k < 32) (j : Nat) (h : Sga.hs (clrd s k) j = true) : Sga.hs s.p j = true := by
  rw [hs_clrd hk k hk2] at h
  exact (Bool.and_eq_true_iff.1 h).1
theorem nN_le (s : Sg) : nN s ≤ 15 := by
  unfold nN
  split
  · by_cases h : fst s 15 = 0
    · omega
    · exact (fst_some h).2.1
  · omega
theorem ft_cases (s : Sg) (n : Nat) : ft s n = 0 ∨ ft s n = 1 ∨ ft s n = 2 := by
  unfold ft
  split
  · exact .inl rfl
  · split
    · exact .inr (.inl rfl)
    · exact .inr (.inr rfl)
/-- What is so ahead of a round. -/
structure Oi (s0 : Sg) (all met last : Nat) (s : Sg) : Prop where
  ok : s.Ok
  may : may s = true
  b : s.b = false
  m : s.m = s0.m
  h : s.h = s0.h
  mt : met < 4294967296
  ml : ∀ j, Sga.hs met j = true → j ≤ last
  sub : ∀ j, Sga.hs s.p j = true → Sga.hs all j = true
  gone : ∀ j, Sga.hs all j = true → Sga.hs s.p j = true ∨ Sga.hs met j = true ∨ ft s j = 0
  low : ∀ j, j ≤ last → dl s j = false
theorem oi0 {s : Sg} (hk : s.Ok) (h : may s = true) : Oi (setB s false) s.p 0 0 (setB s false) :=
  ⟨Ok.setB hk _, h, rfl, rfl, rfl, by decide, fun j hj => (by rw [hs_zero] at hj; cases hj), fun j hj => hj, fun j hj => .inl hj, fun j hj => by
    obtain rfl : j = 0 := by omega
    rw [dl_eq (s := setB s false) (Ok.setB hk _) h]
    cases h0 : Sga.hs (setB s false).p 0
    · rfl
    · have := ((may_bits.1 h).1 0 h0).1
      omega⟩
/-- The state behind a round in which q is told. -/
theorem Oi.next {s0 s : Sg} {all met last q : Nat} (h : Oi s0 all met last s) (hq : nN s = q) (hq0 : q ≠ 0) :
    last < q ∧ q ≤ 15 ∧ Sga.hs met q = false ∧ Sga.hs all q = true ∧ Sga.hs s.m q = false ∧ (nB s = 1 ∨ nB s = 2) ∧ nS s = setB (setP s (clrd s q)) (nB s == 2) ∧ Sga.may (setP s (clrd s q)) = true ∧ Oi s0 all (ad met q) q (setP s (clrd s q)) := by
  have hn : fst s 15 = q := by unfold nN at hq; rw [if_pos h.may] at hq; exact hq
  have h1 := fst_some (s := s) (k := 15) (by rw [hn]; exact hq0)
  rw [hn] at h1
  obtain ⟨g1, g2, g3, g4, g5⟩ := h1
  have hd := g3
  rw [dl_eq h.ok h.may] at hd
  obtain ⟨hp, hx⟩ := Bool.and_eq_true_iff.1 hd
  have hlt : last < q := Nat.lt_of_not_le fun hle => by
    rw [h.low q hle] at g3; cases g3
  have hB : nB s = ft s q := by unfold nB; rw [if_neg (by omega), hq]
  have hm : Sga.hs s.m q = false := by
    by_cases e : q = 9
    · subst e
      cases h9 : Sga.hs s.m 9
      · rfl
      · exact absurd rfl ((may_bits.1 h.may).2.1 9 h9).2.2
    · rw [decide_eq_false e, Bool.false_or] at hx
      simpa using (Bool.and_eq_true_iff.1 hx).1
  have hms := may_sub h.may (p := clrd s q) (clrd_sub h.ok (by omega))
  refine ⟨hlt, g2, ?_, h.sub q hp, hm, ?_, ?_, hms, ?_⟩
  · cases e : Sga.hs met q
    · rfl
    · have := h.ml q e
      omega
  · rw [hB]
    rcases ft_cases s q with e | e | e
    · exact absurd e g4
    · exact .inl e
    · exact .inr e
  · unfold nS
    rw [if_pos h.may, if_neg (by omega), hq, h.b, Bool.false_or]
  · refine ⟨Ok.setP h.ok (clrd_lt h.ok q), hms, h.b, h.m, h.h, ad_lt h.mt (by omega), fun j hj => ?_, fun j hj => h.sub j (clrd_sub h.ok (by omega) j hj), fun j hj => ?_, fun j hj => ?_⟩
    · rw [hs_ad] at hj
      cases e : Sga.hs met j
      · rw [e, Bool.false_or] at hj
        have := of_decide_eq_true hj
        omega
      · have := h.ml j e
        omega
    · show Sga.hs (clrd s q) j = true ∨ Sga.hs (ad met q) j = true ∨ ft s j = 0
      rw [hs_ad]
      rcases h.gone j hj with e | e | e
      · by_cases ej : q = j
        · right; left; simp [ej]
        · rw [hs_clrd h.ok q (by omega), e]
          cases hdj : dl s j
          · left; simp
          · by_cases hjq : j ≤ q
            · by_cases hj1 : 1 ≤ j
              · right; right
                exact g5 j hj1 (by omega) hdj
              · left; simp [hj1]
            · left; simp [hjq]
      · right; left; simp [e]
      · exact .inr (.inr e)
    · rw [dl_eq (Ok.setP h.ok (clrd_lt h.ok q)) hms]
      show (Sga.hs (clrd s q) j && (decide (j = 9) || (!Sga.hs s.m j && !s.b))) = false
      rw [hs_clrd h.ok q (by omega)]
      have hdj := dl_eq h.ok h.may j
      cases hp0 : Sga.hs s.p j
      · simp
      · rw [hp0, Bool.true_and] at hdj
        rw [← hdj]
        cases hd2 : dl s j
        · simp
        · have hj1 : 1 ≤ j := ((may_bits.1 h.may).1 j hp0).1
          simp [hj, hj1]
/-- The state behind the last round: none is told. -/
theorem Oi.done {s0 s : Sg} {all met last : Nat} (h : Oi s0 all met last s) (hq : nN s = 0) :
    nS s = setP s (clrd s 15) ∧ nN (setP s (clrd s 15)) = 0 ∧ (setP s (clrd s 15)).Ok ∧
      ∀ j, 1 ≤ j → j ≤ 15 → (Sga.hs (clrd s 15) j && !Sga.hs s.m j) = false ∧ (Sga.hs all j && !Sga.hs s.m j && !(ft s j == 0) && !Sga.hs met j) = false := by
  have hn : fst s 15 = 0 := by unfold nN at hq; rw [if_pos h.may] at hq; exact hq
  have hz := fst_zero.1 hn
  have hms := may_sub h.may (p := clrd s 15) (clrd_sub h.ok (by omega))
  have hbits : ∀ j, 1 ≤ j → j ≤ 15 → Sga.hs (clrd s 15) j = true → dl s j = false := fun j h1 h2 h3 => by
    rw [hs_clrd h.ok 15 (by omega)] at h3
    cases hd : dl s j
    · rfl
    · rw [hd] at h3; simp [h1, h2] at h3
  have hms9 : Sga.hs s.m 9 = false := by
    cases h9 : Sga.hs s.m 9
    · rfl
    · exact absurd rfl ((may_bits.1 h.may).2.1 9 h9).2.2
  refine ⟨by unfold nS; rw [if_pos h.may, if_pos hq], ?_, Ok.setP h.ok (clrd_lt h.ok 15), fun j h1 h2 => ⟨?_, ?_⟩⟩
  · have : fst (setP s (clrd s 15)) 15 = 0 := fst_zero.2 fun n h1 h2 h3 => by
      rw [dl_eq (Ok.setP h.ok (clrd_lt h.ok 15)) hms] at h3
      obtain ⟨h4, h5⟩ := Bool.and_eq_true_iff.1 h3
      have h4 : Sga.hs (clrd s 15) n = true := h4
      have := hbits n h1 h2 h4
      rw [dl_eq h.ok h.may, clrd_sub h.ok (by omega) n h4, Bool.true_and] at this
      rw [show (decide (n = 9) || (!Sga.hs (setP s (clrd s 15)).m n && !(setP s (clrd s 15)).b)) = (decide (n = 9) || (!Sga.hs s.m n && !s.b)) from rfl, this] at h5
      cases h5
    unfold nN
    rw [if_pos hms, this]
  · cases hc : Sga.hs (clrd s 15) j
    · rfl
    · have := hbits j h1 h2 hc
      rw [dl_eq h.ok h.may, clrd_sub h.ok (by omega) j hc, h.b] at this
      simp at this
      simp [this.2]
  · cases ha : Sga.hs all j
    · rfl
    · cases hm : Sga.hs s.m j
      · rcases h.gone j ha with e | e | e
        · have hd : dl s j = true := by rw [dl_eq h.ok h.may, e, hm, h.b]; simp
          rw [hz j h1 h2 hd]; rfl
        · rw [e]; simp
        · rw [e]; rfl
      · simp
/-- A bit of a word, as the law reads it. -/
theorem bit_no {x i : Nat} (hx : x < 4294967296) (h : Sga.hs x i = false) : bits .and .u32 ((x : Int) / 2 ^ i) 1 = 0 := by
  rw [Nums.bit_of hx]
  rw [← hs_div] at h
  have : x / 2 ^ i % 2 < 2 := Nat.mod_lt _ (by decide)
  have h : x / 2 ^ i % 2 ≠ 1 := by simpa using h
  omega
theorem bit_yes {x i : Nat} (hx : x < 4294967296) (h : Sga.hs x i = true) : bits .and .u32 ((x : Int) / 2 ^ i) 1 = 1 := by
  rw [Nums.bit_of hx]
  rw [← hs_div] at h
  have h : x / 2 ^ i % 2 = 1 := by simpa using h
  omega
theorem or_bit {x i : Nat} (hx : x < 4294967296) (hi : i < 32) : bits .or .u32 (x : Int) ((2 : Int) ^ i % 4294967296) = ((ad x i : Nat) : Int) := by
  have e : (2 : Int) ^ i = ((bt i : Nat) : Int) := by unfold bt; simp
  have := bt_lt hi
  rw [e, show ((bt i : Nat) : Int) % 4294967296 = ((bt i : Nat) : Int) by omega]
  exact u32_or_nat _ _ hx this
end Go.Proofs.Ytlhhgapimhpgnaa.Sgn
