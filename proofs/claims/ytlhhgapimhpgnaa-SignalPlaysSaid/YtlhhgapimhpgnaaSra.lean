/-
  The document's own: Has, without, May.
-/
import Derived.Test.YtlhhgapimhpgnaaSgn
namespace Go.Proofs.Ytlhhgapimhpgnaa.Sra
open Go Go.RowKit Kit Bk Sga Sgb Sgc Sgd Sgn
set_option linter.unusedVariables false
attribute [local go_sem ↓] lds_wrap sts_wrap eqv_wrap nev_wrap

theorem has_any (w : World) (x n : Nat) (hx : x < 4294967296) (hn : n < 32) :
    Calls Try.prog 30 #[uv x, .int .i64 (n : Int)] w fun e w' => e = .returned (.bool (Sga.hs x n)) ∧ w = w' := by
  have h0 : (0 : Int) ≤ (n : Int) := by omega
  have h1 : (n : Int) < 32 := by omega
  cases h : Sga.hs x n
  · have e1 := bit_no hx h
    clear h hx hn
    go_enter Try.func30, Try.ntmps30
    go_wp2
    go_ret
    exact ⟨rfl, rfl⟩
  · have e1 := bit_yes hx h
    clear h hx hn
    go_enter Try.func30, Try.ntmps30
    go_wp2
    go_ret
    exact ⟨rfl, rfl⟩
theorem wrap_u32 {a : Int} (h1 : 0 ≤ a) (h2 : a < 4294967296) : a % 4294967296 = a := by omega
set_option maxHeartbeats 1000000 in
theorem without_any (w : World) (s : Sg) (hs : s.Ok) (n : Nat) (hn : n < 32) :
    Calls Try.prog 31 #[cv s, .int .i64 (n : Int)] w fun e w' => e = .returned (cv (setP s (clr s.p n))) ∧ Below w.heap.size w w' := by
  have A0 := at0 w s
  have HH := Lib.hid (fun w => has_any w s.p n hs.p hn)
  have n0 : (0 : Int) ≤ (n : Int) := by omega
  have n1 : (n : Int) < 32 := by omega
  have q0 := cs_p s
  have hc := clr_sub hs.p hn
  cases hb : Sga.hs s.p n
  · rw [hb, if_neg (by decide)] at hc
    rw [hc, setP_same]
    obtain ⟨l1, w2, l2, v2, d2⟩ := A0.tail
    have H2 := Lib.hid (And.intro v2 d2)
    rw [hb] at HH
    clear A0 v2 d2 hc hb hs hn
    go_enter Try.func31, Try.ntmps31
    go_wp2_with (first | (go_at_call 30; (with_reducible refine (HH.out _).mono ?_); rintro e w1 ⟨rfl, rfl⟩))
    refine bodyPost_ret (v := cv s) ?_ rfl ⟨rfl, H2.out.2⟩
    exact res_s rfl _ _ (w.heap.size + 1) s rfl H2.out.1
  · rw [hb, if_pos rfl] at hc
    have hle := hs_le hb
    have e1 : ((s.p : Int) - (2 : Int) ^ n % 4294967296) % 4294967296 = ((clr s.p n : Nat) : Int) := by
      have e : (2 : Int) ^ n = ((bt n : Nat) : Int) := by unfold bt; simp
      have := bt_lt hn
      have := hs.p
      rw [e, hc]
      omega
    have q1 := cs_setP s (clr s.p n)
    have A1 : At w (setP s (clr s.p n)) _ := ((at0 w (setP s (clr s.p n))).drew)
    obtain ⟨l1, w2, l2, v2, d2⟩ := A1.tail
    have H2 := Lib.hid (And.intro v2 d2)
    rw [hb] at HH
    clear A0 A1 v2 d2 hc hb hs hn hle
    generalize clr s.p n = c at *
    generalize setP s c = t at *
    go_enter Try.func31, Try.ntmps31
    go_wp2_with (first | (go_at_call 30; (with_reducible refine (HH.out _).mono ?_); rintro e w1 ⟨rfl, rfl⟩))
    go_region
    go_wp2
    refine bodyPost_ret (v := cv t) ?_ rfl ⟨rfl, H2.out.2⟩
    exact res_s rfl _ _ (w.heap.size + 1) t rfl H2.out.1
/-- What forbids a signal's bits. -/
def bad (s : Sg) (j : Nat) : Bool := ((decide (j < 1) || decide (15 < j)) && (Sga.hs s.p j || Sga.hs s.m j)) || (decide (j = 9) && Sga.hs s.m j)
theorem may_bad {s : Sg} (hk : s.Ok) : may s = true ↔ (∀ j, j < 32 → bad s j = false) ∧ s.h 0 = 0 ∧ s.h 9 = 0 := by
  rw [may_bits]
  constructor
  · rintro ⟨h1, h2, h3⟩
    refine ⟨fun j hj => ?_, h3⟩
    unfold bad
    cases hp : Sga.hs s.p j
    · cases hm : Sga.hs s.m j
      · simp
      · have := h2 j hm
        simp; omega
    · have := h1 j hp
      cases hm : Sga.hs s.m j
      · simp; omega
      · have := h2 j hm
        simp; omega
  · rintro ⟨h1, h3⟩
    have hlt : ∀ x j, x < 4294967296 → Sga.hs x j = true → j < 32 := fun x j hx hj => by
      by_cases h : j < 32
      · exact h
      · rw [hs_ge hx (by omega)] at hj; cases hj
    refine ⟨fun j hj => ?_, fun j hj => ?_, h3⟩
    · have := h1 j (hlt _ _ hk.p hj)
      unfold bad at this
      rw [hj] at this
      simp at this
      omega
    · have := h1 j (hlt _ _ hk.m hj)
      unfold bad at this
      rw [hj] at this
      simp at this
      omega
set_option maxRecDepth 100000 in
set_option maxHeartbeats 4000000 in
theorem may_any (w : World) (s : Sg) (hs : s.Ok) :
    Calls Try.prog 15 #[cv s] w fun e w' => e = .returned (.bool (may s)) ∧ Below w.heap.size w w' := by
  obtain ⟨r, hr⟩ : ∃ r, may s = r := ⟨_, rfl⟩
  rw [hr]
  have HR := Lib.hid hr
  clear hr
  obtain ⟨v0, d0⟩ := one_box w s
  obtain ⟨w1, hw1⟩ : ∃ w1, w.alloc (.cells (cs s) 25) = w1 := ⟨_, rfl⟩
  rw [hw1] at v0 d0
  have cp := v0.p0
  have cm := v0.m1
  have c0 := v0.h2 (k := 0) (by omega)
  have c9 := v0.h2 (k := 9) (by omega)
  have HD := Lib.hid d0
  have HP := Lib.hid (fun w n hn => has_any w s.p n hs.p hn)
  have HM := Lib.hid (fun w n hn => has_any w s.m n hs.m hn)
  have HY := Lib.hid (may_bad hs)
  clear v0 d0 hs
  go_enter Try.func15, Try.ntmps15
  go_wp2
  clear hw1
  go_loopw [3] (fun i wr => ∃ j : Nat, j ≤ 32 ∧ i = .int .i64 (j : Int) ∧ wr = w1 ∧ Hid (∀ k, k < j → bad s k = false)) (fun i _ => 32 - (intOf i).toNat)
  case atStart => exact ⟨0, Nat.zero_le _, rfl, rfl, Lib.hid (fun k hk => by omega)⟩
  case round =>
    obtain ⟨j, hj, rfl, rfl, hb⟩ := hrel
    by_cases hlt : j < 32
    · have hjI : (j : Int) < 32 := by omega
      have hj0 : (0 : Int) ≤ (j : Int) := by omega
      have HP1 := Lib.hid (fun w => HP.out w j hlt)
      have HM1 := Lib.hid (fun w => HM.out w j hlt)
      have hbad : bad s j = (((decide (j < 1) || decide (15 < j)) && (Sga.hs s.p j || Sga.hs s.m j)) || (decide (j = 9) && Sga.hs s.m j)) := rfl
      generalize Sga.hs s.p j = P at *
      generalize Sga.hs s.m j = M at *
      have HBd := Lib.hid hbad
      have HLt := Lib.hid hlt
      clear hbad hj
      by_cases h1 : j < 1
      · skip
        have a1 : decide ((j : Int) < 1) = true := decide_eq_true (by omega)
        have b1 : decide (j < 1) = true := decide_eq_true (by omega)
        have a15 : decide ((15 : Int) < (j : Int)) = false := decide_eq_false (by omega)
        have b15 : decide (15 < j) = false := decide_eq_false (by omega)
        have a9 : ((j : Int) == 9) = false := beq_eq_false_iff_ne.2 (by omega)
        have b9 : decide (j = 9) = false := decide_eq_false (by omega)
        have HK := Lib.hid (And.intro b1 (And.intro b15 b9))
        clear h1 hlt b1 b15 b9
        cases P
        · cases M
          · skip
            have hg : bad s j = false := by rw [HBd.out]; simp only [HK.out]; simp
            have HG := Lib.hid hg
            clear hg
            go_wp2_with (first | (go_at_call 30; (with_reducible refine (HP1.out _).mono ?_); rintro e w2 ⟨rfl, rfl⟩) | (go_at_call 30; (with_reducible refine (HM1.out _).mono ?_); rintro e w2 ⟨rfl, rfl⟩))
            go_roundw
            case rel => exact ⟨j + 1, by have := HLt.out; omega, by go_num, trivial, Lib.hid (fun k hk => by
              by_cases e : k = j
              · rw [e]; exact HG.out
              · exact hb.out k (by omega))⟩
            case measure => have := HLt.out; simp [intOf]; omega
          · skip
            have hm : may s = false := by
              cases e : may s
              · rfl
              · have := (HY.out.1 e).1 j HLt.out
                rw [HBd.out] at this
                revert this
                simp only [HK.out]
                simp
            have HMm := Lib.hid hm
            clear hm
            go_wp2_with (first | (go_at_call 30; (with_reducible refine (HP1.out _).mono ?_); rintro e w2 ⟨rfl, rfl⟩) | (go_at_call 30; (with_reducible refine (HM1.out _).mono ?_); rintro e w2 ⟨rfl, rfl⟩))
            go_ret
            exact ⟨by rw [← HR.out, HMm.out]; rfl, HD.out⟩
        · skip
          have hm : may s = false := by
            cases e : may s
            · rfl
            · have := (HY.out.1 e).1 j HLt.out
              rw [HBd.out] at this
              revert this
              simp only [HK.out]
              simp
          have HMm := Lib.hid hm
          clear hm
          go_wp2_with (first | (go_at_call 30; (with_reducible refine (HP1.out _).mono ?_); rintro e w2 ⟨rfl, rfl⟩) | (go_at_call 30; (with_reducible refine (HM1.out _).mono ?_); rintro e w2 ⟨rfl, rfl⟩))
          go_ret
          exact ⟨by rw [← HR.out, HMm.out]; rfl, HD.out⟩
      · by_cases h15 : 15 < j
        · skip
          have a1 : decide ((j : Int) < 1) = false := decide_eq_false (by omega)
          have b1 : decide (j < 1) = false := decide_eq_false (by omega)
          have a15 : decide ((15 : Int) < (j : Int)) = true := decide_eq_true (by omega)
          have b15 : decide (15 < j) = true := decide_eq_true (by omega)
          have a9 : ((j : Int) == 9) = false := beq_eq_false_iff_ne.2 (by omega)
          have b9 : decide (j = 9) = false := decide_eq_false (by omega)
          have HK := Lib.hid (And.intro b1 (And.intro b15 b9))
          clear h1 h15 hlt b1 b15 b9
          cases P
          · cases M
            · skip
              have hg : bad s j = false := by rw [HBd.out]; simp only [HK.out]; simp
              have HG := Lib.hid hg
              clear hg
              go_wp2_with (first | (go_at_call 30; (with_reducible refine (HP1.out _).mono ?_); rintro e w2 ⟨rfl, rfl⟩) | (go_at_call 30; (with_reducible refine (HM1.out _).mono ?_); rintro e w2 ⟨rfl, rfl⟩))
              go_roundw
              case rel => exact ⟨j + 1, by have := HLt.out; omega, by go_num, trivial, Lib.hid (fun k hk => by
                by_cases e : k = j
                · rw [e]; exact HG.out
                · exact hb.out k (by omega))⟩
              case measure => have := HLt.out; simp [intOf]; omega
            · skip
              have hm : may s = false := by
                cases e : may s
                · rfl
                · have := (HY.out.1 e).1 j HLt.out
                  rw [HBd.out] at this
                  revert this
                  simp only [HK.out]
                  simp
              have HMm := Lib.hid hm
              clear hm
              go_wp2_with (first | (go_at_call 30; (with_reducible refine (HP1.out _).mono ?_); rintro e w2 ⟨rfl, rfl⟩) | (go_at_call 30; (with_reducible refine (HM1.out _).mono ?_); rintro e w2 ⟨rfl, rfl⟩))
              go_ret
              exact ⟨by rw [← HR.out, HMm.out]; rfl, HD.out⟩
          · skip
            have hm : may s = false := by
              cases e : may s
              · rfl
              · have := (HY.out.1 e).1 j HLt.out
                rw [HBd.out] at this
                revert this
                simp only [HK.out]
                simp
            have HMm := Lib.hid hm
            clear hm
            go_wp2_with (first | (go_at_call 30; (with_reducible refine (HP1.out _).mono ?_); rintro e w2 ⟨rfl, rfl⟩) | (go_at_call 30; (with_reducible refine (HM1.out _).mono ?_); rintro e w2 ⟨rfl, rfl⟩))
            go_ret
            exact ⟨by rw [← HR.out, HMm.out]; rfl, HD.out⟩
        · by_cases h9 : j = 9
          · skip
            have a1 : decide ((j : Int) < 1) = false := decide_eq_false (by omega)
            have b1 : decide (j < 1) = false := decide_eq_false (by omega)
            have a15 : decide ((15 : Int) < (j : Int)) = false := decide_eq_false (by omega)
            have b15 : decide (15 < j) = false := decide_eq_false (by omega)
            have a9 : ((j : Int) == 9) = true := beq_iff_eq.2 (by omega)
            have b9 : decide (j = 9) = true := decide_eq_true (by omega)
            have HK := Lib.hid (And.intro b1 (And.intro b15 b9))
            clear h1 h15 h9 hlt b1 b15 b9
            cases M
            · skip
              have hg : bad s j = false := by rw [HBd.out]; simp only [HK.out]; simp
              have HG := Lib.hid hg
              clear hg
              go_wp2_with (first | (go_at_call 30; (with_reducible refine (HP1.out _).mono ?_); rintro e w2 ⟨rfl, rfl⟩) | (go_at_call 30; (with_reducible refine (HM1.out _).mono ?_); rintro e w2 ⟨rfl, rfl⟩))
              go_roundw
              case rel => exact ⟨j + 1, by have := HLt.out; omega, by go_num, trivial, Lib.hid (fun k hk => by
                by_cases e : k = j
                · rw [e]; exact HG.out
                · exact hb.out k (by omega))⟩
              case measure => have := HLt.out; simp [intOf]; omega
            · skip
              have hm : may s = false := by
                cases e : may s
                · rfl
                · have := (HY.out.1 e).1 j HLt.out
                  rw [HBd.out] at this
                  revert this
                  simp only [HK.out]
                  simp
              have HMm := Lib.hid hm
              clear hm
              go_wp2_with (first | (go_at_call 30; (with_reducible refine (HP1.out _).mono ?_); rintro e w2 ⟨rfl, rfl⟩) | (go_at_call 30; (with_reducible refine (HM1.out _).mono ?_); rintro e w2 ⟨rfl, rfl⟩))
              go_ret
              exact ⟨by rw [← HR.out, HMm.out]; rfl, HD.out⟩
          · skip
            have a1 : decide ((j : Int) < 1) = false := decide_eq_false (by omega)
            have b1 : decide (j < 1) = false := decide_eq_false (by omega)
            have a15 : decide ((15 : Int) < (j : Int)) = false := decide_eq_false (by omega)
            have b15 : decide (15 < j) = false := decide_eq_false (by omega)
            have a9 : ((j : Int) == 9) = false := beq_eq_false_iff_ne.2 (by omega)
            have b9 : decide (j = 9) = false := decide_eq_false (by omega)
            have HK := Lib.hid (And.intro b1 (And.intro b15 b9))
            clear h1 h15 h9 hlt b1 b15 b9
            have hg : bad s j = false := by rw [HBd.out]; simp only [HK.out]; simp
            have HG := Lib.hid hg
            clear hg
            go_wp2_with (first | (go_at_call 30; (with_reducible refine (HP1.out _).mono ?_); rintro e w2 ⟨rfl, rfl⟩) | (go_at_call 30; (with_reducible refine (HM1.out _).mono ?_); rintro e w2 ⟨rfl, rfl⟩))
            go_roundw
            case rel => exact ⟨j + 1, by have := HLt.out; omega, by go_num, trivial, Lib.hid (fun k hk => by
              by_cases e : k = j
              · rw [e]; exact HG.out
              · exact hb.out k (by omega))⟩
            case measure => have := HLt.out; simp [intOf]; omega
    · obtain rfl : j = 32 := by omega
      have hnb := hb.out
      clear hb
      by_cases h0 : s.h 0 = 0
      · by_cases h9 : s.h 9 = 0
        · have hm : may s = true := HY.out.2 ⟨hnb, h0, h9⟩
          have HMm := Lib.hid hm
          have e0 : ((s.h 0 : Int) == 0) = true := beq_iff_eq.2 (by omega)
          have e9 : ((s.h 9 : Int) == 0) = true := beq_iff_eq.2 (by omega)
          clear h0 h9 hm hnb hlt hj
          go_wp2
          go_ret
          exact ⟨by rw [← HR.out, HMm.out]; rfl, HD.out⟩
        · have hm : may s = false := by
            cases e : may s
            · rfl
            · exact absurd (HY.out.1 e).2.2 h9
          have HMm := Lib.hid hm
          have e0 : ((s.h 0 : Int) == 0) = true := beq_iff_eq.2 (by omega)
          have e9 : ((s.h 9 : Int) == 0) = false := beq_eq_false_iff_ne.2 (by omega)
          clear h0 h9 hm hnb hlt hj
          go_wp2
          go_ret
          exact ⟨by rw [← HR.out, HMm.out]; rfl, HD.out⟩
      · have hm : may s = false := by
          cases e : may s
          · rfl
          · exact absurd (HY.out.1 e).2.1 h0
        have HMm := Lib.hid hm
        have e0 : ((s.h 0 : Int) == 0) = false := beq_eq_false_iff_ne.2 (by omega)
        clear h0 hm hnb hlt hj
        go_wp2
        go_ret
        exact ⟨by rw [← HR.out, HMm.out]; rfl, HD.out⟩
end Go.Proofs.Ytlhhgapimhpgnaa.Sra
