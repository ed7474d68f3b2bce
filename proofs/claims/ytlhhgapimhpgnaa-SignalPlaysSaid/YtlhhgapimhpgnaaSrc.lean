/-
  The document's own: Next.
-/
import Derived.Test.YtlhhgapimhpgnaaSrb
namespace Go.Proofs.Ytlhhgapimhpgnaa.Src
open Go Go.RowKit Kit Bk Sga Sgb Sgc Sgd Sgn Sra Srb
set_option linter.unusedVariables false
attribute [local go_sem ↓] lds_wrap sts_wrap eqv_wrap nev_wrap

theorem clrd_yes {s : Sg} {k : Nat} (h : dl s (k + 1) = true) : clrd s (k + 1) = clr (clrd s k) (k + 1) := if_pos h
theorem clrd_no {s : Sg} {k : Nat} (h : dl s (k + 1) = false) : clrd s (k + 1) = clrd s k := if_neg (by simp [h])
theorem fst_pass {s : Sg} {k : Nat} (h0 : fst s k = 0) (h : dl s (k + 1) = true → ft s (k + 1) = 0) : fst s (k + 1) = 0 := fst_zero.2 fun n h1 h2 h3 => by
  by_cases e : n ≤ k
  · exact fst_zero.1 h0 n h1 e h3
  · obtain rfl : n = k + 1 := by omega
    exact h h3
theorem next_at {s : Sg} {k : Nat} (hm : may s = true) (h0 : fst s k = 0) (hd : dl s (k + 1) = true) (hf : ft s (k + 1) ≠ 0) (hk : k + 1 ≤ 15) :
    nN s = k + 1 ∧ nB s = ft s (k + 1) ∧ nS s = setB (setP s (clr (clrd s k) (k + 1))) (s.b || ft s (k + 1) == 2) := by
  have h1 : fst s (k + 1) = k + 1 := by
    conv => lhs; unfold fst
    rw [if_neg (by simpa using h0), if_pos ⟨hd, hf⟩]
  have h2 := fst_up (s := s) (k := k + 1) (by rw [h1]; omega) (15 - (k + 1))
  rw [show k + 1 + (15 - (k + 1)) = 15 by omega, h1] at h2
  have hn : nN s = k + 1 := by unfold nN; rw [if_pos hm, h2]
  have hb : nB s = ft s (k + 1) := by unfold nB; rw [if_neg (by omega), hn]
  refine ⟨hn, hb, ?_⟩
  unfold nS
  rw [if_pos hm, if_neg (by omega), hb, hn, clrd_yes hd]
theorem next_end {s : Sg} (hm : may s = true) (h0 : fst s 15 = 0) : nN s = 0 ∧ nB s = 0 ∧ nS s = setP s (clrd s 15) := by
  have hn : nN s = 0 := by unfold nN; rw [if_pos hm, h0]
  refine ⟨hn, by unfold nB; rw [if_pos hn], ?_⟩
  unfold nS
  rw [if_pos hm, if_pos hn]

theorem rnext_no (w : World) (s : Sg) (hs : s.Ok) (h : may s = false) :
    Calls Try.prog 11 #[cv s] w fun e w' => e = .returned (.tuple #[.int .i64 0, .int .i64 0, cv s]) ∧ Below w.heap.size w w' := by
  have l0 := At.ld0 w s
  have HC := Lib.hid (fun w => may_any w s hs)
  have HA := Lib.hid (at0 w s)
  rw [h] at HC
  clear h
  go_enter Try.func11, Try.ntmps11
  go_wp2_with (first | (go_at_call 15; (with_reducible refine (HC.out _).mono ?_); rintro e w1 ⟨rfl, hb1⟩; obtain ⟨l1, w2, l2, v2, d2⟩ := (HA.out.below hb1).drew.tail; have H2 := Lib.hid (And.intro v2 d2); clear v2 d2 hb1) | fail)
  go_region
  go_wp2
  refine bodyPost_ret (v := .tuple #[.int .i64 0, .int .i64 0, cv s]) ?_ rfl ⟨rfl, H2.out.2⟩
  exact res_tts rfl _ _ (w.heap.size + 1) s _ _ rfl rfl rfl H2.out.1

set_option maxRecDepth 100000 in
set_option maxHeartbeats 8000000 in
theorem rnext_yes (w : World) (s : Sg) (hs : s.Ok) (h : may s = true) :
    Calls Try.prog 11 #[cv s] w fun e w' => e = .returned (.tuple #[.int .i64 (nN s : Nat), .int .i64 (nB s : Nat), cv (nS s)]) ∧ Below w.heap.size w w' := by
  have l0 := At.ld0 w s
  have HC := Lib.hid (fun w => may_any w s hs)
  have HA := Lib.hid (at0 w s)
  rw [h] at HC
  have HX := Lib.hid (And.intro hs h)
  obtain ⟨N, hN⟩ : ∃ N, nN s = N := ⟨_, rfl⟩
  obtain ⟨B, hB⟩ : ∃ B, nB s = B := ⟨_, rfl⟩
  obtain ⟨S, hS⟩ : ∃ S, nS s = S := ⟨_, rfl⟩
  rw [hN, hB, hS]
  have HNS := Lib.hid (And.intro hN (And.intro hB hS))
  clear hs h hN hB hS
  go_enter Try.func11, Try.ntmps11
  go_wp2_with (first | (go_at_call 15; (with_reducible refine (HC.out _).mono ?_); rintro e w1 ⟨rfl, hb1⟩; have A1 := Lib.hid (HA.out.below hb1); clear hb1) | fail)
  clear l0
  go_loopw [6] (fun i wr => ∃ (k : Nat) (z : Int), k ≤ 15 ∧ z = (k : Int) + 1 ∧ i = .int .i64 z ∧ At w (setP s (clrd s k)) wr ∧ Hid (fst s k = 0)) (fun i _ => 16 - (intOf i).toNat)
  case atStart => exact ⟨0, 1, Nat.zero_le _, rfl, rfl, A1.out, Lib.hid rfl⟩
  case round =>
    obtain ⟨k, z, hk, hz, rfl, hA, hF⟩ := hrel
    by_cases hlt : k < 15
    · have hz1 : z ≤ 15 := by omega
      have hz0 : 1 ≤ z := by omega
      have hz2 : z < 16 := by omega
      have hzk : z = ((k + 1 : Nat) : Int) := by omega
      have hdl := dl_eq HX.out.1 HX.out.2 (k + 1)
      have hpc : Sga.hs (clrd s k) (k + 1) = Sga.hs s.p (k + 1) := by
        rw [hs_clrd HX.out.1 k (by omega)]
        simp
      have hcl := clrd_lt HX.out.1 k
      have HP : Hid (∀ w, Calls Try.prog 30 #[uv (clrd s k), .int .i64 z] w fun e w' => e = .returned (.bool (Sga.hs s.p (k + 1))) ∧ w = w') := Lib.hid (fun w => by
        have := has_any w (clrd s k) (k + 1) hcl (by omega)
        rw [hpc, ← hzk] at this
        exact this)
      have HM : Hid (∀ w, Calls Try.prog 30 #[uv s.m, .int .i64 z] w fun e w' => e = .returned (.bool (Sga.hs s.m (k + 1))) ∧ w = w') := Lib.hid (fun w => by
        have := has_any w s.m (k + 1) HX.out.1.m (by omega)
        rw [← hzk] at this
        exact this)
      have HW : Hid (∀ w, Calls Try.prog 31 #[cv (setP s (clrd s k)), .int .i64 z] w fun e w' => e = .returned (cv (setP s (clr (clrd s k) (k + 1)))) ∧ Below w.heap.size w w') := Lib.hid (fun w => by
        have := without_any w (setP s (clrd s k)) (Ok.setP HX.out.1 hcl) (k + 1) (by omega)
        rw [← hzk] at this
        exact this)
      have HAT := Lib.hid hA
      have cp : wr.cell? ⟨w.heap.size, 0, none⟩ = some (uv (clrd s k)) := hA.a.p0
      have cm : wr.cell? ⟨w.heap.size, 1, none⟩ = some (uv s.m) := hA.a.m1
      have cb : wr.cell? ⟨w.heap.size, 18, none⟩ = some (.bool s.b) := hA.a.b18
      have ls := hA.a.ld
      have hft : ft s (k + 1) = if s.h (k + 1) = 1 ∨ (s.h (k + 1) = 0 ∧ k + 1 = 12) then 0 else if s.h (k + 1) = 0 then 1 else 2 := rfl
      have hh9 : k + 1 = 9 → s.h (k + 1) = 0 := fun e => by rw [e]; exact (may_bits.1 HX.out.2).2.2.2
      have HZ := Lib.hid (And.intro hzk (And.intro hlt (And.intro hdl (And.intro hft hh9))))
      clear hz hzk hdl hpc hcl hA hk hft hh9
      generalize Sga.hs s.p (k + 1) = P at *
      generalize Sga.hs s.m (k + 1) = M at *
      generalize hb0 : s.b = b at *
      have HB := Lib.hid hb0
      clear hb0
      cases P
      · skip
        have HK : Hid (True) := Lib.hid trivial
        have hd : dl s (k + 1) = false := by rw [HZ.out.2.2.1]; rfl
        have HD := Lib.hid (And.intro (clrd_no hd) (fst_pass hF.out (fun e => by rw [hd] at e; cases e)))
        clear hd hlt
        go_wp2_with (first | (go_at_call 30; (with_reducible refine (HP.out _).mono ?_); rintro e w2 ⟨rfl, rfl⟩) | (go_at_call 30; (with_reducible refine (HM.out _).mono ?_); rintro e w2 ⟨rfl, rfl⟩))
        go_roundw
        case rel => exact ⟨k + 1, z + 1, by have := HZ.out.2.1; omega, by have := HZ.out.1; omega, by go_num, by rw [HD.out.1]; exact HAT.out, Lib.hid HD.out.2⟩
        case measure => have := HZ.out.1; have := HZ.out.2.1; simp [intOf]; omega

      · by_cases e9 : k + 1 = 9
        · skip
          have a9 : (z == 9) = true := beq_iff_eq.2 (by have := HZ.out.1; omega)
          have n9 : (z != 9) = false := bne_eq_false_iff_eq.2 (by have := HZ.out.1; omega)
          have b9 : decide (k + 1 = 9) = true := decide_eq_true e9
          have HK := Lib.hid b9
          have hd : dl s (k + 1) = true := by rw [HZ.out.2.2.1, HK.out]; rfl
          have hne := HZ.out.2.2.2.2 e9
          have hf1 : ft s (k + 1) = 1 := by rw [HZ.out.2.2.2.1, hne, if_neg (by omega), if_pos rfl]
          have HE : Hid (nN s = k + 1 ∧ nB s = 1 ∧ nS s = setP s (clr (clrd s k) (k + 1))) := Lib.hid (by
            have := next_at HX.out.2 hF.out hd (by rw [hf1]; omega) (by omega)
            rw [hf1] at this
            refine ⟨this.1, this.2.1, this.2.2.trans ?_⟩
            rw [show (s.b || (1 : Nat) == 2) = s.b from Bool.or_false _]
            rfl)
          clear e9 b9 hne hf1
          have HD0 := Lib.hid hd
          clear hd hlt
          go_wp2_with (first | (go_at_call 30; (with_reducible refine (HP.out _).mono ?_); rintro e w2 ⟨rfl, rfl⟩) | (go_at_call 30; (with_reducible refine (HM.out _).mono ?_); rintro e w2 ⟨rfl, rfl⟩) | (go_at_call 31; (with_reducible refine (HW.out _).mono ?_); rintro e w3 ⟨rfl, hb3⟩; refine Hid.out ?_))
          refine Lib.hid ?_
          have A3 := HAT.out.below hb3
          obtain ⟨w4, h4, v4, k4, s4⟩ := A3.a.st (setP s (clr (clrd s k) (k + 1)))
          have A4 : At w (setP s (clr (clrd s k) (k + 1))) w4 := ⟨v4, A3.z.kept k4 (by show ¬ w.heap.size + 1 = w.heap.size; omega), A3.d.trans (k4.below A3.d.size (fun j e => by have e : j = w.heap.size := e; omega))⟩
          have ch : w4.cell? ⟨w.heap.size, 2 + (k + 1), none⟩ = some (uv (s.h (k + 1))) := A4.a.h2 (k := k + 1) (by have := HZ.out.2.1; omega)
          have hadr : ((2 : Int) + z).toNat = 2 + (k + 1) := by have := HZ.out.1; omega
          have hzn : z.toNat = k + 1 := by have := HZ.out.1; omega
          have HA4 := Lib.hid A4
          clear A3 v4 k4 s4 A4 hb3 ls cp cm cb
          obtain ⟨l5, w5, l6, v5, d5⟩ := HA4.out.drew.tail
          have H5 := Lib.hid (And.intro v5 d5)
          clear v5 d5
          go_wp2_with fail
          go_region
          go_wp2
          refine bodyPost_ret (v := .tuple #[.int .i64 z, .int .i64 1, cv (setP s (clr (clrd s k) (k + 1)))]) ?_ rfl ⟨?_, H5.out.2⟩
          · exact res_tts rfl _ _ (w.heap.size + 1) _ _ _ rfl rfl rfl H5.out.1
          · have h1 := HE.out
            rw [← HNS.out.1, ← HNS.out.2.1, ← HNS.out.2.2, h1.1, h1.2.1, h1.2.2, HZ.out.1]
            rfl

        · cases M
          · cases b
            · skip
              have a9 : (z == 9) = false := beq_eq_false_iff_ne.2 (by have := HZ.out.1; omega)
              have n9 : (z != 9) = true := bne_iff_ne.2 (by have := HZ.out.1; omega)
              have b9 : decide (k + 1 = 9) = false := decide_eq_false e9
              have HK := Lib.hid b9
              have hd : dl s (k + 1) = true := by rw [HZ.out.2.2.1, HK.out]; rfl
              have HE9 := Lib.hid e9
              clear e9 b9
              have HD0 := Lib.hid hd
              clear hd hlt
              go_wp2_with (first | (go_at_call 30; (with_reducible refine (HP.out _).mono ?_); rintro e w2 ⟨rfl, rfl⟩) | (go_at_call 30; (with_reducible refine (HM.out _).mono ?_); rintro e w2 ⟨rfl, rfl⟩) | (go_at_call 31; (with_reducible refine (HW.out _).mono ?_); rintro e w3 ⟨rfl, hb3⟩; refine Hid.out ?_))
              refine Lib.hid ?_
              have A3 := HAT.out.below hb3
              obtain ⟨w4, h4, v4, k4, s4⟩ := A3.a.st (setP s (clr (clrd s k) (k + 1)))
              have A4 : At w (setP s (clr (clrd s k) (k + 1))) w4 := ⟨v4, A3.z.kept k4 (by show ¬ w.heap.size + 1 = w.heap.size; omega), A3.d.trans (k4.below A3.d.size (fun j e => by have e : j = w.heap.size := e; omega))⟩
              have ch : w4.cell? ⟨w.heap.size, 2 + (k + 1), none⟩ = some (uv (s.h (k + 1))) := A4.a.h2 (k := k + 1) (by have := HZ.out.2.1; omega)
              have hadr : ((2 : Int) + z).toNat = 2 + (k + 1) := by have := HZ.out.1; omega
              have hzn : z.toNat = k + 1 := by have := HZ.out.1; omega
              have HA4 := Lib.hid A4
              clear A3 v4 k4 s4 A4 hb3 ls cp cm cb
              have hft := HZ.out.2.2.2.1
              generalize hx : s.h (k + 1) = x at *
              clear hx
              by_cases h1 : x = 1
              · have a0 : ((x : Int) == 0) = false := beq_eq_false_iff_ne.2 (by omega)
                have a1 : decide ((1 : Int) < (x : Int)) = false := decide_eq_false (by omega)
                have a2 : decide (1 < x) = false := decide_eq_false (by omega)
                have hf0 : ft s (k + 1) = 0 := by rw [hft, if_pos (.inl h1)]
                have HD := Lib.hid (And.intro (clrd_yes HD0.out) (fst_pass hF.out (fun _ => hf0)))
                clear h1 hft hf0
                go_wp2_with fail
                go_roundw
                case rel => exact ⟨k + 1, z + 1, by have := HZ.out.2.1; omega, by have := HZ.out.1; omega, by go_num, by rw [HD.out.1]; exact HA4.out, Lib.hid HD.out.2⟩
                case measure => have := HZ.out.1; have := HZ.out.2.1; simp [intOf]; omega
              · by_cases h0 : x = 0
                · by_cases h12 : k + 1 = 12
                  · have a0 : ((x : Int) == 0) = true := beq_iff_eq.2 (by omega)
                    have a1 : decide ((1 : Int) < (x : Int)) = false := decide_eq_false (by omega)
                    have a2 : decide (1 < x) = false := decide_eq_false (by omega)
                    have n12 : (z != 12) = false := bne_eq_false_iff_eq.2 (by have := HZ.out.1; omega)
                    have hf0 : ft s (k + 1) = 0 := by rw [hft, if_pos (.inr ⟨h0, h12⟩)]
                    have HD := Lib.hid (And.intro (clrd_yes HD0.out) (fst_pass hF.out (fun _ => hf0)))
                    clear h1 h0 h12 hft hf0
                    go_wp2_with fail
                    go_roundw
                    case rel => exact ⟨k + 1, z + 1, by have := HZ.out.2.1; omega, by have := HZ.out.1; omega, by go_num, by rw [HD.out.1]; exact HA4.out, Lib.hid HD.out.2⟩
                    case measure => have := HZ.out.1; have := HZ.out.2.1; simp [intOf]; omega
                  · have a0 : ((x : Int) == 0) = true := beq_iff_eq.2 (by omega)
                    have n12 : (z != 12) = true := bne_iff_ne.2 (by have := HZ.out.1; omega)
                    have hf1 : ft s (k + 1) = 1 := by rw [hft, if_neg (by rintro (h | ⟨_, h⟩); exact h1 h; exact h12 h), if_pos h0]
                    have HE : Hid (nN s = k + 1 ∧ nB s = 1 ∧ nS s = setP s (clr (clrd s k) (k + 1))) := Lib.hid (by
                      have := next_at HX.out.2 hF.out HD0.out (by rw [hf1]; omega) (by have := HZ.out.2.1; omega)
                      rw [hf1] at this
                      refine ⟨this.1, this.2.1, this.2.2.trans ?_⟩
                      rw [show (s.b || (1 : Nat) == 2) = s.b from Bool.or_false _]
                      rfl)
                    clear h1 h0 h12 hft hf1
                    obtain ⟨l5, w5, l6, v5, d5⟩ := HA4.out.drew.tail
                    have H5 := Lib.hid (And.intro v5 d5)
                    clear v5 d5
                    go_wp2_with fail
                    go_region
                    go_wp2
                    refine bodyPost_ret (v := .tuple #[.int .i64 z, .int .i64 1, cv (setP s (clr (clrd s k) (k + 1)))]) ?_ rfl ⟨?_, H5.out.2⟩
                    · exact res_tts rfl _ _ (w.heap.size + 1) _ _ _ rfl rfl rfl H5.out.1
                    · have h1 := HE.out
                      rw [← HNS.out.1, ← HNS.out.2.1, ← HNS.out.2.2, h1.1, h1.2.1, h1.2.2, HZ.out.1]
                      rfl

                · have a0 : ((x : Int) == 0) = false := beq_eq_false_iff_ne.2 (by omega)
                  have a1 : decide ((1 : Int) < (x : Int)) = true := decide_eq_true (by omega)
                  have a2 : decide (1 < x) = true := decide_eq_true (by omega)
                  have hf2 : ft s (k + 1) = 2 := by rw [hft, if_neg (by rintro (h | ⟨h, _⟩); exact h1 h; exact h0 h), if_neg h0]
                  have HE : Hid (nN s = k + 1 ∧ nB s = 2 ∧ nS s = setB (setP s (clr (clrd s k) (k + 1))) true) := Lib.hid (by
                    have := next_at HX.out.2 hF.out HD0.out (by rw [hf2]; omega) (by have := HZ.out.2.1; omega)
                    rw [hf2] at this
                    refine ⟨this.1, this.2.1, this.2.2.trans ?_⟩
                    rw [show (s.b || (2 : Nat) == 2) = true from Bool.or_true _])
                  have cb4 := HA4.out.a.b18
                  have fb4 := HA4.out.a.free 18
                  clear h1 h0 hft hf2
                  obtain ⟨l5, w5, l6, v5, d5⟩ := (HA4.out.setb true).drew.tail
                  have H5 := Lib.hid (And.intro v5 d5)
                  clear v5 d5
                  go_wp2_with fail
                  go_region
                  go_wp2
                  refine bodyPost_ret (v := .tuple #[.int .i64 z, .int .i64 2, cv (setB (setP s (clr (clrd s k) (k + 1))) true)]) ?_ rfl ⟨?_, H5.out.2⟩
                  · exact res_tts rfl _ _ (w.heap.size + 1) _ _ _ rfl rfl rfl H5.out.1
                  · have h1 := HE.out
                    rw [← HNS.out.1, ← HNS.out.2.1, ← HNS.out.2.2, h1.1, h1.2.1, h1.2.2, HZ.out.1]
                    rfl

            · skip
              have a9 : (z == 9) = false := beq_eq_false_iff_ne.2 (by have := HZ.out.1; omega)
              have n9 : (z != 9) = true := bne_iff_ne.2 (by have := HZ.out.1; omega)
              have b9 : decide (k + 1 = 9) = false := decide_eq_false e9
              have HK := Lib.hid (And.intro b9 HB.out)
              clear e9 b9
              have hd : dl s (k + 1) = false := by rw [HZ.out.2.2.1]; rw [HK.out.1]; rfl
              have HD := Lib.hid (And.intro (clrd_no hd) (fst_pass hF.out (fun e => by rw [hd] at e; cases e)))
              clear hd hlt
              go_wp2_with (first | (go_at_call 30; (with_reducible refine (HP.out _).mono ?_); rintro e w2 ⟨rfl, rfl⟩) | (go_at_call 30; (with_reducible refine (HM.out _).mono ?_); rintro e w2 ⟨rfl, rfl⟩))
              go_roundw
              case rel => exact ⟨k + 1, z + 1, by have := HZ.out.2.1; omega, by have := HZ.out.1; omega, by go_num, by rw [HD.out.1]; exact HAT.out, Lib.hid HD.out.2⟩
              case measure => have := HZ.out.1; have := HZ.out.2.1; simp [intOf]; omega

          · skip
            have a9 : (z == 9) = false := beq_eq_false_iff_ne.2 (by have := HZ.out.1; omega)
            have n9 : (z != 9) = true := bne_iff_ne.2 (by have := HZ.out.1; omega)
            have b9 : decide (k + 1 = 9) = false := decide_eq_false e9
            have HK := Lib.hid (And.intro b9 HB.out)
            clear e9 b9
            have hd : dl s (k + 1) = false := by rw [HZ.out.2.2.1]; rw [HK.out.1]; rfl
            have HD := Lib.hid (And.intro (clrd_no hd) (fst_pass hF.out (fun e => by rw [hd] at e; cases e)))
            clear hd hlt
            go_wp2_with (first | (go_at_call 30; (with_reducible refine (HP.out _).mono ?_); rintro e w2 ⟨rfl, rfl⟩) | (go_at_call 30; (with_reducible refine (HM.out _).mono ?_); rintro e w2 ⟨rfl, rfl⟩))
            go_roundw
            case rel => exact ⟨k + 1, z + 1, by have := HZ.out.2.1; omega, by have := HZ.out.1; omega, by go_num, by rw [HD.out.1]; exact HAT.out, Lib.hid HD.out.2⟩
            case measure => have := HZ.out.1; have := HZ.out.2.1; simp [intOf]; omega

    · obtain rfl : k = 15 := by omega
      have hz1 : ¬ z ≤ 15 := by omega
      have hE := next_end HX.out.2 hF.out
      have HE := Lib.hid hE
      obtain ⟨l5, w5, l6, v5, d5⟩ := hA.drew.tail
      have H5 := Lib.hid (And.intro v5 d5)
      clear v5 d5 hA hE hz hk hlt
      go_wp2_with fail
      go_region
      go_wp2
      refine bodyPost_ret (v := .tuple #[.int .i64 0, .int .i64 0, cv (setP s (clrd s 15))]) ?_ rfl ⟨?_, H5.out.2⟩
      · exact res_tts rfl _ _ (w.heap.size + 1) _ _ _ rfl rfl rfl H5.out.1
      · have h1 := HE.out
        rw [← HNS.out.1, ← HNS.out.2.1, ← HNS.out.2.2, h1.1, h1.2.1, h1.2.2]
        rfl
theorem rnext_any (w : World) (s : Sg) (hs : s.Ok) :
    Calls Try.prog 11 #[cv s] w fun e w' => e = .returned (.tuple #[.int .i64 (nN s : Nat), .int .i64 (nB s : Nat), cv (nS s)]) ∧ Below w.heap.size w w' := by
  cases h : may s
  · have e1 : nN s = 0 := by unfold nN; rw [h]; rfl
    have e2 : nB s = 0 := by unfold nB; rw [if_pos e1]
    have e3 : nS s = s := by unfold nS; rw [h]; rfl
    rw [e1, e2, e3]
    exact rnext_no w s hs h
  · exact rnext_yes w s hs h
end Go.Proofs.Ytlhhgapimhpgnaa.Src
