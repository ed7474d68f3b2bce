/-
  The document's own: Post, Mask, Handle, Return.
-/
import Derived.Test.YtlhhgapimhpgnaaSra
namespace Go.Proofs.Ytlhhgapimhpgnaa.Srb
open Go Go.RowKit Kit Bk Sga Sgb Sgc Sgd Sgn Sra
set_option linter.unusedVariables false
attribute [local go_sem ↓] lds_wrap sts_wrap eqv_wrap nev_wrap

theorem rpost_no (w : World) (s : Sg) (hs : s.Ok) (n : Int) (h : (may s && isS n) = false) :
    Calls Try.prog 26 #[cv s, .int .i64 n] w fun e w' => e = .returned (.tuple #[cv s, .int .i64 120]) ∧ Below w.heap.size w w' := by
  have l0 := At.ld0 w s
  have HC := Lib.hid (fun w => may_any w s hs)
  have HA := Lib.hid (at0 w s)
  cases hm : may s
  · rw [hm] at HC
    clear h hm
    go_enter Try.func26, Try.ntmps26
    go_wp2_with (first | (go_at_call 15; (with_reducible refine (HC.out _).mono ?_); rintro e w1 ⟨rfl, hb1⟩; obtain ⟨l1, w2, l2, v2, d2⟩ := (HA.out.below hb1).tail; have H2 := Lib.hid (And.intro v2 d2); clear v2 d2 hb1))
    refine bodyPost_ret (v := .tuple #[cv s, .int .i64 120]) ?_ rfl ⟨rfl, H2.out.2⟩
    exact res_st rfl _ _ (w.heap.size + 1) s _ rfl rfl H2.out.1
  · rw [hm] at HC
    rw [hm, Bool.true_and] at h
    by_cases h1 : n < 1
    · have d1 : decide (n < 1) = true := decide_eq_true h1
      clear h hm h1
      go_enter Try.func26, Try.ntmps26
      go_wp2_with (first | (go_at_call 15; (with_reducible refine (HC.out _).mono ?_); rintro e w1 ⟨rfl, hb1⟩; obtain ⟨l1, w2, l2, v2, d2⟩ := (HA.out.below hb1).tail; have H2 := Lib.hid (And.intro v2 d2); clear v2 d2 hb1))
      refine bodyPost_ret (v := .tuple #[cv s, .int .i64 120]) ?_ rfl ⟨rfl, H2.out.2⟩
      exact res_st rfl _ _ (w.heap.size + 1) s _ rfl rfl H2.out.1
    · have d1 : decide (n < 1) = false := decide_eq_false h1
      have h2 : 15 < n := by
        unfold isS at h
        rw [decide_eq_true (by omega : 1 ≤ n), Bool.true_and] at h
        have := of_decide_eq_false h
        omega
      have d2 : decide (15 < n) = true := decide_eq_true h2
      clear h hm h1 h2
      go_enter Try.func26, Try.ntmps26
      go_wp2_with (first | (go_at_call 15; (with_reducible refine (HC.out _).mono ?_); rintro e w1 ⟨rfl, hb1⟩; obtain ⟨l1, w2, l2, v2, d2⟩ := (HA.out.below hb1).tail; have H2 := Lib.hid (And.intro v2 d2); clear v2 d2 hb1))
      refine bodyPost_ret (v := .tuple #[cv s, .int .i64 120]) ?_ rfl ⟨rfl, H2.out.2⟩
      exact res_st rfl _ _ (w.heap.size + 1) s _ rfl rfl H2.out.1
set_option maxHeartbeats 1000000 in
theorem rpost_yes (w : World) (s : Sg) (hs : s.Ok) (n : Nat) (hm : may s = true) (h : isS n = true) :
    Calls Try.prog 26 #[cv s, .int .i64 (n : Int)] w fun e w' => e = .returned (.tuple #[cv (setP s (ad s.p n)), .int .i64 0]) ∧ Below w.heap.size w w' := by
  have l0 := At.ld0 w s
  have HC := Lib.hid (fun w => may_any w s hs)
  have HA := Lib.hid (at0 w s)
  rw [hm] at HC
  have hn : 1 ≤ n ∧ n ≤ 15 := by have := isS_iff.1 h; omega
  have HW := Lib.hid (fun w => without_any w s hs n (by omega))
  have d1 : decide ((n : Int) < 1) = false := decide_eq_false (by omega)
  have d2 : decide (15 < (n : Int)) = false := decide_eq_false (by omega)
  have d3 : decide (n < 1) = false := decide_eq_false (by omega)
  have d4 : decide (15 < n) = false := decide_eq_false (by omega)
  have n0 : (0 : Int) ≤ (n : Int) := by omega
  have n1 : (n : Int) < 32 := by omega
  have hcl := clr_lt hs.p n
  have hca := ad_add hcl (n := n) (by omega) (by rw [hs_clr hs.p (by omega)]; simp)
  rw [ad_clr hs.p (by omega)] at hca
  have hal := ad_lt hs.p (n := n) (by omega)
  have e1 : ((clr s.p n : Nat) : Int) + (2 : Int) ^ n % 4294967296 = ((ad s.p n : Nat) : Int) := by
    have e : (2 : Int) ^ n = ((bt n : Nat) : Int) := by unfold bt; simp
    have := bt_lt (n := n) (by omega)
    rw [e, hca]
    omega
  have e2 : ((ad s.p n : Nat) : Int) % 4294967296 = ((ad s.p n : Nat) : Int) := by omega
  have hset : setP (setP s (clr s.p n)) (ad s.p n) = setP s (ad s.p n) := rfl
  have hp : (setP s (clr s.p n)).p = clr s.p n := rfl
  have HS := Lib.hid (And.intro hset hp)
  clear h hm hn hs hcl hca hal hset hp
  generalize setP s (ad s.p n) = t at *
  generalize ad s.p n = q at *
  generalize setP s (clr s.p n) = u at *
  generalize clr s.p n = c at *
  go_enter Try.func26, Try.ntmps26
  go_wp2_with (first | (go_at_call 15; (with_reducible refine (HC.out _).mono ?_); rintro e w1 ⟨rfl, hb1⟩; have A1 := HA.out.below hb1; have l1 := A1.a.ld; have H1 := Lib.hid A1; clear A1 hb1) | (go_at_call 31; (with_reducible refine (HW.out _).mono ?_); rintro e w2 ⟨rfl, hb2⟩; refine Hid.out ?_))
  refine Lib.hid ?_
  have A2 := H1.out.below hb2
  obtain ⟨w3, h3, v3, k3, s3⟩ := A2.a.st u
  have A3 : At w u w3 := ⟨v3, A2.z.kept k3 (by show ¬ w.heap.size + 1 = w.heap.size; omega), A2.d.trans (k3.below A2.d.size (fun j e => by have e : j = w.heap.size := e; omega))⟩
  have c3 := A3.drew.a.p0
  rw [HS.out.2] at c3
  have f3 := A3.drew.a.free 0
  have A4 := (A3.setp q).drew
  rw [HS.out.1] at A4
  obtain ⟨l4, w5, l5, v5, d5⟩ := A4.tail
  have H5 := Lib.hid (And.intro v5 d5)
  clear A2 v3 k3 s3 A3 A4 v5 d5 hb2 l1
  go_wp2_with fail
  go_region
  go_wp2
  refine bodyPost_ret (v := .tuple #[cv t, .int .i64 0]) ?_ rfl ⟨rfl, H5.out.2⟩
  exact res_st rfl _ _ (w.heap.size + 1) _ _ rfl rfl H5.out.1
theorem rpost_any (w : World) (s : Sg) (hs : s.Ok) (n : Int) :
    Calls Try.prog 26 #[cv s, .int .i64 n] w fun e w' => e = .returned (.tuple #[cv (pS s n), .int .i64 (pE s n)]) ∧ Below w.heap.size w w' := by
  unfold pS pE
  cases h : (may s && isS n)
  · exact rpost_no w s hs n h
  · obtain ⟨h1, h2⟩ := Bool.and_eq_true_iff.1 h
    have hn := (toNat_lt h2).2.2
    have := rpost_yes w s hs n.toNat h1 (by rw [hn]; exact h2)
    rw [hn] at this
    exact this

theorem rreturn_any (w : World) (s : Sg) (hs : s.Ok) :
    Calls Try.prog 29 #[cv s] w fun e w' => e = .returned (.tuple #[cv (rS s), .int .i64 (rE s)]) ∧ Below w.heap.size w w' := by
  have l0 := At.ld0 w s
  have HC := Lib.hid (fun w => may_any w s hs)
  have HA := Lib.hid (at0 w s)
  unfold rS rE
  cases hm : may s
  · rw [hm] at HC
    rw [Bool.false_and, if_neg (by decide), if_neg (by decide)]
    clear hm
    go_enter Try.func29, Try.ntmps29
    go_wp2_with (first | (go_at_call 15; (with_reducible refine (HC.out _).mono ?_); rintro e w1 ⟨rfl, hb1⟩; obtain ⟨l1, w2, l2, v2, d2⟩ := (HA.out.below hb1).tail; have H2 := Lib.hid (And.intro v2 d2); clear v2 d2 hb1))
    refine bodyPost_ret (v := .tuple #[cv s, .int .i64 120]) ?_ rfl ⟨rfl, H2.out.2⟩
    exact res_st rfl _ _ (w.heap.size + 1) s _ rfl rfl H2.out.1
  · rw [hm] at HC
    rw [Bool.true_and]
    clear hm
    cases hb : s.b
    · rw [if_neg (by decide), if_neg (by decide)]
      go_enter Try.func29, Try.ntmps29
      go_wp2_with (first | (go_at_call 15; (with_reducible refine (HC.out _).mono ?_); rintro e w1 ⟨rfl, hb1⟩; have c3 := (HA.out.below hb1).a.b18; rw [hb] at c3; obtain ⟨l1, w2, l2, v2, d2⟩ := (HA.out.below hb1).tail; have H2 := Lib.hid (And.intro v2 d2); clear v2 d2 hb1))
      refine bodyPost_ret (v := .tuple #[cv s, .int .i64 120]) ?_ rfl ⟨rfl, H2.out.2⟩
      exact res_st rfl _ _ (w.heap.size + 1) s _ rfl rfl H2.out.1
    · rw [if_pos rfl, if_pos rfl]
      go_enter Try.func29, Try.ntmps29
      go_wp2_with (first | (go_at_call 15; (with_reducible refine (HC.out _).mono ?_); rintro e w1 ⟨rfl, hb1⟩; have c3 := (HA.out.below hb1).a.b18; have f3 := (HA.out.below hb1).a.free 18; rw [hb] at c3; obtain ⟨l1, w2, l2, v2, d2⟩ := ((HA.out.below hb1).setb false).tail; have H2 := Lib.hid (And.intro v2 d2); clear v2 d2 hb1))
      refine bodyPost_ret (v := .tuple #[cv (setB s false), .int .i64 0]) ?_ rfl ⟨rfl, H2.out.2⟩
      exact res_st rfl _ _ (w.heap.size + 1) _ _ rfl rfl H2.out.1

/-- May a mask be given, as the document says it. -/
theorem okm_iff {m : Nat} (hm : m < 4294967296) : okm m = true ↔ m % 2 = 0 ∧ m ≤ 65535 := by
  rw [okm_bits hm]
  constructor
  · intro h
    constructor
    · have h0 : Sga.hs m 0 = false := by
        cases e : Sga.hs m 0
        · rfl
        · have := (h 0 e).1; omega
      rw [← hs_div] at h0
      simp at h0
      omega
    · refine Nat.le_of_lt_succ (Nat.lt_of_not_le fun hge => ?_)
      obtain ⟨i, hi, hb⟩ := Nat.exists_ge_and_testBit_of_ge_two_pow (n := 16) hge
      have := (h i hb).2
      omega
  · rintro ⟨h1, h2⟩ j hj
    constructor
    · refine Nat.pos_of_ne_zero fun e => ?_
      subst e
      rw [← hs_div] at hj
      simp at hj
      omega
    · refine Nat.le_of_lt_succ (Nat.lt_of_not_le fun hge => ?_)
      have : Sga.hs m j = false := Nat.testBit_lt_two_pow (Nat.lt_of_lt_of_le (by omega : m < 2 ^ 16) (Nat.pow_le_pow_right (by decide) hge))
      rw [this] at hj; cases hj
theorem rmask_no (w : World) (s : Sg) (hs : s.Ok) (m : Nat) (hm : m < 4294967296) (h : (may s && okm m) = false) :
    Calls Try.prog 27 #[cv s, uv m] w fun e w' => e = .returned (.tuple #[.int .u32 0, cv s, .int .i64 120]) ∧ Below w.heap.size w w' := by
  have l0 := At.ld0 w s
  have HC := Lib.hid (fun w => may_any w s hs)
  have HA := Lib.hid (at0 w s)
  cases hy : may s
  · rw [hy] at HC
    clear h hy hm
    go_enter Try.func27, Try.ntmps27
    go_wp2_with (first | (go_at_call 15; (with_reducible refine (HC.out _).mono ?_); rintro e w1 ⟨rfl, hb1⟩; obtain ⟨l1, w2, l2, v2, d2⟩ := (HA.out.below hb1).drew.tail; have H2 := Lib.hid (And.intro v2 d2); clear v2 d2 hb1) | fail)
    go_region
    go_wp2
    refine bodyPost_ret (v := .tuple #[.int .u32 0, cv s, .int .i64 120]) ?_ rfl ⟨rfl, H2.out.2⟩
    exact res_tst rfl _ _ (w.heap.size + 1) s _ _ rfl rfl rfl H2.out.1
  · rw [hy] at HC
    rw [hy, Bool.true_and] at h
    have hn : ¬ (m % 2 = 0 ∧ m ≤ 65535) := fun e => by
      rw [(okm_iff hm).2 e] at h; cases h
    by_cases h2 : m % 2 = 0
    · have e1 : ((m : Int) % 2 == 1) = false := beq_eq_false_iff_ne.2 (by omega)
      have e2 : decide (65535 < m) = true := decide_eq_true (by omega)
      have e3 : decide ((65535 : Int) < (m : Int)) = true := decide_eq_true (by omega)
      have m0 : (0 : Int) ≤ (m : Int) := by omega
      have m1 : (m : Int) < 4294967296 := by omega
      clear h hy hm hn h2
      go_enter Try.func27, Try.ntmps27
      go_wp2_with (first | (go_at_call 15; (with_reducible refine (HC.out _).mono ?_); rintro e w1 ⟨rfl, hb1⟩; obtain ⟨l1, w2, l2, v2, d2⟩ := (HA.out.below hb1).drew.tail; have H2 := Lib.hid (And.intro v2 d2); clear v2 d2 hb1) | fail)
      go_region
      go_wp2
      refine bodyPost_ret (v := .tuple #[.int .u32 0, cv s, .int .i64 120]) ?_ rfl ⟨rfl, H2.out.2⟩
      exact res_tst rfl _ _ (w.heap.size + 1) s _ _ rfl rfl rfl H2.out.1
    · have e1 : ((m : Int) % 2 == 1) = true := beq_iff_eq.2 (by omega)
      have m0 : (0 : Int) ≤ (m : Int) := by omega
      have m1 : (m : Int) < 4294967296 := by omega
      clear h hy hm hn h2
      go_enter Try.func27, Try.ntmps27
      go_wp2_with (first | (go_at_call 15; (with_reducible refine (HC.out _).mono ?_); rintro e w1 ⟨rfl, hb1⟩; obtain ⟨l1, w2, l2, v2, d2⟩ := (HA.out.below hb1).drew.tail; have H2 := Lib.hid (And.intro v2 d2); clear v2 d2 hb1) | fail)
      go_region
      go_wp2
      refine bodyPost_ret (v := .tuple #[.int .u32 0, cv s, .int .i64 120]) ?_ rfl ⟨rfl, H2.out.2⟩
      exact res_tst rfl _ _ (w.heap.size + 1) s _ _ rfl rfl rfl H2.out.1
theorem rmask_yes (w : World) (s : Sg) (hs : s.Ok) (m : Nat) (hm : m < 4294967296) (hy : may s = true) (h : okm m = true) :
    Calls Try.prog 27 #[cv s, uv m] w fun e w' => e = .returned (.tuple #[uv s.m, cv (setM s (nt m 512)), .int .i64 0]) ∧ Below w.heap.size w w' := by
  have l0 := At.ld0 w s
  have HC := Lib.hid (fun w => may_any w s hs)
  have HA := Lib.hid (at0 w s)
  rw [hy] at HC
  have HH := Lib.hid (fun w => has_any w m 9 hm (by omega))
  obtain ⟨h2, h3⟩ := (okm_iff hm).1 h
  have e1 : ((m : Int) % 2 == 1) = false := beq_eq_false_iff_ne.2 (by omega)
  have e2 : decide (65535 < m) = false := decide_eq_false (by omega)
  have e3 : decide ((65535 : Int) < (m : Int)) = false := decide_eq_false (by omega)
  have m0 : (0 : Int) ≤ (m : Int) := by omega
  have m1 : (m : Int) < 4294967296 := by omega
  have hc : nt m 512 = if Sga.hs m 9 then m - bt 9 else m := clr_sub hm (n := 9) (by omega)
  cases hb : Sga.hs m 9
  · rw [hb, if_neg (by decide)] at hc
    rw [hc]
    rw [hb] at HH
    replace HH : Hid (∀ w, Calls Try.prog 30 #[uv m, .int .i64 9] w fun e w' => e = .returned (.bool false) ∧ w = w') := HH
    clear h hy hm hs h2 h3 hc hb
    go_enter Try.func27, Try.ntmps27
    go_wp2_with (first | (go_at_call 15; (with_reducible refine (HC.out _).mono ?_); rintro e w1 ⟨rfl, hb1⟩; have A1 := HA.out.below hb1; have c1 := A1.a.m1; have f1 := A1.a.free 1; obtain ⟨l1, w2, l2, v2, d2⟩ := (A1.setm m).drew.tail; have H2 := Lib.hid (And.intro v2 d2); clear v2 d2 hb1 A1) | (go_at_call 30; (with_reducible refine (HH.out _).mono ?_); rintro e w3 ⟨rfl, rfl⟩) | fail)
    go_region
    go_wp2
    refine bodyPost_ret (v := .tuple #[uv s.m, cv (setM s m), .int .i64 0]) ?_ rfl ⟨rfl, H2.out.2⟩
    exact res_tst rfl _ _ (w.heap.size + 1) _ _ _ rfl rfl rfl H2.out.1
  · rw [hb, if_pos rfl] at hc
    rw [hb] at HH
    replace HH : Hid (∀ w, Calls Try.prog 30 #[uv m, .int .i64 9] w fun e w' => e = .returned (.bool true) ∧ w = w') := HH
    have hle := hs_le hb
    have e5 : ((m : Int) - 512) % 4294967296 = ((nt m 512 : Nat) : Int) := by
      rw [hc]
      have : bt 9 = 512 := rfl
      omega
    clear h hy hm hs h2 h3 hc hb hle
    generalize nt m 512 = q at *
    go_enter Try.func27, Try.ntmps27
    go_wp2_with (first | (go_at_call 15; (with_reducible refine (HC.out _).mono ?_); rintro e w1 ⟨rfl, hb1⟩; have A1 := HA.out.below hb1; have c1 := A1.a.m1; have f1 := A1.a.free 1; obtain ⟨l1, w2, l2, v2, d2⟩ := (A1.setm q).drew.tail; have H2 := Lib.hid (And.intro v2 d2); clear v2 d2 hb1 A1) | (go_at_call 30; (with_reducible refine (HH.out _).mono ?_); rintro e w3 ⟨rfl, rfl⟩) | fail)
    go_region
    go_wp2
    refine bodyPost_ret (v := .tuple #[uv s.m, cv (setM s q), .int .i64 0]) ?_ rfl ⟨rfl, H2.out.2⟩
    exact res_tst rfl _ _ (w.heap.size + 1) _ _ _ rfl rfl rfl H2.out.1
theorem rmask_any (w : World) (s : Sg) (hs : s.Ok) (m : Nat) (hm : m < 4294967296) :
    Calls Try.prog 27 #[cv s, uv m] w fun e w' => e = .returned (.tuple #[uv (mO s m), cv (mS s m), .int .i64 (mE s m)]) ∧ Below w.heap.size w w' := by
  unfold mO mS mE
  cases h : (may s && okm m)
  · exact rmask_no w s hs m hm h
  · obtain ⟨h1, h2⟩ := Bool.and_eq_true_iff.1 h
    exact rmask_yes w s hs m hm h1 h2

theorem rhandle_no (w : World) (s : Sg) (hs : s.Ok) (n : Int) (v : Nat) (h : okh s n = false) :
    Calls Try.prog 28 #[cv s, .int .i64 n, uv v] w fun e w' => e = .returned (.tuple #[.int .u32 0, cv s, .int .i64 120]) ∧ Below w.heap.size w w' := by
  have l0 := At.ld0 w s
  have HC := Lib.hid (fun w => may_any w s hs)
  have HA := Lib.hid (at0 w s)
  unfold okh at h
  have key : may s = false ∨ (may s = true ∧ ((decide (n < 1) = true) ∨ (decide (n < 1) = false ∧ (decide (15 < n) = true ∨ (decide (15 < n) = false ∧ (n == 9) = true))))) := by
    cases hy : may s
    · exact .inl rfl
    · rw [hy, Bool.true_and] at h
      refine .inr ⟨rfl, ?_⟩
      by_cases h1 : n < 1
      · exact .inl (decide_eq_true h1)
      · refine .inr ⟨decide_eq_false h1, ?_⟩
        by_cases h2 : 15 < n
        · exact .inl (decide_eq_true h2)
        · refine .inr ⟨decide_eq_false h2, ?_⟩
          rw [isS_iff.2 ⟨by omega, by omega⟩] at h
          simpa using h
  clear h
  rcases key with hy | ⟨hy, d1 | ⟨d1, d2 | ⟨d2, d3⟩⟩⟩
  all_goals
    rw [hy] at HC
    clear hy hs
    go_enter Try.func28, Try.ntmps28
    go_wp2_with (first | (go_at_call 15; (with_reducible refine (HC.out _).mono ?_); rintro e w1 ⟨rfl, hb1⟩; obtain ⟨l1, w2, l2, v2, d2⟩ := (HA.out.below hb1).drew.tail; have H2 := Lib.hid (And.intro v2 d2); clear v2 d2 hb1) | fail)
    go_region
    go_wp2
    refine bodyPost_ret (v := .tuple #[.int .u32 0, cv s, .int .i64 120]) ?_ rfl ⟨rfl, H2.out.2⟩
    exact res_tst rfl _ _ (w.heap.size + 1) s _ _ rfl rfl rfl H2.out.1
theorem rhandle_yes (w : World) (s : Sg) (hs : s.Ok) (n v : Nat) (h : okh s n = true) :
    Calls Try.prog 28 #[cv s, .int .i64 (n : Int), uv v] w fun e w' => e = .returned (.tuple #[uv (s.h n), cv (setH s n v), .int .i64 0]) ∧ Below w.heap.size w w' := by
  have l0 := At.ld0 w s
  have HC := Lib.hid (fun w => may_any w s hs)
  have HA := Lib.hid (at0 w s)
  unfold okh at h
  obtain ⟨h12, h9⟩ := Bool.and_eq_true_iff.1 h
  obtain ⟨hy, hn⟩ := Bool.and_eq_true_iff.1 h12
  rw [hy] at HC
  have h9' : ((n : Int) == 9) = false := by simpa using h9
  have hn2 := isS_iff.1 hn
  have hn16 : n < 16 := by omega
  have n0 : (0 : Int) ≤ (n : Int) := by omega
  have n1 : (n : Int) < 16 := by omega
  have d1 : decide ((n : Int) < 1) = false := decide_eq_false (by omega)
  have d2 : decide (15 < (n : Int)) = false := decide_eq_false (by omega)
  have d3 : decide (n < 1) = false := decide_eq_false (by omega)
  have d4 : decide (15 < n) = false := decide_eq_false (by omega)
  clear h h12 h9 hy hn hn2
  go_enter Try.func28, Try.ntmps28
  go_wp2_with (first | (go_at_call 15; (with_reducible refine (HC.out _).mono ?_); rintro e w1 ⟨rfl, hb1⟩; have A1 := HA.out.below hb1; have c1 := A1.a.h2 hn16; have f1 := A1.a.free (2 + n); obtain ⟨l1, w2, l2, v2, d2⟩ := (A1.seth hn16 v).drew.tail; have H2 := Lib.hid (And.intro v2 d2); clear v2 d2 hb1 A1) | fail)
  go_region
  go_wp2
  refine bodyPost_ret (v := .tuple #[uv (s.h n), cv (setH s n v), .int .i64 0]) ?_ rfl ⟨rfl, H2.out.2⟩
  exact res_tst rfl _ _ (w.heap.size + 1) _ _ _ rfl rfl rfl H2.out.1
theorem rhandle_any (w : World) (s : Sg) (hs : s.Ok) (n : Int) (v : Nat) :
    Calls Try.prog 28 #[cv s, .int .i64 n, uv v] w fun e w' => e = .returned (.tuple #[uv (hO s n), cv (hS s n v), .int .i64 (hE s n)]) ∧ Below w.heap.size w w' := by
  unfold hO hS hE
  cases h : okh s n
  · exact rhandle_no w s hs n v h
  · have hn : isS n = true := by unfold okh at h; exact (Bool.and_eq_true_iff.1 (Bool.and_eq_true_iff.1 h).1).2
    have hn2 := (toNat_lt hn).2.2
    have := rhandle_yes w s hs n.toNat v (by rw [hn2]; exact h)
    rw [hn2] at this
    exact this
end Go.Proofs.Ytlhhgapimhpgnaa.Srb
