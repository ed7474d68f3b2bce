/-
  SignalKill's walk.
-/
import Derived.Test.YtlhhgapimhpgnaaSgi
namespace Go.Proofs.Ytlhhgapimhpgnaa.Walk
open Go Go.RowKit Kit Bk Sga Sgb Sgc Sgd Sgg Sgh
set_option linter.unusedVariables false
attribute [local go_sem ↓] lds_wrap sts_wrap eqv_wrap nev_wrap

theorem may_all {s : Sg} (h : may s = true) : may (setM s 65022) = true := by
  have hb := may_bits.1 h
  refine may_bits.2 ⟨hb.1, fun j hj => ?_, hb.2.2⟩
  have hj : Sga.hs 65022 j = true := hj
  rw [hs_mask] at hj
  simp at hj
  omega
theorem may_post {s : Sg} (h : may s = true) {q : Nat} (h1 : 1 ≤ q) (h2 : q ≤ 15) : may (setP s (ad s.p q)) = true := by
  have hb := may_bits.1 h
  refine may_bits.2 ⟨fun j hj => ?_, hb.2⟩
  have hj : Sga.hs (ad s.p q) j = true := hj
  rw [hs_ad] at hj
  cases hp : Sga.hs s.p j
  · rw [hp, Bool.false_or, decide_eq_true_eq] at hj; omega
  · exact hb.1 j hp
theorem pS_yes {s : Sg} (h : may s = true) {q : Nat} (h1 : 1 ≤ q) (h2 : q ≤ 15) : pS s q = setP s (ad s.p q) := by
  unfold pS
  rw [h, isS_iff.2 ⟨by omega, by omega⟩]
  simp
theorem ft_nine {s : Sg} (h : may s = true) : ft s 9 = 1 := by
  unfold ft
  have := (may_bits.1 h).2.2.2
  rw [if_neg (by omega), if_pos this]
/-- All but 9 are masked. -/
theorem dl_all {s : Sg} (hk : s.Ok) (h : may s = true) (hm : s.m = 65022) (n : Nat) : dl s n = (Sga.hs s.p n && decide (n = 9)) := by
  rw [dl_eq hk h, hm, hs_mask]
  cases hp : Sga.hs s.p n
  · rfl
  · have := (may_bits.1 h).1 n hp
    by_cases e : n = 9
    · simp [e]
    · simp [e, this]
theorem all_nine {s : Sg} (hk : s.Ok) (h : may s = true) (hm : s.m = 65022) (h9 : Sga.hs s.p 9 = true) : nN s = 9 ∧ nB s = 1 := by
  have hne : fst s 15 ≠ 0 := fun e => by
    have := fst_zero.1 e 9 (by omega) (by omega) (by rw [dl_all hk h hm, h9]; rfl)
    rw [ft_nine h] at this; omega
  have h1 := (fst_some hne).2.2.1
  rw [dl_all hk h hm] at h1
  have e : fst s 15 = 9 := of_decide_eq_true (Bool.and_eq_true_iff.1 h1).2
  have hn : nN s = 9 := by unfold nN; rw [if_pos h, e]
  exact ⟨hn, by unfold nB; rw [if_neg (by omega), hn, ft_nine h]⟩
theorem all_none {s : Sg} (hk : s.Ok) (h : may s = true) (hm : s.m = 65022) (h9 : Sga.hs s.p 9 = false) : nN s = 0 := by
  have e : fst s 15 = 0 := fst_zero.2 fun n _ _ hd => by
    rw [dl_all hk h hm] at hd
    obtain ⟨h1, h2⟩ := Bool.and_eq_true_iff.1 hd
    have h2 : n = 9 := of_decide_eq_true h2
    subst h2
    rw [h9] at h1; cases h1
  unfold nN
  rw [if_pos h, e]
/-- With 9 pending one is told, at most 9. -/
theorem nine_told {s : Sg} (hk : s.Ok) (h : may s = true) (h9 : Sga.hs s.p 9 = true) : 1 ≤ nN s ∧ nN s ≤ 9 := by
  have hd : dl s 9 = true := by rw [dl_eq hk h, h9]; rfl
  have hne : fst s 15 ≠ 0 := fun e => by
    have := fst_zero.1 e 9 (by omega) (by omega) hd
    rw [ft_nine h] at this; omega
  have h1 := fst_some hne
  have hn : nN s = fst s 15 := by unfold nN; rw [if_pos h]
  rw [hn]
  refine ⟨h1.1, Nat.le_of_not_lt fun hlt => ?_⟩
  have := h1.2.2.2.2 9 (by omega) hlt hd
  rw [ft_nine h] at this; omega
theorem all_nt : nt 65534 512 = 65022 := by decide
/-- A signal's number of any byte. -/
def sg (n : Nat) : Nat := 1 + n % 15
theorem sg_bd (n : Nat) : 1 ≤ sg n ∧ sg n ≤ 15 := by unfold sg; omega
theorem sg_eq (n : Nat) : 1 + (n : Int) % 15 = ((sg n : Nat) : Int) := by
  unfold sg
  omega

set_option maxRecDepth 100000 in
set_option maxHeartbeats 4000000 in
theorem kill_no (s : Sg) (n : Nat) (w : World) (hs : s.Ok) (h : may s = false) :
    Calls Try.prog 6 #[cv s, .int .u8 (n : Int)] w fun e w' => e = .returned (.bool true) ∧ Below w.heap.size w w' := by
  obtain ⟨v0, d0⟩ := one_box w s
  have HA := Lib.hid alive_any
  have HC := Lib.hid (fun w => check_any w s hs)
  rw [ckE_no h] at HC
  clear hs h
  go_enter Try.func6, Try.ntmps6
  go_wp2_with (first | (go_at_call 24; (with_reducible refine (HA.out _).mono ?_); rintro e wx1 ⟨rfl, hb1⟩; refine Hid.out ?_) | fail)
  refine Lib.hid ?_
  have vs_1 := v0.below hb1
  have d_1 := Below.trans d0 (hb1.mono (d0).size)
  have ld2 := vs_1.ld
  go_wp2_with (first | (go_at_call 14; (with_reducible refine (HC.out _).mono ?_); rintro e wx3 ⟨rfl, hb3⟩; refine Hid.out ?_) | fail)
  refine Lib.hid ?_
  have vs_3 := vs_1.below hb3
  have d_3 := Below.trans d_1 (hb3.mono (d_1).size)
  clear ld2
  go_wp2
  go_ret
  exact ⟨rfl, d_3⟩

set_option maxRecDepth 100000 in
set_option maxHeartbeats 4000000 in
theorem kill_yes (s : Sg) (n : Nat) (w : World) (hs : s.Ok) (hn : n < 256) (h : may s = true) (q9 : Bool) (hq9 : Sga.hs (pS (setM s 65022) (sg n : Nat)).p 9 = q9) :
    Calls Try.prog 6 #[cv s, .int .u8 (n : Int)] w fun e w' => e = .returned (.bool true) ∧ Below w.heap.size w w' := by
  obtain ⟨v0, d0⟩ := one_box w s
  have HA := Lib.hid alive_any
  have HC := Lib.hid (fun w => check_any w s hs)
  rw [ckE_yes h] at HC
  have HM : Hid (∀ w, Calls Try.prog 21 #[cv s, .int .u32 65534] w fun e w' => e = .returned (.tuple #[uv s.m, cv (setM s 65022), .int .i64 0]) ∧ Below w.heap.size w w') := Lib.hid (fun w => by
    have := mask_yes w s hs 65534 (by decide) h (by decide)
    rw [all_nt] at this
    exact this)
  have h1 := (sg_bd n).1
  have h2 := (sg_bd n).2
  have hq := sg_eq n
  have ht0 : (setM s 65022).Ok := Ok.setM hs (by decide)
  have hm0 := may_all h
  have ht1 : (pS (setM s 65022) (sg n : Nat)).Ok := pS_ok ht0 _
  have hm1 : may (pS (setM s 65022) (sg n : Nat)) = true := by rw [pS_yes hm0 h1 h2]; exact may_post hm0 h1 h2
  have hx1 : (pS (setM s 65022) (sg n : Nat)).m = 65022 := by rw [pS_yes hm0 h1 h2]; rfl
  generalize sg n = q at *
  have HP1 := Lib.hid (fun w v hv => post_all w (setM s 65022) ht0 v [(q : Int)] hv (by simp))
  replace HP1 : Hid (∀ w v, Nr w v [(q : Int)] → Calls Try.prog 20 #[cv (setM s 65022), v] w fun e w' => e = .returned (cv (pS (setM s 65022) q)) ∧ Below w.heap.size w w') := HP1
  generalize pS (setM s 65022) q = t1 at *
  generalize setM s 65022 = t0 at *
  have HN1 := Lib.hid (fun w => next_any w t1 ht1)
  have HP2 : Hid (∀ w v, Nr w v [9] → Calls Try.prog 20 #[cv t1, v] w fun e w' => e = .returned (cv (pS t1 9)) ∧ Below w.heap.size w w') := Lib.hid (fun w v hv => post_all w t1 ht1 v [9] hv (by simp))
  have hu9 : pS t1 9 = setP t1 (ad t1.p 9) := pS_yes hm1 (q := 9) (by omega) (by omega)
  have hmu : may (pS t1 9) = true := by rw [hu9]; exact may_post hm1 (by omega) (by omega)
  have hua := all_nine (pS_ok ht1 9) hmu (by rw [hu9]; exact hx1) (by rw [hu9]; show Sga.hs (ad t1.p 9) 9 = true; rw [hs_ad]; simp)
  have HN2 := Lib.hid (fun w => next_any w (pS t1 9) (pS_ok ht1 9))
  rw [hua.1, hua.2] at HN2
  replace HN2 : Hid (∀ w, Calls Try.prog 19 #[cv (pS t1 9)] w fun e w' => e = .returned (.tuple #[.int .i64 9, .int .i64 1, cv (nS (pS t1 9))]) ∧ Below w.heap.size w w') := HN2
  generalize nS (pS t1 9) = u1 at *
  generalize pS t1 9 = u at *
  have HP3 : Hid (∀ w v, Nr w v [9] → Calls Try.prog 20 #[cv s, v] w fun e w' => e = .returned (cv (pS s 9)) ∧ Below w.heap.size w w') := Lib.hid (fun w v hv => post_all w s hs v [9] hv (by simp))
  have hv9 : pS s 9 = setP s (ad s.p 9) := pS_yes h (q := 9) (by omega) (by omega)
  have hva := nine_told (pS_ok hs 9) (by rw [hv9]; exact may_post h (by omega) (by omega)) (by rw [hv9]; show Sga.hs (ad s.p 9) 9 = true; rw [hs_ad]; simp)
  have HN3 := Lib.hid (fun w => next_any w (pS s 9) (pS_ok hs 9))
  generalize nS (pS s 9) = v1 at *
  generalize nB (pS s 9) = b3 at *
  generalize nN (pS s 9) = j at *
  generalize pS s 9 = v9 at *
  have hj1 : decide ((1 : Int) ≤ (j : Int)) = true := decide_eq_true (by omega)
  have hj2 : decide ((j : Int) ≤ 9) = true := decide_eq_true (by omega)
  have hn0 : (0 : Int) ≤ (n : Int) := by omega
  have hn1 : (n : Int) < 256 := by omega
  have hsh : bits .and .u32 ((t1.p : Int) / 512) 1 = ((if q9 then 1 else 0 : Nat) : Int) := by
    have h5 : ((t1.p : Int) / 512) = ((t1.p / 512 : Nat) : Int) := rfl
    rw [h5, show (1 : Int) = ((1 : Nat) : Int) from rfl, u32_and_nat _ _ (Nat.lt_of_le_of_lt (Nat.div_le_self _ _) ht1.p) (by decide), Nat.and_one_is_mod, ← hq9, ← hs_div]
    show _ = ((if (t1.p / 512 % 2 == 1) = true then 1 else 0 : Nat) : Int)
    have : t1.p / 512 % 2 = 0 ∨ t1.p / 512 % 2 = 1 := by omega
    rcases this with h | h <;> rw [h] <;> rfl
  cases q9
  · have hnn := all_none ht1 hm1 hx1 hq9
    rw [hnn] at HN1
    replace HN1 : Hid (∀ w, Calls Try.prog 19 #[cv t1] w fun e w' => e = .returned (.tuple #[.int .i64 0, .int .i64 (nB t1 : Nat), cv (nS t1)]) ∧ Below w.heap.size w w') := HN1
    replace hsh : bits .and .u32 ((t1.p : Int) / 512) 1 = 0 := hsh
    clear hnn
    generalize nB t1 = b1 at *
    generalize nS t1 = r1 at *
    clear hs h h1 h2 ht0 hm0 ht1 hm1 hx1 hu9 hmu hua hv9 hva hn hq9
    go_enter Try.func6, Try.ntmps6
    go_wp2_with (first | (go_at_call 24; (with_reducible refine (HA.out _).mono ?_); rintro e wx1 ⟨rfl, hb1⟩; refine Hid.out ?_) | fail)
    refine Lib.hid ?_
    have vs_1 := v0.below hb1
    have d_1 := Below.trans d0 (hb1.mono (d0).size)
    have ld2 := vs_1.ld
    go_wp2_with (first | (go_at_call 14; (with_reducible refine (HC.out _).mono ?_); rintro e wx3 ⟨rfl, hb3⟩; refine Hid.out ?_) | fail)
    refine Lib.hid ?_
    have vs_3 := vs_1.below hb3
    have d_3 := Below.trans d_1 (hb3.mono (d_1).size)
    clear ld2
    have ld4 := vs_3.ld
    go_wp2_with (first | (go_at_call 21; (with_reducible refine (HM.out _).mono ?_); rintro e wx5 ⟨rfl, hb5⟩; refine Hid.out ?_) | fail)
    refine Lib.hid ?_
    have vs_5 := vs_3.below hb5
    have d_5 := Below.trans d_3 (hb5.mono (d_3).size)
    clear ld4
    have hlt := vs_5.lt
    obtain ⟨wx6, hm6, vt_6, dm6, sm6⟩ := V.made wx5 (t0)
    clear sm6
    have vs_6 := vs_5.below dm6
    have d_6 := Below.trans d_5 (dm6.mono (d_5).size)
    have ld7 := vt_6.ld
    obtain ⟨wx8, hr8⟩ : ∃ wz, wx6.alloc (.cells #[.int .i64 ((q : Int))] 3) = wz := ⟨_, rfl⟩
    have br8 : Below wx6.heap.size wx6 wx8 := by rw [← hr8]; exact (Below.refl _ _).alloc (Nat.le_refl _) _
    have nr8 : Nr wx8 (.slice (some ⟨wx6.heap.size, 0, none⟩) 1 1) [(q : Int)] := by rw [← hr8]; exact nr_one _ _
    have vs_8 := vs_6.below br8
    have vt_8 := vt_6.below br8
    have d_8 := Below.trans d_6 (br8.mono (d_6).size)
    go_wp2_with (first | (go_at_call 20; (with_reducible refine (HP1.out _ _ nr8).mono ?_); rintro e wx9 ⟨rfl, hb9⟩; refine Hid.out ?_) | fail)
    refine Lib.hid ?_
    have vs_9 := vs_8.below hb9
    have vt_9 := vt_8.below hb9
    have d_9 := Below.trans d_8 (hb9.mono (d_8).size)
    clear hm6 ld7 hr8
    obtain ⟨wx10, hm10, vt_10, km10, sm10⟩ := V.st vt_9 (t1)
    have vs_10 := vs_9.kept km10 (by show ¬ w.heap.size = wx5.heap.size; omega)
    have d_10 := Below.trans d_9 (km10.below (d_9).size (fun j e => by have e : j = wx5.heap.size := e; omega))
    clear sm10 km10
    clear hlt
    have ld11 := vt_10.ld
    go_wp2_with (first | (go_at_call 19; (with_reducible refine (HN1.out _).mono ?_); rintro e wx12 ⟨rfl, hb12⟩; refine Hid.out ?_) | fail)
    refine Lib.hid ?_
    have vs_12 := vs_10.below hb12
    have vt_12 := vt_10.below hb12
    have d_12 := Below.trans d_10 (hb12.mono (d_10).size)
    clear hm10 ld11
    obtain ⟨wx13, hm13, vr_13, dm13, sm13⟩ := V.made wx12 (r1)
    clear sm13
    have vs_13 := vs_12.below dm13
    have vt_13 := vt_12.below dm13
    have d_13 := Below.trans d_12 (dm13.mono (d_12).size)
    have ce14 := vt_13.p0
    have ld15 := vt_13.ld
    obtain ⟨wx16, hr16⟩ : ∃ wz, wx13.alloc (.cells #[.int .i64 (9)] 3) = wz := ⟨_, rfl⟩
    have br16 : Below wx13.heap.size wx13 wx16 := by rw [← hr16]; exact (Below.refl _ _).alloc (Nat.le_refl _) _
    have nr16 : Nr wx16 (.slice (some ⟨wx13.heap.size, 0, none⟩) 1 1) [9] := by rw [← hr16]; exact nr_one _ _
    have vs_16 := vs_13.below br16
    have vt_16 := vt_13.below br16
    have d_16 := Below.trans d_13 (br16.mono (d_13).size)
    go_wp2_with (first | (go_at_call 20; (with_reducible refine (HP2.out _ _ nr16).mono ?_); rintro e wx17 ⟨rfl, hb17⟩; refine Hid.out ?_) | fail)
    refine Lib.hid ?_
    have vs_17 := vs_16.below hb17
    have vt_17 := vt_16.below hb17
    have d_17 := Below.trans d_16 (hb17.mono (d_16).size)
    clear hm13 ce14 ld15 hr16
    obtain ⟨wx18, hm18, vu_18, dm18, sm18⟩ := V.made wx17 (u)
    clear sm18
    have vs_18 := vs_17.below dm18
    have d_18 := Below.trans d_17 (dm18.mono (d_17).size)
    have ld19 := vu_18.ld
    go_wp2_with (first | (go_at_call 19; (with_reducible refine (HN2.out _).mono ?_); rintro e wx20 ⟨rfl, hb20⟩; refine Hid.out ?_) | fail)
    refine Lib.hid ?_
    have vs_20 := vs_18.below hb20
    have vu_20 := vu_18.below hb20
    have d_20 := Below.trans d_18 (hb20.mono (d_18).size)
    clear hm18 ld19
    obtain ⟨wx21, hm21, vr_21, dm21, sm21⟩ := V.made wx20 (u1)
    clear sm21
    have vs_21 := vs_20.below dm21
    have d_21 := Below.trans d_20 (dm21.mono (d_20).size)
    have ld22 := vs_21.ld
    obtain ⟨wx23, hr23⟩ : ∃ wz, wx21.alloc (.cells #[.int .i64 (9)] 3) = wz := ⟨_, rfl⟩
    have br23 : Below wx21.heap.size wx21 wx23 := by rw [← hr23]; exact (Below.refl _ _).alloc (Nat.le_refl _) _
    have nr23 : Nr wx23 (.slice (some ⟨wx21.heap.size, 0, none⟩) 1 1) [9] := by rw [← hr23]; exact nr_one _ _
    have vs_23 := vs_21.below br23
    have d_23 := Below.trans d_21 (br23.mono (d_21).size)
    go_wp2_with (first | (go_at_call 20; (with_reducible refine (HP3.out _ _ nr23).mono ?_); rintro e wx24 ⟨rfl, hb24⟩; refine Hid.out ?_) | fail)
    refine Lib.hid ?_
    have vs_24 := vs_23.below hb24
    have d_24 := Below.trans d_23 (hb24.mono (d_23).size)
    clear hm21 ld22 hr23
    obtain ⟨wx25, hm25, vv_25, dm25, sm25⟩ := V.made wx24 (v9)
    clear sm25
    have d_25 := Below.trans d_24 (dm25.mono (d_24).size)
    have ld26 := vv_25.ld
    go_wp2_with (first | (go_at_call 19; (with_reducible refine (HN3.out _).mono ?_); rintro e wx27 ⟨rfl, hb27⟩; refine Hid.out ?_) | fail)
    refine Lib.hid ?_
    have vv_27 := vv_25.below hb27
    have d_27 := Below.trans d_25 (hb27.mono (d_25).size)
    clear hm25 ld26
    obtain ⟨wx28, hm28, vr_28, dm28, sm28⟩ := V.made wx27 (v1)
    clear sm28
    have d_28 := Below.trans d_27 (dm28.mono (d_27).size)
    go_wp2
    go_ret
    exact ⟨rfl, d_28⟩
  · have hnn := (all_nine ht1 hm1 hx1 hq9).1
    rw [hnn] at HN1
    replace HN1 : Hid (∀ w, Calls Try.prog 19 #[cv t1] w fun e w' => e = .returned (.tuple #[.int .i64 9, .int .i64 (nB t1 : Nat), cv (nS t1)]) ∧ Below w.heap.size w w') := HN1
    replace hsh : bits .and .u32 ((t1.p : Int) / 512) 1 = 1 := hsh
    clear hnn
    generalize nB t1 = b1 at *
    generalize nS t1 = r1 at *
    clear hs h h1 h2 ht0 hm0 ht1 hm1 hx1 hu9 hmu hua hv9 hva hn hq9
    go_enter Try.func6, Try.ntmps6
    go_wp2_with (first | (go_at_call 24; (with_reducible refine (HA.out _).mono ?_); rintro e wx1 ⟨rfl, hb1⟩; refine Hid.out ?_) | fail)
    refine Lib.hid ?_
    have vs_1 := v0.below hb1
    have d_1 := Below.trans d0 (hb1.mono (d0).size)
    have ld2 := vs_1.ld
    go_wp2_with (first | (go_at_call 14; (with_reducible refine (HC.out _).mono ?_); rintro e wx3 ⟨rfl, hb3⟩; refine Hid.out ?_) | fail)
    refine Lib.hid ?_
    have vs_3 := vs_1.below hb3
    have d_3 := Below.trans d_1 (hb3.mono (d_1).size)
    clear ld2
    have ld4 := vs_3.ld
    go_wp2_with (first | (go_at_call 21; (with_reducible refine (HM.out _).mono ?_); rintro e wx5 ⟨rfl, hb5⟩; refine Hid.out ?_) | fail)
    refine Lib.hid ?_
    have vs_5 := vs_3.below hb5
    have d_5 := Below.trans d_3 (hb5.mono (d_3).size)
    clear ld4
    have hlt := vs_5.lt
    obtain ⟨wx6, hm6, vt_6, dm6, sm6⟩ := V.made wx5 (t0)
    clear sm6
    have vs_6 := vs_5.below dm6
    have d_6 := Below.trans d_5 (dm6.mono (d_5).size)
    have ld7 := vt_6.ld
    obtain ⟨wx8, hr8⟩ : ∃ wz, wx6.alloc (.cells #[.int .i64 ((q : Int))] 3) = wz := ⟨_, rfl⟩
    have br8 : Below wx6.heap.size wx6 wx8 := by rw [← hr8]; exact (Below.refl _ _).alloc (Nat.le_refl _) _
    have nr8 : Nr wx8 (.slice (some ⟨wx6.heap.size, 0, none⟩) 1 1) [(q : Int)] := by rw [← hr8]; exact nr_one _ _
    have vs_8 := vs_6.below br8
    have vt_8 := vt_6.below br8
    have d_8 := Below.trans d_6 (br8.mono (d_6).size)
    go_wp2_with (first | (go_at_call 20; (with_reducible refine (HP1.out _ _ nr8).mono ?_); rintro e wx9 ⟨rfl, hb9⟩; refine Hid.out ?_) | fail)
    refine Lib.hid ?_
    have vs_9 := vs_8.below hb9
    have vt_9 := vt_8.below hb9
    have d_9 := Below.trans d_8 (hb9.mono (d_8).size)
    clear hm6 ld7 hr8
    obtain ⟨wx10, hm10, vt_10, km10, sm10⟩ := V.st vt_9 (t1)
    have vs_10 := vs_9.kept km10 (by show ¬ w.heap.size = wx5.heap.size; omega)
    have d_10 := Below.trans d_9 (km10.below (d_9).size (fun j e => by have e : j = wx5.heap.size := e; omega))
    clear sm10 km10
    clear hlt
    have ld11 := vt_10.ld
    go_wp2_with (first | (go_at_call 19; (with_reducible refine (HN1.out _).mono ?_); rintro e wx12 ⟨rfl, hb12⟩; refine Hid.out ?_) | fail)
    refine Lib.hid ?_
    have vs_12 := vs_10.below hb12
    have vt_12 := vt_10.below hb12
    have d_12 := Below.trans d_10 (hb12.mono (d_10).size)
    clear hm10 ld11
    obtain ⟨wx13, hm13, vr_13, dm13, sm13⟩ := V.made wx12 (r1)
    clear sm13
    have vs_13 := vs_12.below dm13
    have vt_13 := vt_12.below dm13
    have d_13 := Below.trans d_12 (dm13.mono (d_12).size)
    have ce14 := vt_13.p0
    have ld15 := vt_13.ld
    obtain ⟨wx16, hr16⟩ : ∃ wz, wx13.alloc (.cells #[.int .i64 (9)] 3) = wz := ⟨_, rfl⟩
    have br16 : Below wx13.heap.size wx13 wx16 := by rw [← hr16]; exact (Below.refl _ _).alloc (Nat.le_refl _) _
    have nr16 : Nr wx16 (.slice (some ⟨wx13.heap.size, 0, none⟩) 1 1) [9] := by rw [← hr16]; exact nr_one _ _
    have vs_16 := vs_13.below br16
    have vt_16 := vt_13.below br16
    have d_16 := Below.trans d_13 (br16.mono (d_13).size)
    go_wp2_with (first | (go_at_call 20; (with_reducible refine (HP2.out _ _ nr16).mono ?_); rintro e wx17 ⟨rfl, hb17⟩; refine Hid.out ?_) | fail)
    refine Lib.hid ?_
    have vs_17 := vs_16.below hb17
    have vt_17 := vt_16.below hb17
    have d_17 := Below.trans d_16 (hb17.mono (d_16).size)
    clear hm13 ce14 ld15 hr16
    obtain ⟨wx18, hm18, vu_18, dm18, sm18⟩ := V.made wx17 (u)
    clear sm18
    have vs_18 := vs_17.below dm18
    have d_18 := Below.trans d_17 (dm18.mono (d_17).size)
    have ld19 := vu_18.ld
    go_wp2_with (first | (go_at_call 19; (with_reducible refine (HN2.out _).mono ?_); rintro e wx20 ⟨rfl, hb20⟩; refine Hid.out ?_) | fail)
    refine Lib.hid ?_
    have vs_20 := vs_18.below hb20
    have vu_20 := vu_18.below hb20
    have d_20 := Below.trans d_18 (hb20.mono (d_18).size)
    clear hm18 ld19
    obtain ⟨wx21, hm21, vr_21, dm21, sm21⟩ := V.made wx20 (u1)
    clear sm21
    have vs_21 := vs_20.below dm21
    have d_21 := Below.trans d_20 (dm21.mono (d_20).size)
    have ld22 := vs_21.ld
    obtain ⟨wx23, hr23⟩ : ∃ wz, wx21.alloc (.cells #[.int .i64 (9)] 3) = wz := ⟨_, rfl⟩
    have br23 : Below wx21.heap.size wx21 wx23 := by rw [← hr23]; exact (Below.refl _ _).alloc (Nat.le_refl _) _
    have nr23 : Nr wx23 (.slice (some ⟨wx21.heap.size, 0, none⟩) 1 1) [9] := by rw [← hr23]; exact nr_one _ _
    have vs_23 := vs_21.below br23
    have d_23 := Below.trans d_21 (br23.mono (d_21).size)
    go_wp2_with (first | (go_at_call 20; (with_reducible refine (HP3.out _ _ nr23).mono ?_); rintro e wx24 ⟨rfl, hb24⟩; refine Hid.out ?_) | fail)
    refine Lib.hid ?_
    have vs_24 := vs_23.below hb24
    have d_24 := Below.trans d_23 (hb24.mono (d_23).size)
    clear hm21 ld22 hr23
    obtain ⟨wx25, hm25, vv_25, dm25, sm25⟩ := V.made wx24 (v9)
    clear sm25
    have d_25 := Below.trans d_24 (dm25.mono (d_24).size)
    have ld26 := vv_25.ld
    go_wp2_with (first | (go_at_call 19; (with_reducible refine (HN3.out _).mono ?_); rintro e wx27 ⟨rfl, hb27⟩; refine Hid.out ?_) | fail)
    refine Lib.hid ?_
    have vv_27 := vv_25.below hb27
    have d_27 := Below.trans d_25 (hb27.mono (d_25).size)
    clear hm25 ld26
    obtain ⟨wx28, hm28, vr_28, dm28, sm28⟩ := V.made wx27 (v1)
    clear sm28
    have d_28 := Below.trans d_27 (dm28.mono (d_27).size)
    go_wp2
    go_ret
    exact ⟨rfl, d_28⟩
theorem signalKill (s : Sg) (n : Int) (w : World) (hs : s.Ok) (hn : (Lit.int .u8 n).wf = true) :
    Calls Try.prog 6 #[cv s, .int .u8 n] w fun e w' => e = .returned (.bool true) ∧ Below w.heap.size w w' := by
  obtain ⟨n, rfl, hn'⟩ := u8_nat hn
  cases h : may s
  · exact kill_no s n w hs h
  · exact kill_yes s n w hs hn' h _ rfl
end Go.Proofs.Ytlhhgapimhpgnaa.Walk
