/-
  SignalHandlers' walk.
-/
import Derived.Test.YtlhhgapimhpgnaaSgi
namespace Go.Proofs.Ytlhhgapimhpgnaa.Walk
open Go Go.RowKit Kit Bk Sga Sgb Sgc Sgd Sgg Sgh
set_option linter.unusedVariables false
attribute [local go_sem ↓] lds_wrap sts_wrap eqv_wrap nev_wrap

/-- One signal pending alone, no mask, not busy. -/
structure One (s : Sg) (q : Nat) : Prop where
  ok : s.Ok
  may : may s = true
  p : s.p = bt q
  m : s.m = 0
  b : s.b = false
  q1 : 1 ≤ q
  q2 : q ≤ 15
theorem One.dl {s : Sg} {q : Nat} (h : One s q) (n : Nat) : dl s n = decide (q = n) := by
  rw [dl_eq h.ok h.may, h.p, h.m, h.b, hs_bt, hs_zero]
  simp
theorem One.clrd {s : Sg} {q : Nat} (h : One s q) {k : Nat} (hk : q ≤ k) (hk2 : k < 32) : clrd s k = 0 := hs_eq fun j => by
  rw [hs_clrd h.ok k hk2, h.dl, h.p, hs_bt, hs_zero]
  have := h.q1
  by_cases e : q = j
  · subst e; simp [hk, this]
  · simp [e]
theorem One.no {s : Sg} {q : Nat} (h : One s q) (hf : ft s q = 0) : nN s = 0 ∧ nB s = 0 ∧ nS s = setP s 0 := by
  have h0 : fst s 15 = 0 := fst_zero.2 fun n h1 h2 h3 => by
    rw [h.dl, decide_eq_true_eq] at h3
    rw [← h3]; exact hf
  have hn : nN s = 0 := by unfold nN; rw [if_pos h.may, h0]
  refine ⟨hn, by unfold nB; rw [if_pos hn], ?_⟩
  unfold nS
  rw [if_pos h.may, if_pos hn, h.clrd h.q2 (by omega)]
theorem One.yes {s : Sg} {q : Nat} (h : One s q) (hf : ft s q ≠ 0) : nN s = q ∧ nB s = ft s q ∧ nS s = setB (setP s 0) (ft s q == 2) := by
  have hne : fst s 15 ≠ 0 := fun e => hf (fst_zero.1 e q h.q1 h.q2 (by rw [h.dl]; simp))
  have h1 := fst_some hne
  have e : fst s 15 = q := by
    have := h1.2.2.1
    rw [h.dl, decide_eq_true_eq] at this
    exact this.symm
  have hn : nN s = q := by unfold nN; rw [if_pos h.may, e]
  have hq := h.q1
  have hb : nB s = ft s q := by unfold nB; rw [if_neg (by omega), hn]
  refine ⟨hn, hb, ?_⟩
  unfold nS
  rw [if_pos h.may, if_neg (by omega), hb, hn, h.clrd (Nat.le_refl _) (by have := h.q2; omega), h.b, Bool.false_or]
/-- Signals with a handler, cleared. -/
def z3 (s : Sg) : Sg := setB (setM (setP s 0) 0) false
theorem z3_ok {s : Sg} (h : s.Ok) : (z3 s).Ok := Ok.setB (Ok.setM (Ok.setP h (by decide)) (by decide)) _
theorem may_setH {s : Sg} {q v : Nat} (h : may s = true) (hq : 1 ≤ q) (h9 : q ≠ 9) : may (setH s q v) = true := by
  have hb := may_bits.1 h
  refine may_bits.2 ⟨hb.1, hb.2.1, ?_, ?_⟩
  · show up s.h q v 0 = 0
    rw [up_other _ _ _ _ (by omega)]; exact hb.2.2.1
  · show up s.h q v 9 = 0
    rw [up_other _ _ _ _ (by omega)]; exact hb.2.2.2
theorem may_z3 {s : Sg} (h : may s = true) : may (z3 s) = true := by
  have hb := may_bits.1 h
  refine may_bits.2 ⟨fun j hj => ?_, fun j hj => ?_, hb.2.2⟩
  · have hj : Sga.hs 0 j = true := hj
    rw [hs_zero] at hj; cases hj
  · have hj : Sga.hs 0 j = true := hj
    rw [hs_zero] at hj; cases hj
theorem one_z3 {s : Sg} (hk : s.Ok) (h : may s = true) {q : Nat} (h1 : 1 ≤ q) (h2 : q ≤ 15) : One (pS (z3 s) q) q ∧ pS (z3 s) q = setP (z3 s) (bt q) := by
  have e : pS (z3 s) q = setP (z3 s) (bt q) := by
    unfold pS
    rw [may_z3 h, show isS (q : Int) = true from isS_iff.2 ⟨by omega, by omega⟩]
    have : ad (z3 s).p q = bt q := by
      show ad 0 q = bt q
      refine hs_eq fun j => ?_
      rw [hs_ad, hs_zero, hs_bt, Bool.false_or]
    simp [this]
  have hb := may_bits.1 (may_z3 h)
  refine ⟨?_, e⟩
  rw [e]
  refine ⟨Ok.setP (z3_ok hk) (bt_lt (by omega)), may_bits.2 ⟨fun j hj => ?_, hb.2⟩, rfl, rfl, rfl, h1, h2⟩
  have hj : Sga.hs (bt q) j = true := hj
  rw [hs_bt, decide_eq_true_eq] at hj
  omega
theorem ft_h {s : Sg} {q v : Nat} (h : s.h q = v) : ft s q = if v = 1 ∨ (v = 0 ∧ q = 12) then 0 else if v = 0 then 1 else 2 := by unfold ft; rw [h]
/-- A signal's number of any byte. -/
def sg (n : Nat) : Nat := 1 + n % 15
theorem sg_bd (n : Nat) : 1 ≤ sg n ∧ sg n ≤ 15 := by unfold sg; omega
theorem sg_eq (n : Nat) : 1 + (n : Int) % 15 = ((sg n : Nat) : Int) := by
  unfold sg
  omega
theorem eqv_self {s : Sg} (hs : s.Ok) (w : World) : (eqV (cv s) (cv s)).run Try.prog w = .ok (.bool true) w := by rw [run_eqV hs hs, eqS_self]
theorem nev_self {s : Sg} (hs : s.Ok) (w : World) : (neV (cv s) (cv s)).run Try.prog w = .ok (.bool false) w := by rw [run_neV hs hs, eqS_self]; rfl

set_option maxRecDepth 100000 in
set_option maxHeartbeats 4000000 in
theorem handlers_no (s : Sg) (n a : Nat) (w : World) (hs : s.Ok) (hn : n < 256) (ha : a < 4294967296) (h : may s = false) :
    Calls Try.prog 9 #[cv s, .int .u8 (n : Int), uv a] w fun e w' => e = .returned (.bool true) ∧ Below w.heap.size w w' := by
  obtain ⟨v0, d0⟩ := one_box w s
  have H0 := Lib.hid (And.intro v0 d0)
  have HA := Lib.hid alive_any
  have HC := Lib.hid (fun w => check_any w s hs)
  rw [ckE_no h] at HC
  clear v0 d0 hs hn ha h
  go_enter Try.func9, Try.ntmps9
  go_wp2_with (first | (go_at_call 24; (with_reducible refine (HA.out _).mono ?_); rintro e w1 ⟨rfl, hb1⟩; have v1 := H0.out.1.below hb1; have d1 := H0.out.2.trans (hb1.mono H0.out.2.size); have l1 := v1.ld; have H1 := Lib.hid (And.intro v1 d1); clear v1 d1 hb1) | (go_at_call 14; (with_reducible refine (HC.out _).mono ?_); rintro e w4 ⟨rfl, hb4⟩; have H4 := Lib.hid (H1.out.2.trans (hb4.mono H1.out.2.size)); clear hb4))
  go_ret
  exact ⟨rfl, H4.out⟩

set_option maxRecDepth 100000 in
set_option maxHeartbeats 4000000 in
theorem handlers_nine (s : Sg) (n a : Nat) (w : World) (hs : s.Ok) (hn : n < 256) (ha : a < 4294967296) (h : may s = true) (h9 : sg n = 9) :
    Calls Try.prog 9 #[cv s, .int .u8 (n : Int), uv a] w fun e w' => e = .returned (.bool true) ∧ Below w.heap.size w w' := by
  obtain ⟨v0, d0⟩ := one_box w s
  have H0 := Lib.hid (And.intro v0 d0)
  have HA := Lib.hid alive_any
  have HC := Lib.hid (fun w => check_any w s hs)
  rw [ckE_yes h] at HC
  have hq := sg_eq n
  rw [h9] at hq
  replace hq : 1 + (n : Int) % 15 = 9 := hq
  have HH := Lib.hid (fun w => handle_no w s hs 9 a (by unfold okh; simp))
  have he := eqv_self hs
  have hn0 : (0 : Int) ≤ (n : Int) := by omega
  have hn1 : (n : Int) < 256 := by omega
  clear v0 d0 hs ha h h9 hn
  go_enter Try.func9, Try.ntmps9
  go_wp2_with (first | (go_at_call 24; (with_reducible refine (HA.out _).mono ?_); rintro e w1 ⟨rfl, hb1⟩; have v1 := H0.out.1.below hb1; have d1 := H0.out.2.trans (hb1.mono H0.out.2.size); have l1 := v1.ld; have H1 := Lib.hid (And.intro v1 d1); clear v1 d1 hb1) | (go_at_call 14; (with_reducible refine (HC.out _).mono ?_); rintro e w2 ⟨rfl, hb2⟩; have v2 := H1.out.1.below hb2; have d2 := H1.out.2.trans (hb2.mono H1.out.2.size); have l2 := v2.ld; have H2 := Lib.hid (And.intro v2 d2); clear v2 d2 hb2) | (go_at_call 18; (with_reducible refine (HH.out _).mono ?_); rintro e w3 ⟨rfl, hb3⟩; have v3 := H2.out.1.below hb3; have d3 := H2.out.2.trans (hb3.mono H2.out.2.size); obtain ⟨w4, h4, v4, d4, s4⟩ := V.made w3 s; have l4 := v4.ld; have k4 := (v3.below d4).ld; have H4 := Lib.hid (d3.trans (d4.mono d3.size)); clear v3 d3 v4 d4 s4 hb3) | fail)
  go_ret
  exact ⟨rfl, H4.out⟩
set_option maxRecDepth 100000 in
set_option maxHeartbeats 4000000 in
theorem handlers_ign1 (s : Sg) (n a : Nat) (w : World) (hs : s.Ok) (hn : n < 256) (ha : a < 4294967296) (h : may s = true) (h9 : sg n ≠ 9) (h1 : a = 1) :
    Calls Try.prog 9 #[cv s, .int .u8 (n : Int), uv a] w fun e w' => e = .returned (.bool true) ∧ Below w.heap.size w w' := by
  obtain ⟨v0, d0⟩ := one_box w s
  have H0 := Lib.hid (And.intro v0 d0)
  have HA := Lib.hid alive_any
  have HC := Lib.hid (fun w => check_any w s hs)
  rw [ckE_yes h] at HC
  have hq1 := (sg_bd n).1
  have hq2 := (sg_bd n).2
  have hq := sg_eq n
  generalize sg n = q at *
  have hq9 : ((q : Int) == 9) = false := beq_eq_false_iff_ne.2 (by omega)
  have hok : okh s (q : Int) = true := by unfold okh; rw [h, isS_iff.2 ⟨by omega, by omega⟩, hq9]; rfl
  have HH1 := Lib.hid (fun w => handle_yes w s hs q a hok)
  have htok := Ok.setH hs (k := q) (by omega) ha
  have hty := may_setH (v := a) h hq1 h9
  have hok2 : okh (setH s q a) (q : Int) = true := by unfold okh; rw [hty, isS_iff.2 ⟨by omega, by omega⟩, hq9]; rfl
  have HH2 : Hid (∀ w, Calls Try.prog 18 #[cv (setH s q a), .int .i64 (q : Int), uv (s.h q)] w fun e w' => e = .returned (.tuple #[uv a, cv s, .int .i64 0]) ∧ Below w.heap.size w w') := Lib.hid (fun w => by
    have := handle_yes w (setH s q a) htok q (s.h q) hok2
    rw [setH_setH, setH_same, show (setH s q a).h q = a from up_same _ _ _] at this
    exact this)
  have hne := nev_self hs
  have heq := eqv_self (z3_ok htok)
  have h1z := one_z3 htok hty hq1 hq2
  have hfz : ft (pS (z3 (setH s q a)) q) q = if a = 1 ∨ (a = 0 ∧ q = 12) then 0 else if a = 0 then 1 else 2 := ft_h (by rw [h1z.2]; exact up_same _ _ _)
  have HPz := Lib.hid (fun w v hv => post_all w (z3 (setH s q a)) (z3_ok htok) v [(q : Int)] hv (by simp))
  have HNz := Lib.hid (fun w => next_any w _ h1z.1.ok)
  have hzz : pS (z3 (setH s q a)) q = setP (z3 (setH s q a)) (bt q) := h1z.2
  have ha1 : ((a : Int) == 1) = true := beq_iff_eq.2 (by omega)
  have hno := h1z.1.no (by rw [hfz]; exact if_pos (.inl h1))
  rw [hno.1, hno.2.1, hno.2.2, hzz, show setP (setP (z3 (setH s q a)) (bt q)) 0 = z3 (setH s q a) from rfl, ← hzz] at HNz
  replace HNz : Hid (∀ w, Calls Try.prog 19 #[cv (pS (z3 (setH s q a)) q)] w fun e w' => e = .returned (.tuple #[.int .i64 0, .int .i64 0, cv (z3 (setH s q a))]) ∧ Below w.heap.size w w') := HNz
  have HN := HNz
  clear hno hfz HNz h1
  have hz3 : setB (setM (setP (setH s q a) 0) 0) false = z3 (setH s q a) := rfl
  have hps : ps (z3 (setH s q a)) [(q : Int)] = pS (z3 (setH s q a)) q := rfl
  rw [hps] at HPz
  have HZ := Lib.hid hz3
  clear hz3 hps h1z hzz hok hok2 htok hty v0 d0 h
  generalize z3 (setH s q a) = z at *
  generalize pS z q = y at *
  generalize setH s q a = t at *
  have hn0 : (0 : Int) ≤ (n : Int) := by omega
  have hn1 : (n : Int) < 256 := by omega
  have hqi0 : (0 : Int) ≤ (q : Int) := by omega
  have hqi : (q : Int) < 16 := by omega
  have hq16 : q < 16 := by omega
  clear hs hn ha h9 hq1 hq2
  go_enter Try.func9, Try.ntmps9
  go_wp2_with (first | (go_at_call 24; (with_reducible refine (HA.out _).mono ?_); rintro e w1 ⟨rfl, hb1⟩; have v1 := H0.out.1.below hb1; have d1 := H0.out.2.trans (hb1.mono H0.out.2.size); have l1 := v1.ld; have H1 := Lib.hid (And.intro v1 d1); clear v1 d1 hb1) | (go_at_call 14; (with_reducible refine (HC.out _).mono ?_); rintro e w2 ⟨rfl, hb2⟩; have v2 := H1.out.1.below hb2; have d2 := H1.out.2.trans (hb2.mono H1.out.2.size); have l2 := v2.ld; have H2 := Lib.hid (And.intro v2 d2); clear v2 d2 hb2) | (go_at_call 18; (with_reducible refine (HH1.out _).mono ?_); rintro e w3 ⟨rfl, hb3⟩; have v3 := H2.out.1.below hb3; have d3 := H2.out.2.trans (hb3.mono H2.out.2.size); obtain ⟨w4, h4, v4, d4, s4⟩ := V.made w3 t; have l4 := v4.ld; have H4 := Lib.hid (And.intro (v3.below d4) (And.intro v4 (And.intro (d3.trans (d4.mono d3.size)) v3.lt))); clear v3 d3 v4 d4 s4 hb3) | (go_at_call 18; (with_reducible refine (HH2.out _).mono ?_); rintro e w5 ⟨rfl, hb5⟩; refine Hid.out ?_))
  refine Lib.hid ?_
  have vs5 := H4.out.1.below hb5
  have vt5 := H4.out.2.1.below hb5
  have d5 := H4.out.2.2.1.trans (hb5.mono H4.out.2.2.1.size)
  have hlt := H4.out.2.2.2
  obtain ⟨w6, h6, vu6, d6, s6⟩ := V.made w5 s
  have vs6 := vs5.below d6
  have vt6 := vt5.below d6
  have D6 := d5.trans (d6.mono d5.size)
  have ls6 := vs6.ld
  have lu6 := vu6.ld
  have c6 := vs6.h2 hq16
  have t0 := vt6.p0
  have g0 := vt6.free 0
  have t1 := vt6.m1
  have g1 := vt6.free 1
  have t2 := vt6.b18
  have g2 := vt6.free 18
  have vz := ((vt6.setp 0).setm 0).setb false
  rw [HZ.out] at vz
  have DZ := ((D6.setCell (p := ⟨w3.heap.size, 0, none⟩) (Nat.le_of_lt hlt) (uv 0)).setCell (p := ⟨w3.heap.size, 1, none⟩) (Nat.le_of_lt hlt) (uv 0)).setCell (p := ⟨w3.heap.size, 18, none⟩) (Nat.le_of_lt hlt) (.bool false)
  obtain ⟨w7, hw7⟩ : ∃ w7, ((w6.setCell ⟨w3.heap.size, 0, none⟩ (.int .u32 0)).setCell ⟨w3.heap.size, 1, none⟩ (.int .u32 0)).setCell ⟨w3.heap.size, 18, none⟩ (.bool false) = w7 := ⟨_, rfl⟩
  replace vz : V w7 w3.heap.size z := by rw [← hw7]; exact vz
  replace DZ : Below w.heap.size w w7 := by rw [← hw7]; exact DZ
  have lz := vz.ld
  have HP := Lib.hid (HPz.out _ _ (nr_one w7 (q : Int)))
  have bz := (Below.refl w7.heap.size w7).alloc (Nat.le_refl _) (.cells #[.int .i64 (q : Int)] 3)
  have H7 := Lib.hid (And.intro (vz.below bz) (DZ.alloc DZ.size (.cells #[.int .i64 (q : Int)] 3)))
  have lz2 := (vz.below bz).ld
  clear vs5 vt5 d5 vu6 d6 s6 vs6 vt6 D6 vz DZ bz hb5 hlt
  go_wp2_with (first | (go_at_call 20; (with_reducible refine HP.out.mono ?_); rintro e w8 ⟨rfl, hb8⟩; have v8 := H7.out.1.below hb8; have d8 := H7.out.2.trans (hb8.mono H7.out.2.size); have H8 := Lib.hid (And.intro v8 d8); clear v8 d8 hb8) | (go_at_call 19; (with_reducible refine (HN.out _).mono ?_); rintro e w9 ⟨rfl, hb9⟩; have v9 := H8.out.1.below hb9; have d9 := H8.out.2.trans (hb9.mono H8.out.2.size); obtain ⟨wa, ha, va, da, sa⟩ := V.made w9 z; have la := va.ld; have ka := (v9.below da).ld; have pa := va.p0; have qa := va.b18; have Ha := Lib.hid (d9.trans (da.mono d9.size)); clear v9 d9 va da sa hb9))
  go_ret
  exact ⟨rfl, Ha.out⟩
set_option maxRecDepth 100000 in
set_option maxHeartbeats 4000000 in
theorem handlers_ign2 (s : Sg) (n a : Nat) (w : World) (hs : s.Ok) (hn : n < 256) (ha : a < 4294967296) (h : may s = true) (h9 : sg n ≠ 9) (h1 : a = 0) (h2 : sg n = 12) :
    Calls Try.prog 9 #[cv s, .int .u8 (n : Int), uv a] w fun e w' => e = .returned (.bool true) ∧ Below w.heap.size w w' := by
  obtain ⟨v0, d0⟩ := one_box w s
  have H0 := Lib.hid (And.intro v0 d0)
  have HA := Lib.hid alive_any
  have HC := Lib.hid (fun w => check_any w s hs)
  rw [ckE_yes h] at HC
  have hq1 := (sg_bd n).1
  have hq2 := (sg_bd n).2
  have hq := sg_eq n
  generalize sg n = q at *
  have hq9 : ((q : Int) == 9) = false := beq_eq_false_iff_ne.2 (by omega)
  have hok : okh s (q : Int) = true := by unfold okh; rw [h, isS_iff.2 ⟨by omega, by omega⟩, hq9]; rfl
  have HH1 := Lib.hid (fun w => handle_yes w s hs q a hok)
  have htok := Ok.setH hs (k := q) (by omega) ha
  have hty := may_setH (v := a) h hq1 h9
  have hok2 : okh (setH s q a) (q : Int) = true := by unfold okh; rw [hty, isS_iff.2 ⟨by omega, by omega⟩, hq9]; rfl
  have HH2 : Hid (∀ w, Calls Try.prog 18 #[cv (setH s q a), .int .i64 (q : Int), uv (s.h q)] w fun e w' => e = .returned (.tuple #[uv a, cv s, .int .i64 0]) ∧ Below w.heap.size w w') := Lib.hid (fun w => by
    have := handle_yes w (setH s q a) htok q (s.h q) hok2
    rw [setH_setH, setH_same, show (setH s q a).h q = a from up_same _ _ _] at this
    exact this)
  have hne := nev_self hs
  have heq := eqv_self (z3_ok htok)
  have h1z := one_z3 htok hty hq1 hq2
  have hfz : ft (pS (z3 (setH s q a)) q) q = if a = 1 ∨ (a = 0 ∧ q = 12) then 0 else if a = 0 then 1 else 2 := ft_h (by rw [h1z.2]; exact up_same _ _ _)
  have HPz := Lib.hid (fun w v hv => post_all w (z3 (setH s q a)) (z3_ok htok) v [(q : Int)] hv (by simp))
  have HNz := Lib.hid (fun w => next_any w _ h1z.1.ok)
  have hzz : pS (z3 (setH s q a)) q = setP (z3 (setH s q a)) (bt q) := h1z.2
  have ha1 : ((a : Int) == 1) = false := beq_eq_false_iff_ne.2 (by omega)
  have ha0 : ((a : Int) == 0) = true := beq_iff_eq.2 (by omega)
  have hq12 : ((q : Int) == 12) = true := beq_iff_eq.2 (by omega)
  have hno := h1z.1.no (by rw [hfz]; exact if_pos (.inr ⟨h1, h2⟩))
  rw [hno.1, hno.2.1, hno.2.2, hzz, show setP (setP (z3 (setH s q a)) (bt q)) 0 = z3 (setH s q a) from rfl, ← hzz] at HNz
  replace HNz : Hid (∀ w, Calls Try.prog 19 #[cv (pS (z3 (setH s q a)) q)] w fun e w' => e = .returned (.tuple #[.int .i64 0, .int .i64 0, cv (z3 (setH s q a))]) ∧ Below w.heap.size w w') := HNz
  have HN := HNz
  clear hno hfz HNz h1 h2
  have hz3 : setB (setM (setP (setH s q a) 0) 0) false = z3 (setH s q a) := rfl
  have hps : ps (z3 (setH s q a)) [(q : Int)] = pS (z3 (setH s q a)) q := rfl
  rw [hps] at HPz
  have HZ := Lib.hid hz3
  clear hz3 hps h1z hzz hok hok2 htok hty v0 d0 h
  generalize z3 (setH s q a) = z at *
  generalize pS z q = y at *
  generalize setH s q a = t at *
  have hn0 : (0 : Int) ≤ (n : Int) := by omega
  have hn1 : (n : Int) < 256 := by omega
  have hqi0 : (0 : Int) ≤ (q : Int) := by omega
  have hqi : (q : Int) < 16 := by omega
  have hq16 : q < 16 := by omega
  clear hs hn ha h9 hq1 hq2
  go_enter Try.func9, Try.ntmps9
  go_wp2_with (first | (go_at_call 24; (with_reducible refine (HA.out _).mono ?_); rintro e w1 ⟨rfl, hb1⟩; have v1 := H0.out.1.below hb1; have d1 := H0.out.2.trans (hb1.mono H0.out.2.size); have l1 := v1.ld; have H1 := Lib.hid (And.intro v1 d1); clear v1 d1 hb1) | (go_at_call 14; (with_reducible refine (HC.out _).mono ?_); rintro e w2 ⟨rfl, hb2⟩; have v2 := H1.out.1.below hb2; have d2 := H1.out.2.trans (hb2.mono H1.out.2.size); have l2 := v2.ld; have H2 := Lib.hid (And.intro v2 d2); clear v2 d2 hb2) | (go_at_call 18; (with_reducible refine (HH1.out _).mono ?_); rintro e w3 ⟨rfl, hb3⟩; have v3 := H2.out.1.below hb3; have d3 := H2.out.2.trans (hb3.mono H2.out.2.size); obtain ⟨w4, h4, v4, d4, s4⟩ := V.made w3 t; have l4 := v4.ld; have H4 := Lib.hid (And.intro (v3.below d4) (And.intro v4 (And.intro (d3.trans (d4.mono d3.size)) v3.lt))); clear v3 d3 v4 d4 s4 hb3) | (go_at_call 18; (with_reducible refine (HH2.out _).mono ?_); rintro e w5 ⟨rfl, hb5⟩; refine Hid.out ?_))
  refine Lib.hid ?_
  have vs5 := H4.out.1.below hb5
  have vt5 := H4.out.2.1.below hb5
  have d5 := H4.out.2.2.1.trans (hb5.mono H4.out.2.2.1.size)
  have hlt := H4.out.2.2.2
  obtain ⟨w6, h6, vu6, d6, s6⟩ := V.made w5 s
  have vs6 := vs5.below d6
  have vt6 := vt5.below d6
  have D6 := d5.trans (d6.mono d5.size)
  have ls6 := vs6.ld
  have lu6 := vu6.ld
  have c6 := vs6.h2 hq16
  have t0 := vt6.p0
  have g0 := vt6.free 0
  have t1 := vt6.m1
  have g1 := vt6.free 1
  have t2 := vt6.b18
  have g2 := vt6.free 18
  have vz := ((vt6.setp 0).setm 0).setb false
  rw [HZ.out] at vz
  have DZ := ((D6.setCell (p := ⟨w3.heap.size, 0, none⟩) (Nat.le_of_lt hlt) (uv 0)).setCell (p := ⟨w3.heap.size, 1, none⟩) (Nat.le_of_lt hlt) (uv 0)).setCell (p := ⟨w3.heap.size, 18, none⟩) (Nat.le_of_lt hlt) (.bool false)
  obtain ⟨w7, hw7⟩ : ∃ w7, ((w6.setCell ⟨w3.heap.size, 0, none⟩ (.int .u32 0)).setCell ⟨w3.heap.size, 1, none⟩ (.int .u32 0)).setCell ⟨w3.heap.size, 18, none⟩ (.bool false) = w7 := ⟨_, rfl⟩
  replace vz : V w7 w3.heap.size z := by rw [← hw7]; exact vz
  replace DZ : Below w.heap.size w w7 := by rw [← hw7]; exact DZ
  have lz := vz.ld
  have HP := Lib.hid (HPz.out _ _ (nr_one w7 (q : Int)))
  have bz := (Below.refl w7.heap.size w7).alloc (Nat.le_refl _) (.cells #[.int .i64 (q : Int)] 3)
  have H7 := Lib.hid (And.intro (vz.below bz) (DZ.alloc DZ.size (.cells #[.int .i64 (q : Int)] 3)))
  have lz2 := (vz.below bz).ld
  clear vs5 vt5 d5 vu6 d6 s6 vs6 vt6 D6 vz DZ bz hb5 hlt
  go_wp2_with (first | (go_at_call 20; (with_reducible refine HP.out.mono ?_); rintro e w8 ⟨rfl, hb8⟩; have v8 := H7.out.1.below hb8; have d8 := H7.out.2.trans (hb8.mono H7.out.2.size); have H8 := Lib.hid (And.intro v8 d8); clear v8 d8 hb8) | (go_at_call 19; (with_reducible refine (HN.out _).mono ?_); rintro e w9 ⟨rfl, hb9⟩; have v9 := H8.out.1.below hb9; have d9 := H8.out.2.trans (hb9.mono H8.out.2.size); obtain ⟨wa, ha, va, da, sa⟩ := V.made w9 z; have la := va.ld; have ka := (v9.below da).ld; have pa := va.p0; have qa := va.b18; have Ha := Lib.hid (d9.trans (da.mono d9.size)); clear v9 d9 va da sa hb9))
  go_ret
  exact ⟨rfl, Ha.out⟩
set_option maxRecDepth 100000 in
set_option maxHeartbeats 4000000 in
theorem handlers_fatal (s : Sg) (n a : Nat) (w : World) (hs : s.Ok) (hn : n < 256) (ha : a < 4294967296) (h : may s = true) (h9 : sg n ≠ 9) (h1 : a = 0) (h2 : sg n ≠ 12) :
    Calls Try.prog 9 #[cv s, .int .u8 (n : Int), uv a] w fun e w' => e = .returned (.bool true) ∧ Below w.heap.size w w' := by
  obtain ⟨v0, d0⟩ := one_box w s
  have H0 := Lib.hid (And.intro v0 d0)
  have HA := Lib.hid alive_any
  have HC := Lib.hid (fun w => check_any w s hs)
  rw [ckE_yes h] at HC
  have hq1 := (sg_bd n).1
  have hq2 := (sg_bd n).2
  have hq := sg_eq n
  generalize sg n = q at *
  have hq9 : ((q : Int) == 9) = false := beq_eq_false_iff_ne.2 (by omega)
  have hok : okh s (q : Int) = true := by unfold okh; rw [h, isS_iff.2 ⟨by omega, by omega⟩, hq9]; rfl
  have HH1 := Lib.hid (fun w => handle_yes w s hs q a hok)
  have htok := Ok.setH hs (k := q) (by omega) ha
  have hty := may_setH (v := a) h hq1 h9
  have hok2 : okh (setH s q a) (q : Int) = true := by unfold okh; rw [hty, isS_iff.2 ⟨by omega, by omega⟩, hq9]; rfl
  have HH2 : Hid (∀ w, Calls Try.prog 18 #[cv (setH s q a), .int .i64 (q : Int), uv (s.h q)] w fun e w' => e = .returned (.tuple #[uv a, cv s, .int .i64 0]) ∧ Below w.heap.size w w') := Lib.hid (fun w => by
    have := handle_yes w (setH s q a) htok q (s.h q) hok2
    rw [setH_setH, setH_same, show (setH s q a).h q = a from up_same _ _ _] at this
    exact this)
  have hne := nev_self hs
  have heq := eqv_self (z3_ok htok)
  have h1z := one_z3 htok hty hq1 hq2
  have hfz : ft (pS (z3 (setH s q a)) q) q = if a = 1 ∨ (a = 0 ∧ q = 12) then 0 else if a = 0 then 1 else 2 := ft_h (by rw [h1z.2]; exact up_same _ _ _)
  have HPz := Lib.hid (fun w v hv => post_all w (z3 (setH s q a)) (z3_ok htok) v [(q : Int)] hv (by simp))
  have HNz := Lib.hid (fun w => next_any w _ h1z.1.ok)
  have hzz : pS (z3 (setH s q a)) q = setP (z3 (setH s q a)) (bt q) := h1z.2
  have ha1 : ((a : Int) == 1) = false := beq_eq_false_iff_ne.2 (by omega)
  have ha0 : ((a : Int) == 0) = true := beq_iff_eq.2 (by omega)
  have hq12 : ((q : Int) == 12) = false := beq_eq_false_iff_ne.2 (by omega)
  have hyes := h1z.1.yes (by rw [hfz]; rw [if_neg (by rintro (h | ⟨_, h⟩); omega; exact h2 h), if_pos h1]; decide)
  have hfb : ft (pS (z3 (setH s q a)) q) q = 1 := by rw [hfz]; rw [if_neg (by rintro (h | ⟨_, h⟩); omega; exact h2 h), if_pos h1]
  rw [hyes.1, hyes.2.1, hyes.2.2, hfb, hzz, show setP (setP (z3 (setH s q a)) (bt q)) 0 = z3 (setH s q a) from rfl, ← hzz] at HNz
  replace HNz : Hid (∀ w, Calls Try.prog 19 #[cv (pS (z3 (setH s q a)) q)] w fun e w' => e = .returned (.tuple #[.int .i64 (q : Int), .int .i64 1, cv (setB (z3 (setH s q a)) false)]) ∧ Below w.heap.size w w') := HNz
  have HN := HNz
  obtain ⟨r, hr⟩ : ∃ r, setB (z3 (setH s q a)) false = r := ⟨_, rfl⟩
  have hrp : r.p = 0 := by rw [← hr]; rfl
  have hrb : r.b = false := by rw [← hr]; rfl
  rw [hr] at HN
  clear hyes hfz hfb HNz hr h1 h2
  have hz3 : setB (setM (setP (setH s q a) 0) 0) false = z3 (setH s q a) := rfl
  have hps : ps (z3 (setH s q a)) [(q : Int)] = pS (z3 (setH s q a)) q := rfl
  rw [hps] at HPz
  have HZ := Lib.hid hz3
  clear hz3 hps h1z hzz hok hok2 htok hty v0 d0 h
  generalize z3 (setH s q a) = z at *
  generalize pS z q = y at *
  generalize setH s q a = t at *
  have hn0 : (0 : Int) ≤ (n : Int) := by omega
  have hn1 : (n : Int) < 256 := by omega
  have hqi0 : (0 : Int) ≤ (q : Int) := by omega
  have hqi : (q : Int) < 16 := by omega
  have hq16 : q < 16 := by omega
  clear hs hn ha h9 hq1 hq2
  go_enter Try.func9, Try.ntmps9
  go_wp2_with (first | (go_at_call 24; (with_reducible refine (HA.out _).mono ?_); rintro e w1 ⟨rfl, hb1⟩; have v1 := H0.out.1.below hb1; have d1 := H0.out.2.trans (hb1.mono H0.out.2.size); have l1 := v1.ld; have H1 := Lib.hid (And.intro v1 d1); clear v1 d1 hb1) | (go_at_call 14; (with_reducible refine (HC.out _).mono ?_); rintro e w2 ⟨rfl, hb2⟩; have v2 := H1.out.1.below hb2; have d2 := H1.out.2.trans (hb2.mono H1.out.2.size); have l2 := v2.ld; have H2 := Lib.hid (And.intro v2 d2); clear v2 d2 hb2) | (go_at_call 18; (with_reducible refine (HH1.out _).mono ?_); rintro e w3 ⟨rfl, hb3⟩; have v3 := H2.out.1.below hb3; have d3 := H2.out.2.trans (hb3.mono H2.out.2.size); obtain ⟨w4, h4, v4, d4, s4⟩ := V.made w3 t; have l4 := v4.ld; have H4 := Lib.hid (And.intro (v3.below d4) (And.intro v4 (And.intro (d3.trans (d4.mono d3.size)) v3.lt))); clear v3 d3 v4 d4 s4 hb3) | (go_at_call 18; (with_reducible refine (HH2.out _).mono ?_); rintro e w5 ⟨rfl, hb5⟩; refine Hid.out ?_))
  refine Lib.hid ?_
  have vs5 := H4.out.1.below hb5
  have vt5 := H4.out.2.1.below hb5
  have d5 := H4.out.2.2.1.trans (hb5.mono H4.out.2.2.1.size)
  have hlt := H4.out.2.2.2
  obtain ⟨w6, h6, vu6, d6, s6⟩ := V.made w5 s
  have vs6 := vs5.below d6
  have vt6 := vt5.below d6
  have D6 := d5.trans (d6.mono d5.size)
  have ls6 := vs6.ld
  have lu6 := vu6.ld
  have c6 := vs6.h2 hq16
  have t0 := vt6.p0
  have g0 := vt6.free 0
  have t1 := vt6.m1
  have g1 := vt6.free 1
  have t2 := vt6.b18
  have g2 := vt6.free 18
  have vz := ((vt6.setp 0).setm 0).setb false
  rw [HZ.out] at vz
  have DZ := ((D6.setCell (p := ⟨w3.heap.size, 0, none⟩) (Nat.le_of_lt hlt) (uv 0)).setCell (p := ⟨w3.heap.size, 1, none⟩) (Nat.le_of_lt hlt) (uv 0)).setCell (p := ⟨w3.heap.size, 18, none⟩) (Nat.le_of_lt hlt) (.bool false)
  obtain ⟨w7, hw7⟩ : ∃ w7, ((w6.setCell ⟨w3.heap.size, 0, none⟩ (.int .u32 0)).setCell ⟨w3.heap.size, 1, none⟩ (.int .u32 0)).setCell ⟨w3.heap.size, 18, none⟩ (.bool false) = w7 := ⟨_, rfl⟩
  replace vz : V w7 w3.heap.size z := by rw [← hw7]; exact vz
  replace DZ : Below w.heap.size w w7 := by rw [← hw7]; exact DZ
  have lz := vz.ld
  have HP := Lib.hid (HPz.out _ _ (nr_one w7 (q : Int)))
  have bz := (Below.refl w7.heap.size w7).alloc (Nat.le_refl _) (.cells #[.int .i64 (q : Int)] 3)
  have H7 := Lib.hid (And.intro (vz.below bz) (DZ.alloc DZ.size (.cells #[.int .i64 (q : Int)] 3)))
  have lz2 := (vz.below bz).ld
  clear vs5 vt5 d5 vu6 d6 s6 vs6 vt6 D6 vz DZ bz hb5 hlt
  go_wp2_with (first | (go_at_call 20; (with_reducible refine HP.out.mono ?_); rintro e w8 ⟨rfl, hb8⟩; have v8 := H7.out.1.below hb8; have d8 := H7.out.2.trans (hb8.mono H7.out.2.size); have H8 := Lib.hid (And.intro v8 d8); clear v8 d8 hb8) | (go_at_call 19; (with_reducible refine (HN.out _).mono ?_); rintro e w9 ⟨rfl, hb9⟩; have v9 := H8.out.1.below hb9; have d9 := H8.out.2.trans (hb9.mono H8.out.2.size); obtain ⟨wa, ha, va, da, sa⟩ := V.made w9 r; have la := va.ld; have ka := (v9.below da).ld; have pa := va.p0; have qa := va.b18; rw [hrp] at pa; rw [hrb] at qa; have Ha := Lib.hid (d9.trans (da.mono d9.size)); clear v9 d9 va da sa hb9))
  go_ret
  exact ⟨rfl, Ha.out⟩
set_option maxRecDepth 100000 in
set_option maxHeartbeats 4000000 in
theorem handlers_some (s : Sg) (n a : Nat) (w : World) (hs : s.Ok) (hn : n < 256) (ha : a < 4294967296) (h : may s = true) (h9 : sg n ≠ 9) (h1 : 1 < a) :
    Calls Try.prog 9 #[cv s, .int .u8 (n : Int), uv a] w fun e w' => e = .returned (.bool true) ∧ Below w.heap.size w w' := by
  obtain ⟨v0, d0⟩ := one_box w s
  have H0 := Lib.hid (And.intro v0 d0)
  have HA := Lib.hid alive_any
  have HC := Lib.hid (fun w => check_any w s hs)
  rw [ckE_yes h] at HC
  have hq1 := (sg_bd n).1
  have hq2 := (sg_bd n).2
  have hq := sg_eq n
  generalize sg n = q at *
  have hq9 : ((q : Int) == 9) = false := beq_eq_false_iff_ne.2 (by omega)
  have hok : okh s (q : Int) = true := by unfold okh; rw [h, isS_iff.2 ⟨by omega, by omega⟩, hq9]; rfl
  have HH1 := Lib.hid (fun w => handle_yes w s hs q a hok)
  have htok := Ok.setH hs (k := q) (by omega) ha
  have hty := may_setH (v := a) h hq1 h9
  have hok2 : okh (setH s q a) (q : Int) = true := by unfold okh; rw [hty, isS_iff.2 ⟨by omega, by omega⟩, hq9]; rfl
  have HH2 : Hid (∀ w, Calls Try.prog 18 #[cv (setH s q a), .int .i64 (q : Int), uv (s.h q)] w fun e w' => e = .returned (.tuple #[uv a, cv s, .int .i64 0]) ∧ Below w.heap.size w w') := Lib.hid (fun w => by
    have := handle_yes w (setH s q a) htok q (s.h q) hok2
    rw [setH_setH, setH_same, show (setH s q a).h q = a from up_same _ _ _] at this
    exact this)
  have hne := nev_self hs
  have heq := eqv_self (z3_ok htok)
  have h1z := one_z3 htok hty hq1 hq2
  have hfz : ft (pS (z3 (setH s q a)) q) q = if a = 1 ∨ (a = 0 ∧ q = 12) then 0 else if a = 0 then 1 else 2 := ft_h (by rw [h1z.2]; exact up_same _ _ _)
  have HPz := Lib.hid (fun w v hv => post_all w (z3 (setH s q a)) (z3_ok htok) v [(q : Int)] hv (by simp))
  have HNz := Lib.hid (fun w => next_any w _ h1z.1.ok)
  have hzz : pS (z3 (setH s q a)) q = setP (z3 (setH s q a)) (bt q) := h1z.2
  have h12 : ((a : Int) == 1) = false := beq_eq_false_iff_ne.2 (by omega)
  have h13 : ((a : Int) == 0) = false := beq_eq_false_iff_ne.2 (by omega)
  have hyes := h1z.1.yes (by rw [hfz]; rw [if_neg (by rintro (h | ⟨h, _⟩) <;> omega), if_neg (by omega)]; decide)
  have hfb : ft (pS (z3 (setH s q a)) q) q = 2 := by rw [hfz]; rw [if_neg (by rintro (h | ⟨h, _⟩) <;> omega), if_neg (by omega)]
  rw [hyes.1, hyes.2.1, hyes.2.2, hfb, hzz, show setP (setP (z3 (setH s q a)) (bt q)) 0 = z3 (setH s q a) from rfl, ← hzz] at HNz
  replace HNz : Hid (∀ w, Calls Try.prog 19 #[cv (pS (z3 (setH s q a)) q)] w fun e w' => e = .returned (.tuple #[.int .i64 (q : Int), .int .i64 2, cv (setB (z3 (setH s q a)) true)]) ∧ Below w.heap.size w w') := HNz
  have HN := HNz
  obtain ⟨r, hr⟩ : ∃ r, setB (z3 (setH s q a)) true = r := ⟨_, rfl⟩
  have hrp : r.p = 0 := by rw [← hr]; rfl
  have hrb : r.b = true := by rw [← hr]; rfl
  rw [hr] at HN
  clear hyes hfz hfb HNz hr
  clear h1
  have hz3 : setB (setM (setP (setH s q a) 0) 0) false = z3 (setH s q a) := rfl
  have hps : ps (z3 (setH s q a)) [(q : Int)] = pS (z3 (setH s q a)) q := rfl
  rw [hps] at HPz
  have HZ := Lib.hid hz3
  clear hz3 hps h1z hzz hok hok2 htok hty v0 d0 h
  generalize z3 (setH s q a) = z at *
  generalize pS z q = y at *
  generalize setH s q a = t at *
  have hn0 : (0 : Int) ≤ (n : Int) := by omega
  have hn1 : (n : Int) < 256 := by omega
  have hqi0 : (0 : Int) ≤ (q : Int) := by omega
  have hqi : (q : Int) < 16 := by omega
  have hq16 : q < 16 := by omega
  clear hs hn ha h9 hq1 hq2
  go_enter Try.func9, Try.ntmps9
  go_wp2_with (first | (go_at_call 24; (with_reducible refine (HA.out _).mono ?_); rintro e w1 ⟨rfl, hb1⟩; have v1 := H0.out.1.below hb1; have d1 := H0.out.2.trans (hb1.mono H0.out.2.size); have l1 := v1.ld; have H1 := Lib.hid (And.intro v1 d1); clear v1 d1 hb1) | (go_at_call 14; (with_reducible refine (HC.out _).mono ?_); rintro e w2 ⟨rfl, hb2⟩; have v2 := H1.out.1.below hb2; have d2 := H1.out.2.trans (hb2.mono H1.out.2.size); have l2 := v2.ld; have H2 := Lib.hid (And.intro v2 d2); clear v2 d2 hb2) | (go_at_call 18; (with_reducible refine (HH1.out _).mono ?_); rintro e w3 ⟨rfl, hb3⟩; have v3 := H2.out.1.below hb3; have d3 := H2.out.2.trans (hb3.mono H2.out.2.size); obtain ⟨w4, h4, v4, d4, s4⟩ := V.made w3 t; have l4 := v4.ld; have H4 := Lib.hid (And.intro (v3.below d4) (And.intro v4 (And.intro (d3.trans (d4.mono d3.size)) v3.lt))); clear v3 d3 v4 d4 s4 hb3) | (go_at_call 18; (with_reducible refine (HH2.out _).mono ?_); rintro e w5 ⟨rfl, hb5⟩; refine Hid.out ?_))
  refine Lib.hid ?_
  have vs5 := H4.out.1.below hb5
  have vt5 := H4.out.2.1.below hb5
  have d5 := H4.out.2.2.1.trans (hb5.mono H4.out.2.2.1.size)
  have hlt := H4.out.2.2.2
  obtain ⟨w6, h6, vu6, d6, s6⟩ := V.made w5 s
  have vs6 := vs5.below d6
  have vt6 := vt5.below d6
  have D6 := d5.trans (d6.mono d5.size)
  have ls6 := vs6.ld
  have lu6 := vu6.ld
  have c6 := vs6.h2 hq16
  have t0 := vt6.p0
  have g0 := vt6.free 0
  have t1 := vt6.m1
  have g1 := vt6.free 1
  have t2 := vt6.b18
  have g2 := vt6.free 18
  have vz := ((vt6.setp 0).setm 0).setb false
  rw [HZ.out] at vz
  have DZ := ((D6.setCell (p := ⟨w3.heap.size, 0, none⟩) (Nat.le_of_lt hlt) (uv 0)).setCell (p := ⟨w3.heap.size, 1, none⟩) (Nat.le_of_lt hlt) (uv 0)).setCell (p := ⟨w3.heap.size, 18, none⟩) (Nat.le_of_lt hlt) (.bool false)
  obtain ⟨w7, hw7⟩ : ∃ w7, ((w6.setCell ⟨w3.heap.size, 0, none⟩ (.int .u32 0)).setCell ⟨w3.heap.size, 1, none⟩ (.int .u32 0)).setCell ⟨w3.heap.size, 18, none⟩ (.bool false) = w7 := ⟨_, rfl⟩
  replace vz : V w7 w3.heap.size z := by rw [← hw7]; exact vz
  replace DZ : Below w.heap.size w w7 := by rw [← hw7]; exact DZ
  have lz := vz.ld
  have HP := Lib.hid (HPz.out _ _ (nr_one w7 (q : Int)))
  have bz := (Below.refl w7.heap.size w7).alloc (Nat.le_refl _) (.cells #[.int .i64 (q : Int)] 3)
  have H7 := Lib.hid (And.intro (vz.below bz) (DZ.alloc DZ.size (.cells #[.int .i64 (q : Int)] 3)))
  have lz2 := (vz.below bz).ld
  clear vs5 vt5 d5 vu6 d6 s6 vs6 vt6 D6 vz DZ bz hb5 hlt
  go_wp2_with (first | (go_at_call 20; (with_reducible refine HP.out.mono ?_); rintro e w8 ⟨rfl, hb8⟩; have v8 := H7.out.1.below hb8; have d8 := H7.out.2.trans (hb8.mono H7.out.2.size); have H8 := Lib.hid (And.intro v8 d8); clear v8 d8 hb8) | (go_at_call 19; (with_reducible refine (HN.out _).mono ?_); rintro e w9 ⟨rfl, hb9⟩; have v9 := H8.out.1.below hb9; have d9 := H8.out.2.trans (hb9.mono H8.out.2.size); obtain ⟨wa, ha, va, da, sa⟩ := V.made w9 r; have la := va.ld; have ka := (v9.below da).ld; have pa := va.p0; have qa := va.b18; rw [hrp] at pa; rw [hrb] at qa; have Ha := Lib.hid (d9.trans (da.mono d9.size)); clear v9 d9 va da sa hb9))
  go_ret
  exact ⟨rfl, Ha.out⟩
theorem signalHandlers (s : Sg) (n a : Int) (w : World) (hs : s.Ok) (hn : (Lit.int .u8 n).wf = true) (ha : (Lit.int .u32 a).wf = true) :
    Calls Try.prog 9 #[cv s, .int .u8 n, .int .u32 a] w fun e w' => e = .returned (.bool true) ∧ Below w.heap.size w w' := by
  obtain ⟨n, rfl, hn'⟩ := u8_nat hn
  obtain ⟨a, rfl, ha'⟩ := u32_nat ha
  cases h : may s
  · exact handlers_no s n a w hs hn' ha' h
  · by_cases h9 : sg n = 9
    · exact handlers_nine s n a w hs hn' ha' h h9
    · by_cases h1 : a = 1
      · exact handlers_ign1 s n a w hs hn' ha' h h9 h1
      · by_cases h0 : a = 0
        · by_cases h12 : sg n = 12
          · exact handlers_ign2 s n a w hs hn' ha' h h9 h0 h12
          · exact handlers_fatal s n a w hs hn' ha' h h9 h0 h12
        · exact handlers_some s n a w hs hn' ha' h h9 (by omega)
end Go.Proofs.Ytlhhgapimhpgnaa.Walk
