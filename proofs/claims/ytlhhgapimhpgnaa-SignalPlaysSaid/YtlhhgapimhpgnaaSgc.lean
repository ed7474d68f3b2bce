/-
  bit, isSignal, proper, deliverable, fate, Fork.
-/
import Derived.Test.YtlhhgapimhpgnaaSgb
import Derived.Deep.RegionHeld
import Derived.BigQuiet
namespace Go.Proofs.Ytlhhgapimhpgnaa.Sgc
open Go Go.RowKit Kit Bk Sga Sgb
set_option linter.unusedVariables false

theorem bit_any (w : World) (n : Nat) (hn : n < 32) :
    Calls Try.prog 37 #[.int .i64 (n : Int)] w fun e w' => e = .returned (uv (bt n)) ∧ w = w' := by
  have h0 : (0 : Int) ≤ (n : Int) := by omega
  go_enter Try.func37, Try.ntmps37
  go_wp2
  go_ret
  refine ⟨ret_int ?_, rfl⟩
  have := bt_lt hn
  have e : (2 : Int) ^ n = ((bt n : Nat) : Int) := by unfold bt; simp
  rw [e]
  omega
theorem isSignal_any (w : World) (n : Int) :
    Calls Try.prog 34 #[.int .i64 n] w fun e w' => e = .returned (.bool (isS n)) ∧ w = w' := by
  unfold isS
  by_cases h0 : 1 ≤ n
  · have d0 : decide (1 ≤ n) = true := decide_eq_true h0
    rw [d0, Bool.true_and]
    clear h0
    go_enter Try.func34, Try.ntmps34
    go_wp2
    go_ret
    exact ⟨rfl, rfl⟩
  · have d0 : decide (1 ≤ n) = false := decide_eq_false h0
    rw [d0, Bool.false_and]
    clear h0
    go_enter Try.func34, Try.ntmps34
    go_wp2
    go_ret
    exact ⟨rfl, rfl⟩
attribute [local go_sem ↓] lds_wrap sts_wrap
/-- Two boxes: an argument's, and what will be answered. -/
theorem two_boxes (w : World) (s : Sg) : V ((w.alloc (.cells (cs s) 25)).alloc (.cells zcs 25)) w.heap.size s ∧ V ((w.alloc (.cells (cs s) 25)).alloc (.cells zcs 25)) (w.heap.size + 1) z0 ∧ Below w.heap.size w ((w.alloc (.cells (cs s) 25)).alloc (.cells zcs 25)) := by
  have h1 := (V.new w s).below ((Below.refl _ _).alloc (Nat.le_refl _) (.cells zcs 25))
  have h2 := V.zero (w.alloc (.cells (cs s) 25))
  rw [World.size_alloc] at h2
  exact ⟨h1, h2, ((Below.refl _ _).alloc (Nat.le_refl _) _).alloc (by simp) _⟩
/-- The last of a call that answers signals: loaded from one, stored to the other. -/
theorem tail_st {w w1 : World} {a b : Nat} {s t : Sg} (ha : V w1 a s) (hb : V w1 b t) (hd : Below w.heap.size w w1) (hn : w.heap.size ≤ b) (hne : a ≠ b) :
    (ldS (sp a)).run Try.prog w1 = .ok (cv s) w1 ∧ ∃ w2, (stS (sp b) (cv s)).run Try.prog w1 = .ok () w2 ∧ V w2 b s ∧ Below w.heap.size w w2 := by
  obtain ⟨w2, h1, h2, h3, h4⟩ := hb.st s
  exact ⟨ha.ld, w2, h1, h2, hd.trans (h3.below hd.size (fun j e => by omega))⟩
set_option maxHeartbeats 1000000 in
theorem proper_any (w : World) (s : Sg) (hs : s.Ok) :
    Calls Try.prog 35 #[cv s] w fun e w' => e = .returned (cv (prop s)) ∧ Below w.heap.size w w' := by
  have e1 : bits .and .u32 (s.p : Int) 65534 = ((s.p &&& 65534 : Nat) : Int) := u32_and_nat _ 65534 hs.p (by decide)
  have e2 : bits .and .u32 (s.m : Int) 65022 = ((s.m &&& 65022 : Nat) : Int) := u32_and_nat _ 65022 hs.m (by decide)
  have q0 := cs_p s
  have q1 := cs_setP s (s.p &&& 65534)
  have q2 := cs_m (setP s (s.p &&& 65534))
  have q3 := cs_setM (setP s (s.p &&& 65534)) (s.m &&& 65022)
  have q4 : (cs (setM (setP s (s.p &&& 65534)) (s.m &&& 65022))).setIfInBounds 2 (.int .u32 0) = cs (setH (setM (setP s (s.p &&& 65534)) (s.m &&& 65022)) 0 0) := rfl
  have q5 : (cs (setH (setM (setP s (s.p &&& 65534)) (s.m &&& 65022)) 0 0)).setIfInBounds 11 (.int .u32 0) = cs (prop s) := rfl
  have t2 : (setP s (s.p &&& 65534)).m = s.m := rfl
  rw [t2] at q2
  generalize s.p &&& 65534 = p' at *
  generalize s.m &&& 65022 = m' at *
  generalize setP s p' = s1 at *
  generalize setM s1 m' = s2 at *
  generalize setH s2 0 0 = s3 at *
  generalize prop s = s4 at *
  obtain ⟨h1, h2, h3⟩ := two_boxes w s4
  obtain ⟨l1, w2, l2, h4, h5⟩ := tail_st h1 h2 h3 (by omega) (by omega)
  have H4 := Lib.hid h4
  have H5 := Lib.hid h5
  clear h1 h2 h3 h4 h5 t2 hs
  go_enter Try.func35, Try.ntmps35
  go_wp2
  refine bodyPost_ret (v := cv s4) ?_ rfl ⟨rfl, H5.out⟩
  exact res_s rfl _ _ (w.heap.size + 1) s4 rfl H4.out
attribute [local go_sem ↓] eqv_wrap nev_wrap
/-- A box: an argument's. -/
theorem one_box (w : World) (s : Sg) : V (w.alloc (.cells (cs s) 25)) w.heap.size s ∧ Below w.heap.size w (w.alloc (.cells (cs s) 25)) :=
  ⟨V.new w s, (Below.refl _ _).alloc (Nat.le_refl _) _⟩
set_option maxHeartbeats 1000000 in
theorem check_any (w : World) (s : Sg) (hs : s.Ok) :
    Calls Try.prog 14 #[cv s] w fun e w' => e = .returned (.int .i64 (ckE s)) ∧ Below w.heap.size w w' := by
  obtain ⟨h1, h2⟩ := one_box w s
  have HP := Lib.hid (fun w => proper_any w s hs)
  have HN := Lib.hid (run_neV hs (prop_ok hs))
  have he : ckE s = if eqS s (prop s) then 0 else 120 := by
    unfold ckE
    by_cases h : may s = true
    · rw [if_pos h, if_pos ((eqS_iff hs (prop_ok hs)).2 ((may_prop hs).1 h))]
    · rw [if_neg h, if_neg (fun e => h ((may_prop hs).2 ((eqS_iff hs (prop_ok hs)).1 e)))]
  rw [he]
  clear he
  generalize prop s = t at *
  generalize eqS s t = q at *
  obtain ⟨w1, hw1⟩ : ∃ w1, w.alloc (.cells (cs s) 25) = w1 := ⟨_, rfl⟩
  have HL : Hid (∀ X, Below w1.heap.size w1 X → (ldS (sp w.heap.size)).run Try.prog X = .ok (cv s) X) := Lib.hid (fun X hb => V.ld (V.below (by rw [← hw1]; exact h1) hb))
  have HB : Hid (Below w.heap.size w w1) := Lib.hid (by rw [← hw1]; exact h2)
  clear h1 h2
  go_enter Try.func14, Try.ntmps14
  go_wp2_with fail
  clear hw1
  have B0 := (Below.refl w1.heap.size w1).drew
  have hn := HN.out
  go_region_held (fun wx => (ldS (sp w.heap.size)).run Try.prog wx = .ok (cv s) wx) (first | exact HL.out _ B7 | exact HL.out _ B0 | go_keep) ((go_at_call 35; (with_reducible refine (HP.out _).mono ?_); rintro e w7 ⟨rfl, hb7⟩; have B7 := B0.trans hb7))
  have hd := HB.out.trans (B7.mono HB.out.size)
  have HD := Lib.hid hd
  clear hn hb7 B7 B0 hd
  cases q
  all_goals
    go_wp2
    go_ret
    exact ⟨rfl, HD.out⟩
theorem fork_any (w : World) (s : Sg) :
    Calls Try.prog 25 #[cv s] w fun e w' => e = .returned (cv (setP s 0)) ∧ Below w.heap.size w w' := by
  have q0 := cs_p s
  have q1 : (cs s).setIfInBounds 0 (.int .u32 0) = cs (setP s 0) := rfl
  generalize setP s 0 = s1 at *
  obtain ⟨h1, h2, h3⟩ := two_boxes w s1
  obtain ⟨l1, w2, l2, h4, h5⟩ := tail_st h1 h2 h3 (by omega) (by omega)
  have H4 := Lib.hid h4
  have H5 := Lib.hid h5
  clear h1 h2 h3 h4 h5
  go_enter Try.func25, Try.ntmps25
  go_wp2
  refine bodyPost_ret (v := cv s1) ?_ rfl ⟨rfl, H5.out⟩
  exact res_s rfl _ _ (w.heap.size + 1) s1 rfl H4.out
theorem deliverable_any (w : World) (s : Sg) (hs : s.Ok) :
    Calls Try.prog 36 #[cv s] w fun e w' => e = .returned (uv (dv s)) ∧ Below w.heap.size w w' := by
  obtain ⟨h1, h2⟩ := one_box w s
  have H2 := Lib.hid h2
  have e1 : bits .and .u32 (s.p : Int) 512 = ((s.p &&& 512 : Nat) : Int) := u32_and_nat _ 512 hs.p (by decide)
  have e2 : bits .andNot .u32 (s.p : Int) (s.m : Int) = ((nt s.p s.m : Nat) : Int) := u32_andNot_nat _ _ hs.p hs.m
  have q0 := cs_p s
  have q1 := cs_m s
  have q2 := cs_b s
  clear h1 h2 hs
  cases hb : s.b
  · have hd : dv s = nt s.p s.m := by unfold dv; rw [hb]; rfl
    rw [hd]
    rw [hb] at q2
    clear hd hb
    generalize nt s.p s.m = d at *
    go_enter Try.func36, Try.ntmps36
    go_wp2
    go_ret
    exact ⟨rfl, H2.out⟩
  · have hd : dv s = s.p &&& 512 := by unfold dv; rw [hb]; rfl
    rw [hd]
    rw [hb] at q2
    clear hd hb
    generalize s.p &&& 512 = d at *
    go_enter Try.func36, Try.ntmps36
    go_wp2
    go_ret
    exact ⟨rfl, H2.out⟩
theorem fate_any (w : World) (s : Sg) (n : Nat) (hn : n < 16) :
    Calls Try.prog 38 #[cv s, .int .i64 (n : Int)] w fun e w' => e = .returned (.int .i64 (ft s n : Nat)) ∧ Below w.heap.size w w' := by
  obtain ⟨h1, h2⟩ := one_box w s
  have H2 := Lib.hid h2
  have q0 := cs_h s hn
  have n0 : (0 : Int) ≤ (n : Int) := by omega
  have n1 : (n : Int) < 16 := by omega
  clear h1 h2
  unfold ft
  generalize s.h n = x at *
  by_cases h1 : x = 1
  · subst h1
    rw [if_pos (.inl rfl)]
    go_enter Try.func38, Try.ntmps38
    go_wp2
    go_ret
    exact ⟨rfl, H2.out⟩
  · by_cases h0 : x = 0
    · subst h0
      by_cases h12 : n = 12
      · subst h12
        rw [if_pos (.inr ⟨rfl, rfl⟩)]
        go_enter Try.func38, Try.ntmps38
        go_wp2
        go_ret
        exact ⟨rfl, H2.out⟩
      · rw [if_neg (by rintro (h | ⟨_, h⟩); exact h1 h; exact h12 h), if_pos rfl]
        have d0 : ((n : Int) == 12) = false := beq_eq_false_iff_ne.2 (by omega)
        go_enter Try.func38, Try.ntmps38
        go_wp2
        go_ret
        exact ⟨rfl, H2.out⟩
    · rw [if_neg (by rintro (h | ⟨h, _⟩); exact h1 h; exact h0 h), if_neg h0]
      have d1 : ((x : Int) == 1) = false := beq_eq_false_iff_ne.2 (by omega)
      have d0 : ((x : Int) == 0) = false := beq_eq_false_iff_ne.2 (by omega)
      clear h0 h1
      go_enter Try.func38, Try.ntmps38
      go_wp2
      go_ret
      exact ⟨rfl, H2.out⟩
end Go.Proofs.Ytlhhgapimhpgnaa.Sgc
