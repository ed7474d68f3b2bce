/-
  Post, Mask, Handle, Return.
-/
import Derived.Test.YtlhhgapimhpgnaaSgc
namespace Go.Proofs.Ytlhhgapimhpgnaa.Sgd
open Go Go.RowKit Kit Bk Sga Sgb Sgc
set_option linter.unusedVariables false
attribute [local go_sem ↓] lds_wrap sts_wrap eqv_wrap nev_wrap

/-- What Post, Mask, Handle and Return answer. -/
def pS (s : Sg) (n : Int) : Sg := if may s && isS n then setP s (ad s.p n.toNat) else s
def pE (s : Sg) (n : Int) : Int := if may s && isS n then 0 else 120
def mO (s : Sg) (m : Nat) : Nat := if may s && okm m then s.m else 0
def mS (s : Sg) (m : Nat) : Sg := if may s && okm m then setM s (nt m 512) else s
def mE (s : Sg) (m : Nat) : Int := if may s && okm m then 0 else 120
def okh (s : Sg) (n : Int) : Bool := may s && isS n && !(n == 9)
def hO (s : Sg) (n : Int) : Nat := if okh s n then s.h n.toNat else 0
def hS (s : Sg) (n : Int) (v : Nat) : Sg := if okh s n then setH s n.toNat v else s
def hE (s : Sg) (n : Int) : Int := if okh s n then 0 else 120
def rS (s : Sg) : Sg := if may s && s.b then setB s false else s
def rE (s : Sg) : Int := if may s && s.b then 0 else 120
theorem toNat_lt {n : Int} (h : isS n = true) : n.toNat < 16 ∧ 1 ≤ n.toNat ∧ (n.toNat : Int) = n := by
  have := isS_iff.1 h
  omega
theorem pS_ok {s : Sg} (h : s.Ok) (n : Int) : (pS s n).Ok := by
  unfold pS
  split
  · rename_i hc
    have := toNat_lt (Bool.and_eq_true_iff.1 hc).2
    exact Ok.setP h (ad_lt h.p (by omega))
  · exact h
theorem mS_ok {s : Sg} (h : s.Ok) {m : Nat} (hm : m < 4294967296) : (mS s m).Ok := by
  unfold mS
  split
  · exact Ok.setM h (nt_lt hm _)
  · exact h
theorem hS_ok {s : Sg} (h : s.Ok) (n : Int) {v : Nat} (hv : v < 4294967296) : (hS s n v).Ok := by
  unfold hS
  split
  · rename_i hc
    unfold okh at hc
    have := toNat_lt (Bool.and_eq_true_iff.1 (Bool.and_eq_true_iff.1 hc).1).2
    exact Ok.setH h (by omega) hv
  · exact h
theorem rS_ok {s : Sg} (h : s.Ok) : (rS s).Ok := by
  unfold rS
  split
  · exact Ok.setB h _
  · exact h
theorem ckE_yes {s : Sg} (h : may s = true) : ckE s = 0 := by unfold ckE; rw [if_pos h]
theorem ckE_no {s : Sg} (h : may s = false) : ckE s = 120 := by unfold ckE; rw [if_neg (by simp [h])]

/-- What lies there when a call that answers signals has asked Check. -/
structure At (w : World) (s : Sg) (w1 : World) : Prop where
  a : V w1 w.heap.size s
  z : V w1 (w.heap.size + 1) z0
  d : Below w.heap.size w w1
theorem at0 (w : World) (s : Sg) : At w s ((w.alloc (.cells (cs s) 25)).alloc (.cells zcs 25)) := by
  obtain ⟨h1, h2, h3⟩ := two_boxes w s
  exact ⟨h1, h2, h3⟩
theorem At.below {w w1 w2 : World} {s : Sg} (h : At w s w1) (hb : Below w1.heap.size w1 w2) : At w s w2 := ⟨h.a.below hb, h.z.below hb, h.d.trans (hb.mono h.d.size)⟩
theorem At.tail {w w1 : World} {s : Sg} (h : At w s w1) : (ldS (sp w.heap.size)).run Try.prog w1 = .ok (cv s) w1 ∧ ∃ w2, (stS (sp (w.heap.size + 1)) (cv s)).run Try.prog w1 = .ok () w2 ∧ V w2 (w.heap.size + 1) s ∧ Below w.heap.size w w2 := tail_st h.a h.z h.d (by omega) (by omega)
theorem At.ld0 (w : World) (s : Sg) : (ldS (sp w.heap.size)).run Try.prog ((w.alloc (.cells (cs s) 25)).alloc (.cells zcs 25)) = .ok (cv s) ((w.alloc (.cells (cs s) 25)).alloc (.cells zcs 25)) := (at0 w s).a.ld
theorem At.setp {w w1 : World} {s : Sg} (h : At w s w1) (x : Nat) : At w (setP s x) (w1.setCell ⟨w.heap.size, 0, none⟩ (uv x)) := ⟨h.a.setp x, Blk.other h.z _ _ _ (by omega), h.d.setCell (p := ⟨w.heap.size, 0, none⟩) (Nat.le_refl _) _⟩
theorem At.setm {w w1 : World} {s : Sg} (h : At w s w1) (x : Nat) : At w (setM s x) (w1.setCell ⟨w.heap.size, 1, none⟩ (uv x)) := ⟨h.a.setm x, Blk.other h.z _ _ _ (by omega), h.d.setCell (p := ⟨w.heap.size, 1, none⟩) (Nat.le_refl _) _⟩
theorem At.seth {w w1 : World} {s : Sg} (h : At w s w1) {k : Nat} (hk : k < 16) (x : Nat) : At w (setH s k x) (w1.setCell ⟨w.heap.size, 2 + k, none⟩ (uv x)) := ⟨h.a.seth hk x, Blk.other h.z _ _ _ (by omega), h.d.setCell (p := ⟨w.heap.size, 2 + k, none⟩) (Nat.le_refl _) _⟩
theorem At.setb {w w1 : World} {s : Sg} (h : At w s w1) (x : Bool) : At w (setB s x) (w1.setCell ⟨w.heap.size, 18, none⟩ (.bool x)) := ⟨h.a.setb x, Blk.other h.z _ _ _ (by omega), h.d.setCell (p := ⟨w.heap.size, 18, none⟩) (Nat.le_refl _) _⟩
theorem At.drew {w w1 : World} {s : Sg} (h : At w s w1) : At w s w1.drew := h.below (Below.refl _ _).drew

theorem post_no (w : World) (s : Sg) (hs : s.Ok) (n : Int) (h : (may s && isS n) = false) :
    Calls Try.prog 22 #[cv s, .int .i64 n] w fun e w' => e = .returned (.tuple #[cv s, .int .i64 120]) ∧ Below w.heap.size w w' := by
  have l0 := At.ld0 w s
  have HC := Lib.hid (fun w => check_any w s hs)
  have HA := Lib.hid (at0 w s)
  cases hm : may s
  · have hc := ckE_no hm
    rw [hc] at HC
    clear h hm hc
    go_enter Try.func22, Try.ntmps22
    go_wp2_with (first | (go_at_call 14; (with_reducible refine (HC.out _).mono ?_); rintro e w1 ⟨rfl, hb1⟩; obtain ⟨l1, w2, l2, v2, d2⟩ := (HA.out.below hb1).tail; have H2 := Lib.hid (And.intro v2 d2); clear v2 d2 hb1))
    refine bodyPost_ret (v := .tuple #[cv s, .int .i64 120]) ?_ rfl ⟨rfl, H2.out.2⟩
    exact res_st rfl _ _ (w.heap.size + 1) s _ rfl rfl H2.out.1
  · rw [hm, Bool.true_and] at h
    have hc := ckE_yes hm
    rw [hc] at HC
    have HI := Lib.hid (fun w => isSignal_any w n)
    rw [h] at HI
    clear h hm hc
    go_enter Try.func22, Try.ntmps22
    go_wp2_with (first | (go_at_call 14; (with_reducible refine (HC.out _).mono ?_); rintro e w1 ⟨rfl, hb1⟩; obtain ⟨l1, w2, l2, v2, d2⟩ := (HA.out.below hb1).tail; have H2 := Lib.hid (And.intro v2 d2); clear v2 d2 hb1) | (go_at_call 34; (with_reducible refine (HI.out _).mono ?_); rintro e w3 ⟨rfl, rfl⟩))
    refine bodyPost_ret (v := .tuple #[cv s, .int .i64 120]) ?_ rfl ⟨rfl, H2.out.2⟩
    exact res_st rfl _ _ (w.heap.size + 1) s _ rfl rfl H2.out.1
set_option maxHeartbeats 1000000 in
theorem post_yes (w : World) (s : Sg) (hs : s.Ok) (n : Nat) (hm : may s = true) (h : isS n = true) :
    Calls Try.prog 22 #[cv s, .int .i64 (n : Int)] w fun e w' => e = .returned (.tuple #[cv (setP s (ad s.p n)), .int .i64 0]) ∧ Below w.heap.size w w' := by
  have l0 := At.ld0 w s
  have HC := Lib.hid (fun w => check_any w s hs)
  have HA := Lib.hid (at0 w s)
  have hc := ckE_yes hm
  rw [hc] at HC
  have HI := Lib.hid (fun w => isSignal_any w (n : Int))
  rw [h] at HI
  have hn : n < 16 := by have := isS_iff.1 h; omega
  have HT := Lib.hid (fun w => bit_any w n (by omega))
  have e1 : bits .or .u32 (s.p : Int) (bt n : Nat) = ((ad s.p n : Nat) : Int) := u32_or_nat _ _ hs.p (bt_lt (by omega))
  clear h hm hc hn
  go_enter Try.func22, Try.ntmps22
  go_wp2_with (first | (go_at_call 14; (with_reducible refine (HC.out _).mono ?_); rintro e w1 ⟨rfl, hb1⟩; have A1 := Lib.hid (HA.out.below hb1); clear hb1) | (go_at_call 34; (with_reducible refine (HI.out _).mono ?_); rintro e w3 ⟨rfl, rfl⟩) | fail)
  have A2 := A1.out.drew
  have c0 := A2.a.p0
  have f0 := A2.a.free 0
  have A3 := (A1.out.setp (ad s.p n)).drew
  obtain ⟨l1, w2, l2, v2, d2⟩ := A3.tail
  have H2 := Lib.hid (And.intro v2 d2)
  clear A2 A3 v2 d2
  go_region_with ((go_at_call 37; (with_reducible refine (HT.out _).mono ?_); rintro e w7 ⟨rfl, rfl⟩))
  all_goals
    go_wp2
    refine bodyPost_ret (v := .tuple #[cv (setP s (ad s.p n)), .int .i64 0]) ?_ rfl ⟨rfl, H2.out.2⟩
    exact res_st rfl _ _ (w.heap.size + 1) _ _ rfl rfl H2.out.1
theorem post_any (w : World) (s : Sg) (hs : s.Ok) (n : Int) :
    Calls Try.prog 22 #[cv s, .int .i64 n] w fun e w' => e = .returned (.tuple #[cv (pS s n), .int .i64 (pE s n)]) ∧ Below w.heap.size w w' := by
  unfold pS pE
  cases h : (may s && isS n)
  · exact post_no w s hs n h
  · obtain ⟨h1, h2⟩ := Bool.and_eq_true_iff.1 h
    have hn := (toNat_lt h2).2.2
    have := post_yes w s hs n.toNat h1 (by rw [hn]; exact h2)
    rw [hn] at this
    exact this

theorem return_no (w : World) (s : Sg) (hs : s.Ok) (h : (may s && s.b) = false) :
    Calls Try.prog 23 #[cv s] w fun e w' => e = .returned (.tuple #[cv s, .int .i64 120]) ∧ Below w.heap.size w w' := by
  have l0 := At.ld0 w s
  have HC := Lib.hid (fun w => check_any w s hs)
  have HA := Lib.hid (at0 w s)
  cases hm : may s
  · have hc := ckE_no hm
    rw [hc] at HC
    clear h hm hc
    go_enter Try.func23, Try.ntmps23
    go_wp2_with (first | (go_at_call 14; (with_reducible refine (HC.out _).mono ?_); rintro e w1 ⟨rfl, hb1⟩; obtain ⟨l1, w2, l2, v2, d2⟩ := (HA.out.below hb1).tail; have H2 := Lib.hid (And.intro v2 d2); clear v2 d2 hb1))
    refine bodyPost_ret (v := .tuple #[cv s, .int .i64 120]) ?_ rfl ⟨rfl, H2.out.2⟩
    exact res_st rfl _ _ (w.heap.size + 1) s _ rfl rfl H2.out.1
  · rw [hm, Bool.true_and] at h
    have hc := ckE_yes hm
    rw [hc] at HC
    have q2 := cs_b s
    rw [h] at q2
    clear hm hc
    go_enter Try.func23, Try.ntmps23
    go_wp2_with (first | (go_at_call 14; (with_reducible refine (HC.out _).mono ?_); rintro e w1 ⟨rfl, hb1⟩; have c3 := (HA.out.below hb1).a.b18; rw [h] at c3; obtain ⟨l1, w2, l2, v2, d2⟩ := (HA.out.below hb1).tail; have H2 := Lib.hid (And.intro v2 d2); clear v2 d2 hb1))
    refine bodyPost_ret (v := .tuple #[cv s, .int .i64 120]) ?_ rfl ⟨rfl, H2.out.2⟩
    exact res_st rfl _ _ (w.heap.size + 1) s _ rfl rfl H2.out.1
theorem return_yes (w : World) (s : Sg) (hs : s.Ok) (hm : may s = true) (h : s.b = true) :
    Calls Try.prog 23 #[cv s] w fun e w' => e = .returned (.tuple #[cv (setB s false), .int .i64 0]) ∧ Below w.heap.size w w' := by
  have l0 := At.ld0 w s
  have HC := Lib.hid (fun w => check_any w s hs)
  have HA := Lib.hid (at0 w s)
  have hc := ckE_yes hm
  rw [hc] at HC
  clear hm hc
  go_enter Try.func23, Try.ntmps23
  go_wp2_with (first | (go_at_call 14; (with_reducible refine (HC.out _).mono ?_); rintro e w1 ⟨rfl, hb1⟩; have c3 := (HA.out.below hb1).a.b18; have f3 := (HA.out.below hb1).a.free 18; rw [h] at c3; obtain ⟨l1, w2, l2, v2, d2⟩ := ((HA.out.below hb1).setb false).tail; have H2 := Lib.hid (And.intro v2 d2); clear v2 d2 hb1))
  refine bodyPost_ret (v := .tuple #[cv (setB s false), .int .i64 0]) ?_ rfl ⟨rfl, H2.out.2⟩
  exact res_st rfl _ _ (w.heap.size + 1) _ _ rfl rfl H2.out.1
theorem return_any (w : World) (s : Sg) (hs : s.Ok) :
    Calls Try.prog 23 #[cv s] w fun e w' => e = .returned (.tuple #[cv (rS s), .int .i64 (rE s)]) ∧ Below w.heap.size w w' := by
  unfold rS rE
  cases h : (may s && s.b)
  · exact return_no w s hs h
  · obtain ⟨h1, h2⟩ := Bool.and_eq_true_iff.1 h
    exact return_yes w s hs h1 h2

theorem mask_no (w : World) (s : Sg) (hs : s.Ok) (m : Nat) (hm : m < 4294967296) (h : (may s && okm m) = false) :
    Calls Try.prog 21 #[cv s, uv m] w fun e w' => e = .returned (.tuple #[.int .u32 0, cv s, .int .i64 120]) ∧ Below w.heap.size w w' := by
  have l0 := At.ld0 w s
  have HC := Lib.hid (fun w => check_any w s hs)
  have HA := Lib.hid (at0 w s)
  cases hy : may s
  · have hc := ckE_no hy
    rw [hc] at HC
    clear h hy hc hm
    go_enter Try.func21, Try.ntmps21
    go_wp2_with (first | (go_at_call 14; (with_reducible refine (HC.out _).mono ?_); rintro e w1 ⟨rfl, hb1⟩; obtain ⟨l1, w2, l2, v2, d2⟩ := (HA.out.below hb1).drew.tail; have H2 := Lib.hid (And.intro v2 d2); clear v2 d2 hb1) | fail)
    go_region
    go_wp2
    refine bodyPost_ret (v := .tuple #[.int .u32 0, cv s, .int .i64 120]) ?_ rfl ⟨rfl, H2.out.2⟩
    exact res_tst rfl _ _ (w.heap.size + 1) s _ _ rfl rfl rfl H2.out.1
  · rw [hy, Bool.true_and] at h
    have hc := ckE_yes hy
    rw [hc] at HC
    have e1 : bits .andNot .u32 (m : Int) 65534 = ((nt m 65534 : Nat) : Int) := u32_andNot_nat _ 65534 hm (by decide)
    have e2 : (((nt m 65534 : Nat) : Int) == 0) = false := by
      unfold okm at h
      have := of_decide_eq_false h
      exact beq_eq_false_iff_ne.2 (by omega)
    clear h hy hc hm
    generalize nt m 65534 = q at *
    go_enter Try.func21, Try.ntmps21
    go_wp2_with (first | (go_at_call 14; (with_reducible refine (HC.out _).mono ?_); rintro e w1 ⟨rfl, hb1⟩; obtain ⟨l1, w2, l2, v2, d2⟩ := (HA.out.below hb1).drew.tail; have H2 := Lib.hid (And.intro v2 d2); clear v2 d2 hb1) | fail)
    go_region
    go_wp2
    refine bodyPost_ret (v := .tuple #[.int .u32 0, cv s, .int .i64 120]) ?_ rfl ⟨rfl, H2.out.2⟩
    exact res_tst rfl _ _ (w.heap.size + 1) s _ _ rfl rfl rfl H2.out.1
theorem mask_yes (w : World) (s : Sg) (hs : s.Ok) (m : Nat) (hm : m < 4294967296) (hy : may s = true) (h : okm m = true) :
    Calls Try.prog 21 #[cv s, uv m] w fun e w' => e = .returned (.tuple #[uv s.m, cv (setM s (nt m 512)), .int .i64 0]) ∧ Below w.heap.size w w' := by
  have l0 := At.ld0 w s
  have HC := Lib.hid (fun w => check_any w s hs)
  have HA := Lib.hid (at0 w s)
  have hc := ckE_yes hy
  rw [hc] at HC
  have e1 : bits .andNot .u32 (m : Int) 65534 = ((nt m 65534 : Nat) : Int) := u32_andNot_nat _ 65534 hm (by decide)
  have e3 : bits .andNot .u32 (m : Int) 512 = ((nt m 512 : Nat) : Int) := u32_andNot_nat _ 512 hm (by decide)
  have e2 : nt m 65534 = 0 := by
    unfold okm at h
    exact of_decide_eq_true h
  rw [e2] at e1
  generalize nt m 512 = q at *
  clear h hy hc hm e2
  go_enter Try.func21, Try.ntmps21
  go_wp2_with (first | (go_at_call 14; (with_reducible refine (HC.out _).mono ?_); rintro e w1 ⟨rfl, hb1⟩; have A1 := HA.out.below hb1; have c1 := A1.a.m1; have f1 := A1.a.free 1; obtain ⟨l1, w2, l2, v2, d2⟩ := (A1.setm q).drew.tail; have H2 := Lib.hid (And.intro v2 d2); clear v2 d2 hb1 A1) | fail)
  go_region
  go_wp2
  refine bodyPost_ret (v := .tuple #[uv s.m, cv (setM s q), .int .i64 0]) ?_ rfl ⟨rfl, H2.out.2⟩
  exact res_tst rfl _ _ (w.heap.size + 1) _ _ _ rfl rfl rfl H2.out.1
theorem mask_any (w : World) (s : Sg) (hs : s.Ok) (m : Nat) (hm : m < 4294967296) :
    Calls Try.prog 21 #[cv s, uv m] w fun e w' => e = .returned (.tuple #[uv (mO s m), cv (mS s m), .int .i64 (mE s m)]) ∧ Below w.heap.size w w' := by
  unfold mO mS mE
  cases h : (may s && okm m)
  · exact mask_no w s hs m hm h
  · obtain ⟨h1, h2⟩ := Bool.and_eq_true_iff.1 h
    exact mask_yes w s hs m hm h1 h2

theorem handle_no (w : World) (s : Sg) (hs : s.Ok) (n : Int) (v : Nat) (h : okh s n = false) :
    Calls Try.prog 18 #[cv s, .int .i64 n, uv v] w fun e w' => e = .returned (.tuple #[.int .u32 0, cv s, .int .i64 120]) ∧ Below w.heap.size w w' := by
  have l0 := At.ld0 w s
  have HC := Lib.hid (fun w => check_any w s hs)
  have HA := Lib.hid (at0 w s)
  unfold okh at h
  cases hy : may s
  · have hc := ckE_no hy
    rw [hc] at HC
    clear h hy hc
    go_enter Try.func18, Try.ntmps18
    go_wp2_with (first | (go_at_call 14; (with_reducible refine (HC.out _).mono ?_); rintro e w1 ⟨rfl, hb1⟩; obtain ⟨l1, w2, l2, v2, d2⟩ := (HA.out.below hb1).drew.tail; have H2 := Lib.hid (And.intro v2 d2); clear v2 d2 hb1) | fail)
    go_region
    go_wp2
    refine bodyPost_ret (v := .tuple #[.int .u32 0, cv s, .int .i64 120]) ?_ rfl ⟨rfl, H2.out.2⟩
    exact res_tst rfl _ _ (w.heap.size + 1) s _ _ rfl rfl rfl H2.out.1
  · rw [hy, Bool.true_and] at h
    have hc := ckE_yes hy
    rw [hc] at HC
    have HI := Lib.hid (fun w => isSignal_any w n)
    cases hn : isS n
    · rw [hn] at HI
      clear h hy hc hn
      go_enter Try.func18, Try.ntmps18
      go_wp2_with (first | (go_at_call 14; (with_reducible refine (HC.out _).mono ?_); rintro e w1 ⟨rfl, hb1⟩; obtain ⟨l1, w2, l2, v2, d2⟩ := (HA.out.below hb1).drew.tail; have H2 := Lib.hid (And.intro v2 d2); clear v2 d2 hb1) | (go_at_call 34; (with_reducible refine (HI.out _).mono ?_); rintro e w3 ⟨rfl, rfl⟩) | fail)
      go_region
      go_wp2
      refine bodyPost_ret (v := .tuple #[.int .u32 0, cv s, .int .i64 120]) ?_ rfl ⟨rfl, H2.out.2⟩
      exact res_tst rfl _ _ (w.heap.size + 1) s _ _ rfl rfl rfl H2.out.1
    · rw [hn, Bool.true_and] at h
      have h9 : (n == 9) = true := by simpa using h
      rw [hn] at HI
      clear h hy hc hn
      go_enter Try.func18, Try.ntmps18
      go_wp2_with (first | (go_at_call 14; (with_reducible refine (HC.out _).mono ?_); rintro e w1 ⟨rfl, hb1⟩; obtain ⟨l1, w2, l2, v2, d2⟩ := (HA.out.below hb1).drew.tail; have H2 := Lib.hid (And.intro v2 d2); clear v2 d2 hb1) | (go_at_call 34; (with_reducible refine (HI.out _).mono ?_); rintro e w3 ⟨rfl, rfl⟩) | fail)
      go_region
      go_wp2
      refine bodyPost_ret (v := .tuple #[.int .u32 0, cv s, .int .i64 120]) ?_ rfl ⟨rfl, H2.out.2⟩
      exact res_tst rfl _ _ (w.heap.size + 1) s _ _ rfl rfl rfl H2.out.1
theorem handle_yes (w : World) (s : Sg) (hs : s.Ok) (n v : Nat) (h : okh s n = true) :
    Calls Try.prog 18 #[cv s, .int .i64 (n : Int), uv v] w fun e w' => e = .returned (.tuple #[uv (s.h n), cv (setH s n v), .int .i64 0]) ∧ Below w.heap.size w w' := by
  have l0 := At.ld0 w s
  have HC := Lib.hid (fun w => check_any w s hs)
  have HA := Lib.hid (at0 w s)
  unfold okh at h
  obtain ⟨h12, h9⟩ := Bool.and_eq_true_iff.1 h
  obtain ⟨hy, hn⟩ := Bool.and_eq_true_iff.1 h12
  have hc := ckE_yes hy
  rw [hc] at HC
  have HI := Lib.hid (fun w => isSignal_any w (n : Int))
  rw [hn] at HI
  have h9' : ((n : Int) == 9) = false := by simpa using h9
  have hn16 : n < 16 := by have := isS_iff.1 hn; omega
  have n0 : (0 : Int) ≤ (n : Int) := by omega
  have n1 : (n : Int) < 16 := by omega
  clear h h12 h9 hy hc hn
  go_enter Try.func18, Try.ntmps18
  go_wp2_with (first | (go_at_call 14; (with_reducible refine (HC.out _).mono ?_); rintro e w1 ⟨rfl, hb1⟩; have A1 := HA.out.below hb1; have c1 := A1.a.h2 hn16; have f1 := A1.a.free (2 + n); obtain ⟨l1, w2, l2, v2, d2⟩ := (A1.seth hn16 v).drew.tail; have H2 := Lib.hid (And.intro v2 d2); clear v2 d2 hb1 A1) | (go_at_call 34; (with_reducible refine (HI.out _).mono ?_); rintro e w3 ⟨rfl, rfl⟩) | fail)
  go_region
  go_wp2
  refine bodyPost_ret (v := .tuple #[uv (s.h n), cv (setH s n v), .int .i64 0]) ?_ rfl ⟨rfl, H2.out.2⟩
  exact res_tst rfl _ _ (w.heap.size + 1) _ _ _ rfl rfl rfl H2.out.1
theorem handle_any (w : World) (s : Sg) (hs : s.Ok) (n : Int) (v : Nat) :
    Calls Try.prog 18 #[cv s, .int .i64 n, uv v] w fun e w' => e = .returned (.tuple #[uv (hO s n), cv (hS s n v), .int .i64 (hE s n)]) ∧ Below w.heap.size w w' := by
  unfold hO hS hE
  cases h : okh s n
  · exact handle_no w s hs n v h
  · have hn : isS n = true := by unfold okh at h; exact (Bool.and_eq_true_iff.1 (Bool.and_eq_true_iff.1 h).1).2
    have hn2 := (toNat_lt hn).2.2
    have := handle_yes w s hs n.toNat v (by rw [hn2]; exact h)
    rw [hn2] at this
    exact this
end Go.Proofs.Ytlhhgapimhpgnaa.Sgd
