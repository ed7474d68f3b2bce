/-
  SignalMasks' walk.
-/
import Derived.Test.YtlhhgapimhpgnaaSgi
namespace Go.Proofs.Ytlhhgapimhpgnaa.Walk
open Go Go.RowKit Kit Bk Sga Sgb Sgc Sgd Sgh
set_option linter.unusedVariables false
attribute [local go_sem ↓] lds_wrap sts_wrap eqv_wrap nev_wrap

theorem may_setM {s : Sg} (hs : s.Ok) (h : may s = true) {m : Nat} (hm : m < 4294967296) (hk : okm m = true) : may (setM s (nt m 512)) = true := by
  have hb := may_bits.1 h
  refine may_bits.2 ⟨hb.1, fun j hj => ?_, hb.2.2⟩
  have hj : Sga.hs (nt m 512) j = true := hj
  rw [hs_nt hm (by decide), hs_512] at hj
  have h1 := (okm_bits hm).1 hk j (by revert hj; cases Sga.hs m j <;> simp)
  refine ⟨h1.1, h1.2, fun e => ?_⟩
  subst e
  simp at hj
theorem okm_mask {s : Sg} (hs : s.Ok) (h : may s = true) : okm s.m = true := (okm_bits hs.m).2 fun j hj => by
  have := (may_bits.1 h).2.1 j hj
  exact ⟨this.1, this.2.1⟩
theorem nt_mask {s : Sg} (hs : s.Ok) (h : may s = true) : nt s.m 512 = s.m := hs_eq fun j => by
  rw [hs_nt hs.m (by decide), hs_512]
  by_cases e : 9 = j
  · subst e
    cases h9 : Sga.hs s.m 9
    · rfl
    · exact absurd rfl ((may_bits.1 h).2.1 9 h9).2.2
  · simp [e]
theorem eqv_self {s : Sg} (hs : s.Ok) (w : World) : (eqV (cv s) (cv s)).run Try.prog w = .ok (.bool true) w := by rw [run_eqV hs hs, eqS_self]

set_option maxRecDepth 100000 in
set_option maxHeartbeats 4000000 in
theorem masks_no (s : Sg) (m : Nat) (w : World) (hs : s.Ok) (hm : m < 4294967296) (h : (may s && okm m) = false) :
    Calls Try.prog 7 #[cv s, uv m] w fun e w' => e = .returned (.bool true) ∧ Below w.heap.size w w' := by
  obtain ⟨v0, d0⟩ := one_box w s
  have H0 := Lib.hid (And.intro v0 d0)
  have HA := Lib.hid alive_any
  have HM := Lib.hid (fun w => mask_no w s hs m hm h)
  have HC := Lib.hid (fun w => check_any w s hs)
  have he := eqv_self hs
  have e1 : bits .andNot .u32 (m : Int) 65534 = ((nt m 65534 : Nat) : Int) := u32_andNot_nat _ 65534 hm (by decide)
  clear v0 d0 hs
  cases hy : may s
  · rw [ckE_no hy] at HC
    clear e1 h hy hm
    go_enter Try.func7, Try.ntmps7
    go_wp2_with (first | (go_at_call 24; (with_reducible refine (HA.out _).mono ?_); rintro e w1 ⟨rfl, hb1⟩; have v1 := H0.out.1.below hb1; have d1 := H0.out.2.trans (hb1.mono H0.out.2.size); have l1 := v1.ld; have H1 := Lib.hid (And.intro v1 d1); clear v1 d1 hb1) | (go_at_call 21; (with_reducible refine (HM.out _).mono ?_); rintro e w2 ⟨rfl, hb2⟩; have v2 := H1.out.1.below hb2; have d2 := H1.out.2.trans (hb2.mono H1.out.2.size); obtain ⟨w3, h3, v3, d3, s3⟩ := V.made w2 s; have l3 := v3.ld; have k3 := (v2.below d3).ld; have H3 := Lib.hid (d2.trans (d3.mono d2.size)); clear v2 d2 v3 d3 s3 hb2) | (go_at_call 14; (with_reducible refine (HC.out _).mono ?_); rintro e w4 ⟨rfl, hb4⟩; have H4 := Lib.hid (H3.out.trans (hb4.mono H3.out.size)); clear hb4))
    go_ret
    exact ⟨rfl, H4.out⟩
  · rw [ckE_yes hy] at HC
    rw [hy, Bool.true_and] at h
    have e2 : (((nt m 65534 : Nat) : Int) != 0) = true := by
      unfold okm at h
      have := of_decide_eq_false h
      exact bne_iff_ne.2 (by omega)
    clear h hy hm
    generalize nt m 65534 = q at *
    go_enter Try.func7, Try.ntmps7
    go_wp2_with (first | (go_at_call 24; (with_reducible refine (HA.out _).mono ?_); rintro e w1 ⟨rfl, hb1⟩; have v1 := H0.out.1.below hb1; have d1 := H0.out.2.trans (hb1.mono H0.out.2.size); have l1 := v1.ld; have H1 := Lib.hid (And.intro v1 d1); clear v1 d1 hb1) | (go_at_call 21; (with_reducible refine (HM.out _).mono ?_); rintro e w2 ⟨rfl, hb2⟩; have v2 := H1.out.1.below hb2; have d2 := H1.out.2.trans (hb2.mono H1.out.2.size); obtain ⟨w3, h3, v3, d3, s3⟩ := V.made w2 s; have l3 := v3.ld; have k3 := (v2.below d3).ld; have H3 := Lib.hid (d2.trans (d3.mono d2.size)); clear v2 d2 v3 d3 s3 hb2) | (go_at_call 14; (with_reducible refine (HC.out _).mono ?_); rintro e w4 ⟨rfl, hb4⟩; have H4 := Lib.hid (H3.out.trans (hb4.mono H3.out.size)); clear hb4))
    go_ret
    exact ⟨rfl, H4.out⟩

set_option maxRecDepth 100000 in
set_option maxHeartbeats 4000000 in
theorem masks_yes (s : Sg) (m : Nat) (w : World) (hs : s.Ok) (hm : m < 4294967296) (hy : may s = true) (h : okm m = true) :
    Calls Try.prog 7 #[cv s, uv m] w fun e w' => e = .returned (.bool true) ∧ Below w.heap.size w w' := by
  obtain ⟨v0, d0⟩ := one_box w s
  have H0 := Lib.hid (And.intro v0 d0)
  have HA := Lib.hid alive_any
  have HM := Lib.hid (fun w => mask_yes w s hs m hm hy h)
  have hok := Ok.setM hs (nt_lt hm 512)
  have hyt := may_setM hs hy hm h
  have HM2 : Hid (∀ w, Calls Try.prog 21 #[cv (setM s (nt m 512)), uv s.m] w fun e w' => e = .returned (.tuple #[uv (nt m 512), cv s, .int .i64 0]) ∧ Below w.heap.size w w') := Lib.hid (fun w => by
    have := mask_yes w (setM s (nt m 512)) hok s.m hs.m hyt (okm_mask hs hy)
    rw [nt_mask hs hy] at this
    exact this)
  have HC := Lib.hid (fun w => check_any w _ hok)
  rw [ckE_yes hyt] at HC
  have he := eqv_self hs
  have e3 : bits .andNot .u32 (m : Int) 512 = ((nt m 512 : Nat) : Int) := u32_andNot_nat _ 512 hm (by decide)
  have hback : setM (setM s (nt m 512)) s.m = s := rfl
  have htm : (setM s (nt m 512)).m = nt m 512 := rfl
  have HS := Lib.hid (And.intro hback htm)
  clear v0 d0 hs hok hyt hback htm hy h hm
  generalize nt m 512 = q at *
  generalize setM s q = t at *
  go_enter Try.func7, Try.ntmps7
  go_wp2_with (first | (go_at_call 24; (with_reducible refine (HA.out _).mono ?_); rintro e w1 ⟨rfl, hb1⟩; have v1 := H0.out.1.below hb1; have d1 := H0.out.2.trans (hb1.mono H0.out.2.size); have l1 := v1.ld; have H1 := Lib.hid (And.intro v1 d1); clear v1 d1 hb1) | (go_at_call 21; (with_reducible refine (HM.out _).mono ?_); rintro e w2 ⟨rfl, hb2⟩; have v2 := H1.out.1.below hb2; have d2 := H1.out.2.trans (hb2.mono H1.out.2.size); obtain ⟨w3, h3, v3, d3, s3⟩ := V.made w2 t; have l3 := v3.ld; have H3 := Lib.hid (And.intro (v2.below d3) (And.intro v3 (d2.trans (d3.mono d2.size)))); clear v2 d2 v3 d3 s3 hb2) | (go_at_call 21; (with_reducible refine (HM2.out _).mono ?_); rintro e w4 ⟨rfl, hb4⟩; refine Hid.out ?_))
  refine Lib.hid ?_
  have vs4 := H3.out.1.below hb4
  have vt4 := H3.out.2.1.below hb4
  have d4 := H3.out.2.2.trans (hb4.mono H3.out.2.2.size)
  obtain ⟨w5, h5, vu5, d5, s5⟩ := V.made w4 s
  have vs5 := vs4.below d5
  have vt5 := vt4.below d5
  have d5' := d4.trans (d5.mono d4.size)
  obtain ⟨w6, h6, vx6, d6, s6⟩ := V.made w5 t
  have lt5 := vt5.ld
  have vs6 := vs5.below d6
  have vt6 := vt5.below d6
  have vu6 := vu5.below d6
  have d6' := d5'.trans (d6.mono d5'.size)
  have c6 := vs6.m1
  have cx6 := vx6.m1
  have fx6 := vx6.free 1
  have vx7 := vx6.setm s.m
  rw [HS.out.1] at vx7
  have hlt : w.heap.size < w5.heap.size := vs5.lt
  have hlt2 : w2.heap.size < w5.heap.size := vt5.lt
  have hlt4 : w4.heap.size < w5.heap.size := by omega
  have vs7 : V (w6.setCell ⟨w5.heap.size, 1, none⟩ (uv s.m)) w.heap.size s := Blk.other vs6 _ _ _ (by omega)
  have vt7 : V (w6.setCell ⟨w5.heap.size, 1, none⟩ (uv s.m)) w2.heap.size t := Blk.other vt6 _ _ _ (by omega)
  have vu7 : V (w6.setCell ⟨w5.heap.size, 1, none⟩ (uv s.m)) w4.heap.size s := Blk.other vu6 _ _ _ (by omega)
  have D7 := Lib.hid (d6'.setCell (p := ⟨w5.heap.size, 1, none⟩) (by show w.heap.size ≤ w5.heap.size; omega) (uv s.m))
  have m7 := vs7.m1
  have t7 := vt7.m1
  rw [HS.out.2] at t7 cx6
  have ls7 := vs7.ld
  have lt7 := vt7.ld
  have lu7 := vu7.ld
  have lx7 := vx7.ld
  clear vs4 vt4 d4 vu5 d5 s5 vs5 vt5 d5' vx6 d6 s6 vs6 vt6 vu6 d6' vx7 vs7 vt7 vu7 hb4 hlt hlt2 hlt4
  obtain ⟨w7, hw7⟩ : ∃ w7, w6.setCell ⟨w5.heap.size, 1, none⟩ (uv s.m) = w7 := ⟨_, rfl⟩
  rw [hw7] at m7 t7 ls7 lt7 lu7 lx7 D7
  go_wp2_with (first | (go_at_call 14; (with_reducible refine (HC.out _).mono ?_); rintro e w8 ⟨rfl, hb8⟩; have H8 := Lib.hid (D7.out.trans (hb8.mono D7.out.size)); clear hb8))
  go_ret
  exact ⟨rfl, H8.out⟩
theorem signalMasks (s : Sg) (m : Int) (w : World) (hs : s.Ok) (hm : (Lit.int .u32 m).wf = true) :
    Calls Try.prog 7 #[cv s, .int .u32 m] w fun e w' => e = .returned (.bool true) ∧ Below w.heap.size w w' := by
  obtain ⟨m, rfl, hm'⟩ := u32_nat hm
  cases h : (may s && okm m)
  · exact masks_no s m w hs hm' h
  · obtain ⟨h1, h2⟩ := Bool.and_eq_true_iff.1 h
    exact masks_yes s m w hs hm' h1 h2
end Go.Proofs.Ytlhhgapimhpgnaa.Walk
