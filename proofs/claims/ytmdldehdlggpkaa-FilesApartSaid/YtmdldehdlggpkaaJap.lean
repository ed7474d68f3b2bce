/-
  FilesApart: the walk.
-/
import Derived.Test.YtmdldehdlggpkaaJf
namespace Go.Proofs.Ytmdldehdlggpkaa.Jap
open Go Go.RowKit Kit Bk Jp Jm Ji Jo Ju Jd Je Jr Jq Js Jb Jx Jy Jz Jt Jf
set_option linter.unusedVariables false
attribute [local go_sem ↓] stf_wrap

theorem law_long (va : Value) (ops : List Opr) (w : World) (h : OpsAt w va ops) (hl : ¬ ops.length ≤ 200) (x y : Value) :
    Calls Try.prog 8 #[va, x, y] w fun e w' => e = .returned (.bool true) ∧ Below w.heap.size w w' := by
  obtain ⟨ad, cap, rfl, h1, h2, h3⟩ := h
  have dl : decide ((200 : Int) < (ops.length : Int)) = true := decide_eq_true (by omega)
  clear h3 hl
  go_enter Try.func8, Try.ntmps8
  go_wp2_with (go_at_call 29; (with_reducible refine (Jw.alive_any _).mono ?_); rintro e w1 ⟨rfl, b1⟩; have B1 := Lib.hid b1; clear b1)
  go_ret
  exact ⟨rfl, B1.out⟩
theorem gP_wf {S : Sf} {c : Nat} (hg : Gof c S) (n : Int) : (Lit.int .i64 (gP S n)).wf = true := by
  refine wf_small ?_
  unfold gP
  split
  · exact ⟨Int.le_refl _, show (0 : Int) < 16 by decide⟩
  · exact hg.pipe _
theorem zero_wf : (Lit.int .i64 0).wf = true := by decide
/-- One number is what it is told to be, the others are as they were. -/
structure Turn (S T : Sf) (m : Nat) : Prop where
  R : ∀ k, k ≠ m → T.R k = S.R k
  P : ∀ k, k ≠ m → T.P k = S.P k
  V : ∀ k, k ≠ m → T.V k = S.V k
theorem Turn.rf {S T : Sf} {m k : Nat} (h : Turn S T m) (hk : k < 64) (hne : k ≠ m) : rf T.R (k : Int) = rf S.R (k : Int) := by rw [rf_nat hk, rf_nat hk, h.R k hne]
theorem Turn.gP {S T : Sf} {m k : Nat} (h : Turn S T m) (hk : k < 64) (hne : k ≠ m) : gP T (k : Int) = gP S (k : Int) := by
  unfold Jp.gP
  rw [h.rf hk hne, show Int.toNat (k : Int) = k by omega, h.P k hne]
theorem Turn.gV {S T : Sf} {m k : Nat} (h : Turn S T m) (hk : k < 64) (hne : k ≠ m) : gV T (k : Int) = gV S (k : Int) := by
  unfold Jp.gV
  rw [h.rf hk hne, show Int.toNat (k : Int) = k by omega, h.V k hne]
theorem turn_put (S : Sf) (m : Nat) (P : Int) (V : Bool) (r : Nat) : Turn S (S.put m P V r) m := ⟨fun k hk => up_other _ _ _ _ hk, fun k hk => up_other _ _ _ _ hk, fun k hk => up_other _ _ _ _ hk⟩
theorem turn_ref (S : Sf) (m r : Nat) : Turn S ⟨S.P, S.V, up S.R m r⟩ m := ⟨fun k hk => up_other _ _ _ _ hk, fun k hk => rfl, fun k hk => rfl⟩
variable {W0 w w' : World} {p f d q v c x : Nat} {S T : Sf} {D E : Nat → Nat} {a1 : Int} {a2 : Bool}
/-- Where the law's loop begins: open files, their copy, what the number was. -/
structure Lo (W0 w : World) (p f d q v c x : Nat) (S T : Sf) (D E : Nat → Nat) (a1 : Int) (a2 : Bool) : Prop where
  bo : Bo W0 w p f d q v T S D E
  cp : Fl w c S
  was : Blk w x #[.int .i64 a1, .bool a2] 26
theorem Lo.below (h : Lo W0 w p f d q v c x S T D E a1 a2) (hb : Below w.heap.size w w') : Lo W0 w' p f d q v c x S T D E a1 a2 := ⟨h.bo.below hb, h.cp.below hb, h.was.below hb⟩

/-- Without what the number was. -/
structure Lo0 (W0 w : World) (p f d q v c : Nat) (S T : Sf) (D E : Nat → Nat) : Prop where
  bo : Bo W0 w p f d q v T S D E
  cp : Fl w c S
theorem Lo.onF {T' : Sf} (h : Lo W0 w p f d q v c x S T D E a1 a2) (hcf : c ≠ f) (k : Kp (fun j => j = f) w w') (hF : Fl w' f T') : Lo W0 w' p f d q v c x S T' D E a1 a2 := ⟨h.bo.onF k hF, h.cp.kept k hcf, h.was.kept k (kF h.bo.fl k h.was (by decide))⟩
theorem Lo.onX {b1 : Int} {b2 : Bool} (h : Lo W0 w p f d q v c x S T D E a1 a2) (hx : W0.heap.size ≤ x) (k : Kp (fun j => j = x) w w') (hX : Blk w' x #[.int .i64 b1, .bool b2] 26) : Lo W0 w' p f d q v c x S T D E b1 b2 := by
  refine ⟨Jy.Bo.onX h.bo h.was hx k, ?_, hX⟩
  obtain ⟨cs, q1, q2⟩ := h.cp
  exact ⟨cs, q1.kept k (q1.ne h.was (by decide)), q2⟩

set_option maxRecDepth 100000 in
set_option maxHeartbeats 16000000 in
theorem apart_share (va : Value) (ops : List Opr) (w : World) (h : OpsAt w va ops) (hl : ops.length ≤ 200) (a : Nat) (ha : a < 256) :
    Calls Try.prog 8 #[va, .int .u8 (a : Int), .bool false] w fun e w' => e = .returned (.bool true) ∧ Below w.heap.size w w' := by
  obtain ⟨ad, cap, rfl, h1, h2, -⟩ := id h
  have HO := Lib.hid h
  have HL := Lib.hid hl
  have dl : decide ((200 : Int) < (ops.length : Int)) = false := decide_eq_false (by omega)
  have hwa : wrap64 (a : Int) = (a : Int) := IntWalk.wrap64_in _ (by omega)
  obtain ⟨m, hm⟩ : ∃ m, a % 64 = m := ⟨_, rfl⟩
  have hra : (a : Int).tmod 64 = (m : Int) := by rw [← hm]; rfl
  have hm8 : m < 64 := by omega
  have hm8i : (m : Int) < 64 := by omega
  clear h hl ha hm
  go_enter Try.func8, Try.ntmps8
  go_wp2_with (first
    | (go_at_call 29; (with_reducible refine (Jw.alive_any _).mono ?_); rintro e w1 ⟨rfl, b1⟩; have B1 := Lib.hid b1; clear b1)
    | (go_at_call 33; (with_reducible refine (grown_any _ _ ops (OpsAt.below HO.out B1.out) HL.out).mono ?_); rintro e w2 ⟨p, rfl, f, d, q, v, S, D, hbo, hg⟩; refine Hid.out ?_))
  refine Lib.hid ?_
  have p0 : w2.cell? ⟨p, 0, none⟩ = some (.pointer (some ⟨f, 0, none⟩)) := hbo.blk.cell 0
  have HC := Lib.hid (copy_any w2 f S hbo.fl)
  have HBo := Lib.hid hbo
  have HGf := Lib.hid hg
  clear hbo hg HO HL
  go_wp2_with (first | (go_at_call 31; (with_reducible refine HC.out.mono ?_); rintro e w3 ⟨rfl, b3, hc3⟩; refine Hid.out ?_))
  refine Lib.hid ?_
  obtain ⟨c, hc⟩ : ∃ c, w2.heap.size = c := ⟨_, rfl⟩
  have hcf : c ≠ f := by have := HBo.out.fl.lt; omega
  have hb3 := HBo.out.below b3
  rw [hc] at hc3 ⊢
  have HG := get_any w3 c S hc3 (m : Int)
  rw [rf_nat hm8, show gP S (m : Int) = (if S.R m = 0 then 0 else S.P m) from by unfold gP; rw [rf_nat hm8]; rfl, show gV S (m : Int) = (if S.R m = 0 then false else S.V m) from by unfold gV; rw [rf_nat hm8]; rfl] at HG
  have HB3 := Lib.hid hb3
  have HC3 := Lib.hid hc3
  have HRc := Lib.hid (fun W (hh : Fl W c S) => refs_any W c S hh (m : Int))
  rw [rf_nat hm8] at HRc
  have hfew : S.R m ≤ 200 := HGf.out.few m
  have hmp : mayP (S.P m) := HGf.out.pipe m
  have hfw : Few S := Jo.Gof.few9 HGf.out (by omega)
  clear b3 hb3 hc3 HC p0 hc
  by_cases hz : S.R m = 0
  · rw [if_pos hz, if_pos hz, decide_eq_false (fun e => e hz)] at HG
    rw [hz, Int.natCast_zero] at HRc
    have HG3 := Lib.hid HG
    clear HG
    have HN : Hid (∀ w4, Below w3.heap.size w3 w4 → ∃ W5, (stF (.pointer (some ⟨w4.heap.size, 0, none⟩)) (.agg #[.int .i64 (0), .bool (false)])).run Try.prog (w4.alloc (.cells #[.int .i64 0, .bool false] 26)) = .ok () W5 ∧ Lo w1 W5 p f d q v c w4.heap.size S S D D (0) (false)) := Lib.hid (fun w4 hb4 => by
      obtain ⟨W5, hst, hbk, hb5⟩ := new_st w4 (0) (false)
      exact ⟨W5, hst, (HB3.out.below hb4).below hb5, (HC3.out.below hb4).below hb5, hbk⟩)
    have hT : Turn S S m := ⟨fun _ _ => rfl, fun _ _ => rfl, fun _ _ => rfl⟩
    have HCall : Hid (∀ W5, Fl W5 f S → Calls Try.prog 30 #[.pointer (some ⟨f, 0, none⟩), .int .i64 (m : Int)] W5 fun e w' => e = .returned (.int .i64 101) ∧ Kp (fun j => j = f) W5 w' ∧ Fl w' f S) := Lib.hid (fun W5 hh => by
      have := share_any W5 f S hh hfw (m : Int)
      unfold sE sS at this
      rw [rf_nat hm8, if_pos hz, if_pos hz] at this
      exact this)
    go_wp2_with (first
      | (go_at_call 12; (with_reducible refine HG3.out.mono ?_); rintro e w4 ⟨rfl, b4⟩; obtain ⟨W5, hst5, hL5⟩ := HN.out w4 b4; have HL5 := Lib.hid hL5; have p5 := hL5.bo.blk.cell 0; have hx5 := b4.size; clear b4 hL5)
      | (go_at_call 22; (with_reducible refine (HRc.out _ HL5.out.cp).mono ?_); rintro e w6 ⟨rfl, rfl⟩)
      | (go_at_call 30; (with_reducible refine (HCall.out _ HL5.out.bo.fl).mono ?_); rintro e wL ⟨rfl, k7, g7⟩; have HLo := Lib.hid (HL5.out.onF hcf k7 g7); clear k7 g7; refine Hid.out ?_))
    refine Lib.hid ?_
    obtain ⟨T, hTS⟩ : ∃ T, S = T := ⟨_, rfl⟩
    have hT : Turn S T m := by rw [← hTS]; exact hT
    have HLo : Hid (Lo w1 wL p f d q v c w4.heap.size S T D D 0 false) := Lib.hid (by rw [← hTS]; exact HLo.out)
    clear HL5 hst5 p5 HCall HN HG3 hz
    have p0 : wL.cell? ⟨p, 0, none⟩ = some (.pointer (some ⟨f, 0, none⟩)) := HLo.out.bo.blk.cell 0
    have HE := Lib.hid (B1.out.trans (HLo.out.bo.bel.mono B1.out.size))
    clear HB3 HC3 HRc
    go_wp2
    go_loopw [16] (fun i wr => ∃ k : Nat, k ≤ 64 ∧ i = .int .i64 (k : Int) ∧ Below wL.heap.size wL wr) (fun i _ => 64 - (intOf i).toNat)
    case atStart => exact ⟨0, Nat.zero_le _, rfl, Below.refl _ _⟩
    case round =>
      obtain ⟨k, hk, rfl, hbr⟩ := hrel
      have hLr := HLo.out.below hbr
      have p0 : wr.cell? ⟨p, 0, none⟩ = some (.pointer (some ⟨f, 0, none⟩)) := hLr.bo.blk.cell 0
      by_cases hlt : k < 64
      · have hk64 : (k : Int) < 64 := by omega
        have HBr := Lib.hid hbr
        have HG2 := Lib.hid (fun W (hh : Fl W c S) => get_any W c S hh (k : Int))
        have HR2 := Lib.hid (fun W (hh : Fl W c S) => refs_any W c S hh (k : Int))
        have HG1 := get_any wr f T hLr.bo.fl (k : Int)
        have HR1 := Lib.hid (fun W (hh : Fl W f T) => refs_any W f T hh (k : Int))
        have HLr := Lib.hid hLr
        clear hbr hLr
        rw [show gP T (k : Int) = gP S (k : Int) by rw [hTS], show gV T (k : Int) = gV S (k : Int) by rw [hTS], show rf T.R (k : Int) = rf S.R (k : Int) by rw [hTS]] at HG1
        rw [show rf T.R (k : Int) = rf S.R (k : Int) by rw [hTS]] at HR1
        by_cases hkm : k = m
        · have hke : ((k : Int) == (m : Int)) = true := by rw [hkm]; simp
          clear hkm
          have hs := run_same (gP S (k : Int)) (gV S (k : Int)) (gP_wf HGf.out (k : Int))
          have HG1' := Lib.hid HG1
          generalize gP S (k : Int) = a1 at *
          generalize gV S (k : Int) = a2 at *
          generalize decide (rf S.R (k : Int) ≠ 0) = b0 at *
          generalize (rf S.R (k : Int) : Int) = r0 at *
          clear HG1 hT HGf
          go_wp2_with (first
            | (go_at_call 12; first
                | ((with_reducible refine HG1'.out.mono ?_); rintro e w4 ⟨rfl, b4⟩; obtain ⟨W5, hst5, hbk5, b5⟩ := new_st w4 a1 a2; have HL5 := Lib.hid ((HLr.out.below b4).below b5); have HA5 := Lib.hid hbk5; have HZ5 := Lib.hid (HBr.out.trans ((b4.trans (b5.mono b4.size)).mono HBr.out.size)); have hn5 := hbk5.lt; clear b4 b5 hbk5)
                | ((with_reducible refine (HG2.out _ HL5.out.cp).mono ?_); rintro e w6 ⟨rfl, b6⟩; obtain ⟨W7, hst7, hbk7, b7⟩ := new_st w6 a1 a2; have HL7 := Lib.hid ((HL5.out.below b6).below b7); have hA7 := (HA5.out.below b6).below b7; have x0 := hA7.cell 0; have x1 := hA7.cell 1; have y0 := hbk7.cell 0; have y1 := hbk7.cell 1; have p7 := HL7.out.bo.blk.cell 0; have HZ7 := Lib.hid (HZ5.out.trans ((b6.trans (b7.mono b6.size)).mono HZ5.out.size)); clear b6 b7 hbk7 hA7))
            | (go_at_call 22; first
                | ((with_reducible refine (HR1.out _ HL7.out.bo.fl).mono ?_); rintro e w8 ⟨rfl, rfl⟩)
                | ((with_reducible refine (HR2.out _ HL7.out.cp).mono ?_); rintro e w8 ⟨rfl, rfl⟩)))
          go_roundw
          case rel => exact ⟨k + 1, by omega, by go_num, HZ7.out⟩
          case measure => simp [intOf]; omega
        · have hke : ((k : Int) == (m : Int)) = false := by simp; omega
          have hs := run_same (gP S (k : Int)) (gV S (k : Int)) (gP_wf HGf.out (k : Int))
          have HG1' := Lib.hid HG1
          generalize gP S (k : Int) = a1 at *
          generalize gV S (k : Int) = a2 at *
          generalize decide (rf S.R (k : Int) ≠ 0) = b0 at *
          generalize (rf S.R (k : Int) : Int) = r0 at *
          clear HG1 hT HGf
          go_wp2_with (first
            | (go_at_call 12; first
                | ((with_reducible refine HG1'.out.mono ?_); rintro e w4 ⟨rfl, b4⟩; obtain ⟨W5, hst5, hbk5, b5⟩ := new_st w4 a1 a2; have HL5 := Lib.hid ((HLr.out.below b4).below b5); have HA5 := Lib.hid hbk5; have HZ5 := Lib.hid (HBr.out.trans ((b4.trans (b5.mono b4.size)).mono HBr.out.size)); have hn5 := hbk5.lt; clear b4 b5 hbk5)
                | ((with_reducible refine (HG2.out _ HL5.out.cp).mono ?_); rintro e w6 ⟨rfl, b6⟩; obtain ⟨W7, hst7, hbk7, b7⟩ := new_st w6 a1 a2; have HL7 := Lib.hid ((HL5.out.below b6).below b7); have hA7 := (HA5.out.below b6).below b7; have x0 := hA7.cell 0; have x1 := hA7.cell 1; have y0 := hbk7.cell 0; have y1 := hbk7.cell 1; have p7 := HL7.out.bo.blk.cell 0; have HZ7 := Lib.hid (HZ5.out.trans ((b6.trans (b7.mono b6.size)).mono HZ5.out.size)); clear b6 b7 hbk7 hA7))
            | (go_at_call 22; first
                | ((with_reducible refine (HR1.out _ HL7.out.bo.fl).mono ?_); rintro e w8 ⟨rfl, rfl⟩)
                | ((with_reducible refine (HR2.out _ HL7.out.cp).mono ?_); rintro e w8 ⟨rfl, rfl⟩)))
          go_roundw
          case rel => exact ⟨k + 1, by omega, by go_num, HZ7.out⟩
          case measure => simp [intOf]; omega
      · obtain rfl : k = 64 := by omega
        have HBr := Lib.hid hbr
        clear hbr hLr
        go_wp2
        go_ret
        exact ⟨rfl, HE.out.trans (HBr.out.mono HE.out.size)⟩
  · rw [if_neg hz, if_neg hz, decide_eq_true hz] at HG
    have HG3 := Lib.hid HG
    clear HG
    have HN : Hid (∀ w4, Below w3.heap.size w3 w4 → ∃ W5, (stF (.pointer (some ⟨w4.heap.size, 0, none⟩)) (.agg #[.int .i64 (S.P m), .bool (S.V m)])).run Try.prog (w4.alloc (.cells #[.int .i64 0, .bool false] 26)) = .ok () W5 ∧ Lo w1 W5 p f d q v c w4.heap.size S S D D (S.P m) (S.V m)) := Lib.hid (fun w4 hb4 => by
      obtain ⟨W5, hst, hbk, hb5⟩ := new_st w4 (S.P m) (S.V m)
      exact ⟨W5, hst, (HB3.out.below hb4).below hb5, (HC3.out.below hb4).below hb5, hbk⟩)
    have HCall : Hid (∀ W5, Fl W5 f S → Calls Try.prog 30 #[.pointer (some ⟨f, 0, none⟩), .int .i64 (m : Int)] W5 fun e w' => e = .returned (.int .i64 0) ∧ Kp (fun j => j = f) W5 w' ∧ Fl w' f ⟨S.P, S.V, up S.R m (S.R m + 1)⟩) := Lib.hid (fun W5 hh => by
      have := share_any W5 f S hh hfw (m : Int)
      unfold sE sS at this
      rw [rf_nat hm8, if_neg hz, if_neg hz, show Int.toNat (m : Int) = m by omega] at this
      exact this)
    obtain ⟨r, hr⟩ : ∃ r : Int, (S.R m : Int) = r := ⟨_, rfl⟩
    rw [hr] at HRc
    have hr0 : 1 ≤ r := by omega
    have hr9 : r ≤ 200 := by omega
    have hT0 := turn_ref S m (S.R m + 1)
    have hTR0 : up S.R m (S.R m + 1) m ≠ 0 := by rw [up_same]; omega
    have hTRv : ((up S.R m (S.R m + 1) m : Nat) : Int) = r + 1 := by rw [up_same]; omega
    go_wp2_with (first
      | (go_at_call 12; (with_reducible refine HG3.out.mono ?_); rintro e w4 ⟨rfl, b4⟩; obtain ⟨W5, hst5, hL5⟩ := HN.out w4 b4; have HL5 := Lib.hid hL5; have p5 := hL5.bo.blk.cell 0; have hx5 := b4.size; clear b4 hL5)
      | (go_at_call 22; (with_reducible refine (HRc.out _ HL5.out.cp).mono ?_); rintro e w6 ⟨rfl, rfl⟩)
      | (go_at_call 30; (with_reducible refine (HCall.out _ HL5.out.bo.fl).mono ?_); rintro e wL ⟨rfl, k7, g7⟩; have HLo := Lib.hid (HL5.out.onF hcf k7 g7); clear k7 g7; refine Hid.out ?_))
    refine Lib.hid ?_
    obtain ⟨T, hTP⟩ : ∃ T, T = (⟨S.P, S.V, up S.R m (S.R m + 1)⟩ : Sf) := ⟨_, rfl⟩
    have hT : Turn S T m := by rw [hTP]; exact hT0
    have HLo : Hid (Lo w1 wL p f d q v c w4.heap.size S T D D (S.P m) (S.V m)) := Lib.hid (by rw [hTP]; exact HLo.out)
    clear HL5 hst5 p5 HCall HN HG3 hT0
    have p0 : wL.cell? ⟨p, 0, none⟩ = some (.pointer (some ⟨f, 0, none⟩)) := HLo.out.bo.blk.cell 0
    have HE := Lib.hid (B1.out.trans (HLo.out.bo.bel.mono B1.out.size))
    clear HB3 HC3 HRc
    go_wp2
    go_loopw [16] (fun i wr => ∃ k : Nat, k ≤ 64 ∧ i = .int .i64 (k : Int) ∧ Below wL.heap.size wL wr) (fun i _ => 64 - (intOf i).toNat)
    case atStart => exact ⟨0, Nat.zero_le _, rfl, Below.refl _ _⟩
    case round =>
      obtain ⟨k, hk, rfl, hbr⟩ := hrel
      have hLr := HLo.out.below hbr
      have p0 : wr.cell? ⟨p, 0, none⟩ = some (.pointer (some ⟨f, 0, none⟩)) := hLr.bo.blk.cell 0
      by_cases hlt : k < 64
      · have hk64 : (k : Int) < 64 := by omega
        have HBr := Lib.hid hbr
        have HG2 := Lib.hid (fun W (hh : Fl W c S) => get_any W c S hh (k : Int))
        have HR2 := Lib.hid (fun W (hh : Fl W c S) => refs_any W c S hh (k : Int))
        have HG1 := get_any wr f T hLr.bo.fl (k : Int)
        have HR1 := Lib.hid (fun W (hh : Fl W f T) => refs_any W f T hh (k : Int))
        have HLr := Lib.hid hLr
        clear hbr hLr
        by_cases hkm : k = m
        · subst hkm
          have hke : ((k : Int) == (k : Int)) = true := by simp
          have e1 : gP T (k : Int) = S.P k := by rw [hTP]; unfold gP; rw [rf_nat hm8, if_neg hTR0]; rfl
          have e2 : gV T (k : Int) = S.V k := by rw [hTP]; unfold gV; rw [rf_nat hm8, if_neg hTR0]; rfl
          have e3 : decide (rf T.R (k : Int) ≠ 0) = true := by rw [hTP]; rw [rf_nat hm8]; exact decide_eq_true hTR0
          have e4 : (rf T.R (k : Int) : Int) = (r + 1) := by rw [hTP]; rw [rf_nat hm8]; exact hTRv
          have f1 : gP S (k : Int) = S.P k := by unfold gP; rw [rf_nat hm8, if_neg hz]; rfl
          have f2 : gV S (k : Int) = S.V k := by unfold gV; rw [rf_nat hm8, if_neg hz]; rfl
          have f3 : decide (rf S.R (k : Int) ≠ 0) = true := by rw [rf_nat hm8]; exact decide_eq_true hz
          rw [e1, e2, e3] at HG1
          rw [e4] at HR1
          rw [f1, f2, f3] at HG2
          have hs := run_same (S.P k) (S.V k) (wf_small hmp)
          have dz : decide (0 < (r + 1)) = true := decide_eq_true (by omega)
          have HG1' := Lib.hid HG1
          generalize S.P k = a1 at *
          generalize S.V k = a2 at *
          clear HG1 hT HGf e1 e2 e3 e4 f1 f2 f3 hTP
          have HW := Lib.hid HLr.out.was
          go_wp2_with (first
            | (go_at_call 12; first
                | ((with_reducible refine HG1'.out.mono ?_); rintro e w4 ⟨rfl, b4⟩; obtain ⟨W5, hst5, hbk5, b5⟩ := new_st w4 a1 a2; have HL5 := Lib.hid ((HLr.out.below b4).below b5); have HA5 := Lib.hid hbk5; have HZ5 := Lib.hid (HBr.out.trans ((b4.trans (b5.mono b4.size)).mono HBr.out.size)); have hn5 := hbk5.lt; clear b4 b5 hbk5)
                | ((with_reducible refine (HG2.out _ HL5.out.cp).mono ?_); rintro e w6 ⟨rfl, b6⟩; obtain ⟨W7, hst7, hbk7, b7⟩ := new_st w6 a1 a2; have HL7 := Lib.hid ((HL5.out.below b6).below b7); have hA7 := (HA5.out.below b6).below b7; have x0 := hA7.cell 0; have x1 := hA7.cell 1; have y0 := hbk7.cell 0; have y1 := hbk7.cell 1; have z0 := HL7.out.was.cell 0; have z1 := HL7.out.was.cell 1; have p7 := HL7.out.bo.blk.cell 0; have HL8 := HL7; have HZ8 := Lib.hid (HZ5.out.trans ((b6.trans (b7.mono b6.size)).mono HZ5.out.size)); clear b6 b7 hbk7 hA7))
            | (go_at_call 22; (with_reducible refine (HR1.out _ HL8.out.bo.fl).mono ?_); rintro e w8 ⟨rfl, rfl⟩))
          go_roundw
          case rel => exact ⟨k + 1, by omega, by go_num, HZ8.out⟩
          case measure => simp [intOf]; omega
        · have hke : ((k : Int) == (m : Int)) = false := by simp; omega
          rw [hT.gP hlt hkm, hT.gV hlt hkm, hT.rf hlt hkm] at HG1
          rw [hT.rf hlt hkm] at HR1
          have hs := run_same (gP S (k : Int)) (gV S (k : Int)) (gP_wf HGf.out (k : Int))
          have HG1' := Lib.hid HG1
          generalize gP S (k : Int) = a1 at *
          generalize gV S (k : Int) = a2 at *
          generalize decide (rf S.R (k : Int) ≠ 0) = b0 at *
          generalize (rf S.R (k : Int) : Int) = r0 at *
          clear HG1 hT HGf
          go_wp2_with (first
            | (go_at_call 12; first
                | ((with_reducible refine HG1'.out.mono ?_); rintro e w4 ⟨rfl, b4⟩; obtain ⟨W5, hst5, hbk5, b5⟩ := new_st w4 a1 a2; have HL5 := Lib.hid ((HLr.out.below b4).below b5); have HA5 := Lib.hid hbk5; have HZ5 := Lib.hid (HBr.out.trans ((b4.trans (b5.mono b4.size)).mono HBr.out.size)); have hn5 := hbk5.lt; clear b4 b5 hbk5)
                | ((with_reducible refine (HG2.out _ HL5.out.cp).mono ?_); rintro e w6 ⟨rfl, b6⟩; obtain ⟨W7, hst7, hbk7, b7⟩ := new_st w6 a1 a2; have HL7 := Lib.hid ((HL5.out.below b6).below b7); have hA7 := (HA5.out.below b6).below b7; have x0 := hA7.cell 0; have x1 := hA7.cell 1; have y0 := hbk7.cell 0; have y1 := hbk7.cell 1; have p7 := HL7.out.bo.blk.cell 0; have HZ7 := Lib.hid (HZ5.out.trans ((b6.trans (b7.mono b6.size)).mono HZ5.out.size)); clear b6 b7 hbk7 hA7))
            | (go_at_call 22; first
                | ((with_reducible refine (HR1.out _ HL7.out.bo.fl).mono ?_); rintro e w8 ⟨rfl, rfl⟩)
                | ((with_reducible refine (HR2.out _ HL7.out.cp).mono ?_); rintro e w8 ⟨rfl, rfl⟩)))
          go_roundw
          case rel => exact ⟨k + 1, by omega, by go_num, HZ7.out⟩
          case measure => simp [intOf]; omega
      · obtain rfl : k = 64 := by omega
        have HBr := Lib.hid hbr
        clear hbr hLr
        go_wp2
        go_ret
        exact ⟨rfl, HE.out.trans (HBr.out.mono HE.out.size)⟩
set_option maxRecDepth 100000 in
set_option maxHeartbeats 16000000 in
theorem apart_drop (va : Value) (ops : List Opr) (w : World) (h : OpsAt w va ops) (hl : ops.length ≤ 200) (a : Nat) (ha : a < 256) :
    Calls Try.prog 8 #[va, .int .u8 (a : Int), .bool true] w fun e w' => e = .returned (.bool true) ∧ Below w.heap.size w w' := by
  obtain ⟨ad, cap, rfl, h1, h2, -⟩ := id h
  have HO := Lib.hid h
  have HL := Lib.hid hl
  have dl : decide ((200 : Int) < (ops.length : Int)) = false := decide_eq_false (by omega)
  have hwa : wrap64 (a : Int) = (a : Int) := IntWalk.wrap64_in _ (by omega)
  obtain ⟨m, hm⟩ : ∃ m, a % 64 = m := ⟨_, rfl⟩
  have hra : (a : Int).tmod 64 = (m : Int) := by rw [← hm]; rfl
  have hm8 : m < 64 := by omega
  have hm8i : (m : Int) < 64 := by omega
  clear h hl ha hm
  go_enter Try.func8, Try.ntmps8
  go_wp2_with (first
    | (go_at_call 29; (with_reducible refine (Jw.alive_any _).mono ?_); rintro e w1 ⟨rfl, b1⟩; have B1 := Lib.hid b1; clear b1)
    | (go_at_call 33; (with_reducible refine (grown_any _ _ ops (OpsAt.below HO.out B1.out) HL.out).mono ?_); rintro e w2 ⟨p, rfl, f, d, q, v, S, D, hbo, hg⟩; refine Hid.out ?_))
  refine Lib.hid ?_
  have p0 : w2.cell? ⟨p, 0, none⟩ = some (.pointer (some ⟨f, 0, none⟩)) := hbo.blk.cell 0
  have HC := Lib.hid (copy_any w2 f S hbo.fl)
  have HBo := Lib.hid hbo
  have HGf := Lib.hid hg
  clear hbo hg HO HL
  go_wp2_with (first | (go_at_call 31; (with_reducible refine HC.out.mono ?_); rintro e w3 ⟨rfl, b3, hc3⟩; refine Hid.out ?_))
  refine Lib.hid ?_
  obtain ⟨c, hc⟩ : ∃ c, w2.heap.size = c := ⟨_, rfl⟩
  have hcf : c ≠ f := by have := HBo.out.fl.lt; omega
  have hb3 := HBo.out.below b3
  rw [hc] at hc3 ⊢
  have HG := get_any w3 c S hc3 (m : Int)
  rw [rf_nat hm8, show gP S (m : Int) = (if S.R m = 0 then 0 else S.P m) from by unfold gP; rw [rf_nat hm8]; rfl, show gV S (m : Int) = (if S.R m = 0 then false else S.V m) from by unfold gV; rw [rf_nat hm8]; rfl] at HG
  have HB3 := Lib.hid hb3
  have HC3 := Lib.hid hc3
  have HRc := Lib.hid (fun W (hh : Fl W c S) => refs_any W c S hh (m : Int))
  rw [rf_nat hm8] at HRc
  have hfew : S.R m ≤ 200 := HGf.out.few m
  have hmp : mayP (S.P m) := HGf.out.pipe m
  have hfw : Few S := Jo.Gof.few9 HGf.out (by omega)
  clear b3 hb3 hc3 HC p0 hc
  by_cases hz : S.R m = 0
  · rw [if_pos hz, if_pos hz, decide_eq_false (fun e => e hz)] at HG
    rw [hz, Int.natCast_zero] at HRc
    have HG3 := Lib.hid HG
    clear HG
    have HN : Hid (∀ w4, Below w3.heap.size w3 w4 → ∃ W5, (stF (.pointer (some ⟨w4.heap.size, 0, none⟩)) (.agg #[.int .i64 (0), .bool (false)])).run Try.prog (w4.alloc (.cells #[.int .i64 0, .bool false] 26)) = .ok () W5 ∧ Lo w1 W5 p f d q v c w4.heap.size S S D D (0) (false)) := Lib.hid (fun w4 hb4 => by
      obtain ⟨W5, hst, hbk, hb5⟩ := new_st w4 (0) (false)
      exact ⟨W5, hst, (HB3.out.below hb4).below hb5, (HC3.out.below hb4).below hb5, hbk⟩)
    have hT : Turn S S m := ⟨fun _ _ => rfl, fun _ _ => rfl, fun _ _ => rfl⟩
    have HCall : Hid (∀ W5, Fl W5 f S → Calls Try.prog 26 #[.pointer (some ⟨f, 0, none⟩), .int .i64 (m : Int)] W5 fun e w' => e = .returned (.tuple #[.int .i64 0, .agg #[.int .i64 0, .bool false], .int .i64 101]) ∧ Kp (fun j => j = f) W5 w' ∧ Fl w' f S) := Lib.hid (fun W5 hh => by
      have := drop_any W5 f S hh hfw (m : Int)
      unfold dN dP dV sE dS at this
      rw [rf_nat hm8, if_pos hz, if_pos hz, if_pos hz, if_pos hz, if_pos hz] at this
      exact this)
    go_wp2_with (first
      | (go_at_call 12; (with_reducible refine HG3.out.mono ?_); rintro e w4 ⟨rfl, b4⟩; obtain ⟨W5, hst5, hL5⟩ := HN.out w4 b4; have HL5 := Lib.hid hL5; have p5 := hL5.bo.blk.cell 0; have hx5 := b4.size; clear b4 hL5)
      | (go_at_call 22; (with_reducible refine (HRc.out _ HL5.out.cp).mono ?_); rintro e w6 ⟨rfl, rfl⟩)
      | (go_at_call 26; (with_reducible refine (HCall.out _ HL5.out.bo.fl).mono ?_); rintro e w7 ⟨rfl, k7, g7⟩; have hL7 := HL5.out.onF hcf k7 g7; obtain ⟨wL, hstL, hbL, kL⟩ := own_st w7 w4.heap.size _ _ hL7.was (0) (false); have HLo := Lib.hid (hL7.onX (by have := HB3.out.bel.size; omega) kL hbL); clear k7 g7 hL7 hbL kL; refine Hid.out ?_))
    refine Lib.hid ?_
    obtain ⟨T, hTS⟩ : ∃ T, S = T := ⟨_, rfl⟩
    have hT : Turn S T m := by rw [← hTS]; exact hT
    have HLo : Hid (Lo w1 wL p f d q v c w4.heap.size S T D D 0 false) := Lib.hid (by rw [← hTS]; exact HLo.out)
    clear HL5 hst5 p5 HCall HN HG3 hz
    have p0 : wL.cell? ⟨p, 0, none⟩ = some (.pointer (some ⟨f, 0, none⟩)) := HLo.out.bo.blk.cell 0
    have HE := Lib.hid (B1.out.trans (HLo.out.bo.bel.mono B1.out.size))
    clear HB3 HC3 HRc
    go_wp2
    go_loopw [16] (fun i wr => ∃ k : Nat, k ≤ 64 ∧ i = .int .i64 (k : Int) ∧ Below wL.heap.size wL wr) (fun i _ => 64 - (intOf i).toNat)
    case atStart => exact ⟨0, Nat.zero_le _, rfl, Below.refl _ _⟩
    case round =>
      obtain ⟨k, hk, rfl, hbr⟩ := hrel
      have hLr := HLo.out.below hbr
      have p0 : wr.cell? ⟨p, 0, none⟩ = some (.pointer (some ⟨f, 0, none⟩)) := hLr.bo.blk.cell 0
      by_cases hlt : k < 64
      · have hk64 : (k : Int) < 64 := by omega
        have HBr := Lib.hid hbr
        have HG2 := Lib.hid (fun W (hh : Fl W c S) => get_any W c S hh (k : Int))
        have HR2 := Lib.hid (fun W (hh : Fl W c S) => refs_any W c S hh (k : Int))
        have HG1 := get_any wr f T hLr.bo.fl (k : Int)
        have HR1 := Lib.hid (fun W (hh : Fl W f T) => refs_any W f T hh (k : Int))
        have HLr := Lib.hid hLr
        clear hbr hLr
        rw [show gP T (k : Int) = gP S (k : Int) by rw [hTS], show gV T (k : Int) = gV S (k : Int) by rw [hTS], show rf T.R (k : Int) = rf S.R (k : Int) by rw [hTS]] at HG1
        rw [show rf T.R (k : Int) = rf S.R (k : Int) by rw [hTS]] at HR1
        by_cases hkm : k = m
        · have hke : ((k : Int) == (m : Int)) = true := by rw [hkm]; simp
          clear hkm
          have hs := run_same (gP S (k : Int)) (gV S (k : Int)) (gP_wf HGf.out (k : Int))
          have HG1' := Lib.hid HG1
          generalize gP S (k : Int) = a1 at *
          generalize gV S (k : Int) = a2 at *
          generalize decide (rf S.R (k : Int) ≠ 0) = b0 at *
          generalize (rf S.R (k : Int) : Int) = r0 at *
          clear HG1 hT HGf
          go_wp2_with (first
            | (go_at_call 12; first
                | ((with_reducible refine HG1'.out.mono ?_); rintro e w4 ⟨rfl, b4⟩; obtain ⟨W5, hst5, hbk5, b5⟩ := new_st w4 a1 a2; have HL5 := Lib.hid ((HLr.out.below b4).below b5); have HA5 := Lib.hid hbk5; have HZ5 := Lib.hid (HBr.out.trans ((b4.trans (b5.mono b4.size)).mono HBr.out.size)); have hn5 := hbk5.lt; clear b4 b5 hbk5)
                | ((with_reducible refine (HG2.out _ HL5.out.cp).mono ?_); rintro e w6 ⟨rfl, b6⟩; obtain ⟨W7, hst7, hbk7, b7⟩ := new_st w6 a1 a2; have HL7 := Lib.hid ((HL5.out.below b6).below b7); have hA7 := (HA5.out.below b6).below b7; have x0 := hA7.cell 0; have x1 := hA7.cell 1; have y0 := hbk7.cell 0; have y1 := hbk7.cell 1; have p7 := HL7.out.bo.blk.cell 0; have HZ7 := Lib.hid (HZ5.out.trans ((b6.trans (b7.mono b6.size)).mono HZ5.out.size)); clear b6 b7 hbk7 hA7))
            | (go_at_call 22; first
                | ((with_reducible refine (HR1.out _ HL7.out.bo.fl).mono ?_); rintro e w8 ⟨rfl, rfl⟩)
                | ((with_reducible refine (HR2.out _ HL7.out.cp).mono ?_); rintro e w8 ⟨rfl, rfl⟩)))
          go_roundw
          case rel => exact ⟨k + 1, by omega, by go_num, HZ7.out⟩
          case measure => simp [intOf]; omega
        · have hke : ((k : Int) == (m : Int)) = false := by simp; omega
          have hs := run_same (gP S (k : Int)) (gV S (k : Int)) (gP_wf HGf.out (k : Int))
          have HG1' := Lib.hid HG1
          generalize gP S (k : Int) = a1 at *
          generalize gV S (k : Int) = a2 at *
          generalize decide (rf S.R (k : Int) ≠ 0) = b0 at *
          generalize (rf S.R (k : Int) : Int) = r0 at *
          clear HG1 hT HGf
          go_wp2_with (first
            | (go_at_call 12; first
                | ((with_reducible refine HG1'.out.mono ?_); rintro e w4 ⟨rfl, b4⟩; obtain ⟨W5, hst5, hbk5, b5⟩ := new_st w4 a1 a2; have HL5 := Lib.hid ((HLr.out.below b4).below b5); have HA5 := Lib.hid hbk5; have HZ5 := Lib.hid (HBr.out.trans ((b4.trans (b5.mono b4.size)).mono HBr.out.size)); have hn5 := hbk5.lt; clear b4 b5 hbk5)
                | ((with_reducible refine (HG2.out _ HL5.out.cp).mono ?_); rintro e w6 ⟨rfl, b6⟩; obtain ⟨W7, hst7, hbk7, b7⟩ := new_st w6 a1 a2; have HL7 := Lib.hid ((HL5.out.below b6).below b7); have hA7 := (HA5.out.below b6).below b7; have x0 := hA7.cell 0; have x1 := hA7.cell 1; have y0 := hbk7.cell 0; have y1 := hbk7.cell 1; have p7 := HL7.out.bo.blk.cell 0; have HZ7 := Lib.hid (HZ5.out.trans ((b6.trans (b7.mono b6.size)).mono HZ5.out.size)); clear b6 b7 hbk7 hA7))
            | (go_at_call 22; first
                | ((with_reducible refine (HR1.out _ HL7.out.bo.fl).mono ?_); rintro e w8 ⟨rfl, rfl⟩)
                | ((with_reducible refine (HR2.out _ HL7.out.cp).mono ?_); rintro e w8 ⟨rfl, rfl⟩)))
          go_roundw
          case rel => exact ⟨k + 1, by omega, by go_num, HZ7.out⟩
          case measure => simp [intOf]; omega
      · obtain rfl : k = 64 := by omega
        have HBr := Lib.hid hbr
        clear hbr hLr
        go_wp2
        go_ret
        exact ⟨rfl, HE.out.trans (HBr.out.mono HE.out.size)⟩
  · by_cases hz1 : S.R m = 1
    · rw [if_neg hz, if_neg hz, decide_eq_true hz] at HG
      have HG3 := Lib.hid HG
      clear HG
      have HN : Hid (∀ w4, Below w3.heap.size w3 w4 → ∃ W5, (stF (.pointer (some ⟨w4.heap.size, 0, none⟩)) (.agg #[.int .i64 (S.P m), .bool (S.V m)])).run Try.prog (w4.alloc (.cells #[.int .i64 0, .bool false] 26)) = .ok () W5 ∧ Lo w1 W5 p f d q v c w4.heap.size S S D D (S.P m) (S.V m)) := Lib.hid (fun w4 hb4 => by
        obtain ⟨W5, hst, hbk, hb5⟩ := new_st w4 (S.P m) (S.V m)
        exact ⟨W5, hst, (HB3.out.below hb4).below hb5, (HC3.out.below hb4).below hb5, hbk⟩)
      have HCall : Hid (∀ W5, Fl W5 f S → Calls Try.prog 26 #[.pointer (some ⟨f, 0, none⟩), .int .i64 (m : Int)] W5 fun e w' => e = .returned (.tuple #[.int .i64 0, .agg #[.int .i64 (S.P m), .bool (S.V m)], .int .i64 0]) ∧ Kp (fun j => j = f) W5 w' ∧ Fl w' f (S.put m 0 false 0)) := Lib.hid (fun W5 hh => by
        have := drop_any W5 f S hh hfw (m : Int)
        unfold dN dP dV sE dS at this
        rw [rf_nat hm8, if_neg hz, if_neg hz, if_neg hz, if_neg hz, if_neg hz, if_pos hz1, hz1, show Int.toNat (m : Int) = m by omega] at this
        exact this)
      rw [hz1, Int.natCast_one] at HRc
      have hT0 := turn_put S m 0 false 0
      have hTR0 : (S.put m 0 false 0).R m = 0 := up_same _ _ _
      go_wp2_with (first
        | (go_at_call 12; (with_reducible refine HG3.out.mono ?_); rintro e w4 ⟨rfl, b4⟩; obtain ⟨W5, hst5, hL5⟩ := HN.out w4 b4; have HL5 := Lib.hid hL5; have p5 := hL5.bo.blk.cell 0; have hx5 := b4.size; clear b4 hL5)
        | (go_at_call 22; (with_reducible refine (HRc.out _ HL5.out.cp).mono ?_); rintro e w6 ⟨rfl, rfl⟩)
        | (go_at_call 26; (with_reducible refine (HCall.out _ HL5.out.bo.fl).mono ?_); rintro e w7 ⟨rfl, k7, g7⟩; have hL7 := HL5.out.onF hcf k7 g7; obtain ⟨wL, hstL, hbL, kL⟩ := own_st w7 w4.heap.size _ _ hL7.was (S.P m) (S.V m); have HLo := Lib.hid (hL7.onX (by have := HB3.out.bel.size; omega) kL hbL); clear k7 g7 hL7 hbL kL; refine Hid.out ?_))
      refine Lib.hid ?_
      obtain ⟨T, hTP⟩ : ∃ T, T = S.put m 0 false 0 := ⟨_, rfl⟩
      have hT : Turn S T m := by rw [hTP]; exact hT0
      obtain ⟨X, hX⟩ : ∃ X, w4.heap.size = X := ⟨_, rfl⟩
      obtain ⟨wp, hwp⟩ : ∃ wp, S.P m = wp := ⟨_, rfl⟩
      obtain ⟨wv, hwv⟩ : ∃ wv, S.V m = wv := ⟨_, rfl⟩
      have HLo : Hid (Lo w1 wL p f d q v c X S T D D wp wv) := Lib.hid (by rw [hTP, ← hX, ← hwp, ← hwv]; exact HLo.out)
      clear HL5 hst5 p5 HCall HN HG3 hT0 hwp hwv hX
      have p0 : wL.cell? ⟨p, 0, none⟩ = some (.pointer (some ⟨f, 0, none⟩)) := HLo.out.bo.blk.cell 0
      have HE := Lib.hid (B1.out.trans (HLo.out.bo.bel.mono B1.out.size))
      clear HB3 HC3 HRc
      go_wp2
      go_loopw [16] (fun i wr => ∃ k : Nat, k ≤ 64 ∧ i = .int .i64 (k : Int) ∧ Below wL.heap.size wL wr) (fun i _ => 64 - (intOf i).toNat)
      case atStart => exact ⟨0, Nat.zero_le _, rfl, Below.refl _ _⟩
      case round =>
        obtain ⟨k, hk, rfl, hbr⟩ := hrel
        have hLr := HLo.out.below hbr
        have p0 : wr.cell? ⟨p, 0, none⟩ = some (.pointer (some ⟨f, 0, none⟩)) := hLr.bo.blk.cell 0
        by_cases hlt : k < 64
        · have hk64 : (k : Int) < 64 := by omega
          have HBr := Lib.hid hbr
          have HG2 := Lib.hid (fun W (hh : Fl W c S) => get_any W c S hh (k : Int))
          have HR2 := Lib.hid (fun W (hh : Fl W c S) => refs_any W c S hh (k : Int))
          have HG1 := get_any wr f T hLr.bo.fl (k : Int)
          have HR1 := Lib.hid (fun W (hh : Fl W f T) => refs_any W f T hh (k : Int))
          have HLr := Lib.hid hLr
          clear hbr hLr
          by_cases hkm : k = m
          · subst hkm
            have hke : ((k : Int) == (k : Int)) = true := by simp
            have e1 : gP T (k : Int) = 0 := by rw [hTP]; unfold gP; rw [rf_nat hm8, if_pos hTR0]
            have e2 : gV T (k : Int) = false := by rw [hTP]; unfold gV; rw [rf_nat hm8, if_pos hTR0]
            have e3 : decide (rf T.R (k : Int) ≠ 0) = false := by rw [hTP]; rw [rf_nat hm8]; exact decide_eq_false (fun e => e hTR0)
            have e4 : (rf T.R (k : Int) : Int) = 0 := by rw [hTP]; rw [rf_nat hm8, hTR0]; rfl
            have f1 : gP S (k : Int) = S.P k := by unfold gP; rw [rf_nat hm8, if_neg (by omega)]; rfl
            have f2 : gV S (k : Int) = S.V k := by unfold gV; rw [rf_nat hm8, if_neg (by omega)]; rfl
            have f3 : decide (rf S.R (k : Int) ≠ 0) = true := by rw [rf_nat hm8]; exact decide_eq_true (by omega)
            rw [e1, e2, e3] at HG1
            rw [e4] at HR1
            rw [f1, f2, f3] at HG2
            have hs := run_same 0 false zero_wf
            have HG1' := Lib.hid HG1
            generalize S.P k = a1 at *
            generalize S.V k = a2 at *
            clear HG1 hT HGf e1 e2 e3 e4 f1 f2 f3 hTP
            have Lo8 : Hid (∀ W7 W8 g, Lo w1 W7 p f d q v c X S T D D wp wv → Blk W7 g #[.int .i64 a1, .bool a2] 26 → Kp (fun j => j = g) W7 W8 → w1.heap.size ≤ g → Lo0 w1 W8 p f d q v c S T D D) := Lib.hid (fun W7 W8 g hl hb k8 hg => ⟨Jy.Bo.onX hl.bo hb hg k8, by
              obtain ⟨cs, q1, q2⟩ := hl.cp
              exact ⟨cs, q1.kept k8 (q1.ne hb (by decide)), q2⟩⟩)
            go_wp2_with (first
              | (go_at_call 12; first
                  | ((with_reducible refine HG1'.out.mono ?_); rintro e w4 ⟨rfl, b4⟩; obtain ⟨W5, hst5, hbk5, b5⟩ := new_st w4 0 false; have HL5 := Lib.hid ((HLr.out.below b4).below b5); have HA5 := Lib.hid hbk5; have HZ5 := Lib.hid (HBr.out.trans ((b4.trans (b5.mono b4.size)).mono HBr.out.size)); have hn5 := hbk5.lt; clear b4 b5 hbk5)
                  | ((with_reducible refine (HG2.out _ HL5.out.cp).mono ?_); rintro e w6 ⟨rfl, b6⟩; obtain ⟨W7, hst7, hbk7, b7⟩ := new_st w6 a1 a2; have HL7 := Lib.hid ((HL5.out.below b6).below b7); have hA7 := (HA5.out.below b6).below b7; obtain ⟨W8, hst8, hbk8, k8⟩ := own_st W7 w6.heap.size _ _ hbk7 0 false; have hne8 : w4.heap.size ≠ w6.heap.size := (by have := hA7.lt; have := hn5; have := b6.size; omega); have hA8 := hA7.kept k8 hne8; have x0 := hA8.cell 0; have x1 := hA8.cell 1; have y0 := hbk8.cell 0; have y1 := hbk8.cell 1; have HL8 := Lib.hid (Lo8.out W7 W8 w6.heap.size HL7.out hbk7 k8 (by have := HL5.out.bo.bel.size; have := b6.size; omega)); have p7 := HL8.out.bo.blk.cell 0; have HZ8 := Lib.hid ((HZ5.out.trans ((b6.trans (b7.mono b6.size)).mono HZ5.out.size)).trans (k8.below (HZ5.out.trans ((b6.trans (b7.mono b6.size)).mono HZ5.out.size)).size (fun j e => by have := HZ5.out.size; have := b6.size; omega))); clear b6 b7 hbk7 hA7 hA8 hbk8 k8))
              | (go_at_call 22; (with_reducible refine (HR1.out _ HL8.out.bo.fl).mono ?_); rintro e w8 ⟨rfl, rfl⟩))
            go_roundw
            case rel => exact ⟨k + 1, by omega, by go_num, HZ8.out⟩
            case measure => simp [intOf]; omega
          · have hke : ((k : Int) == (m : Int)) = false := by simp; omega
            rw [hT.gP hlt hkm, hT.gV hlt hkm, hT.rf hlt hkm] at HG1
            rw [hT.rf hlt hkm] at HR1
            have hs := run_same (gP S (k : Int)) (gV S (k : Int)) (gP_wf HGf.out (k : Int))
            have HG1' := Lib.hid HG1
            generalize gP S (k : Int) = a1 at *
            generalize gV S (k : Int) = a2 at *
            generalize decide (rf S.R (k : Int) ≠ 0) = b0 at *
            generalize (rf S.R (k : Int) : Int) = r0 at *
            clear HG1 hT HGf
            go_wp2_with (first
              | (go_at_call 12; first
                  | ((with_reducible refine HG1'.out.mono ?_); rintro e w4 ⟨rfl, b4⟩; obtain ⟨W5, hst5, hbk5, b5⟩ := new_st w4 a1 a2; have HL5 := Lib.hid ((HLr.out.below b4).below b5); have HA5 := Lib.hid hbk5; have HZ5 := Lib.hid (HBr.out.trans ((b4.trans (b5.mono b4.size)).mono HBr.out.size)); have hn5 := hbk5.lt; clear b4 b5 hbk5)
                  | ((with_reducible refine (HG2.out _ HL5.out.cp).mono ?_); rintro e w6 ⟨rfl, b6⟩; obtain ⟨W7, hst7, hbk7, b7⟩ := new_st w6 a1 a2; have HL7 := Lib.hid ((HL5.out.below b6).below b7); have hA7 := (HA5.out.below b6).below b7; have x0 := hA7.cell 0; have x1 := hA7.cell 1; have y0 := hbk7.cell 0; have y1 := hbk7.cell 1; have p7 := HL7.out.bo.blk.cell 0; have HZ7 := Lib.hid (HZ5.out.trans ((b6.trans (b7.mono b6.size)).mono HZ5.out.size)); clear b6 b7 hbk7 hA7))
              | (go_at_call 22; first
                  | ((with_reducible refine (HR1.out _ HL7.out.bo.fl).mono ?_); rintro e w8 ⟨rfl, rfl⟩)
                  | ((with_reducible refine (HR2.out _ HL7.out.cp).mono ?_); rintro e w8 ⟨rfl, rfl⟩)))
            go_roundw
            case rel => exact ⟨k + 1, by omega, by go_num, HZ7.out⟩
            case measure => simp [intOf]; omega
        · obtain rfl : k = 64 := by omega
          have HBr := Lib.hid hbr
          clear hbr hLr
          go_wp2
          go_ret
          exact ⟨rfl, HE.out.trans (HBr.out.mono HE.out.size)⟩
    · rw [if_neg hz, if_neg hz, decide_eq_true hz] at HG
      have HG3 := Lib.hid HG
      clear HG
      have HN : Hid (∀ w4, Below w3.heap.size w3 w4 → ∃ W5, (stF (.pointer (some ⟨w4.heap.size, 0, none⟩)) (.agg #[.int .i64 (S.P m), .bool (S.V m)])).run Try.prog (w4.alloc (.cells #[.int .i64 0, .bool false] 26)) = .ok () W5 ∧ Lo w1 W5 p f d q v c w4.heap.size S S D D (S.P m) (S.V m)) := Lib.hid (fun w4 hb4 => by
        obtain ⟨W5, hst, hbk, hb5⟩ := new_st w4 (S.P m) (S.V m)
        exact ⟨W5, hst, (HB3.out.below hb4).below hb5, (HC3.out.below hb4).below hb5, hbk⟩)
      have HCall : Hid (∀ W5, Fl W5 f S → Calls Try.prog 26 #[.pointer (some ⟨f, 0, none⟩), .int .i64 (m : Int)] W5 fun e w' => e = .returned (.tuple #[.int .i64 ((S.R m : Int) - 1), .agg #[.int .i64 (S.P m), .bool (S.V m)], .int .i64 0]) ∧ Kp (fun j => j = f) W5 w' ∧ Fl w' f ⟨S.P, S.V, up S.R m (S.R m - 1)⟩) := Lib.hid (fun W5 hh => by
        have := drop_any W5 f S hh hfw (m : Int)
        unfold dN dP dV sE dS at this
        rw [rf_nat hm8, if_neg hz, if_neg hz, if_neg hz, if_neg hz, if_neg hz, if_neg hz1, show Int.toNat (m : Int) = m by omega] at this
        exact this)
      obtain ⟨r, hr⟩ : ∃ r : Int, (S.R m : Int) = r := ⟨_, rfl⟩
      rw [hr] at HRc HCall
      have hr0 : 2 ≤ r := by omega
      have hr9 : r ≤ 200 := by omega
      have hT0 := turn_ref S m (S.R m - 1)
      have hTR0 : up S.R m (S.R m - 1) m ≠ 0 := by rw [up_same]; omega
      have hTRv : ((up S.R m (S.R m - 1) m : Nat) : Int) = r - 1 := by rw [up_same]; omega
      go_wp2_with (first
        | (go_at_call 12; (with_reducible refine HG3.out.mono ?_); rintro e w4 ⟨rfl, b4⟩; obtain ⟨W5, hst5, hL5⟩ := HN.out w4 b4; have HL5 := Lib.hid hL5; have p5 := hL5.bo.blk.cell 0; have hx5 := b4.size; clear b4 hL5)
        | (go_at_call 22; (with_reducible refine (HRc.out _ HL5.out.cp).mono ?_); rintro e w6 ⟨rfl, rfl⟩)
        | (go_at_call 26; (with_reducible refine (HCall.out _ HL5.out.bo.fl).mono ?_); rintro e w7 ⟨rfl, k7, g7⟩; have hL7 := HL5.out.onF hcf k7 g7; obtain ⟨wL, hstL, hbL, kL⟩ := own_st w7 w4.heap.size _ _ hL7.was (S.P m) (S.V m); have HLo := Lib.hid (hL7.onX (by have := HB3.out.bel.size; omega) kL hbL); clear k7 g7 hL7 hbL kL; refine Hid.out ?_))
      refine Lib.hid ?_
      obtain ⟨T, hTP⟩ : ∃ T, T = (⟨S.P, S.V, up S.R m (S.R m - 1)⟩ : Sf) := ⟨_, rfl⟩
      have hT : Turn S T m := by rw [hTP]; exact hT0
      have HLo : Hid (Lo w1 wL p f d q v c w4.heap.size S T D D (S.P m) (S.V m)) := Lib.hid (by rw [hTP]; exact HLo.out)
      clear HL5 hst5 p5 HCall HN HG3 hT0
      have p0 : wL.cell? ⟨p, 0, none⟩ = some (.pointer (some ⟨f, 0, none⟩)) := HLo.out.bo.blk.cell 0
      have HE := Lib.hid (B1.out.trans (HLo.out.bo.bel.mono B1.out.size))
      clear HB3 HC3 HRc
      go_wp2
      go_loopw [16] (fun i wr => ∃ k : Nat, k ≤ 64 ∧ i = .int .i64 (k : Int) ∧ Below wL.heap.size wL wr) (fun i _ => 64 - (intOf i).toNat)
      case atStart => exact ⟨0, Nat.zero_le _, rfl, Below.refl _ _⟩
      case round =>
        obtain ⟨k, hk, rfl, hbr⟩ := hrel
        have hLr := HLo.out.below hbr
        have p0 : wr.cell? ⟨p, 0, none⟩ = some (.pointer (some ⟨f, 0, none⟩)) := hLr.bo.blk.cell 0
        by_cases hlt : k < 64
        · have hk64 : (k : Int) < 64 := by omega
          have HBr := Lib.hid hbr
          have HG2 := Lib.hid (fun W (hh : Fl W c S) => get_any W c S hh (k : Int))
          have HR2 := Lib.hid (fun W (hh : Fl W c S) => refs_any W c S hh (k : Int))
          have HG1 := get_any wr f T hLr.bo.fl (k : Int)
          have HR1 := Lib.hid (fun W (hh : Fl W f T) => refs_any W f T hh (k : Int))
          have HLr := Lib.hid hLr
          clear hbr hLr
          by_cases hkm : k = m
          · subst hkm
            have hke : ((k : Int) == (k : Int)) = true := by simp
            have e1 : gP T (k : Int) = S.P k := by rw [hTP]; unfold gP; rw [rf_nat hm8, if_neg hTR0]; rfl
            have e2 : gV T (k : Int) = S.V k := by rw [hTP]; unfold gV; rw [rf_nat hm8, if_neg hTR0]; rfl
            have e3 : decide (rf T.R (k : Int) ≠ 0) = true := by rw [hTP]; rw [rf_nat hm8]; exact decide_eq_true hTR0
            have e4 : (rf T.R (k : Int) : Int) = (r - 1) := by rw [hTP]; rw [rf_nat hm8]; exact hTRv
            have f1 : gP S (k : Int) = S.P k := by unfold gP; rw [rf_nat hm8, if_neg hz]; rfl
            have f2 : gV S (k : Int) = S.V k := by unfold gV; rw [rf_nat hm8, if_neg hz]; rfl
            have f3 : decide (rf S.R (k : Int) ≠ 0) = true := by rw [rf_nat hm8]; exact decide_eq_true hz
            rw [e1, e2, e3] at HG1
            rw [e4] at HR1
            rw [f1, f2, f3] at HG2
            have hs := run_same (S.P k) (S.V k) (wf_small hmp)
            have dz : decide (0 < (r - 1)) = true := decide_eq_true (by omega)
            have dz2 : decide (1 < r) = true := decide_eq_true (by omega)
            have HG1' := Lib.hid HG1
            generalize S.P k = a1 at *
            generalize S.V k = a2 at *
            clear HG1 hT HGf e1 e2 e3 e4 f1 f2 f3 hTP
            have HW := Lib.hid HLr.out.was
            go_wp2_with (first
              | (go_at_call 12; first
                  | ((with_reducible refine HG1'.out.mono ?_); rintro e w4 ⟨rfl, b4⟩; obtain ⟨W5, hst5, hbk5, b5⟩ := new_st w4 a1 a2; have HL5 := Lib.hid ((HLr.out.below b4).below b5); have HA5 := Lib.hid hbk5; have HZ5 := Lib.hid (HBr.out.trans ((b4.trans (b5.mono b4.size)).mono HBr.out.size)); have hn5 := hbk5.lt; clear b4 b5 hbk5)
                  | ((with_reducible refine (HG2.out _ HL5.out.cp).mono ?_); rintro e w6 ⟨rfl, b6⟩; obtain ⟨W7, hst7, hbk7, b7⟩ := new_st w6 a1 a2; have HL7 := Lib.hid ((HL5.out.below b6).below b7); have hA7 := (HA5.out.below b6).below b7; have x0 := hA7.cell 0; have x1 := hA7.cell 1; have y0 := hbk7.cell 0; have y1 := hbk7.cell 1; have z0 := HL7.out.was.cell 0; have z1 := HL7.out.was.cell 1; have p7 := HL7.out.bo.blk.cell 0; have HL8 := HL7; have HZ8 := Lib.hid (HZ5.out.trans ((b6.trans (b7.mono b6.size)).mono HZ5.out.size)); clear b6 b7 hbk7 hA7))
              | (go_at_call 22; (with_reducible refine (HR1.out _ HL8.out.bo.fl).mono ?_); rintro e w8 ⟨rfl, rfl⟩))
            go_roundw
            case rel => exact ⟨k + 1, by omega, by go_num, HZ8.out⟩
            case measure => simp [intOf]; omega
          · have hke : ((k : Int) == (m : Int)) = false := by simp; omega
            rw [hT.gP hlt hkm, hT.gV hlt hkm, hT.rf hlt hkm] at HG1
            rw [hT.rf hlt hkm] at HR1
            have hs := run_same (gP S (k : Int)) (gV S (k : Int)) (gP_wf HGf.out (k : Int))
            have HG1' := Lib.hid HG1
            generalize gP S (k : Int) = a1 at *
            generalize gV S (k : Int) = a2 at *
            generalize decide (rf S.R (k : Int) ≠ 0) = b0 at *
            generalize (rf S.R (k : Int) : Int) = r0 at *
            clear HG1 hT HGf
            go_wp2_with (first
              | (go_at_call 12; first
                  | ((with_reducible refine HG1'.out.mono ?_); rintro e w4 ⟨rfl, b4⟩; obtain ⟨W5, hst5, hbk5, b5⟩ := new_st w4 a1 a2; have HL5 := Lib.hid ((HLr.out.below b4).below b5); have HA5 := Lib.hid hbk5; have HZ5 := Lib.hid (HBr.out.trans ((b4.trans (b5.mono b4.size)).mono HBr.out.size)); have hn5 := hbk5.lt; clear b4 b5 hbk5)
                  | ((with_reducible refine (HG2.out _ HL5.out.cp).mono ?_); rintro e w6 ⟨rfl, b6⟩; obtain ⟨W7, hst7, hbk7, b7⟩ := new_st w6 a1 a2; have HL7 := Lib.hid ((HL5.out.below b6).below b7); have hA7 := (HA5.out.below b6).below b7; have x0 := hA7.cell 0; have x1 := hA7.cell 1; have y0 := hbk7.cell 0; have y1 := hbk7.cell 1; have p7 := HL7.out.bo.blk.cell 0; have HZ7 := Lib.hid (HZ5.out.trans ((b6.trans (b7.mono b6.size)).mono HZ5.out.size)); clear b6 b7 hbk7 hA7))
              | (go_at_call 22; first
                  | ((with_reducible refine (HR1.out _ HL7.out.bo.fl).mono ?_); rintro e w8 ⟨rfl, rfl⟩)
                  | ((with_reducible refine (HR2.out _ HL7.out.cp).mono ?_); rintro e w8 ⟨rfl, rfl⟩)))
            go_roundw
            case rel => exact ⟨k + 1, by omega, by go_num, HZ7.out⟩
            case measure => simp [intOf]; omega
        · obtain rfl : k = 64 := by omega
          have HBr := Lib.hid hbr
          clear hbr hLr
          go_wp2
          go_ret
          exact ⟨rfl, HE.out.trans (HBr.out.mono HE.out.size)⟩
end Go.Proofs.Ytmdldehdlggpkaa.Jap
namespace Go.Proofs.Ytmdldehdlggpkaa.Walk
open Go Go.RowKit Kit Jap Jb Jt
theorem filesApart (va : Value) (ops : List Opr) (a : Int) (b : Bool) (W : World) (h : OpsAt W va ops) (wa : (Lit.int .u8 a).wf = true) :
    Calls Try.prog 8 #[va, .int .u8 a, .bool b] W fun e w' => e = .returned (.bool true) ∧ Below W.heap.size W w' := by
  obtain ⟨n, rfl, hn⟩ := u8_nat wa
  by_cases hl : ops.length ≤ 200
  · cases b
    · exact apart_share va ops W h hl n hn
    · exact apart_drop va ops W h hl n hn
  · exact law_long va ops W h hl _ _
end Go.Proofs.Ytmdldehdlggpkaa.Walk

