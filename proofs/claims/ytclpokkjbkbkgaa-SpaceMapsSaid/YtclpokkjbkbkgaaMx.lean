/-
  Pages mapped read as noughts, unmapped they leave no trace: SpaceMaps (its walk).
-/
import Derived.Test.YtclpokkjbkbkgaaMw
import Derived.Test.YtclpokkjbkbkgaaUm
import Derived.Test.YtclpokkjbkbkgaaQc
namespace Go.Proofs.Ytclpokkjbkbkgaa.Mx
open Go Go.RowKit Go.Shelf Kit Bk
open Fm hiding Mem made_any len_any
open Fo Fr Fw Fx Fu Fq
open Tm hiding Mem
open Ts Tc Ti Sp Sa Pz To My Pv Mp Mq Dr Cl Iv Iw Ix Wr Sy Al Pg So Oq Sn Tg Un Zf Mw Um Qc
set_option linter.unusedVariables false
attribute [local go_sem ↓] ldp_wrap stp_wrap eqp_wrap nep_wrap

theorem bel_drewN {B : Nat} {a w : World} (h : Below B a w) (n : Nat) : Below B a (w.drewN n) := ⟨h.os, h.tape, h.output, h.size, h.block⟩
theorem eq_pg {X : Array Value} (h : ∃ B T, X = pgP B T 64) : X.size = 64 ∧ X.all (·.oneCell') = true := by
  obtain ⟨B, T, rfl⟩ := h
  exact ⟨pgP_size _ _ _, pgP_one _ _ _⟩
theorem range_of {w : World} {g : Nat} {F : Array Value} (h : Blk w g F 52) : w.rangeAt g 0 F.toList := fun j v hj => by
  rw [h.cell, Nat.zero_add, ← hj, Array.getElem?_toList]
theorem stored (w8 : World) (F : Array Value) (h : F.size = 64 ∧ F.all (·.oneCell') = true) : ∃ W9, (stP (.pointer (some ⟨w8.heap.size, 0, none⟩)) (.agg F)).run Try.prog (w8.alloc (.cells zS 52)) = .ok () W9 ∧ Blk W9 w8.heap.size F 52 ∧ Below w8.heap.size w8 W9 := by
  have hzs : zS.size = 64 := by simp [zS]
  have hBA : Below w8.heap.size w8 (w8.alloc (.cells zS 52)) := (Below.refl _ _).alloc (Nat.le_refl _) _
  exact ⟨_, run_stP (w8.alloc (.cells zS 52)) w8.heap.size zS F _ (Blk.new _ _ _) hzs h.1 h.2, Tc.Blk.setAll (Blk.new w8 zS 52) (ds := F) (by rw [h.1, hzs]), hBA.trans ((Kp.sets (S := fun j => j = w8.heap.size) w8.heap.size rfl F.toList 0 (w8.alloc (.cells zS 52))).below hBA.size (fun j hj => by rw [hj]; exact Nat.le_refl _))⟩
set_option maxRecDepth 100000 in
set_option maxHeartbeats 4000000 in
theorem maps_law (vl : Value) (l : List Opr) (many page m : Int) (wb sh : Bool) (w : World) (hl : OpsAt w vl l) (hpw : (Lit.int .i64 page).wf = true) (hmw : (Lit.int .i64 m).wf = true) :
    Calls Try.prog 6 #[.int .i64 many, vl, .int .i64 page, .int .i64 m, .bool wb, .bool sh] w fun e w' => e = .returned (.bool true) ∧ Below w.heap.size w w' := by
  by_cases hyes : Fine 30 l ∧ 1 ≤ many ∧ many ≤ 40
  case neg => exact maps_out vl l many page m wb sh w hl hyes
  obtain ⟨hfl, hm1, hm2⟩ := hyes
  obtain ⟨n, rfl⟩ := Int.eq_ofNat_of_zero_le (show 0 ≤ many by omega)
  have d : decide ((40 : Int) < (n : Int)) = false := decide_eq_false (by omega)
  have HGl : Hid (∀ W, Below w.heap.size w W → Calls Try.prog 18 #[vl, .int .i64 30] W fun e w' => e = .returned (.int .i64 0) ∧ W = w') := Lib.hid (fun W hb => great_fine vl l W 30 (by decide) (OpsAt.below hl hb) hfl)
  have HN2 : Hid (∀ W, _) := Lib.hid (fun W => new_ok W n (by omega))
  obtain ⟨al, cl, rfl, hl1, hl2, hl3⟩ := hl
  have HFl := Lib.hid hfl
  have hll : (l.length : Int) ≤ 30 := by have := hfl.1; omega
  have hn40 : (n : Int) ≤ 40 := hm2
  have HL3 := Lib.hid hl3
  have HWF := Lib.hid (And.intro hpw hmw)
  clear hfl hl3 hm1 hm2 hpw hmw
  go_enter Try.func6, Try.ntmps6
  go_wp2_with (first | (go_at_call 13; (with_reducible refine (alive_any _).mono ?_); rintro e w1 ⟨rfl, hb⟩; have HB1 := Lib.hid hb; clear hb) | (go_at_call 17; (with_reducible refine (HN2.out _).mono ?_); rintro e w2 ⟨hb2, p, b, rfl, hp, hb, hM⟩; have HB := Lib.hid (HB1.out.trans (hb2.mono HB1.out.size)); have HPB := Lib.hid (And.intro (Nat.le_trans HB1.out.size hp) (Nat.le_trans HB1.out.size hb)); have HSN := Lib.hid (sNew w2 p b n hM); clear hb2 hp hb hM) | (go_at_call 18; (with_reducible refine (HGl.out _ HB.out).mono ?_); rintro e w3 ⟨rfl, rfl⟩) | (go_at_call 15; (with_reducible refine HSN.out.mono ?_); rintro e w4 ⟨q, t, rfl, ht, hb4, hS⟩; refine Hid.out ?_))
  refine Lib.hid ?_
  have HT : Hid (w.heap.size ≤ t) := Lib.hid (Nat.le_trans HB.out.size ht)
  have HON : Hid (On1 w4 p b n q t) := Lib.hid ⟨_, _, _, hS, fun _ _ _ => rfl⟩
  have HB4 := Lib.hid (HB.out.trans (hb4.mono HB.out.size))
  clear ht hb4 hS HSN HB HB1 HGl HN2
  go_wp2
  go_loopw [17] (fun i wr => ∃ k : Nat, k ≤ l.length ∧ i = .int .i64 (k : Int) ∧ On1 wr p b n q t ∧ Below w.heap.size w wr) (fun i _ => l.length - (intOf i).toNat)
  case atStart => exact ⟨0, Nat.zero_le _, rfl, HON.out, HB4.out⟩
  case round =>
    clear HON HB4
    obtain ⟨k, hk, rfl, hon, hB⟩ := hrel
    by_cases hlt : k < l.length
    · rcases HL3.out with h0 | ⟨bl, off, rfl, hbl, h4⟩
      · exact absurd hlt (by rw [h0]; exact Nat.not_lt_zero _)
      · have hx300 := HFl.out.2 _ (List.getElem_mem hlt)
        have h4k := h4 k hlt
        clear h4
        generalize l[k] = o at *
        obtain ⟨⟨bv, c0, c1, c2, c3, c4, c5, c6, c7, c8, c9, c10, c11, c12, c13, hs⟩, hw1, hw2, hw3, hw4, hw5⟩ := h4k
        have HK : Hid (∀ W, Below w.heap.size w W → W.cell? ⟨bl, off + k * 14 + 2, none⟩ = some (.int .i64 o.page) ∧ W.cell? ⟨bl, off + k * 14 + 3, none⟩ = some (.int .i64 o.n) ∧ W.cell? ⟨bl, off + k * 14 + 4, none⟩ = some (.bool o.wb) ∧ W.cell? ⟨bl, off + k * 14 + 5, none⟩ = some (.bool o.sh) ∧ W.cell? ⟨bl, off + k * 14 + 6, none⟩ = some (.int .u32 (o.addr : Int)) ∧ W.cell? ⟨bl, off + k * 14 + 8, none⟩ = some bv) := Lib.hid (fun W hb => ⟨(hb.cell (p := ⟨bl, off + k * 14 + 2, none⟩) hbl).trans c2, (hb.cell (p := ⟨bl, off + k * 14 + 3, none⟩) hbl).trans c3, (hb.cell (p := ⟨bl, off + k * 14 + 4, none⟩) hbl).trans c4, (hb.cell (p := ⟨bl, off + k * 14 + 5, none⟩) hbl).trans c5, (hb.cell (p := ⟨bl, off + k * 14 + 6, none⟩) hbl).trans c6, (hb.cell (p := ⟨bl, off + k * 14 + 8, none⟩) hbl).trans c8⟩)
        obtain ⟨k2, k3, k4, k5, _, _⟩ := HK.out _ hB
        have HMAP := Lib.hid (zMap (N := w.heap.size) (On1.below hon ((Below.refl wr.heap.size wr).drew)) hB.size HPB.out.2 HT.out o.page o.n hw2 hw3 o.wb o.sh)
        have HWRI := Lib.hid (fun W (hon : On1 W p b n q t) (hb : Below w.heap.size w W) => zWrite (N := w.heap.size) hon hb.size HPB.out.2 HT.out o.addr hw4 bv o.xs (src_of (S := fun j => j = b ∨ j = t) hs hb (fun j hj => by rcases hj with rfl | rfl; exact HPB.out.2; exact HT.out)) hw5 hx300)
        have HBr := Lib.hid hB
        clear c0 c1 c2 c3 c4 c5 c6 c7 c8 c9 c10 c11 c12 c13 hs hw1 hw2 hw3 hw4 hw5 hx300 hon hB
        go_wp2
        go_region_held (fun W' => W'.cell? ⟨bl, off + k * 14 + 2, none⟩ = some (.int .i64 o.page) ∧ W'.cell? ⟨bl, off + k * 14 + 3, none⟩ = some (.int .i64 o.n) ∧ W'.cell? ⟨bl, off + k * 14 + 4, none⟩ = some (.bool o.wb) ∧ W'.cell? ⟨bl, off + k * 14 + 5, none⟩ = some (.bool o.sh)) (first | exact ⟨k2, k3, k4, k5⟩ | exact K5.out) (first | (go_at_call 11; (with_reducible refine HMAP.out.mono ?_); rintro e w5 ⟨⟨v, rfl⟩, hon5, hb5⟩; have HB5 := Lib.hid (HBr.out.drew.trans hb5); have K5 := Lib.hid (And.intro (HK.out _ HB5.out).1 (And.intro (HK.out _ HB5.out).2.1 (And.intro (HK.out _ HB5.out).2.2.1 (HK.out _ HB5.out).2.2.2.1))); have H5 := Lib.hid hon5; clear hon5 hb5))
        obtain ⟨_, _, _, _, k6, k8⟩ := HK.out _ HB5.out
        have HWR2 := Lib.hid (HWRI.out _ (On1.below H5.out ((Below.refl w5.heap.size w5).drew)) HB5.out.drew)
        try go_wp2
        go_region_held (fun W' => W'.cell? ⟨bl, off + k * 14 + 6, none⟩ = some (.int .u32 (o.addr : Int)) ∧ W'.cell? ⟨bl, off + k * 14 + 8, none⟩ = some bv) (first | exact ⟨k6, k8⟩ | exact K6.out) (first | (go_at_call 12; (with_reducible refine HWR2.out.mono ?_); rintro e w6 ⟨⟨v, rfl⟩, hon6, hb6⟩; have HB6 := Lib.hid (HB5.out.drew.trans hb6); have K6 := Lib.hid (HK.out _ HB6.out).2.2.2.2; have H6 := Lib.hid hon6; clear hon6 hb6))
        go_wp2
        go_roundw
        case rel => exact ⟨k + 1, by omega, by go_num, H6.out, HB6.out⟩
        case measure => simp [intOf]; omega
    · obtain rfl : k = l.length := by omega
      obtain ⟨R, B, T, hS, hz0⟩ := hon
      obtain ⟨F, hF⟩ : ∃ F, pgP B T 64 = F := ⟨_, rfl⟩
      have hFp : ∃ B T, F = pgP B T 64 := ⟨B, T, hF.symm⟩
      have hpg := sPages hS (i := 0) (by decide : 0 < 1)
      rw [show pgP B [T][0] 64 = F from hF] at hpg
      have HPG := Lib.hid hpg
      have HFs := Lib.hid (eq_pg hFp)
      have HFp := Lib.hid hFp
      have HF := Lib.hid hF
      have HS := Lib.hid hS
      have HZ := Lib.hid hz0
      have HB := Lib.hid hB
      have hz := run_zeroS
      clear hpg hFp hF hS hz0 hB
      go_wp2_with (first | (go_at_call 21; (with_reducible refine HPG.out.mono ?_); rintro e w8 ⟨rfl, hb8⟩; refine Hid.out ?_))
      refine Lib.hid ?_
      obtain ⟨W9, hst, hbk, hb9⟩ := stored w8 F HFs.out
      have hb79 := hb8.trans (hb9.mono hb8.size)
      have hs8 := hb8.size
      have hl1 := HS.out.fm.lt.2
      have hl2' := (HS.out.tm 0 (by decide : 0 < 1)).lt
      have HG : Hid (w8.heap.size ≠ b ∧ w8.heap.size ≠ t) := Lib.hid (by omega)
      have HS9 := Lib.hid (HS.out.below hb79)
      have HB9 := Lib.hid (HB.out.trans (hb79.mono HB.out.size))
      have HBK9 := Lib.hid hbk
      obtain ⟨E, hE⟩ : ∃ E, ents T 64 = E := ⟨_, rfl⟩
      have hli := list_any W9 q p t T (HS9.out.sp 0 (by decide : 0 < 1)) (HS9.out.tm 0 (by decide : 0 < 1))
      rw [hE] at hli
      have HLI := Lib.hid hli
      have HE := Lib.hid hE
      clear hb8 hb9 hb79 hs8 hl1 hl2' hbk hli hE HS HB HPG
      go_wp2_with (first | (go_at_call 25; (with_reducible refine HLI.out.mono ?_); rintro e w10 ⟨hb10, r, rfl, ho⟩; obtain ⟨ln, hln, adr, capr, rfl, hr1, hr2, hrd10⟩ := row_len ho; have HB10 := Lib.hid hb10; have HLN := Lib.hid hln; have HRD := Lib.hid hrd10; clear hrd10; have HFR := Lib.hid (free_is w10 p b n R B (HS9.out.fm.below hb10)); clear hb10 ho) | (go_at_call 23; (with_reducible refine HFR.out.mono ?_); rintro e w11 ⟨rfl, hb11⟩; have HB11 := Lib.hid (HB10.out.trans (hb11.mono HB10.out.size)); have HRD11 := Lib.hid (Rd.Rd.below HRD.out hb11); have HMA := Lib.hid (sMap (HS9.out.below HB11.out) (i := 0) (by decide : 0 < 1) page m HWF.out.1 HWF.out.2 wb sh); clear hb11) | (go_at_call 11; (with_reducible refine HMA.out.mono ?_); rintro e w12 ⟨code, R', T', rfl, hk12, hS12, hc12⟩; refine Hid.out ?_))
      refine Lib.hid ?_
      have HB11z := Lib.hid (HB9.out.trans (HB11.out.mono HB9.out.size))
      have HBK12 := Lib.hid (Blk.kept (Blk.below HBK9.out HB11.out) hk12 (fun e => e.elim HG.out.1 HG.out.2))
      have HB12 := Lib.hid (HB11z.out.trans (below_of (N := w.heap.size) hk12 HB11z.out.size (fun j hj => by rcases hj with rfl | rfl; exact HPB.out.2; exact HT.out)))
      have heq : ∀ w, (eqP (.agg F) (.agg F)).run Try.prog w = .ok (.bool true) w := fun w => by rw [← HF.out]; exact run_eqP B T w
      have heq2 : ∀ w, (eqP (.agg F) (.agg F.toList.toArray)).run Try.prog w = .ok (.bool true) w := by rw [Array.toArray_toList]; exact heq
      rcases hc12 with ⟨rfl, a, m, rfl, rfl, h1, h2, hal, hm, rfl, rfl⟩ | hno
      case inr =>
        have hrt : R' = R ∧ T' = T := by
          rcases hno with ⟨_, h1, h2⟩ | ⟨_, _, h1, h2⟩
          · exact ⟨h1, h2⟩
          · exact ⟨h1, h2⟩
        obtain ⟨rfl, rfl⟩ := hrt
        have hS12' : Sy.Sys w12 p b n R' B (fun _ => q) (fun _ => t) [T'] := hS12
        have hcode : (code = 22) ∨ (code = 12 ∧ decide ((fre n R' : Int) < m) = true) := by
          rcases hno with ⟨h, _⟩ | ⟨h, h2, _⟩
          · exact .inl h
          · exact .inr ⟨h, decide_eq_true h2⟩
        have hG0 : Below w12.heap.size w12 w12.drew := (Below.refl _ _).drew
        have hne : Nonempty (Wq fun W => Below w12.heap.size w12 W) := ⟨⟨_, hG0⟩⟩
        have hld : ∀ x : Wq fun W => Below w12.heap.size w12 W, (ldP (.pointer (some ⟨w8.heap.size, 0, none⟩))).run Try.prog x.w = .ok (.agg F) x.w := fun x => run_ldP x.w w8.heap.size F (Blk.below HBK12.out x.ok) HFs.out.1
        have HPC : Hid (∀ x : Wq fun W => Below w12.heap.size w12 W, Calls Try.prog 21 #[.pointer (some ⟨q, 0, none⟩)] x.w fun e w'' => e = .returned (.agg F) ∧ ∃ y : Wq fun W => Below w12.heap.size w12 W, w'' = y.w) := Lib.hid fun x => by
          have h := sPages (hS12'.below x.ok) (i := 0) (by decide : 0 < 1)
          rw [show pgP B [T'][0] 64 = F from HF.out] at h
          refine h.mono ?_
          rintro e w'' ⟨rfl, hb⟩
          exact ⟨rfl, ⟨w'', x.ok.trans (hb.mono x.ok.size)⟩, rfl⟩
        have HFC : Hid (∀ x : Wq fun W => Below w12.heap.size w12 W, Calls Try.prog 23 #[.pointer (some ⟨p, 0, none⟩)] x.w fun e w'' => e = .returned (.int .i64 (fre n R' : Int)) ∧ ∃ y : Wq fun W => Below w12.heap.size w12 W, w'' = y.w) := Lib.hid fun x => by
          refine (free_is x.w p b n R' B (hS12'.fm.below x.ok)).mono ?_
          rintro e w'' ⟨rfl, hb⟩
          exact ⟨rfl, ⟨w'', x.ok.trans (hb.mono x.ok.size)⟩, rfl⟩
        have HG0 := Lib.hid hG0
        clear hk12 hS12 hS12' hno hG0
        rcases hcode with rfl | ⟨rfl, hlt⟩
        · go_wp2
          refine region_class (fun W => Below w12.heap.size w12 W) (by kernel_rfl) (by kernel_rfl) HG0.out ?_
          repeat (first | go_big_quiet_skip | (go_big_quiet_want; go_big_quiet_op; first | go_big_quiet_on | (apply Exists.intro; refine ⟨fun _ => ?_, ?_⟩; (first | exact HPC.out _ | exact HFC.out _); go_big_quiet_on)))
          refine wpQuiet_nil ?_
          intro w15 ⟨x, hx⟩
          have HX := Lib.hid (show Below w12.heap.size w12 w15 from hx ▸ x.ok)
          clear hx x
          go_wp2
          go_ret
          exact ⟨rfl, HB12.out.trans (HX.out.mono HB12.out.size)⟩
        · go_wp2
          refine region_class (fun W => Below w12.heap.size w12 W) (by kernel_rfl) (by kernel_rfl) HG0.out ?_
          repeat (first | go_big_quiet_skip | (go_big_quiet_want; go_big_quiet_op; first | go_big_quiet_on | (apply Exists.intro; refine ⟨fun _ => ?_, ?_⟩; (first | exact HPC.out _ | exact HFC.out _); go_big_quiet_on)))
          refine wpQuiet_nil ?_
          intro w15 ⟨x, hx⟩
          have HX := Lib.hid (show Below w12.heap.size w12 w15 from hx ▸ x.ok)
          clear hx x
          go_wp2
          go_ret
          exact ⟨rfl, HB12.out.trans (HX.out.mono HB12.out.size)⟩
      case inl =>
        have hall : ∀ j, j < m → T (a + j) = none := fun j hj => by
          have := allI_iff.1 hal j hj
          cases hx : T (a + j) with
          | none => rfl
          | some x =>
            have hx2 : [T][0] (a + j) = some x := hx
            rw [hx2] at this
            cases this
        have HRD12 := Lib.hid (row_kept (HS9.out.below HB11.out) (i := 0) (by decide : 0 < 1) HRD11.out hk12)
        have HM := Lib.hid (show Mpd w12 p b n q t R B T a m wb sh from ⟨h1, h2, HS9.out.inv, HZ.out, hall, hm, hS12⟩)
        have HALL := Lib.hid hall
        obtain ⟨c, hc1, hc2, hdi⟩ := HM.out.dirty
        have HDI := Lib.hid hdi
        have hfr : (fre n R : Int) ≤ 40 := by have : fre n R ≤ n := Nat.sub_le _ _; omega
        have hfm : (m : Int) ≤ (fre n R : Int) := by omega
        have hdc : decide ((m : Int) ≤ (c : Int)) = true := decide_eq_true (by omega)
        have hamp : ∀ j, j < 64 → F[j]? = some (.string (pgS B T j)) := fun j hj => by rw [← HF.out, pgP_at B T 64 j hj, if_pos hj]
        have HAMP := Lib.hid hamp
        have ham : (a : Int) + (m : Int) ≤ 64 := by omega
        have HHM := Lib.hid (And.intro h1 (And.intro h2 hm))
        clear hk12 hS12 hal hall hdi hamp HS9 HRD11 HRD HBK9 HB11z HLI HFR HMA h1 h2 hm heq2
        go_wp2_with (first | (go_at_call 16; (with_reducible refine HDI.out.mono ?_); rintro e w13 ⟨ad, dcap, rfl, hb13⟩; have HM13 := Lib.hid (HM.out.below hb13); have HB13 := Lib.hid (HB12.out.trans (hb13.mono HB12.out.size)); have HBK13 := Lib.hid (Blk.below HBK12.out hb13); have HRD13 := Lib.hid (Rd.Rd.below HRD12.out hb13); clear hb13))
        go_loopw [23] (fun i wr => ∃ pg : Nat, a ≤ pg ∧ pg ≤ a + m ∧ i = .int .i64 (pg : Int) ∧ Mpd wr p b n q t R B T a m wb sh ∧ Blk wr w8.heap.size F 52 ∧ Rd.Rd wr 62 (.slice adr ln capr) 6 ln (Tl.mcells E) ∧ Below w.heap.size w wr) (fun i _ => a + m - (intOf i).toNat)
        case atStart => exact ⟨a, Nat.le_refl _, Nat.le_add_right _ _, rfl, HM13.out, HBK13.out, HRD13.out, HB13.out⟩
        case round =>
          obtain ⟨pg, hp1, hp2, rfl, hmp, hbk, hrd, hB⟩ := hrel
          by_cases hlt : pg < a + m
          · have hpa := hmp.page (j := pg - a) (by omega)
            have hfra := fun W (hb : Below wr.heap.size wr W) => (hmp.below hb).frame (j := pg - a) (by omega)
            rw [show a + (pg - a) = pg by omega] at hpa
            rw [show a + (pg - a) = pg by omega, show ((pg * 64 : Nat) : Int) = (pg : Int) * 64 by omega] at hfra
            have HPA := Lib.hid hpa
            have HFRA := Lib.hid hfra
            have HMP := Lib.hid hmp
            have HBK := Lib.hid hbk
            have HRDr := Lib.hid hrd
            have HBr := Lib.hid hB
            have hlt2 : (pg : Int) < (a : Int) + (m : Int) := by omega
            have hltw : (pg : Int) < 64 := by omega
            have hltn : pg < 64 := by omega
            have hemp : F[pg]? = some (.string ⟨#[]⟩) := by
              rw [HAMP.out pg hltn]
              unfold pgS
              have := HALL.out (pg - a) (by omega)
              rw [show a + (pg - a) = pg by omega] at this
              rw [this]
              rfl
            have HEMP := Lib.hid hemp
            clear hmp hbk hrd hB HM HM13 HDI HRD12 HRD13 HBK12 HBK13 HB12 HB13 hpa hfra hemp
            go_wp2_with (first | (go_at_call 22; (with_reducible refine HPA.out.mono ?_); rintro e w14 ⟨g, off, pcap, rfl, hpc1, hpc2, hb14, hcell⟩; have HC14 := Lib.hid hcell; have HB14 := Lib.hid hb14; clear hcell hb14))
            go_loopw [25] (fun i wr => ∃ k : Nat, k ≤ 64 ∧ i = .int .i64 (k : Int) ∧ wr = w14) (fun i _ => 64 - (intOf i).toNat)
            case atStart => exact ⟨0, Nat.zero_le _, rfl, rfl⟩
            case round =>
              obtain ⟨k, hk, rfl, rfl⟩ := hrel
              by_cases hk64 : k < 64
              · have hc := HC14.out k hk64
                have hk2 : (k : Int) < 64 := by omega
                go_wp2
                go_roundw
                case rel => exact ⟨k + 1, by omega, by go_num, by first | rfl | trivial⟩
                case measure => simp [intOf]; omega
              · obtain rfl : k = 64 := by omega
                have HFR14 := Lib.hid (HFRA.out _ HB14.out)
                have hcl := (Blk.cell (Blk.below HBK.out HB14.out) pg).trans HEMP.out
                have HM14 := Lib.hid (HMP.out.below HB14.out)
                go_wp2_with (first | (go_at_call 10; (with_reducible refine HFR14.out.mono ?_); rintro e w15 ⟨⟨fk, rfl⟩, hb15⟩; have hcl2 := (Blk.cell (Blk.below (Blk.below HBK.out HB14.out) hb15) pg).trans HEMP.out; have HB15 := Lib.hid (HB14.out.trans (hb15.mono HB14.out.size)); clear hb15))
                go_wp2
                go_roundw
                case rel => exact ⟨pg + 1, by omega, by omega, by go_num, HMP.out.below HB15.out, Blk.below HBK.out HB15.out, Rd.Rd.below HRDr.out HB15.out, HBr.out.trans (HB15.out.mono HBr.out.size)⟩
                case measure => simp [intOf]; omega
          · obtain rfl : pg = a + m := by omega
            have HMP := Lib.hid hmp
            have HBK := Lib.hid hbk
            have HRDr := Lib.hid hrd
            have HBr := Lib.hid hB
            clear hmp hbk hrd hB HM HM13 HDI HRD12 HRD13 HBK12 HBK13 HB12 HB13
            go_wp2_with (first | (go_at_call 23; (with_reducible refine HMP.out.free.mono ?_); rintro e w16 ⟨rfl, hb16⟩; have HB16 := Lib.hid hb16; have HUN := Lib.hid (HMP.out.below hb16).unmap; clear hb16) | (go_at_call 9; first | ((with_reducible refine HUT.out.mono ?_); rintro e w18 ⟨rfl, hb18⟩; refine Hid.out ?_) | ((with_reducible refine HUN.out.mono ?_); rintro e w17 ⟨rfl, hk17, B', hS17, hpg17⟩; have HK17 := Lib.hid hk17; have HS17 := Lib.hid hS17; have HP17 := Lib.hid hpg17; have HUT := Lib.hid (unmap_twice hS17 HHM.out.1 HHM.out.2.1 HALL.out); clear hk17 hS17 hpg17)))
            refine Lib.hid ?_
            have HBK18 := Lib.hid (Blk.below (Blk.kept (Blk.below HBK.out HB16.out) HK17.out (fun e => e.elim HG.out.1 HG.out.2)) hb18)
            have HRD18 := Lib.hid (Rd.Rd.below (row_kept (HMP.out.hS.below HB16.out) (i := 0) (by decide : 0 < 1) (Rd.Rd.below HRDr.out HB16.out) HK17.out) hb18)
            have hb16 := HBr.out.trans (HB16.out.mono HBr.out.size)
            have hb17 := hb16.trans (below_of (N := w.heap.size) HK17.out hb16.size (fun j hj => by rcases hj with rfl | rfl; exact HPB.out.2; exact HT.out))
            have HB18 := Lib.hid (hb17.trans (hb18.mono hb17.size))
            have HS18 := Lib.hid (HS17.out.below hb18)
            have hli2 := list_any w18 q p t T (HS18.out.sp 0 (by decide : 0 < 1)) (HS18.out.tm 0 (by decide : 0 < 1))
            rw [HE.out] at hli2
            have HL2 := Lib.hid hli2
            have HPP := Lib.hid (HP17.out.trans HF.out)
            clear hb16 hb17 hb18 hli2 HBK HRDr HMP HBr HB16 HUN HUT HK17 HP17 HS17
            go_wp2_with (first | (go_at_call 25; (with_reducible refine HL2.out.mono ?_); rintro e w19 ⟨hb19, r2, rfl, ho19⟩; refine Hid.out ?_))
            refine Lib.hid ?_
            obtain ⟨ln2, hln2, ad2, cap2, rfl, hs1, hs2, hrd19⟩ := row_len ho19
            obtain rfl : ln2 = ln := hln2.symm.trans HLN.out
            have HR2 := Lib.hid hrd19
            have HRD19 := Lib.hid (Rd.Rd.below HRD18.out hb19)
            have HBK19 := Lib.hid (Blk.below HBK18.out hb19)
            have HB19 := Lib.hid (HB18.out.trans (hb19.mono HB18.out.size))
            have HS19 := Lib.hid (HS18.out.below hb19)
            have hlni : (ln2 : Int) ≤ 64 := by
              have h1 := HLN.out
              have h2 : E.length ≤ 64 := by rw [← HE.out]; exact ents_len T 64
              omega
            clear hb19 ho19 hrd19 hln2 HBK18 HRD18 HB18 HS18 HL2
            go_wp2
            go_loopw [29] (fun i wr => ∃ k : Nat, k ≤ ln2 ∧ i = .int .i64 (k : Int) ∧ Below w19.heap.size w19 wr) (fun i _ => ln2 - (intOf i).toNat)
            case atStart => exact ⟨0, Nat.zero_le _, rfl, Below.refl _ _⟩
            case round =>
              obtain ⟨k, hk, rfl, hbr⟩ := hrel
              by_cases hlt : k < ln2
              · have hlt2 : k < E.length := by rw [HLN.out]; exact hlt
                obtain ⟨⟨pq, en⟩, hq⟩ : ∃ x, E[k] = x := ⟨_, rfl⟩
                have hra := Rd.Rd.below HRD19.out hbr
                have hrb := Rd.Rd.below HR2.out hbr
                rw [← HLN.out] at hra hrb
                obtain ⟨ga, ca, hea, hca, hca2, a0, a1, a2, a3, a4, a5⟩ := Rd.Rd.at_ hra hlt2 hq
                obtain ⟨gb, cb, heb, hcb, hcb2, b0, b1, b2, b3, b4, b5⟩ := Rd.Rd.at_ hrb hlt2 hq
                rw [HLN.out] at hea heb
                cases hea
                cases heb
                obtain ⟨ef, ew, es, ec, ed⟩ := en
                dsimp only at a1 a2 a3 a4 a5 b1 b2 b3 b4 b5
                have hlti : (k : Int) < (ln2 : Int) := by omega
                have HBr := Lib.hid hbr
                clear hq hra hrb hca hcb hca2 hcb2 hbr hlt2
                go_wp2
                go_quiet (fail)
                have HBQ := Lib.hid (HBr.out.trans ((bel_drewN (Below.refl _ wr) nq).mono HBr.out.size))
                go_wp2
                go_roundw
                case rel => exact ⟨k + 1, by omega, by go_num, HBQ.out⟩
                case measure => simp [intOf]; omega
              · obtain rfl : k = ln2 := by omega
                have hG0 : Below w19.heap.size w19 wr.drew := hbr.drew
                have hne : Nonempty (Wq fun W => Below w19.heap.size w19 W) := ⟨⟨_, hG0⟩⟩
                have hld : ∀ x : Wq fun W => Below w19.heap.size w19 W, (ldP (.pointer (some ⟨w8.heap.size, 0, none⟩))).run Try.prog x.w = .ok (.agg F) x.w := fun x => run_ldP x.w w8.heap.size F (Blk.below HBK19.out x.ok) HFs.out.1
                have HPC : Hid (∀ x : Wq fun W => Below w19.heap.size w19 W, Calls Try.prog 21 #[.pointer (some ⟨q, 0, none⟩)] x.w fun e w'' => e = .returned (.agg F) ∧ ∃ y : Wq fun W => Below w19.heap.size w19 W, w'' = y.w) := Lib.hid fun x => by
                  have h := sPages (HS19.out.below x.ok) (i := 0) (by decide : 0 < 1)
                  rw [show pgP B' [T][0] 64 = F from HPP.out] at h
                  refine h.mono ?_
                  rintro e w'' ⟨rfl, hb⟩
                  exact ⟨rfl, ⟨w'', x.ok.trans (hb.mono x.ok.size)⟩, rfl⟩
                have HFC : Hid (∀ x : Wq fun W => Below w19.heap.size w19 W, Calls Try.prog 23 #[.pointer (some ⟨p, 0, none⟩)] x.w fun e w'' => e = .returned (.int .i64 (fre n R : Int)) ∧ ∃ y : Wq fun W => Below w19.heap.size w19 W, w'' = y.w) := Lib.hid fun x => by
                  refine (free_is x.w p b n R B' (HS19.out.fm.below x.ok)).mono ?_
                  rintro e w'' ⟨rfl, hb⟩
                  exact ⟨rfl, ⟨w'', x.ok.trans (hb.mono x.ok.size)⟩, rfl⟩
                have HG0 := Lib.hid hG0
                clear hG0 hbr
                go_wp2
                refine region_class (fun W => Below w19.heap.size w19 W) (by kernel_rfl) (by kernel_rfl) HG0.out ?_
                repeat (first | go_big_quiet_skip | (go_big_quiet_want; go_big_quiet_op; first | go_big_quiet_on | (apply Exists.intro; refine ⟨fun _ => ?_, ?_⟩; (first | exact HPC.out _ | exact HFC.out _); go_big_quiet_on)))
                refine wpQuiet_nil ?_
                intro w20 ⟨x, hx⟩
                have HX := Lib.hid (show Below w19.heap.size w19 w20 from hx ▸ x.ok)
                clear hx x
                go_wp2
                go_ret
                exact ⟨rfl, HB19.out.trans (HX.out.mono HB19.out.size)⟩
end Go.Proofs.Ytclpokkjbkbkgaa.Mx
namespace Go.Proofs.Ytclpokkjbkbkgaa.Walk
open Go Go.RowKit
theorem spaceMaps (many : Int) (vl : Value) (l : List Oq.Opr) (page m : Int) (wb sh : Bool) (W : World) (_ : (Lit.int .i64 many).wf = true) (hl : Oq.OpsAt W vl l) (hp : (Lit.int .i64 page).wf = true) (hm : (Lit.int .i64 m).wf = true) :
    Calls Try.prog 6 #[.int .i64 many, vl, .int .i64 page, .int .i64 m, .bool wb, .bool sh] W fun e W' => e = .returned (.bool true) ∧ Below W.heap.size W W' :=
  Mx.maps_law vl l many page m wb sh W hl hp hm
end Go.Proofs.Ytclpokkjbkbkgaa.Walk
