/-
  CoreSums' walk.
-/
import Derived.Test.YtgnpbedhpkmkfaaDoorZRx
import Derived.Test.YtgnpbedhpkmkfaaDoorZLu
import Derived.Deep.DeepCutAuto
namespace Go.Proofs.YtgnpbedhpkmkfaaDoor.Walk
open Go Go.RowKit Kit Bk CoM CoR CoB CoC CoW CoI CoE CoY Bytes3 IsaM IsaT IsaU IsaV Sm Ru Rw Ar Av Su Lu Rx
open IsaP (Ml)
open Al (mki alive_any)
set_option linter.unusedVariables false
attribute [local go_sem ↓] ldc_wrap stc_wrap

set_option maxRecDepth 100000 in
set_option maxHeartbeats 8000000 in
theorem coreSums (a b : Int) (w : World) (ha : (Lit.int .u32 a).wf = true) (hb : (Lit.int .u32 b).wf = true) (hT : Tabs w) (hP : Pow w) (hM : Ml w) :
    Calls Tryd.prog 7 #[.int .u32 a, .int .u32 b] w fun e w' => e = .returned (.bool true) ∧ Below w.heap.size w w' := by
  have hA : 0 ≤ a ∧ a ≤ 4294967295 := by simpa [Lit.wf, IntKind.min, IntKind.max, IntKind.signed, IntKind.bits] using ha
  have hB : 0 ≤ b ∧ b ≤ 4294967295 := by simpa [Lit.wf, IntKind.min, IntKind.max, IntKind.signed, IntKind.bits] using hb
  have HA : Hid (0 ≤ a ∧ a < 4294967296) := Lib.hid ⟨hA.1, by omega⟩
  have HB : Hid (0 ≤ b ∧ b < 4294967296) := Lib.hid ⟨hB.1, by omega⟩
  clear ha hb hA hB
  have HZ : Hid (zab a b).Ok := Lib.hid (zab_ok a b HA.out HB.out)
  have hmi := mki
  have HAl := Lib.hid (alive_any w hT hM)
  have HT := Lib.hid hT
  have HM := Lib.hid hM
  have HPw := Lib.hid hP
  have HRam := Lib.hid (fun (t : ByteArray) (ht : t.size ≤ 100000) (ws : List Nat) (ha : asm t.data.toList = .inr ws) wx (hb : Below w.heap.size w wx) => ram_any t ht ws ha wx (hT.below hb) (hM.below hb))
  clear hT hM hP
  go_enter Tryd.func7, Tryd.ntmps7
  go_wp2_with (first | (go_at_call 21; (with_reducible refine HAl.out.mono ?_); rintro e w1 ⟨rfl, hb1⟩; refine Hid.out ?_))
  refine Lib.hid ?_
  have HD1 := Lib.hid hb1
  clear hb1
  have Q1 := Blk.new w1 zcs 30
  have h1 := run_stC (E := #[.int .u32 0, .int .u32 a, .int .u32 b, .int .u32 0, .int .u32 0, .int .u32 0, .int .u32 0, .int .u32 0, .complex .f64 0 0, .complex .f64 0 0, .int .u32 0]) Q1 rfl rfl (cs_one (zab a b))
  have Q2 := CoC.Blk.setAll Q1 (ds := #[.int .u32 0, .int .u32 a, .int .u32 b, .int .u32 0, .int .u32 0, .int .u32 0, .int .u32 0, .int .u32 0, .complex .f64 0 0, .complex .f64 0 0, .int .u32 0]) rfl
  have bc := below_all w1.heap.size (Nat.le_refl _) (#[.int .u32 0, .int .u32 a, .int .u32 b, .int .u32 0, .int .u32 0, .int .u32 0, .int .u32 0, .int .u32 0, .complex .f64 0 0, .complex .f64 0 0, .int .u32 0]).toList 0 ((Below.refl w1.heap.size w1).alloc (Nat.le_refl _) (.cells zcs 30))
  obtain ⟨w2, hw⟩ : ∃ w3, World.setCells (w1.alloc (.cells zcs 30)) w1.heap.size 0 (#[.int .u32 0, .int .u32 a, .int .u32 b, .int .u32 0, .int .u32 0, .int .u32 0, .int .u32 0, .int .u32 0, .complex .f64 0 0, .complex .f64 0 0, .int .u32 0]).toList = w3 := ⟨_, rfl⟩
  rw [hw] at h1 Q2 bc
  have HD2 := Lib.hid (HD1.out.trans (bc.mono HD1.out.size))
  have HC2 := Lib.hid Q2
  clear Q1 Q2 hw bc HAl
  go_wp2
  clear h1
  obtain ⟨X3, b3, hE, hX⟩ := sum1 a b HA.out HB.out
  have HE3 := Lib.hid hE
  have HX3 := Lib.hid hX
  clear hE hX
  have HSt3 := Lib.hid (fun wx (hb : Below w2.heap.size w2 wx) => (show (ldC (.pointer (some ⟨w1.heap.size, 0, none⟩))).run Tryd.prog wx = .ok (.agg #[.int .u32 0, .int .u32 a, .int .u32 b, .int .u32 0, .int .u32 0, .int .u32 0, .int .u32 0, .int .u32 0, .complex .f64 0 0, .complex .f64 0 0, .int .u32 0]) wx from run_ldC (HC2.out.below hb) rfl))
  have B30 := Lib.hid (Below.refl w2.heap.size w2).drew
  have B31 := Lib.hid ((Below.refl w2.heap.size w2).alloc (Nat.le_refl _) (.cells zcs 30)).drew
  have HDd3 := Lib.hid HD2.out.drew
  have HDa3 := Lib.hid (HD2.out.alloc HD2.out.size (.cells zcs 30)).drew
  have HU3 := Lib.hid (fun M B ad cap wx wy (hu : Below w.heap.size w wx) (hr : RamR wx (allB [68288512, 85065728]) M B ad cap wy) => (show Calls Tryd.prog 15 #[.agg #[.int .u32 0, .int .u32 a, .int .u32 b, .int .u32 0, .int .u32 0, .int .u32 0, .int .u32 0, .int .u32 0, .complex .f64 0 0, .complex .f64 0 0, .int .u32 0], mv M, .int .i64 2] wy fun e w' => e = .returned (.tuple #[.agg (cs X3), .int .i64 2, .int .i64 0]) ∧ Wrote wy B ad cap b3 w' ∧ Below wx.heap.size wx w' from run_to HT.out hu hr (zab a b) HZ.out 2 (by decide) HE3.out))
  go_cut [7, 8, 9] (fun s7 s8 s9 wx => ∃ g : Nat, s7 = .pointer (some ⟨g, 0, none⟩) ∧ s8 = .int .i64 2 ∧ s9 = .int .i64 0 ∧ Blk wx g (cs X3) 30 ∧ Below w2.heap.size w2 wx)
  case first =>
    go_region_held (fun wx => (ldC (.pointer (some ⟨w1.heap.size, 0, none⟩))).run Tryd.prog wx = .ok (.agg #[.int .u32 0, .int .u32 a, .int .u32 b, .int .u32 0, .int .u32 0, .int .u32 0, .int .u32 0, .int .u32 0, .complex .f64 0 0, .complex .f64 0 0, .int .u32 0]) wx) ((refine HSt3.out _ ?_; first | exact Bd.out | exact Bb.out | exact Bb.out.alloc Bb.out.size _ | exact Ba.out | exact Ba.out.alloc Ba.out.size _ | exact B30.out | exact B31.out)) (first | (go_at_call 20; (first | (with_reducible refine (HRam.out _ (by decide) _ s1 _ HDd3.out).mono ?_) | (with_reducible refine (HRam.out _ (by decide) _ s1 _ HDa3.out).mono ?_)); rintro e wa ⟨M, Bx, ad, cap, rfl, hr⟩; have Ba : Hid (Below w2.heap.size w2 wa) := Lib.hid (by first | exact B30.out.trans (hr.bel.mono B30.out.size) | exact B31.out.trans (hr.bel.mono B31.out.size)); have HR := Lib.hid hr; have HR2 := Lib.hid (Av.RamR.below hr ((Below.refl wa.heap.size wa).alloc (Nat.le_refl _) (.cells zcs 30))); clear hr) | (go_at_call 15; (first | (with_reducible refine (HU3.out _ _ _ _ _ _ HDd3.out HR.out).mono ?_) | (with_reducible refine (HU3.out _ _ _ _ _ _ HDa3.out HR.out).mono ?_) | (with_reducible refine (HU3.out _ _ _ _ _ _ HDd3.out HR2.out).mono ?_)); rintro e wb ⟨rfl, hw, hb⟩; (first | (have qq := aft_C (W := w2) (w1 := wa) (w2 := wb) (b' := b3) HR.out hw X3) | (have qq := aft_A (W := w2) (w1 := wa) (w2 := wb) (b' := b3) HR.out hw X3) | (have qq := aft_B (W := w2) (w1 := wa) (w2 := wb) (b' := b3) HR.out hw X3)); obtain ⟨⟨wn, h1, hk, hn⟩, hb'⟩ := qq; have Bb := Lib.hid hb'; have Bd := Lib.hid hn; have HK := Lib.hid hk; clear hw hb hk hn hb'))
    all_goals go_wp2_with fail
    all_goals go_meet
    all_goals exact ⟨_, rfl, rfl, rfl, HK.out, Bd.out⟩
  case rest =>
  obtain ⟨g3, rfl, rfl, rfl, hk, hbn⟩ := hcut
  have HP3 := Lib.hid hk
  have HD3 := Lib.hid (HD2.out.trans (hbn.mono HD2.out.size))
  have HC3 := Lib.hid (HC2.out.below hbn)
  obtain ⟨w3, hwc⟩ : ∃ u, u = wc := ⟨_, rfl⟩
  subst hwc
  clear hk hbn HU3 HSt3 HDd3 HDa3 HE3 B30 B31
  go_wp2
  obtain ⟨X4, b4, hE, hX⟩ := sum2 a b HA.out HB.out
  have HE4 := Lib.hid hE
  have HX4 := Lib.hid hX
  clear hE hX
  have HSt4 := Lib.hid (fun wx (hb : Below w3.heap.size w3 wx) => (show (ldC (.pointer (some ⟨w1.heap.size, 0, none⟩))).run Tryd.prog wx = .ok (.agg #[.int .u32 0, .int .u32 a, .int .u32 b, .int .u32 0, .int .u32 0, .int .u32 0, .int .u32 0, .int .u32 0, .complex .f64 0 0, .complex .f64 0 0, .int .u32 0]) wx from run_ldC (HC3.out.below hb) rfl))
  have B40 := Lib.hid (Below.refl w3.heap.size w3).drew
  have B41 := Lib.hid ((Below.refl w3.heap.size w3).alloc (Nat.le_refl _) (.cells zcs 30)).drew
  have HDd4 := Lib.hid HD3.out.drew
  have HDa4 := Lib.hid (HD3.out.alloc HD3.out.size (.cells zcs 30)).drew
  have HU4 := Lib.hid (fun M B ad cap wx wy (hu : Below w.heap.size w wx) (hr : RamR wx (allB [152174592, 152174592]) M B ad cap wy) => (show Calls Tryd.prog 15 #[.agg #[.int .u32 0, .int .u32 a, .int .u32 b, .int .u32 0, .int .u32 0, .int .u32 0, .int .u32 0, .int .u32 0, .complex .f64 0 0, .complex .f64 0 0, .int .u32 0], mv M, .int .i64 2] wy fun e w' => e = .returned (.tuple #[.agg (cs X4), .int .i64 2, .int .i64 0]) ∧ Wrote wy B ad cap b4 w' ∧ Below wx.heap.size wx w' from run_to HT.out hu hr (zab a b) HZ.out 2 (by decide) HE4.out))
  go_cut [10, 11, 12] (fun s7 s8 s9 wx => ∃ g : Nat, s7 = .pointer (some ⟨g, 0, none⟩) ∧ s8 = .int .i64 2 ∧ s9 = .int .i64 0 ∧ Blk wx g (cs X4) 30 ∧ Below w3.heap.size w3 wx)
  case first =>
    go_region_held (fun wx => (ldC (.pointer (some ⟨w1.heap.size, 0, none⟩))).run Tryd.prog wx = .ok (.agg #[.int .u32 0, .int .u32 a, .int .u32 b, .int .u32 0, .int .u32 0, .int .u32 0, .int .u32 0, .int .u32 0, .complex .f64 0 0, .complex .f64 0 0, .int .u32 0]) wx) ((refine HSt4.out _ ?_; first | exact Bd.out | exact Bb.out | exact Bb.out.alloc Bb.out.size _ | exact Ba.out | exact Ba.out.alloc Ba.out.size _ | exact B40.out | exact B41.out)) (first | (go_at_call 20; (first | (with_reducible refine (HRam.out _ (by decide) _ s2 _ HDd4.out).mono ?_) | (with_reducible refine (HRam.out _ (by decide) _ s2 _ HDa4.out).mono ?_)); rintro e wa ⟨M, Bx, ad, cap, rfl, hr⟩; have Ba : Hid (Below w3.heap.size w3 wa) := Lib.hid (by first | exact B40.out.trans (hr.bel.mono B40.out.size) | exact B41.out.trans (hr.bel.mono B41.out.size)); have HR := Lib.hid hr; have HR2 := Lib.hid (Av.RamR.below hr ((Below.refl wa.heap.size wa).alloc (Nat.le_refl _) (.cells zcs 30))); clear hr) | (go_at_call 15; (first | (with_reducible refine (HU4.out _ _ _ _ _ _ HDd4.out HR.out).mono ?_) | (with_reducible refine (HU4.out _ _ _ _ _ _ HDa4.out HR.out).mono ?_) | (with_reducible refine (HU4.out _ _ _ _ _ _ HDd4.out HR2.out).mono ?_)); rintro e wb ⟨rfl, hw, hb⟩; (first | (have qq := aft_C (W := w3) (w1 := wa) (w2 := wb) (b' := b4) HR.out hw X4) | (have qq := aft_A (W := w3) (w1 := wa) (w2 := wb) (b' := b4) HR.out hw X4) | (have qq := aft_B (W := w3) (w1 := wa) (w2 := wb) (b' := b4) HR.out hw X4)); obtain ⟨⟨wn, h1, hk, hn⟩, hb'⟩ := qq; have Bb := Lib.hid hb'; have Bd := Lib.hid hn; have HK := Lib.hid hk; clear hw hb hk hn hb'))
    all_goals go_wp2_with fail
    all_goals go_meet
    all_goals exact ⟨_, rfl, rfl, rfl, HK.out, Bd.out⟩
  case rest =>
  obtain ⟨g4, rfl, rfl, rfl, hk, hbn⟩ := hcut
  have HP4 := Lib.hid hk
  have HD4 := Lib.hid (HD3.out.trans (hbn.mono HD3.out.size))
  have HC4 := Lib.hid (HC3.out.below hbn)
  have HP3 := Lib.hid (HP3.out.below hbn)
  obtain ⟨w4, hwc⟩ : ∃ u, u = wc := ⟨_, rfl⟩
  subst hwc
  clear hk hbn HU4 HSt4 HDd4 HDa4 HE4 B40 B41
  go_wp2
  obtain ⟨X5, b5, hE, hX⟩ := sum3 a b HA.out HB.out
  have HE5 := Lib.hid hE
  have HX5 := Lib.hid hX
  clear hE hX
  have HSt5 := Lib.hid (fun wx (hb : Below w4.heap.size w4 wx) => (show (ldC (.pointer (some ⟨w1.heap.size, 0, none⟩))).run Tryd.prog wx = .ok (.agg #[.int .u32 0, .int .u32 a, .int .u32 b, .int .u32 0, .int .u32 0, .int .u32 0, .int .u32 0, .int .u32 0, .complex .f64 0 0, .complex .f64 0 0, .int .u32 0]) wx from run_ldC (HC4.out.below hb) rfl))
  have B50 := Lib.hid (Below.refl w4.heap.size w4).drew
  have B51 := Lib.hid ((Below.refl w4.heap.size w4).alloc (Nat.le_refl _) (.cells zcs 30)).drew
  have HDd5 := Lib.hid HD4.out.drew
  have HDa5 := Lib.hid (HD4.out.alloc HD4.out.size (.cells zcs 30)).drew
  have HU5 := Lib.hid (fun M B ad cap wx wy (hu : Below w.heap.size w wx) (hr : RamR wx (allB [53542912, 120717312, 54591488, 138543104, 70516736]) M B ad cap wy) => (show Calls Tryd.prog 15 #[.agg #[.int .u32 0, .int .u32 a, .int .u32 b, .int .u32 0, .int .u32 0, .int .u32 0, .int .u32 0, .int .u32 0, .complex .f64 0 0, .complex .f64 0 0, .int .u32 0], mv M, .int .i64 5] wy fun e w' => e = .returned (.tuple #[.agg (cs X5), .int .i64 5, .int .i64 0]) ∧ Wrote wy B ad cap b5 w' ∧ Below wx.heap.size wx w' from run_to HT.out hu hr (zab a b) HZ.out 5 (by decide) HE5.out))
  go_cut [13, 14, 15] (fun s7 s8 s9 wx => ∃ g : Nat, s7 = .pointer (some ⟨g, 0, none⟩) ∧ s8 = .int .i64 5 ∧ s9 = .int .i64 0 ∧ Blk wx g (cs X5) 30 ∧ Below w4.heap.size w4 wx)
  case first =>
    go_region_held (fun wx => (ldC (.pointer (some ⟨w1.heap.size, 0, none⟩))).run Tryd.prog wx = .ok (.agg #[.int .u32 0, .int .u32 a, .int .u32 b, .int .u32 0, .int .u32 0, .int .u32 0, .int .u32 0, .int .u32 0, .complex .f64 0 0, .complex .f64 0 0, .int .u32 0]) wx) ((refine HSt5.out _ ?_; first | exact Bd.out | exact Bb.out | exact Bb.out.alloc Bb.out.size _ | exact Ba.out | exact Ba.out.alloc Ba.out.size _ | exact B50.out | exact B51.out)) (first | (go_at_call 20; (first | (with_reducible refine (HRam.out _ (by decide) _ s3 _ HDd5.out).mono ?_) | (with_reducible refine (HRam.out _ (by decide) _ s3 _ HDa5.out).mono ?_)); rintro e wa ⟨M, Bx, ad, cap, rfl, hr⟩; have Ba : Hid (Below w4.heap.size w4 wa) := Lib.hid (by first | exact B50.out.trans (hr.bel.mono B50.out.size) | exact B51.out.trans (hr.bel.mono B51.out.size)); have HR := Lib.hid hr; have HR2 := Lib.hid (Av.RamR.below hr ((Below.refl wa.heap.size wa).alloc (Nat.le_refl _) (.cells zcs 30))); clear hr) | (go_at_call 15; (first | (with_reducible refine (HU5.out _ _ _ _ _ _ HDd5.out HR.out).mono ?_) | (with_reducible refine (HU5.out _ _ _ _ _ _ HDa5.out HR.out).mono ?_) | (with_reducible refine (HU5.out _ _ _ _ _ _ HDd5.out HR2.out).mono ?_)); rintro e wb ⟨rfl, hw, hb⟩; (first | (have qq := aft_C (W := w4) (w1 := wa) (w2 := wb) (b' := b5) HR.out hw X5) | (have qq := aft_A (W := w4) (w1 := wa) (w2 := wb) (b' := b5) HR.out hw X5) | (have qq := aft_B (W := w4) (w1 := wa) (w2 := wb) (b' := b5) HR.out hw X5)); obtain ⟨⟨wn, h1, hk, hn⟩, hb'⟩ := qq; have Bb := Lib.hid hb'; have Bd := Lib.hid hn; have HK := Lib.hid hk; clear hw hb hk hn hb'))
    all_goals go_wp2_with fail
    all_goals go_meet
    all_goals exact ⟨_, rfl, rfl, rfl, HK.out, Bd.out⟩
  case rest =>
  obtain ⟨g5, rfl, rfl, rfl, hk, hbn⟩ := hcut
  have HP5 := Lib.hid hk
  have HD5 := Lib.hid (HD4.out.trans (hbn.mono HD4.out.size))
  have HC5 := Lib.hid (HC4.out.below hbn)
  have HP3 := Lib.hid (HP3.out.below hbn)
  have HP4 := Lib.hid (HP4.out.below hbn)
  obtain ⟨w5, hwc⟩ : ∃ u, u = wc := ⟨_, rfl⟩
  subst hwc
  clear hk hbn HU5 HSt5 HDd5 HDa5 HE5 B50 B51
  obtain ⟨hi1, hi2⟩ := w16 a
  obtain ⟨hj1, hj2⟩ := w16 (a / 65536)
  obtain ⟨L1, hL1⟩ : ∃ L, line 1 5 0 (wrap64 (IntKind.i16.wrap a)) = L := ⟨_, rfl⟩
  obtain ⟨L2, hL2⟩ : ∃ L, line 2 5 0 (wrap64 (IntKind.i16.wrap (a / 65536))) = L := ⟨_, rfl⟩
  have HLa : Hid (∀ wx, Below w.heap.size w wx → Calls Tryd.prog 22 #[.agg #[.int .i64 1, .int .i64 5, .int .i64 0, .int .i64 (wrap64 (IntKind.i16.wrap a))]] wx fun e w' => e = .returned (.tuple #[.string (IsaN.st L1), .int .i64 0]) ∧ Below wx.heap.size wx w') := Lib.hid (fun wx hb => by
    have := IsaN.line_in 1 5 0 _ (may1 hi1) wx (HT.out.below hb) (IsaT.Pow.below HPw.out hb)
    rw [hL1] at this
    exact this)
  have HLb : Hid (∀ wx, Below w.heap.size w wx → Calls Tryd.prog 22 #[.agg #[.int .i64 2, .int .i64 5, .int .i64 0, .int .i64 (wrap64 (IntKind.i16.wrap (a / 65536)))]] wx fun e w' => e = .returned (.tuple #[.string (IsaN.st L2), .int .i64 0]) ∧ Below wx.heap.size wx w') := Lib.hid (fun wx hb => by
    have := IsaN.line_in 2 5 0 _ (may2 hj1) wx (HT.out.below hb) (IsaT.Pow.below HPw.out hb)
    rw [hL2] at this
    exact this)
  have HAS : Hid (asm (tx L1 L2).data.toList = .inr (ww (wrap64 (IntKind.i16.wrap a)) (wrap64 (IntKind.i16.wrap (a / 65536))))) := Lib.hid (by rw [tx_list, ← hL1, ← hL2]; exact asm_ww hi1 hj1)
  have HSZ : Hid ((tx L1 L2).size ≤ 100000) := Lib.hid (by
    have l1 := ln_len (k := 1) (by decide) 5 0 _ (by decide) (by decide) hi1
    have l2 := ln_len (k := 2) (by decide) 5 0 _ (by decide) (by decide) hj1
    rw [tx_size, ← hL1, ← hL2]
    omega)
  have HS5 := Lib.hid (sum5 a b _ _ HA.out hi1 hj1 hi2 hj2)
  have HZ1 : Hid ((IsaN.st L1).size ≤ 100 ∧ (IsaN.st L2).size ≤ 100) := Lib.hid (by
    rw [IsaN.st_size, IsaN.st_size, ← hL1, ← hL2]
    exact ⟨ln_len (k := 1) (by decide) 5 0 _ (by decide) (by decide) hi1, ln_len (k := 2) (by decide) 5 0 _ (by decide) (by decide) hj1⟩)
  clear hi1 hi2 hj1 hj2 hL1 hL2
  go_wp2_with (first | (go_at_call 22; (with_reducible refine (HLa.out _ (by first | exact HD5.out | exact HD5.out.alloc HD5.out.size _)).mono ?_); rintro e w6 ⟨rfl, hb⟩; refine Hid.out ?_))
  refine Lib.hid ?_
  have HD6 := Lib.hid (HD5.out.trans (hb.mono HD5.out.size))
  have HC6 := Lib.hid (HC5.out.below hb)
  have HP3 := Lib.hid (HP3.out.below hb)
  have HP4 := Lib.hid (HP4.out.below hb)
  have HP5 := Lib.hid (HP5.out.below hb)
  clear hb HLa
  go_wp2_with (first | (go_at_call 22; (with_reducible refine (HLb.out _ (by first | exact HD6.out | exact HD6.out.alloc HD6.out.size _)).mono ?_); rintro e w7 ⟨rfl, hb⟩; refine Hid.out ?_))
  refine Lib.hid ?_
  have HD7 := Lib.hid (HD6.out.trans (hb.mono HD6.out.size))
  have HC7 := Lib.hid (HC6.out.below hb)
  have HP3 := Lib.hid (HP3.out.below hb)
  have HP4 := Lib.hid (HP4.out.below hb)
  have HP5 := Lib.hid (HP5.out.below hb)
  clear hb HLb
  go_wp2
  obtain ⟨zl1, zl2⟩ := HZ1.out
  obtain ⟨X8, b8, hE, hX⟩ := HS5.out
  have HE8 := Lib.hid hE
  have HX8 := Lib.hid hX
  clear hE hX
  have HSt8 := Lib.hid (fun wx (hb : Below w7.heap.size w7 wx) => (show (ldC (.pointer (some ⟨w1.heap.size, 0, none⟩))).run Tryd.prog wx = .ok (.agg #[.int .u32 0, .int .u32 a, .int .u32 b, .int .u32 0, .int .u32 0, .int .u32 0, .int .u32 0, .int .u32 0, .complex .f64 0 0, .complex .f64 0 0, .int .u32 0]) wx from run_ldC (HC7.out.below hb) rfl))
  have B80 := Lib.hid (Below.refl w7.heap.size w7).drew
  have B81 := Lib.hid ((Below.refl w7.heap.size w7).alloc (Nat.le_refl _) (.cells zcs 30)).drew
  have HDd8 := Lib.hid HD7.out.drew
  have HDa8 := Lib.hid (HD7.out.alloc HD7.out.size (.cells zcs 30)).drew
  have HU8 := Lib.hid (fun M B ad cap wx wy (hu : Below w.heap.size w wx) (hr : RamR wx (allB (ww (wrap64 (IntKind.i16.wrap a)) (wrap64 (IntKind.i16.wrap (a / 65536))))) M B ad cap wy) => (show Calls Tryd.prog 15 #[.agg #[.int .u32 0, .int .u32 a, .int .u32 b, .int .u32 0, .int .u32 0, .int .u32 0, .int .u32 0, .int .u32 0, .complex .f64 0 0, .complex .f64 0 0, .int .u32 0], mv M, .int .i64 2] wy fun e w' => e = .returned (.tuple #[.agg (cs X8), .int .i64 2, .int .i64 0]) ∧ Wrote wy B ad cap b8 w' ∧ Below wx.heap.size wx w' from run_to HT.out hu hr (zab a b) HZ.out 2 (by decide) HE8.out))
  go_cut [20, 21, 22] (fun s7 s8 s9 wx => ∃ g : Nat, s7 = .pointer (some ⟨g, 0, none⟩) ∧ s8 = .int .i64 2 ∧ s9 = .int .i64 0 ∧ Blk wx g (cs X8) 30 ∧ Below w7.heap.size w7 wx)
  case first =>
    go_region_held (fun wx => (ldC (.pointer (some ⟨w1.heap.size, 0, none⟩))).run Tryd.prog wx = .ok (.agg #[.int .u32 0, .int .u32 a, .int .u32 b, .int .u32 0, .int .u32 0, .int .u32 0, .int .u32 0, .int .u32 0, .complex .f64 0 0, .complex .f64 0 0, .int .u32 0]) wx) ((refine HSt8.out _ ?_; first | exact Bd.out | exact Bb.out | exact Bb.out.alloc Bb.out.size _ | exact Ba.out | exact Ba.out.alloc Ba.out.size _ | exact B80.out | exact B81.out)) (first | (go_at_call 20; (first | (with_reducible refine (HRam.out _ HSZ.out _ HAS.out _ HDd8.out).mono ?_) | (with_reducible refine (HRam.out _ HSZ.out _ HAS.out _ HDa8.out).mono ?_)); rintro e wa ⟨M, Bx, ad, cap, rfl, hr⟩; have Ba : Hid (Below w7.heap.size w7 wa) := Lib.hid (by first | exact B80.out.trans (hr.bel.mono B80.out.size) | exact B81.out.trans (hr.bel.mono B81.out.size)); have HR := Lib.hid hr; have HR2 := Lib.hid (Av.RamR.below hr ((Below.refl wa.heap.size wa).alloc (Nat.le_refl _) (.cells zcs 30))); clear hr) | (go_at_call 15; (first | (with_reducible refine (HU8.out _ _ _ _ _ _ HDd8.out HR.out).mono ?_) | (with_reducible refine (HU8.out _ _ _ _ _ _ HDa8.out HR.out).mono ?_) | (with_reducible refine (HU8.out _ _ _ _ _ _ HDd8.out HR2.out).mono ?_)); rintro e wb ⟨rfl, hw, hb⟩; (first | (have qq := aft_C (W := w7) (w1 := wa) (w2 := wb) (b' := b8) HR.out hw X8) | (have qq := aft_A (W := w7) (w1 := wa) (w2 := wb) (b' := b8) HR.out hw X8) | (have qq := aft_B (W := w7) (w1 := wa) (w2 := wb) (b' := b8) HR.out hw X8)); obtain ⟨⟨wn, h1, hk, hn⟩, hb'⟩ := qq; have Bb := Lib.hid hb'; have Bd := Lib.hid hn; have HK := Lib.hid hk; clear hw hb hk hn hb'))
    all_goals go_wp2_with fail
    all_goals go_meet
    all_goals exact ⟨_, rfl, rfl, rfl, HK.out, Bd.out⟩
  case rest =>
  obtain ⟨g8, rfl, rfl, rfl, hk, hbn⟩ := hcut
  have HP8 := Lib.hid hk
  have HD8 := Lib.hid (HD7.out.trans (hbn.mono HD7.out.size))
  have HC8 := Lib.hid (HC7.out.below hbn)
  have HP3 := Lib.hid (HP3.out.below hbn)
  have HP4 := Lib.hid (HP4.out.below hbn)
  have HP5 := Lib.hid (HP5.out.below hbn)
  obtain ⟨w8, hwc⟩ : ∃ u, u = wc := ⟨_, rfl⟩
  subst hwc
  clear hk hbn HU8 HSt8 HDd8 HDa8 HE8 B80 B81
  clear zl1 zl2
  go_wp2
  obtain ⟨X9, b9, hE, hX⟩ := sum4 a b HA.out HB.out
  have HE9 := Lib.hid hE
  have HX9 := Lib.hid hX
  clear hE hX
  have HSt9 := Lib.hid (fun wx (hb : Below w8.heap.size w8 wx) => (show (ldC (.pointer (some ⟨w1.heap.size, 0, none⟩))).run Tryd.prog wx = .ok (.agg #[.int .u32 0, .int .u32 a, .int .u32 b, .int .u32 0, .int .u32 0, .int .u32 0, .int .u32 0, .int .u32 0, .complex .f64 0 0, .complex .f64 0 0, .int .u32 0]) wx from run_ldC (HC8.out.below hb) rfl))
  have B90 := Lib.hid (Below.refl w8.heap.size w8).drew
  have B91 := Lib.hid ((Below.refl w8.heap.size w8).alloc (Nat.le_refl _) (.cells zcs 30)).drew
  have HDd9 := Lib.hid HD8.out.drew
  have HDa9 := Lib.hid (HD8.out.alloc HD8.out.size (.cells zcs 30)).drew
  have HU9 := Lib.hid (fun M B ad cap wx wy (hu : Below w.heap.size w wx) (hr : RamR wx (allB [53542912, 221380608, 54657024, 222363648, 55640064, 240254976, 70516736, 70582272]) M B ad cap wy) => (show Calls Tryd.prog 15 #[.agg #[.int .u32 0, .int .u32 a, .int .u32 b, .int .u32 0, .int .u32 0, .int .u32 0, .int .u32 0, .int .u32 0, .complex .f64 0 0, .complex .f64 0 0, .int .u32 0], mv M, .int .i64 8] wy fun e w' => e = .returned (.tuple #[.agg (cs X9), .int .i64 8, .int .i64 0]) ∧ Wrote wy B ad cap b9 w' ∧ Below wx.heap.size wx w' from run_to HT.out hu hr (zab a b) HZ.out 8 (by decide) HE9.out))
  go_cut [23, 24, 25] (fun s7 s8 s9 wx => ∃ g : Nat, s7 = .pointer (some ⟨g, 0, none⟩) ∧ s8 = .int .i64 8 ∧ s9 = .int .i64 0 ∧ Blk wx g (cs X9) 30 ∧ Below w8.heap.size w8 wx)
  case first =>
    go_region_held (fun wx => (ldC (.pointer (some ⟨w1.heap.size, 0, none⟩))).run Tryd.prog wx = .ok (.agg #[.int .u32 0, .int .u32 a, .int .u32 b, .int .u32 0, .int .u32 0, .int .u32 0, .int .u32 0, .int .u32 0, .complex .f64 0 0, .complex .f64 0 0, .int .u32 0]) wx) ((refine HSt9.out _ ?_; first | exact Bd.out | exact Bb.out | exact Bb.out.alloc Bb.out.size _ | exact Ba.out | exact Ba.out.alloc Ba.out.size _ | exact B90.out | exact B91.out)) (first | (go_at_call 20; (first | (with_reducible refine (HRam.out _ (by decide) _ s4 _ HDd9.out).mono ?_) | (with_reducible refine (HRam.out _ (by decide) _ s4 _ HDa9.out).mono ?_)); rintro e wa ⟨M, Bx, ad, cap, rfl, hr⟩; have Ba : Hid (Below w8.heap.size w8 wa) := Lib.hid (by first | exact B90.out.trans (hr.bel.mono B90.out.size) | exact B91.out.trans (hr.bel.mono B91.out.size)); have HR := Lib.hid hr; have HR2 := Lib.hid (Av.RamR.below hr ((Below.refl wa.heap.size wa).alloc (Nat.le_refl _) (.cells zcs 30))); clear hr) | (go_at_call 15; (first | (with_reducible refine (HU9.out _ _ _ _ _ _ HDd9.out HR.out).mono ?_) | (with_reducible refine (HU9.out _ _ _ _ _ _ HDa9.out HR.out).mono ?_) | (with_reducible refine (HU9.out _ _ _ _ _ _ HDd9.out HR2.out).mono ?_)); rintro e wb ⟨rfl, hw, hb⟩; (first | (have qq := aft_C (W := w8) (w1 := wa) (w2 := wb) (b' := b9) HR.out hw X9) | (have qq := aft_A (W := w8) (w1 := wa) (w2 := wb) (b' := b9) HR.out hw X9) | (have qq := aft_B (W := w8) (w1 := wa) (w2 := wb) (b' := b9) HR.out hw X9)); obtain ⟨⟨wn, h1, hk, hn⟩, hb'⟩ := qq; have Bb := Lib.hid hb'; have Bd := Lib.hid hn; have HK := Lib.hid hk; clear hw hb hk hn hb'))
    all_goals go_wp2_with fail
    all_goals go_meet
    all_goals exact ⟨_, rfl, rfl, rfl, HK.out, Bd.out⟩
  case rest =>
  obtain ⟨g9, rfl, rfl, rfl, hk, hbn⟩ := hcut
  have HP9 := Lib.hid hk
  have HD9 := Lib.hid (HD8.out.trans (hbn.mono HD8.out.size))
  have HC9 := Lib.hid (HC8.out.below hbn)
  have HP3 := Lib.hid (HP3.out.below hbn)
  have HP4 := Lib.hid (HP4.out.below hbn)
  have HP5 := Lib.hid (HP5.out.below hbn)
  have HP8 := Lib.hid (HP8.out.below hbn)
  obtain ⟨w9, hwc⟩ : ∃ u, u = wc := ⟨_, rfl⟩
  subst hwc
  clear hk hbn HU9 HSt9 HDd9 HDa9 HE9 B90 B91
  have c3 := HP3.out.cell 1
  have c4 := HP4.out.cell 1
  have c5 := HP5.out.cell 3
  have c8 := HP8.out.cell 5
  have c9 := HP9.out.cell 3
  rw [cs_r X3 (by decide), HX3.out] at c3
  rw [cs_r X4 (by decide), HX4.out] at c4
  rw [cs_r X5 (by decide), HX5.out] at c5
  rw [cs_r X8 (by decide), HX8.out] at c8
  rw [cs_r X9 (by decide), HX9.out] at c9
  unfold m32 at c5
  go_wp2
  go_ret
  exact ⟨rfl, HD9.out⟩
end Go.Proofs.YtgnpbedhpkmkfaaDoor.Walk
