/-
  CoreCalls' walk.
-/
import Derived.Test.YtgnpbedhpkmkfaaDoorZRy
import Derived.Test.YtgnpbedhpkmkfaaDoorZAz
import Derived.Deep.DeepCutAuto
namespace Go.Proofs.YtgnpbedhpkmkfaaDoor.Walk
open Go Go.RowKit Kit Bk CoM CoR CoB CoC CoW CoI CoE CoY Bytes3 IsaM IsaT IsaU IsaV Sm Ru Rw Ar Av Rx Cq Ry
open IsaP (Ml)
open Al (mki alive_any)
set_option linter.unusedVariables false
def ldW (t : Nat) : Op := .load 9 (.tmp t)
attribute [local go_sem] ldW
attribute [local go_sem ↓] ldc_wrap stc_wrap ldr_wrap app_wrap

set_option maxRecDepth 100000 in
set_option maxHeartbeats 8000000 in
theorem coreCalls (a v q : Int) (w : World) (ha : (Lit.int .u8 a).wf = true) (hv : (Lit.int .u32 v).wf = true) (hq : (Lit.int .u8 q).wf = true) (hT : Tabs w) (hM : Ml w) :
    Calls Tryd.prog 8 #[.int .u8 a, .int .u32 v, .int .u8 q] w fun e w' => e = .returned (.bool true) ∧ Below w.heap.size w w' := by
  obtain ⟨n, rfl, hn⟩ := u8_nat ha
  obtain ⟨v, rfl, hv⟩ := u32_nat hv
  obtain ⟨q, rfl, hq⟩ := u8_nat hq
  clear ha
  have HV := Lib.hid hv
  have HQ := Lib.hid hq
  clear hv hq
  have hmi := mki
  have HAl := Lib.hid (alive_any w hT hM)
  have HT := Lib.hid hT
  have HM := Lib.hid hM
  have HRam := Lib.hid (fun (t : ByteArray) (ht : t.size ≤ 100000) (ws : List Nat) (ha : asm t.data.toList = .inr ws) wx (hb : Below w.heap.size w wx) => ram_any t ht ws ha wx (hT.below hb) (hM.below hb))
  have HRac := Lib.hid (fun (t : ByteArray) (ht : t.size ≤ 100000) (ws : List Nat) (ha : asm t.data.toList = .inr ws) wx (hb : Below w.heap.size w wx) => By4.ram_cap t ht ws ha wx (hT.below hb) (hM.below hb))
  clear hT hM
  obtain ⟨k, hk⟩ : ∃ k, n % 6 = k := ⟨_, rfl⟩
  have hk' : (n : Int) % 6 = (k : Int) := by omega
  have hk6 : k < 6 := by omega
  have HK6 := Lib.hid hk6
  have hz8 : [Value.int IntKind.u32 0, Value.int IntKind.u32 0, Value.int IntKind.u32 0, Value.int IntKind.u32 0, Value.int IntKind.u32 0, Value.int IntKind.u32 0, Value.int IntKind.u32 0, Value.int IntKind.u32 0][k]? = some (.int .u32 0) :=
    k6 (P := fun k => [Value.int IntKind.u32 0, Value.int IntKind.u32 0, Value.int IntKind.u32 0, Value.int IntKind.u32 0, Value.int IntKind.u32 0, Value.int IntKind.u32 0, Value.int IntKind.u32 0, Value.int IntKind.u32 0][k]? = some (.int .u32 0)) hk6 rfl rfl rfl rfl rfl rfl
  obtain ⟨X1, b1, hE, hX⟩ := endA
  have HE1 := Lib.hid hE
  have HX1 := Lib.hid hX
  clear hE hX
  go_enter Tryd.func8, Tryd.ntmps8
  go_wp2_with (first | (go_at_call 21; (with_reducible refine HAl.out.mono ?_); rintro e w1 ⟨rfl, hb1⟩; refine Hid.out ?_))
  refine Lib.hid ?_
  have HD1 := Lib.hid hb1
  clear hb1 HAl
  go_wp2_with (first | (go_at_call 20; (with_reducible refine (HRam.out _ (by decide) _ qA _ HD1.out).mono ?_); rintro e w2 ⟨M2, B2, ad2, cap2, rfl, hr⟩; refine Hid.out ?_))
  refine Lib.hid ?_
  have HU1 : Hid (Calls Tryd.prog 15 #[.agg zcs, mv M2, .int .i64 9] w2 fun e w' => e = .returned (.tuple #[.agg (cs X1), .int .i64 2, .int .i64 1]) ∧ Wrote w2 B2 ad2 cap2 b1 w' ∧ Below w1.heap.size w1 w') := Lib.hid (run_to HT.out HD1.out hr z0 z0_ok 9 (by decide) HE1.out)
  clear hr
  go_wp2_with (first | (go_at_call 15; (with_reducible refine HU1.out.mono ?_); rintro e w3 ⟨rfl, hw, hb⟩; refine Hid.out ?_))
  refine Lib.hid ?_
  have Q1 := Blk.new w3 zcs 30
  have h1 := run_stC Q1 rfl (cs_size X1) (cs_one _)
  have Q2 := CoC.Blk.setAll Q1 (ds := cs X1) rfl
  have D3 := HD1.out.trans (hb.mono HD1.out.size)
  have bc := below_all w3.heap.size D3.size (cs X1).toList 0 (D3.alloc D3.size (.cells zcs 30))
  obtain ⟨w4, hw4⟩ : ∃ w4, World.setCells (w3.alloc (.cells zcs 30)) w3.heap.size 0 (cs X1).toList = w4 := ⟨_, rfl⟩
  rw [hw4] at h1 Q2 bc
  have HD4 := Lib.hid bc
  have HP1 := Lib.hid Q2
  clear Q1 Q2 hw4 bc hw hb D3 HU1 HE1
  go_wp2
  clear h1
  rw [rs_set HK6.out]
  obtain ⟨w6, hw6⟩ : ∃ u, w4.alloc (.cells (rs (zk k v)) 23) = u := ⟨_, rfl⟩
  have Q6 := Blk.new w4 (rs (zk k v)) 23
  have b6 := (Below.refl w4.heap.size w4).alloc (Nat.le_refl _) (.cells (rs (zk k v)) 23)
  rw [hw6] at Q6 b6 ⊢
  have HD6 := Lib.hid (HD4.out.trans (b6.mono HD4.out.size))
  have HP1 := Lib.hid (HP1.out.below b6)
  have HC6 := Lib.hid Q6
  clear hw6 Q6 b6 hz8 hk hk' hk6
  have HOK := Lib.hid (zk_ok k v (by have := HV.out; omega))
  have hzr : ∃ r0 r1 r2 r3 r4 r5 r6 r7, rs (zk k v) = #[.int .u32 r0, .int .u32 r1, .int .u32 r2, .int .u32 r3, .int .u32 r4, .int .u32 r5, .int .u32 r6, .int .u32 r7] ∧ cs (zk k v) = #[.int .u32 r0, .int .u32 r1, .int .u32 r2, .int .u32 r3, .int .u32 r4, .int .u32 r5, .int .u32 r6, .int .u32 r7, .complex .f64 0 0, .complex .f64 0 0, .int .u32 0] := ⟨_, _, _, _, _, _, _, _, rfl, rfl⟩
  obtain ⟨r0, r1, r2, r3, r4, r5, r6, r7, hzr, hzc⟩ := hzr
  have HZR := Lib.hid hzr
  have HZC := Lib.hid hzc
  clear hzr hzc
  have hs1 := s1 k
  have hdg := dg_row HK6.out
  have hge : ∀ h : k < [Value.string { data := #[48] }, .string { data := #[49] }, .string { data := #[50] }, .string { data := #[51] }, .string { data := #[52] }, .string { data := #[53] }].length, [Value.string { data := #[48] }, .string { data := #[49] }, .string { data := #[50] }, .string { data := #[51] }, .string { data := #[52] }, .string { data := #[53] }][k]'h = .string (dg k) := fun h => by
    have := hdg
    rw [List.getElem?_toArray, List.getElem?_eq_getElem h] at this
    exact Option.some.inj this
  clear hdg
  have hk0 : (0 : Int) ≤ (k : Int) := by omega
  have hk6 : (k : Int) < 6 := by have := HK6.out; omega
  have hk6n : k < 6 := HK6.out
  obtain ⟨X7, hX⟩ : ∃ X, (stepP (zk k v) (allB [wZ k])).1 = X := ⟨_, rfl⟩
  have HX7 := Lib.hid (show X7.pc = if (v : Int) = 0 then 20 else 4 from by rw [← hX]; exact (stepZ HK6.out v).2)
  have HSt7 := Lib.hid (fun wx (hb : Below w6.heap.size w6 wx) => (show (ldR (.pointer (some ⟨w4.heap.size, 0, none⟩))).run Tryd.prog wx = .ok (.agg #[.int .u32 r0, .int .u32 r1, .int .u32 r2, .int .u32 r3, .int .u32 r4, .int .u32 r5, .int .u32 r6, .int .u32 r7]) wx from by rw [← HZR.out]; exact run_ld8 (HC6.out.below hb)))
  have HRt7 := Lib.hid (fun wx (hb : Below w.heap.size w wx) => HRam.out (tZ k) (sZ HK6.out) _ (qZ HK6.out) wx hb)
  have HU7 := Lib.hid (fun M B ad cap wx wy (hu : Below w.heap.size w wx) (hr : RamR wx (allB [wZ k]) M B ad cap wy) => (show Calls Tryd.prog 12 #[.agg #[.int .u32 r0, .int .u32 r1, .int .u32 r2, .int .u32 r3, .int .u32 r4, .int .u32 r5, .int .u32 r6, .int .u32 r7, .complex .f64 0 0, .complex .f64 0 0, .int .u32 0], mv M] wy fun e w' => e = .returned (.tuple #[.agg (cs X7), .int .i64 0]) ∧ Wrote wy B ad cap (stepP (zk k v) (allB [wZ k])).2.2 w' ∧ Below wx.heap.size wx w' from by
    have h := step_at HT.out hu hr (zk k v) HOK.out
    rw [(stepZ HK6.out v).1, hX] at h
    unfold cv at h
    rw [HZC.out] at h
    exact h))
  clear hX
  have b0 := Below.refl w6.heap.size w6
  have HB1 := Lib.hid ((b0.alloc (Nat.le_refl _) (.cells zcs 30)).alloc (by simp) (.cells #[.string { data := #[48] }, .string { data := #[49] }, .string { data := #[50] }, .string { data := #[51] }, .string { data := #[52] }, .string { data := #[53] }] 9)).drew
  have HB2 := Lib.hid ((b0.alloc (Nat.le_refl _) (.cells #[.string { data := #[48] }, .string { data := #[49] }, .string { data := #[50] }, .string { data := #[51] }, .string { data := #[52] }, .string { data := #[53] }] 9)).alloc (by simp) (.cells zcs 30)).drew
  have HB3 := Lib.hid (b0.alloc (Nat.le_refl _) (.cells #[.string { data := #[48] }, .string { data := #[49] }, .string { data := #[50] }, .string { data := #[51] }, .string { data := #[52] }, .string { data := #[53] }] 9)).drew
  clear b0
  have HDd1 := Lib.hid (HD6.out.trans (HB1.out.mono HD6.out.size))
  have HDd2 := Lib.hid (HD6.out.trans (HB2.out.mono HD6.out.size))
  have HDd3 := Lib.hid (HD6.out.trans (HB3.out.mono HD6.out.size))
  have HZ1 : Hid (Blk ((w6.alloc (.cells zcs 30)).alloc (.cells #[.string { data := #[48] }, .string { data := #[49] }, .string { data := #[50] }, .string { data := #[51] }, .string { data := #[52] }, .string { data := #[53] }] 9)).drew w6.heap.size zcs 30) := Lib.hid (Blk.below (Blk.new w6 zcs 30) ((Below.refl (w6.alloc (.cells zcs 30)).heap.size (w6.alloc (.cells zcs 30))).alloc (Nat.le_refl _) (.cells #[.string { data := #[48] }, .string { data := #[49] }, .string { data := #[50] }, .string { data := #[51] }, .string { data := #[52] }, .string { data := #[53] }] 9)).drew)
  have HZ2 : Hid (Blk ((w6.alloc (.cells #[.string { data := #[48] }, .string { data := #[49] }, .string { data := #[50] }, .string { data := #[51] }, .string { data := #[52] }, .string { data := #[53] }] 9)).alloc (.cells zcs 30)).drew (w6.heap.size + 1) zcs 30) := Lib.hid (by have := Blk.new (w6.alloc (.cells #[.string { data := #[48] }, .string { data := #[49] }, .string { data := #[50] }, .string { data := #[51] }, .string { data := #[52] }, .string { data := #[53] }] 9)) zcs 30; rw [World.size_alloc] at this; exact this)
  go_cut [14, 15] (fun s7 s8 wx => ∃ g : Nat, s7 = .pointer (some ⟨g, 0, none⟩) ∧ s8 = .int .i64 0 ∧ Blk wx g (cs X7) 30 ∧ Below w6.heap.size w6 wx)
  case first =>
    rw [show Op.load 9 (Operand.tmp 44) = ldW 44 from rfl]
    go_region_held (fun wx => (ldR (.pointer (some ⟨w4.heap.size, 0, none⟩))).run Tryd.prog wx = .ok (.agg #[.int .u32 r0, .int .u32 r1, .int .u32 r2, .int .u32 r3, .int .u32 r4, .int .u32 r5, .int .u32 r6, .int .u32 r7]) wx) ((refine HSt7.out _ ?_; repeat (first | exact Bd.out | exact Bb.out | exact Ba.out | (with_reducible exact Below.refl _ _) | (with_reducible refine IsaN.bdr ?_) | (with_reducible refine IsaN.bal ?_ _) | (refine Below.alloc ?_ (by first | exact Bb.out.size | exact Ba.out.size) _)))) (first | (go_at_call 20; (first | (with_reducible refine (HRt7.out _ HDd1.out).mono ?_; have HBu := HB1; have HDu := HDd1; have HZu := HZ1; have HGu := Lib.hid (Nat.le_refl w6.heap.size)) | (with_reducible refine (HRt7.out _ HDd2.out).mono ?_; have HBu := HB2; have HDu := HDd2; have HZu := HZ2; have HGu := Lib.hid (Nat.le_succ w6.heap.size)) | (with_reducible refine (HRt7.out _ HDd3.out).mono ?_; have HBu := HB3; have HDu := HDd3)); rintro e wa ⟨M, Bx, ad, cap, rfl, hr⟩; have Ba : Hid (Below w6.heap.size w6 wa) := Lib.hid (HBu.out.trans (hr.bel.mono HBu.out.size)); have HR := Lib.hid hr; have HR2 := Lib.hid (Av.RamR.below hr ((Below.refl wa.heap.size wa).alloc (Nat.le_refl _) (.cells zcs 30))); clear hr) | (go_at_call 12; (first | (with_reducible refine (HU7.out _ _ _ _ _ _ HDu.out HR.out).mono ?_) | (with_reducible refine (HU7.out _ _ _ _ _ _ HDu.out HR2.out).mono ?_)); rintro e wb ⟨rfl, hw, hb⟩; (first | (have qq := Ry.aft_A (W := w6) (w1 := wa) (w2 := wb) HBu.out HZu.out HGu.out HR.out hw X7) | (have qq := Ry.aft_C (W := w6) (w1 := wa) (w2 := wb) HBu.out HR.out hw X7) | (have qq := Ry.aft_B (W := w6) (w1 := wa) (w2 := wb) HBu.out HR.out hw X7)); obtain ⟨⟨wn, h1, hk, hn⟩, hb'⟩ := qq; have Bb := Lib.hid hb'; have Bd := Lib.hid hn; have HK := Lib.hid hk; clear hw hb hk hn hb'))
    all_goals go_wp2_with fail
    all_goals go_meet
    all_goals exact ⟨_, rfl, rfl, HK.out, Bd.out⟩
  case rest =>
  obtain ⟨g7, rfl, rfl, hk, hbn⟩ := hcut
  have HP7 := Lib.hid hk
  have HD7 := Lib.hid (HD6.out.trans (hbn.mono HD6.out.size))
  have HC7 := Lib.hid (HC6.out.below hbn)
  have HP1 := Lib.hid (HP1.out.below hbn)
  obtain ⟨w7, hwc⟩ : ∃ u, u = wc := ⟨_, rfl⟩
  subst hwc
  clear hk hbn HU7 HSt7 HRt7 HDd1 HDd2 HDd3 HB1 HB2 HB3 HZ1 HZ2
  go_wp2
  obtain ⟨X8, hX⟩ : ∃ X, (stepP (zk k v) (allB [wN k])).1 = X := ⟨_, rfl⟩
  have HX8 := Lib.hid (show X8.pc = if (v : Int) = 0 then 4 else 20 from by rw [← hX]; exact (stepN HK6.out v).2)
  have HSt8 := Lib.hid (fun wx (hb : Below w7.heap.size w7 wx) => (show (ldR (.pointer (some ⟨w4.heap.size, 0, none⟩))).run Tryd.prog wx = .ok (.agg #[.int .u32 r0, .int .u32 r1, .int .u32 r2, .int .u32 r3, .int .u32 r4, .int .u32 r5, .int .u32 r6, .int .u32 r7]) wx from by rw [← HZR.out]; exact run_ld8 (HC7.out.below hb)))
  have HRt8 := Lib.hid (fun wx (hb : Below w.heap.size w wx) => HRam.out (tN k) (sN HK6.out) _ (qN HK6.out) wx hb)
  have HU8 := Lib.hid (fun M B ad cap wx wy (hu : Below w.heap.size w wx) (hr : RamR wx (allB [wN k]) M B ad cap wy) => (show Calls Tryd.prog 12 #[.agg #[.int .u32 r0, .int .u32 r1, .int .u32 r2, .int .u32 r3, .int .u32 r4, .int .u32 r5, .int .u32 r6, .int .u32 r7, .complex .f64 0 0, .complex .f64 0 0, .int .u32 0], mv M] wy fun e w' => e = .returned (.tuple #[.agg (cs X8), .int .i64 0]) ∧ Wrote wy B ad cap (stepP (zk k v) (allB [wN k])).2.2 w' ∧ Below wx.heap.size wx w' from by
    have h := step_at HT.out hu hr (zk k v) HOK.out
    rw [(stepN HK6.out v).1, hX] at h
    unfold cv at h
    rw [HZC.out] at h
    exact h))
  clear hX
  have b0 := Below.refl w7.heap.size w7
  have HB1 := Lib.hid ((b0.alloc (Nat.le_refl _) (.cells zcs 30)).alloc (by simp) (.cells #[.string { data := #[48] }, .string { data := #[49] }, .string { data := #[50] }, .string { data := #[51] }, .string { data := #[52] }, .string { data := #[53] }] 9)).drew
  have HB2 := Lib.hid ((b0.alloc (Nat.le_refl _) (.cells #[.string { data := #[48] }, .string { data := #[49] }, .string { data := #[50] }, .string { data := #[51] }, .string { data := #[52] }, .string { data := #[53] }] 9)).alloc (by simp) (.cells zcs 30)).drew
  have HB3 := Lib.hid (b0.alloc (Nat.le_refl _) (.cells #[.string { data := #[48] }, .string { data := #[49] }, .string { data := #[50] }, .string { data := #[51] }, .string { data := #[52] }, .string { data := #[53] }] 9)).drew
  clear b0
  have HDd1 := Lib.hid (HD7.out.trans (HB1.out.mono HD7.out.size))
  have HDd2 := Lib.hid (HD7.out.trans (HB2.out.mono HD7.out.size))
  have HDd3 := Lib.hid (HD7.out.trans (HB3.out.mono HD7.out.size))
  have HZ1 : Hid (Blk ((w7.alloc (.cells zcs 30)).alloc (.cells #[.string { data := #[48] }, .string { data := #[49] }, .string { data := #[50] }, .string { data := #[51] }, .string { data := #[52] }, .string { data := #[53] }] 9)).drew w7.heap.size zcs 30) := Lib.hid (Blk.below (Blk.new w7 zcs 30) ((Below.refl (w7.alloc (.cells zcs 30)).heap.size (w7.alloc (.cells zcs 30))).alloc (Nat.le_refl _) (.cells #[.string { data := #[48] }, .string { data := #[49] }, .string { data := #[50] }, .string { data := #[51] }, .string { data := #[52] }, .string { data := #[53] }] 9)).drew)
  have HZ2 : Hid (Blk ((w7.alloc (.cells #[.string { data := #[48] }, .string { data := #[49] }, .string { data := #[50] }, .string { data := #[51] }, .string { data := #[52] }, .string { data := #[53] }] 9)).alloc (.cells zcs 30)).drew (w7.heap.size + 1) zcs 30) := Lib.hid (by have := Blk.new (w7.alloc (.cells #[.string { data := #[48] }, .string { data := #[49] }, .string { data := #[50] }, .string { data := #[51] }, .string { data := #[52] }, .string { data := #[53] }] 9)) zcs 30; rw [World.size_alloc] at this; exact this)
  go_cut [16, 17] (fun s7 s8 wx => ∃ g : Nat, s7 = .pointer (some ⟨g, 0, none⟩) ∧ s8 = .int .i64 0 ∧ Blk wx g (cs X8) 30 ∧ Below w7.heap.size w7 wx)
  case first =>
    rw [show Op.load 9 (Operand.tmp 58) = ldW 58 from rfl]
    go_region_held (fun wx => (ldR (.pointer (some ⟨w4.heap.size, 0, none⟩))).run Tryd.prog wx = .ok (.agg #[.int .u32 r0, .int .u32 r1, .int .u32 r2, .int .u32 r3, .int .u32 r4, .int .u32 r5, .int .u32 r6, .int .u32 r7]) wx) ((refine HSt8.out _ ?_; repeat (first | exact Bd.out | exact Bb.out | exact Ba.out | (with_reducible exact Below.refl _ _) | (with_reducible refine IsaN.bdr ?_) | (with_reducible refine IsaN.bal ?_ _) | (refine Below.alloc ?_ (by first | exact Bb.out.size | exact Ba.out.size) _)))) (first | (go_at_call 20; (first | (with_reducible refine (HRt8.out _ HDd1.out).mono ?_; have HBu := HB1; have HDu := HDd1; have HZu := HZ1; have HGu := Lib.hid (Nat.le_refl w7.heap.size)) | (with_reducible refine (HRt8.out _ HDd2.out).mono ?_; have HBu := HB2; have HDu := HDd2; have HZu := HZ2; have HGu := Lib.hid (Nat.le_succ w7.heap.size)) | (with_reducible refine (HRt8.out _ HDd3.out).mono ?_; have HBu := HB3; have HDu := HDd3)); rintro e wa ⟨M, Bx, ad, cap, rfl, hr⟩; have Ba : Hid (Below w7.heap.size w7 wa) := Lib.hid (HBu.out.trans (hr.bel.mono HBu.out.size)); have HR := Lib.hid hr; have HR2 := Lib.hid (Av.RamR.below hr ((Below.refl wa.heap.size wa).alloc (Nat.le_refl _) (.cells zcs 30))); clear hr) | (go_at_call 12; (first | (with_reducible refine (HU8.out _ _ _ _ _ _ HDu.out HR.out).mono ?_) | (with_reducible refine (HU8.out _ _ _ _ _ _ HDu.out HR2.out).mono ?_)); rintro e wb ⟨rfl, hw, hb⟩; (first | (have qq := Ry.aft_A (W := w7) (w1 := wa) (w2 := wb) HBu.out HZu.out HGu.out HR.out hw X8) | (have qq := Ry.aft_C (W := w7) (w1 := wa) (w2 := wb) HBu.out HR.out hw X8) | (have qq := Ry.aft_B (W := w7) (w1 := wa) (w2 := wb) HBu.out HR.out hw X8)); obtain ⟨⟨wn, h1, hk, hn⟩, hb'⟩ := qq; have Bb := Lib.hid hb'; have Bd := Lib.hid hn; have HK := Lib.hid hk; clear hw hb hk hn hb'))
    all_goals go_wp2_with fail
    all_goals go_meet
    all_goals exact ⟨_, rfl, rfl, HK.out, Bd.out⟩
  case rest =>
  obtain ⟨g8, rfl, rfl, hk, hbn⟩ := hcut
  have HP8 := Lib.hid hk
  have HD8 := Lib.hid (HD7.out.trans (hbn.mono HD7.out.size))
  have HC8 := Lib.hid (HC7.out.below hbn)
  have HP1 := Lib.hid (HP1.out.below hbn)
  have HP7 := Lib.hid (HP7.out.below hbn)
  obtain ⟨w8, hwc⟩ : ∃ u, u = wc := ⟨_, rfl⟩
  subst hwc
  clear hk hbn HU8 HSt8 HRt8 HDd1 HDd2 HDd3 HB1 HB2 HB3 HZ1 HZ2
  clear hs1 hge hk0 hk6 hk6n
  go_wp2_with (first | (go_at_call 20; (with_reducible refine (HRac.out _ (by decide) _ qM _ HD8.out).mono ?_); rintro e w9 ⟨M9, B9, rfl, hr⟩; refine Hid.out ?_))
  refine Lib.hid ?_
  have HR9 := Lib.hid hr
  have HD9 := Lib.hid (HD8.out.trans (hr.bel.mono HD8.out.size))
  have hl1 := HP1.out.lt
  have hl7 := HP7.out.lt
  have hl8 := HP8.out.lt
  have HP1 := Lib.hid (HP1.out.below hr.bel)
  have HP7 := Lib.hid (HP7.out.below hr.bel)
  have HP8 := Lib.hid (HP8.out.below hr.bel)
  obtain ⟨g9, cap9, w10, hgr, hL, hcp, hg1, hg2, hb10⟩ := Az.grow100 w9 B9 (allB wM) hr.l rfl (allB_lt wM (by decide))
  have c0 : w9.cell? ⟨M9, 0, none⟩ = some (.slice (some ⟨B9, 0, none⟩) 16 16) := hr.m.cell 0
  have M10 := Blk.below hr.m hb10
  have c1 : w10.cell? ⟨M9, 0, none⟩ = some (.slice (some ⟨B9, 0, none⟩) 16 16) := M10.cell 0
  have f1 := M10.free 0
  have M11 := M10.set 0 (.slice (some ⟨g9, 0, none⟩) 116 cap9)
  have D10 := HD9.out.trans (hb10.mono HD9.out.size)
  have hM9 : M9 < w9.heap.size := hr.m.lt
  have hM8 : w.heap.size ≤ M9 := by have := HD8.out.size; have := hr.hB; have := hr.hM; omega
  have D11 := D10.setCell (p := ⟨M9, 0, none⟩) hM8 (.slice (some ⟨g9, 0, none⟩) 116 cap9)
  have L11 := Lies.kept hL (Kp.set (S := fun j => j = M9) w10 M9 0 (.slice (some ⟨g9, 0, none⟩) 116 cap9) rfl) (by omega)
  have P1 := (HP1.out.below hb10)
  have P7 := (HP7.out.below hb10)
  have P8 := (HP8.out.below hb10)
  have hq20 : q % 20 < 20 := Nat.mod_lt _ (by decide)
  obtain ⟨X9, b9, hE, hx3, hx4⟩ := endM v (q % 20) (by have := HV.out; omega) hq20
  have HU9 : Hid (Calls Tryd.prog 15 #[.agg #[.int .u32 0, .int .u32 v, .int .u32 (16 + 4 * ((q : Int) % 20)), .int .u32 0, .int .u32 0, .int .u32 0, .int .u32 0, .int .u32 0, .complex .f64 0 0, .complex .f64 0 0, .int .u32 0], mv M9, .int .i64 9] (w10.setCell ⟨M9, 0, none⟩ (.slice (some ⟨g9, 0, none⟩) 116 cap9)) fun e w' => e = .returned (.tuple #[.agg (cs X9), .int .i64 3, .int .i64 1]) ∧ Kp (fun j => j = g9) (w10.setCell ⟨M9, 0, none⟩ (.slice (some ⟨g9, 0, none⟩) 116 cap9)) w') := Lib.hid (by
    have hm : RamAt (w10.setCell ⟨M9, 0, none⟩ (.slice (some ⟨g9, 0, none⟩) 116 cap9)) M9 (some ⟨g9, 0, none⟩) cap9 bM := by
      unfold RamAt sl
      rw [bM_len]
      exact M11
    have hs9 : (w10.setCell ⟨M9, 0, none⟩ (.slice (some ⟨g9, 0, none⟩) 116 cap9)).heap.size = w10.heap.size := by simp [World.setCell]
    have h := run_any w _ HT.out D11 M9 g9 (some ⟨g9, 0, none⟩) cap9 bM hm L11 (by omega) (by omega) (by have := HD9.out.size; omega) (zm v (16 + 4 * (q % 20) : Nat)) (zm_ok _ _ (by have := HV.out; omega) (by omega)) 9 9 (.inl rfl) (by decide)
    have e : cv (zm v (16 + 4 * (q % 20) : Nat)) = .agg #[.int .u32 0, .int .u32 v, .int .u32 (16 + 4 * ((q : Int) % 20)), .int .u32 0, .int .u32 0, .int .u32 0, .int .u32 0, .int .u32 0, .complex .f64 0 0, .complex .f64 0 0, .int .u32 0] := by
      have : ((16 + 4 * (q % 20) : Nat) : Int) = 16 + 4 * ((q : Int) % 20) := by omega
      rw [this]
      rfl
    rw [e] at h
    refine h.mono ?_
    rintro e w' ⟨y, k', t', c', hE', he, hw⟩
    obtain ⟨rfl, rfl, rfl, rfl⟩ := hE.det hE'
    exact ⟨he, hw.kp⟩)
  have HX9 := Lib.hid (And.intro hx3 hx4)
  have K11 := Kp.set (S := fun j => j = M9) w10 M9 0 (.slice (some ⟨g9, 0, none⟩) 116 cap9) rfl
  have hB8 := hr.hB
  have hBM := hr.hM
  have R1 := Lib.hid (Blk.kept P1 K11 (show ¬ _ = M9 by omega))
  have R7 := Lib.hid (Blk.kept P7 K11 (show ¬ _ = M9 by omega))
  have R8 := Lib.hid (Blk.kept P8 K11 (show ¬ _ = M9 by omega))
  have G1 : Hid (¬ w3.heap.size = g9) := Lib.hid (by have := hr.bel.size; omega)
  have G7 : Hid (¬ g7 = g9) := Lib.hid (by have := hr.bel.size; omega)
  have G8 : Hid (¬ g8 = g9) := Lib.hid (by have := hr.bel.size; omega)
  have GB : Hid (w.heap.size ≤ g9) := Lib.hid (by have := HD9.out.size; omega)
  have HD11 := Lib.hid D11
  clear hx3 hx4 hE K11 P1 P7 P8 hl1 hl7 hl8 hB8 hBM M10 M11 D10 hM9 hM8 D11 L11 hL hcp hg1 hg2 hb10 hr hq20
  go_wp2_with (first | (go_at_call 15; (with_reducible refine HU9.out.mono ?_); rintro e w12 ⟨rfl, hk12⟩; refine Hid.out ?_))
  refine Lib.hid ?_
  have D12 := HD11.out.trans (hk12.below HD11.out.size (fun j e => by have := GB.out; omega))
  have R1 := Blk.kept R1.out hk12 G1.out
  have R7 := Blk.kept R7.out hk12 G7.out
  have R8 := Blk.kept R8.out hk12 G8.out
  clear hk12 hgr c0 c1 f1 HU9
  have Q1 := Blk.new w12 zcs 30
  have h1 := run_stC Q1 rfl (cs_size X9) (cs_one _)
  have R9 := CoC.Blk.setAll Q1 (ds := cs X9) rfl
  have bc := below_all w12.heap.size (Nat.le_refl _) (cs X9).toList 0 ((Below.refl w12.heap.size w12).alloc (Nat.le_refl _) (.cells zcs 30))
  obtain ⟨w13, hw13⟩ : ∃ u, World.setCells (w12.alloc (.cells zcs 30)) w12.heap.size 0 (cs X9).toList = u := ⟨_, rfl⟩
  rw [hw13] at h1 R9 bc
  have D13 := Lib.hid (D12.trans (bc.mono D12.size))
  have R1 := Blk.below R1 bc
  have R7 := Blk.below R7 bc
  have R8 := Blk.below R8 bc
  have c1 := R1.cell 10
  have c2 := R1.cell 7
  have c3 := R7.cell 10
  have c4 := R8.cell 10
  have c5 := R9.cell 3
  have c6 := R9.cell 4
  rw [cs_pc, HX1.out.2] at c1
  rw [cs_r X1 (by decide), HX1.out.1] at c2
  rw [cs_pc, HX7.out] at c3
  rw [cs_pc, HX8.out] at c4
  rw [cs_r X9 (by decide), HX9.out.1] at c5
  rw [cs_r X9 (by decide), HX9.out.2] at c6
  clear R1 R7 R8 R9 bc hw13 Q1 D12
  by_cases hv0 : (v : Int) = 0
  · rw [if_pos hv0] at c3 c4
    have e1 : ((v : Int) == 0) = true := by simp [hv0]
    have e2 : ((v : Int) != 0) = false := by simp [hv0]
    clear hv0
    go_wp2
    go_ret
    exact ⟨rfl, D13.out⟩
  · rw [if_neg hv0] at c3 c4
    have e1 : ((v : Int) == 0) = false := beq_false_of_ne hv0
    have e2 : ((v : Int) != 0) = true := bne_iff_ne.2 hv0
    clear hv0
    go_wp2
    go_ret
    exact ⟨rfl, D13.out⟩
