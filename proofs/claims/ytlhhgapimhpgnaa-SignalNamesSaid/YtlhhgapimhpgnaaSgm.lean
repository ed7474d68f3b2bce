/-
  SignalNames' walk.
-/
import Derived.Test.YtlhhgapimhpgnaaSgi
namespace Go.Proofs.Ytlhhgapimhpgnaa.Walk
open Go Go.RowKit Kit Bk Sga Sgb Sgc Sgd Sgg Sgh
set_option linter.unusedVariables false
attribute [local go_sem ↓] lds_wrap sts_wrap eqv_wrap nev_wrap

def A1 : Sg := hS z0 5 64
def A2 : Sg := pS A1 5
def A3 : Sg := nS A2
def A4 : Sg := pS A3 6
def A5 : Sg := nS A4
def A6 : Sg := pS A5 9
def A7 : Sg := nS A6
def B1 : Sg := mS A5 65536
def B2 : Sg := mS A5 1
def B3 : Sg := hS A5 9 0
def B4 : Sg := hS A5 16 0
def B5 : Sg := pS A5 0
def B6 : Sg := rS z0
def U1 : Sg := rS A5
def V1 : Sg := mS U1 576
theorem ok1 : A1.Ok := hS_ok z0_ok 5 (by decide)
theorem ok2 : A2.Ok := pS_ok ok1 5
theorem ok3 : A3.Ok := nS_ok ok2
theorem ok4 : A4.Ok := pS_ok ok3 6
theorem ok5 : A5.Ok := nS_ok ok4
theorem ok6 : A6.Ok := pS_ok ok5 9
theorem oku : U1.Ok := rS_ok ok5
def zm : Sg := ⟨0, 512, fun _ => 0, false⟩
def zp : Sg := ⟨1, 0, fun _ => 0, false⟩
theorem okm' : zm.Ok := ⟨by decide, by decide, fun _ => Nat.zero_lt_succ _, fun _ _ => rfl⟩
theorem okp' : zp.Ok := ⟨by decide, by decide, fun _ => Nat.zero_lt_succ _, fun _ _ => rfl⟩

theorem n1 (w : World) : Calls Try.prog 18 #[.agg zcs, .int .i64 5, .int .u32 64] w fun e w' => e = .returned (.tuple #[.int .u32 0, cv A1, .int .i64 0]) ∧ Below w.heap.size w w' := by
  have := handle_any w z0 z0_ok 5 64
  rw [show hO z0 5 = 0 from by decide] at this
  rw [show hE z0 5 = 0 from by decide] at this
  exact this

theorem n2 (w : World) (v : Value) (hv : Nr w v [5]) : Calls Try.prog 20 #[cv A1, v] w fun e w' => e = .returned (cv A2) ∧ Below w.heap.size w w' := post_all w A1 ok1 v [5] hv (by simp)

theorem n3 (w : World) : Calls Try.prog 19 #[cv A2] w fun e w' => e = .returned (.tuple #[.int .i64 5, .int .i64 2, cv A3]) ∧ Below w.heap.size w w' := by
  have := next_any w A2 ok2
  rw [show nN A2 = 5 from by decide] at this
  rw [show nB A2 = 2 from by decide] at this
  exact this

theorem n4 (w : World) (v : Value) (hv : Nr w v [6]) : Calls Try.prog 20 #[cv A3, v] w fun e w' => e = .returned (cv A4) ∧ Below w.heap.size w w' := post_all w A3 ok3 v [6] hv (by simp)

theorem n5 (w : World) : Calls Try.prog 19 #[cv A4] w fun e w' => e = .returned (.tuple #[.int .i64 0, .int .i64 0, cv A5]) ∧ Below w.heap.size w w' := by
  have := next_any w A4 ok4
  rw [show nN A4 = 0 from by decide] at this
  rw [show nB A4 = 0 from by decide] at this
  exact this

theorem n6 (w : World) (v : Value) (hv : Nr w v [9]) : Calls Try.prog 20 #[cv A5, v] w fun e w' => e = .returned (cv A6) ∧ Below w.heap.size w w' := post_all w A5 ok5 v [9] hv (by simp)

theorem n7 (w : World) : Calls Try.prog 19 #[cv A6] w fun e w' => e = .returned (.tuple #[.int .i64 9, .int .i64 1, cv A7]) ∧ Below w.heap.size w w' := by
  have := next_any w A6 ok6
  rw [show nN A6 = 9 from by decide] at this
  rw [show nB A6 = 1 from by decide] at this
  exact this

theorem n8 (w : World) : Calls Try.prog 21 #[cv A5, .int .u32 65536] w fun e w' => e = .returned (.tuple #[.int .u32 0, cv B1, .int .i64 120]) ∧ Below w.heap.size w w' := by
  have := mask_any w A5 ok5 65536 (by decide)
  rw [show mO A5 65536 = 0 from by decide] at this
  rw [show mE A5 65536 = 120 from by decide] at this
  exact this

theorem n9 (w : World) : Calls Try.prog 21 #[cv A5, .int .u32 1] w fun e w' => e = .returned (.tuple #[.int .u32 0, cv B2, .int .i64 120]) ∧ Below w.heap.size w w' := by
  have := mask_any w A5 ok5 1 (by decide)
  rw [show mO A5 1 = 0 from by decide] at this
  rw [show mE A5 1 = 120 from by decide] at this
  exact this

theorem n10 (w : World) : Calls Try.prog 18 #[cv A5, .int .i64 9, .int .u32 0] w fun e w' => e = .returned (.tuple #[.int .u32 0, cv B3, .int .i64 120]) ∧ Below w.heap.size w w' := by
  have := handle_any w A5 ok5 9 0
  rw [show hO A5 9 = 0 from by decide] at this
  rw [show hE A5 9 = 120 from by decide] at this
  exact this

theorem n11 (w : World) : Calls Try.prog 18 #[cv A5, .int .i64 16, .int .u32 0] w fun e w' => e = .returned (.tuple #[.int .u32 0, cv B4, .int .i64 120]) ∧ Below w.heap.size w w' := by
  have := handle_any w A5 ok5 16 0
  rw [show hO A5 16 = 0 from by decide] at this
  rw [show hE A5 16 = 120 from by decide] at this
  exact this

theorem n12 (w : World) : Calls Try.prog 22 #[cv A5, .int .i64 0] w fun e w' => e = .returned (.tuple #[cv B5, .int .i64 120]) ∧ Below w.heap.size w w' := by
  have := post_any w A5 ok5 0
  rw [show pE A5 0 = 120 from by decide] at this
  exact this

theorem n13 (w : World) : Calls Try.prog 23 #[.agg zcs] w fun e w' => e = .returned (.tuple #[cv B6, .int .i64 120]) ∧ Below w.heap.size w w' := by
  have := return_any w z0 z0_ok
  rw [show rE z0 = 120 from by decide] at this
  exact this

theorem n14 (w : World) : Calls Try.prog 23 #[cv A5] w fun e w' => e = .returned (.tuple #[cv U1, .int .i64 0]) ∧ Below w.heap.size w w' := by
  have := return_any w A5 ok5
  rw [show rE A5 = 0 from by decide] at this
  exact this

theorem n15 (w : World) : Calls Try.prog 21 #[cv U1, .int .u32 576] w fun e w' => e = .returned (.tuple #[.int .u32 0, cv V1, .int .i64 0]) ∧ Below w.heap.size w w' := by
  have := mask_any w U1 oku 576 (by decide)
  rw [show mO U1 576 = 0 from by decide] at this
  rw [show mE U1 576 = 0 from by decide] at this
  exact this

theorem n16 (w : World) : Calls Try.prog 14 #[.agg #[.int .u32 0, .int .u32 512, .int .u32 0, .int .u32 0, .int .u32 0, .int .u32 0, .int .u32 0, .int .u32 0, .int .u32 0, .int .u32 0, .int .u32 0, .int .u32 0, .int .u32 0, .int .u32 0, .int .u32 0, .int .u32 0, .int .u32 0, .int .u32 0, .bool false]] w fun e w' => e = .returned (.int .i64 120) ∧ Below w.heap.size w w' := by
  have := check_any w zm okm'
  rw [show ckE zm = 120 from by decide] at this
  exact this

theorem n17 (w : World) : Calls Try.prog 14 #[.agg #[.int .u32 1, .int .u32 0, .int .u32 0, .int .u32 0, .int .u32 0, .int .u32 0, .int .u32 0, .int .u32 0, .int .u32 0, .int .u32 0, .int .u32 0, .int .u32 0, .int .u32 0, .int .u32 0, .int .u32 0, .int .u32 0, .int .u32 0, .int .u32 0, .bool false]] w fun e w' => e = .returned (.int .i64 120) ∧ Below w.heap.size w w' := by
  have := check_any w zp okp'
  rw [show ckE zp = 120 from by decide] at this
  exact this

theorem p1 : A3.b = true := by decide
theorem p2 : U1.b = false := by decide
theorem p3 : V1.m = 64 := by decide

set_option maxRecDepth 100000 in
set_option maxHeartbeats 4000000 in
theorem signalNames (w : World) :
    Calls Try.prog 4 #[] w fun e w' => e = .returned (.bool true) ∧ Below w.heap.size w w' := by
  have d0 := Below.refl w.heap.size w
  go_enter Try.func4, Try.ntmps4

  go_wp2_with (first | (go_at_call 18; (with_reducible refine (n1 _).mono ?_); rintro e wx1 ⟨rfl, hb1⟩; refine Hid.out ?_) | fail)
  refine Lib.hid ?_
  have d_1 := Below.trans d0 (hb1.mono (d0).size)
  have hle := d_1.size
  obtain ⟨wx2, hm2, vs_2, dm2, sm2⟩ := V.made wx1 (A1)
  clear sm2
  have d_2 := Below.trans d_1 (dm2.mono (d_1).size)
  have ld3 := vs_2.ld
  obtain ⟨wx4, hr4⟩ : ∃ wz, wx2.alloc (.cells #[.int .i64 (5)] 3) = wz := ⟨_, rfl⟩
  have br4 : Below wx2.heap.size wx2 wx4 := by rw [← hr4]; exact (Below.refl _ _).alloc (Nat.le_refl _) _
  have nr4 : Nr wx4 (.slice (some ⟨wx2.heap.size, 0, none⟩) 1 1) [5] := by rw [← hr4]; exact nr_one _ _
  have vs_4 := vs_2.below br4
  have d_4 := Below.trans d_2 (br4.mono (d_2).size)
  go_wp2_with (first | (go_at_call 20; (with_reducible refine (n2 _ _ nr4).mono ?_); rintro e wx5 ⟨rfl, hb5⟩; refine Hid.out ?_) | fail)
  refine Lib.hid ?_
  have vs_5 := vs_4.below hb5
  have d_5 := Below.trans d_4 (hb5.mono (d_4).size)
  clear hm2 ld3 hr4
  go_wp2_with (first | (go_at_call 19; (with_reducible refine (n3 _).mono ?_); rintro e wx6 ⟨rfl, hb6⟩; refine Hid.out ?_) | fail)
  refine Lib.hid ?_
  have vs_6 := vs_5.below hb6
  have d_6 := Below.trans d_5 (hb6.mono (d_5).size)
  obtain ⟨wx7, hm7, vs_7, km7, sm7⟩ := V.st vs_6 (A3)
  have d_7 := Below.trans d_6 (km7.below (d_6).size (fun j e => by have e : j = wx1.heap.size := e; omega))
  clear sm7 km7
  clear hle
  have ld8 := vs_7.ld
  obtain ⟨wx9, hr9⟩ : ∃ wz, wx7.alloc (.cells #[.int .i64 (6)] 3) = wz := ⟨_, rfl⟩
  have br9 : Below wx7.heap.size wx7 wx9 := by rw [← hr9]; exact (Below.refl _ _).alloc (Nat.le_refl _) _
  have nr9 : Nr wx9 (.slice (some ⟨wx7.heap.size, 0, none⟩) 1 1) [6] := by rw [← hr9]; exact nr_one _ _
  have vs_9 := vs_7.below br9
  have d_9 := Below.trans d_7 (br9.mono (d_7).size)
  go_wp2_with (first | (go_at_call 20; (with_reducible refine (n4 _ _ nr9).mono ?_); rintro e wx10 ⟨rfl, hb10⟩; refine Hid.out ?_) | fail)
  refine Lib.hid ?_
  have vs_10 := vs_9.below hb10
  have d_10 := Below.trans d_9 (hb10.mono (d_9).size)
  clear hm7 ld8 hr9
  go_wp2_with (first | (go_at_call 19; (with_reducible refine (n5 _).mono ?_); rintro e wx11 ⟨rfl, hb11⟩; refine Hid.out ?_) | fail)
  refine Lib.hid ?_
  have vs_11 := vs_10.below hb11
  have d_11 := Below.trans d_10 (hb11.mono (d_10).size)
  obtain ⟨wx12, hm12, vt_12, dm12, sm12⟩ := V.made wx11 (A5)
  clear sm12
  have vs_12 := vs_11.below dm12
  have d_12 := Below.trans d_11 (dm12.mono (d_11).size)
  have ld13 := vt_12.ld
  obtain ⟨wx14, hr14⟩ : ∃ wz, wx12.alloc (.cells #[.int .i64 (9)] 3) = wz := ⟨_, rfl⟩
  have br14 : Below wx12.heap.size wx12 wx14 := by rw [← hr14]; exact (Below.refl _ _).alloc (Nat.le_refl _) _
  have nr14 : Nr wx14 (.slice (some ⟨wx12.heap.size, 0, none⟩) 1 1) [9] := by rw [← hr14]; exact nr_one _ _
  have vs_14 := vs_12.below br14
  have vt_14 := vt_12.below br14
  have d_14 := Below.trans d_12 (br14.mono (d_12).size)
  go_wp2_with (first | (go_at_call 20; (with_reducible refine (n6 _ _ nr14).mono ?_); rintro e wx15 ⟨rfl, hb15⟩; refine Hid.out ?_) | fail)
  refine Lib.hid ?_
  have vs_15 := vs_14.below hb15
  have vt_15 := vt_14.below hb15
  have d_15 := Below.trans d_14 (hb15.mono (d_14).size)
  clear hm12 ld13 hr14
  go_wp2_with (first | (go_at_call 19; (with_reducible refine (n7 _).mono ?_); rintro e wx16 ⟨rfl, hb16⟩; refine Hid.out ?_) | fail)
  refine Lib.hid ?_
  have vs_16 := vs_15.below hb16
  have vt_16 := vt_15.below hb16
  have d_16 := Below.trans d_15 (hb16.mono (d_15).size)
  obtain ⟨wx17, hm17, vr_17, dm17, sm17⟩ := V.made wx16 (A7)
  clear sm17
  have vs_17 := vs_16.below dm17
  have vt_17 := vt_16.below dm17
  have d_17 := Below.trans d_16 (dm17.mono (d_16).size)
  have ld18 := vt_17.ld
  go_wp2_with (first | (go_at_call 21; (with_reducible refine (n8 _).mono ?_); rintro e wx19 ⟨rfl, hb19⟩; refine Hid.out ?_) | fail)
  refine Lib.hid ?_
  have vs_19 := vs_17.below hb19
  have vt_19 := vt_17.below hb19
  have d_19 := Below.trans d_17 (hb19.mono (d_17).size)
  clear hm17 ld18
  obtain ⟨wx20, hm20, vr_20, dm20, sm20⟩ := V.made wx19 (B1)
  clear sm20
  have vs_20 := vs_19.below dm20
  have vt_20 := vt_19.below dm20
  have d_20 := Below.trans d_19 (dm20.mono (d_19).size)
  have ld21 := vt_20.ld
  go_wp2_with (first | (go_at_call 21; (with_reducible refine (n9 _).mono ?_); rintro e wx22 ⟨rfl, hb22⟩; refine Hid.out ?_) | fail)
  refine Lib.hid ?_
  have vs_22 := vs_20.below hb22
  have vt_22 := vt_20.below hb22
  have d_22 := Below.trans d_20 (hb22.mono (d_20).size)
  clear hm20 ld21
  obtain ⟨wx23, hm23, vr_23, dm23, sm23⟩ := V.made wx22 (B2)
  clear sm23
  have vs_23 := vs_22.below dm23
  have vt_23 := vt_22.below dm23
  have d_23 := Below.trans d_22 (dm23.mono (d_22).size)
  have ld24 := vt_23.ld
  go_wp2_with (first | (go_at_call 18; (with_reducible refine (n10 _).mono ?_); rintro e wx25 ⟨rfl, hb25⟩; refine Hid.out ?_) | fail)
  refine Lib.hid ?_
  have vs_25 := vs_23.below hb25
  have vt_25 := vt_23.below hb25
  have d_25 := Below.trans d_23 (hb25.mono (d_23).size)
  clear hm23 ld24
  obtain ⟨wx26, hm26, vr_26, dm26, sm26⟩ := V.made wx25 (B3)
  clear sm26
  have vs_26 := vs_25.below dm26
  have vt_26 := vt_25.below dm26
  have d_26 := Below.trans d_25 (dm26.mono (d_25).size)
  have ld27 := vt_26.ld
  go_wp2_with (first | (go_at_call 18; (with_reducible refine (n11 _).mono ?_); rintro e wx28 ⟨rfl, hb28⟩; refine Hid.out ?_) | fail)
  refine Lib.hid ?_
  have vs_28 := vs_26.below hb28
  have vt_28 := vt_26.below hb28
  have d_28 := Below.trans d_26 (hb28.mono (d_26).size)
  clear hm26 ld27
  obtain ⟨wx29, hm29, vr_29, dm29, sm29⟩ := V.made wx28 (B4)
  clear sm29
  have vs_29 := vs_28.below dm29
  have vt_29 := vt_28.below dm29
  have d_29 := Below.trans d_28 (dm29.mono (d_28).size)
  have ld30 := vt_29.ld
  go_wp2_with (first | (go_at_call 22; (with_reducible refine (n12 _).mono ?_); rintro e wx31 ⟨rfl, hb31⟩; refine Hid.out ?_) | fail)
  refine Lib.hid ?_
  have vs_31 := vs_29.below hb31
  have vt_31 := vt_29.below hb31
  have d_31 := Below.trans d_29 (hb31.mono (d_29).size)
  clear hm29 ld30
  obtain ⟨wx32, hm32, vr_32, dm32, sm32⟩ := V.made wx31 (B5)
  clear sm32
  have vs_32 := vs_31.below dm32
  have vt_32 := vt_31.below dm32
  have d_32 := Below.trans d_31 (dm32.mono (d_31).size)
  go_wp2_with (first | (go_at_call 23; (with_reducible refine (n13 _).mono ?_); rintro e wx33 ⟨rfl, hb33⟩; refine Hid.out ?_) | fail)
  refine Lib.hid ?_
  have vs_33 := vs_32.below hb33
  have vt_33 := vt_32.below hb33
  have d_33 := Below.trans d_32 (hb33.mono (d_32).size)
  clear hm32
  obtain ⟨wx34, hm34, vr_34, dm34, sm34⟩ := V.made wx33 (B6)
  clear sm34
  have vs_34 := vs_33.below dm34
  have vt_34 := vt_33.below dm34
  have d_34 := Below.trans d_33 (dm34.mono (d_33).size)
  have ld35 := vt_34.ld
  go_wp2_with (first | (go_at_call 23; (with_reducible refine (n14 _).mono ?_); rintro e wx36 ⟨rfl, hb36⟩; refine Hid.out ?_) | fail)
  refine Lib.hid ?_
  have vs_36 := vs_34.below hb36
  have vt_36 := vt_34.below hb36
  have d_36 := Below.trans d_34 (hb36.mono (d_34).size)
  clear hm34 ld35
  obtain ⟨wx37, hm37, vu_37, dm37, sm37⟩ := V.made wx36 (U1)
  clear sm37
  have vs_37 := vs_36.below dm37
  have vt_37 := vt_36.below dm37
  have d_37 := Below.trans d_36 (dm37.mono (d_36).size)
  have ld38 := vu_37.ld
  go_wp2_with (first | (go_at_call 21; (with_reducible refine (n15 _).mono ?_); rintro e wx39 ⟨rfl, hb39⟩; refine Hid.out ?_) | fail)
  refine Lib.hid ?_
  have vs_39 := vs_37.below hb39
  have vu_39 := vu_37.below hb39
  have d_39 := Below.trans d_37 (hb39.mono (d_37).size)
  clear hm37 ld38
  obtain ⟨wx40, hm40, vv_40, dm40, sm40⟩ := V.made wx39 (V1)
  clear sm40
  have vs_40 := vs_39.below dm40
  have vu_40 := vu_39.below dm40
  have d_40 := Below.trans d_39 (dm40.mono (d_39).size)
  go_wp2_with (first | (go_at_call 24; (with_reducible refine (alive_any _).mono ?_); rintro e wx41 ⟨rfl, hb41⟩; refine Hid.out ?_) | fail)
  refine Lib.hid ?_
  have vs_41 := vs_40.below hb41
  have vu_41 := vu_40.below hb41
  have vv_41 := vv_40.below hb41
  have d_41 := Below.trans d_40 (hb41.mono (d_40).size)
  clear hm40
  have ce42 := vs_41.b18
  rw [p1] at ce42
  have ce43 := vu_41.b18
  rw [p2] at ce43
  have ce44 := vv_41.m1
  rw [p3] at ce44
  go_wp2_with (first | (go_at_call 14; (with_reducible refine (n16 _).mono ?_); rintro e wx45 ⟨rfl, hb45⟩; refine Hid.out ?_) | fail)
  refine Lib.hid ?_
  have d_45 := Below.trans d_41 (hb45.mono (d_41).size)
  clear ce42 ce43 ce44
  go_wp2_with (first | (go_at_call 14; (with_reducible refine (n17 _).mono ?_); rintro e wx46 ⟨rfl, hb46⟩; refine Hid.out ?_) | fail)
  refine Lib.hid ?_
  have d_46 := Below.trans d_45 (hb46.mono (d_45).size)
  go_wp2
  go_ret
  exact ⟨rfl, d_46⟩
end Go.Proofs.Ytlhhgapimhpgnaa.Walk
