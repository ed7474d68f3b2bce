/-
  CoreNames' walk.
-/
import Derived.Test.YtgnpbedhpkmkfaaDoorZAl
import Derived.Test.YtgnpbedhpkmkfaaDoorZNi
namespace Go.Proofs.YtgnpbedhpkmkfaaDoor.Walk
open Go Go.RowKit Kit Bk CoM CoR CoB CoC CoW CoI CoE CoY Bytes3 IsaT IsaU IsaV Sm Ru Rw Ar Av Ni
open IsaP (Ml)
open Al (mki alive_any)
set_option linter.unusedVariables false
attribute [local go_sem ↓] ldc_wrap stc_wrap

theorem step_to {u w w1 : World} {M B : Nat} {ad : Option Addr} {cap : Nat} {b : CoM.Bs} (hT : Tabs u) (hu : Below u.heap.size u w) (hr : RamR w b M B ad cap w1) (s : St) (hs : s.Ok) :
    Calls Tryd.prog 12 #[cv s, mv M] w1 fun e w' => e = .returned (.tuple #[cv (stepP s b).1, .int .i64 (stepP s b).2.1]) ∧ Wrote w1 B ad cap (stepP s b).2.2 w' ∧ Below w.heap.size w w' := by
  have h1 := hr.hM
  have h2 := hr.hB
  have h3 := hu.size
  refine (step_any w1 (hT.below (hu.trans (hr.bel.mono hu.size))) M B ad cap b hr.m hr.l (by omega) s hs).mono ?_
  rintro e w' ⟨he, hw⟩
  exact ⟨he, hw, hr.bel.trans (hw.kp.below hr.bel.size (fun j e => by omega))⟩
def zp (p : Int) : St := ⟨fun _ => 0, fun _ => (0, 0), p⟩
theorem zp_ok (p : Int) (h0 : 0 ≤ p) (h1 : p < 4294967296) : (zp p).Ok := ⟨fun _ => Int.le_refl 0, fun _ => (by decide : (0 : Int) < 4294967296), h0, h1⟩
set_option maxRecDepth 100000
theorem n2 : asm (ByteArray.mk #[108, 119, 32, 49, 32, 50, 32, 49, 10]).data.toList = .inr [252837889] := by kernel_rfl
theorem n3 : asm (ByteArray.mk #[110, 111, 112, 10, 110, 111, 112, 10]).data.toList = .inr [0, 0] := by kernel_rfl
theorem n5 : asm (ByteArray.mk #[110, 111, 112, 10]).data.toList = .inr [0] := by kernel_rfl
theorem n6 : asm (ByteArray.mk #[110, 111, 112, 10]).data.toList = .inr [0] := by kernel_rfl
theorem n7 : asm (ByteArray.mk #[106, 97, 108, 32, 50, 32, 45, 49, 10]).data.toList = .inr [371261439] := by kernel_rfl

set_option maxHeartbeats 4000000 in
theorem coreNames (w : World) (hT : Tabs w) (hM : Ml w) :
    Calls Tryd.prog 5 #[] w fun e w' => e = .returned (.bool true) ∧ Below w.heap.size w w' := by
  have hmi := mki
  have HT := Lib.hid hT
  have HM := Lib.hid hM
  have HRam := Lib.hid (fun (t : ByteArray) (ht : t.size ≤ 100000) (ws : List Nat) (ha : asm t.data.toList = .inr ws) wx (hb : Below w.heap.size w wx) => ram_any t ht ws ha wx (hT.below hb) (hM.below hb))
  clear hT hM
  have B00 := Lib.hid (Below.refl w.heap.size w)
  -- 1
  have HR0 : Hid (RamR w [255, 255, 255, 255] (w.heap.size + 1) w.heap.size (some ⟨w.heap.size, 0, none⟩) 4 ((w.alloc (.cells #[.int .u8 255, .int .u8 255, .int .u8 255, .int .u8 255] 5)).alloc (.cells #[.slice (some ⟨w.heap.size, 0, none⟩) 4 4] 34))) := Lib.hid (by
    have b1 := Blk.new w #[.int .u8 255, .int .u8 255, .int .u8 255, .int .u8 255] 5
    have b2 := Blk.new (w.alloc (.cells #[.int .u8 255, .int .u8 255, .int .u8 255, .int .u8 255] 5)) #[.slice (some ⟨w.heap.size, 0, none⟩) 4 4] 34
    have bb := (Below.refl (w.alloc (.cells #[.int .u8 255, .int .u8 255, .int .u8 255, .int .u8 255] 5)).heap.size _).alloc (Nat.le_refl _) (.cells #[.slice (some ⟨w.heap.size, 0, none⟩) 4 4] 34)
    rw [World.size_alloc] at b2
    refine ⟨b2, ⟨by decide, fun i => ?_, .inr ⟨rfl, by decide, by decide, _, _, b1.below bb, fun i hi => ?_⟩⟩, ⟨by decide, by decide⟩, Nat.le_refl _, by omega, ((Below.refl w.heap.size w).alloc (Nat.le_refl _) _).alloc (by simp) _⟩
    · match i with
      | 0 => decide
      | 1 => decide
      | 2 => decide
      | 3 => decide
      | (j + 4) => exact (by decide : (0 : Nat) < 256)
    · match i, hi with
      | 0, _ => rfl
      | 1, _ => rfl
      | 2, _ => rfl
      | 3, _ => rfl)
  have HD0 := B00
  go_enter Tryd.func5, Tryd.ntmps5
  obtain ⟨X1, hX⟩ : ∃ X, (stepP (zp 0) [255, 255, 255, 255]).1 = X := ⟨_, rfl⟩
  have HU1 : Hid (Calls Tryd.prog 12 #[.agg #[.int .u32 0, .int .u32 0, .int .u32 0, .int .u32 0, .int .u32 0, .int .u32 0, .int .u32 0, .int .u32 0, .complex .f64 0 0, .complex .f64 0 0, .int .u32 0], mv (w.heap.size + 1)] ((w.alloc (.cells #[.int .u8 255, .int .u8 255, .int .u8 255, .int .u8 255] 5)).alloc (.cells #[.slice (some ⟨w.heap.size, 0, none⟩) 4 4] 34)) fun e w' => e = .returned (.tuple #[.agg (cs X1), .int .i64 3]) ∧ Wrote ((w.alloc (.cells #[.int .u8 255, .int .u8 255, .int .u8 255, .int .u8 255] 5)).alloc (.cells #[.slice (some ⟨w.heap.size, 0, none⟩) 4 4] 34)) w.heap.size (some ⟨w.heap.size, 0, none⟩) 4 (stepP (zp 0) [255, 255, 255, 255]).2.2 w' ∧ Below w.heap.size w w') := Lib.hid (by
    have h := step_to HT.out HD0.out HR0.out (zp 0) (zp_ok 0 (by decide) (by decide))
    rw [show (stepP (zp 0) [255, 255, 255, 255]).2.1 = 3 from by kernel_rfl, hX] at h
    exact h)
  clear hX
  go_wp2_with (first | (go_at_call 12; (with_reducible refine HU1.out.mono ?_); rintro e w1a ⟨rfl, hw1, hb1⟩; refine Hid.out ?_))
  refine Lib.hid ?_
  clear hw1
  have HB1 := Lib.hid hb1
  have Q1 := Blk.new w1a zcs 30
  have h1 := run_stC Q1 rfl (cs_size X1) (cs_one _)
  have Q2 := CoC.Blk.setAll Q1 (ds := cs X1) rfl
  have bc := below_all w1a.heap.size (Nat.le_refl _) (cs X1).toList 0 ((Below.refl w1a.heap.size w1a).alloc (Nat.le_refl _) (.cells zcs 30))
  obtain ⟨w1b, hw⟩ : ∃ w3, World.setCells (w1a.alloc (.cells zcs 30)) w1a.heap.size 0 (cs X1).toList = w3 := ⟨_, rfl⟩
  rw [hw] at h1 Q2 bc
  have HD1 := Lib.hid ((HD0.out.trans (HB1.out.mono HD0.out.size)).trans (bc.mono (HD0.out.trans (HB1.out.mono HD0.out.size)).size))
  clear Q1 Q2 hw bc hb1
  go_wp2_with (first | (go_at_call 20; (with_reducible refine (HRam.out _ (by decide) _ n2 _ HD1.out).mono ?_); rintro e w2 ⟨M2, B2, ad2, cap2, rfl, hr2⟩; refine Hid.out ?_))
  refine Lib.hid ?_
  clear h1
  obtain ⟨X2, hX⟩ : ∃ X, (stepP (zp 0) (allB [252837889])).1 = X := ⟨_, rfl⟩
  have HU2 : Hid (Calls Tryd.prog 12 #[.agg #[.int .u32 0, .int .u32 0, .int .u32 0, .int .u32 0, .int .u32 0, .int .u32 0, .int .u32 0, .int .u32 0, .complex .f64 0 0, .complex .f64 0 0, .int .u32 0], mv M2] w2 fun e w' => e = .returned (.tuple #[.agg (cs X2), .int .i64 2]) ∧ Wrote w2 B2 ad2 cap2 (stepP (zp 0) (allB [252837889])).2.2 w' ∧ Below w1b.heap.size w1b w') := Lib.hid (by
    have h := step_to HT.out HD1.out hr2 (zp 0) (zp_ok 0 (by decide) (by decide))
    rw [show (stepP (zp 0) (allB [252837889])).2.1 = 2 from by kernel_rfl, hX] at h
    exact h)
  clear hX hr2
  go_wp2_with (first | (go_at_call 12; (with_reducible refine HU2.out.mono ?_); rintro e w2a ⟨rfl, hw2, hb2⟩; refine Hid.out ?_))
  refine Lib.hid ?_
  clear hw2
  have HB2 := Lib.hid hb2
  have Q1 := Blk.new w2a zcs 30
  have h1 := run_stC Q1 rfl (cs_size X2) (cs_one _)
  have Q2 := CoC.Blk.setAll Q1 (ds := cs X2) rfl
  have bc := below_all w2a.heap.size (Nat.le_refl _) (cs X2).toList 0 ((Below.refl w2a.heap.size w2a).alloc (Nat.le_refl _) (.cells zcs 30))
  obtain ⟨w2b, hw⟩ : ∃ w3, World.setCells (w2a.alloc (.cells zcs 30)) w2a.heap.size 0 (cs X2).toList = w3 := ⟨_, rfl⟩
  rw [hw] at h1 Q2 bc
  have HD2 := Lib.hid ((HD1.out.trans (HB2.out.mono HD1.out.size)).trans (bc.mono (HD1.out.trans (HB2.out.mono HD1.out.size)).size))
  clear Q1 Q2 hw bc hb2
  go_wp2_with (first | (go_at_call 20; (with_reducible refine (HRam.out _ (by decide) _ n3 _ HD2.out).mono ?_); rintro e w3 ⟨M3, B3, ad3, cap3, rfl, hr3⟩; refine Hid.out ?_))
  refine Lib.hid ?_
  clear h1
  obtain ⟨X3, hX⟩ : ∃ X, (stepP (zp 2) (allB [0, 0])).1 = X := ⟨_, rfl⟩
  have HU3 : Hid (Calls Tryd.prog 12 #[.agg #[.int .u32 0, .int .u32 0, .int .u32 0, .int .u32 0, .int .u32 0, .int .u32 0, .int .u32 0, .int .u32 0, .complex .f64 0 0, .complex .f64 0 0, .int .u32 2], mv M3] w3 fun e w' => e = .returned (.tuple #[.agg (cs X3), .int .i64 2]) ∧ Wrote w3 B3 ad3 cap3 (stepP (zp 2) (allB [0, 0])).2.2 w' ∧ Below w2b.heap.size w2b w') := Lib.hid (by
    have h := step_to HT.out HD2.out hr3 (zp 2) (zp_ok 2 (by decide) (by decide))
    rw [show (stepP (zp 2) (allB [0, 0])).2.1 = 2 from by kernel_rfl, hX] at h
    exact h)
  clear hX hr3
  go_wp2_with (first | (go_at_call 12; (with_reducible refine HU3.out.mono ?_); rintro e w3a ⟨rfl, hw3, hb3⟩; refine Hid.out ?_))
  refine Lib.hid ?_
  clear hw3
  have HB3 := Lib.hid hb3
  have Q1 := Blk.new w3a zcs 30
  have h1 := run_stC Q1 rfl (cs_size X3) (cs_one _)
  have Q2 := CoC.Blk.setAll Q1 (ds := cs X3) rfl
  have bc := below_all w3a.heap.size (Nat.le_refl _) (cs X3).toList 0 ((Below.refl w3a.heap.size w3a).alloc (Nat.le_refl _) (.cells zcs 30))
  obtain ⟨w3b, hw⟩ : ∃ w3, World.setCells (w3a.alloc (.cells zcs 30)) w3a.heap.size 0 (cs X3).toList = w3 := ⟨_, rfl⟩
  rw [hw] at h1 Q2 bc
  have HD3 := Lib.hid ((HD2.out.trans (HB3.out.mono HD2.out.size)).trans (bc.mono (HD2.out.trans (HB3.out.mono HD2.out.size)).size))
  clear Q1 Q2 hw bc hb3
  have HU4 : Hid (Calls Tryd.prog 12 #[.agg zcs, .nilIface] w3b fun e w' => e = .returned (.tuple #[.agg (cs (zp 0)), .int .i64 2]) ∧ Below w3b.heap.size w3b w') := Lib.hid (step_nil w3b (zp 0) (zp_ok 0 (by decide) (by decide)))
  go_wp2_with (first | (go_at_call 12; (with_reducible refine HU4.out.mono ?_); rintro e w4a ⟨rfl, hb4⟩; refine Hid.out ?_))
  refine Lib.hid ?_
  clear h1
  have HB4 := Lib.hid hb4
  have Q1 := Blk.new w4a zcs 30
  have h1 := run_stC Q1 rfl (cs_size (zp 0)) (cs_one _)
  have Q2 := CoC.Blk.setAll Q1 (ds := cs (zp 0)) rfl
  have bc := below_all w4a.heap.size (Nat.le_refl _) (cs (zp 0)).toList 0 ((Below.refl w4a.heap.size w4a).alloc (Nat.le_refl _) (.cells zcs 30))
  obtain ⟨w4b, hw⟩ : ∃ w3, World.setCells (w4a.alloc (.cells zcs 30)) w4a.heap.size 0 (cs (zp 0)).toList = w3 := ⟨_, rfl⟩
  rw [hw] at h1 Q2 bc
  have HD4 := Lib.hid ((HD3.out.trans (HB4.out.mono HD3.out.size)).trans (bc.mono (HD3.out.trans (HB4.out.mono HD3.out.size)).size))
  clear Q1 Q2 hw bc hb4
  go_wp2_with (first | (go_at_call 20; (with_reducible refine (HRam.out _ (by decide) _ n5 _ HD4.out).mono ?_); rintro e w5 ⟨M5, B5, ad5, cap5, rfl, hr5⟩; refine Hid.out ?_))
  refine Lib.hid ?_
  clear h1
  obtain ⟨X5, hX⟩ : ∃ X, (stepP (zp 4) (allB [0])).1 = X := ⟨_, rfl⟩
  have HU5 : Hid (Calls Tryd.prog 12 #[.agg #[.int .u32 0, .int .u32 0, .int .u32 0, .int .u32 0, .int .u32 0, .int .u32 0, .int .u32 0, .int .u32 0, .complex .f64 0 0, .complex .f64 0 0, .int .u32 4], mv M5] w5 fun e w' => e = .returned (.tuple #[.agg (cs X5), .int .i64 2]) ∧ Wrote w5 B5 ad5 cap5 (stepP (zp 4) (allB [0])).2.2 w' ∧ Below w4b.heap.size w4b w') := Lib.hid (by
    have h := step_to HT.out HD4.out hr5 (zp 4) (zp_ok 4 (by decide) (by decide))
    rw [show (stepP (zp 4) (allB [0])).2.1 = 2 from by kernel_rfl, hX] at h
    exact h)
  clear hX hr5
  go_wp2_with (first | (go_at_call 12; (with_reducible refine HU5.out.mono ?_); rintro e w5a ⟨rfl, hw5, hb5⟩; refine Hid.out ?_))
  refine Lib.hid ?_
  clear hw5
  have HB5 := Lib.hid hb5
  have Q1 := Blk.new w5a zcs 30
  have h1 := run_stC Q1 rfl (cs_size X5) (cs_one _)
  have Q2 := CoC.Blk.setAll Q1 (ds := cs X5) rfl
  have bc := below_all w5a.heap.size (Nat.le_refl _) (cs X5).toList 0 ((Below.refl w5a.heap.size w5a).alloc (Nat.le_refl _) (.cells zcs 30))
  obtain ⟨w5b, hw⟩ : ∃ w3, World.setCells (w5a.alloc (.cells zcs 30)) w5a.heap.size 0 (cs X5).toList = w3 := ⟨_, rfl⟩
  rw [hw] at h1 Q2 bc
  have HD5 := Lib.hid ((HD4.out.trans (HB5.out.mono HD4.out.size)).trans (bc.mono (HD4.out.trans (HB5.out.mono HD4.out.size)).size))
  clear Q1 Q2 hw bc hb5
  go_wp2_with (first | (go_at_call 20; (with_reducible refine (HRam.out _ (by decide) _ n6 _ HD5.out).mono ?_); rintro e w6 ⟨M6, B6, ad6, cap6, rfl, hr6⟩; refine Hid.out ?_))
  refine Lib.hid ?_
  clear h1
  have HU6 : Hid (Calls Tryd.prog 15 #[.agg zcs, mv M6, .int .i64 0] w6 fun e w' => e = .returned (.tuple #[.agg (cs (zp 0)), .int .i64 0, .int .i64 0]) ∧ Wrote w6 B6 ad6 cap6 (allB [0]) w' ∧ Below w5b.heap.size w5b w') := Lib.hid (run_to HT.out HD5.out hr6 (zp 0) (zp_ok 0 (by decide) (by decide)) 0 (by decide) (ends_full (fun j hj => by
    obtain rfl : j = 0 := by omega
    rfl)))
  clear hr6
  go_wp2_with (first | (go_at_call 15; (with_reducible refine HU6.out.mono ?_); rintro e w6a ⟨rfl, hw6, hb6⟩; refine Hid.out ?_))
  refine Lib.hid ?_
  clear hw6
  have HB6 := Lib.hid hb6
  have Q1 := Blk.new w6a zcs 30
  have h1 := run_stC Q1 rfl (cs_size (zp 0)) (cs_one _)
  have Q2 := CoC.Blk.setAll Q1 (ds := cs (zp 0)) rfl
  have bc := below_all w6a.heap.size (Nat.le_refl _) (cs (zp 0)).toList 0 ((Below.refl w6a.heap.size w6a).alloc (Nat.le_refl _) (.cells zcs 30))
  obtain ⟨w6b, hw⟩ : ∃ w3, World.setCells (w6a.alloc (.cells zcs 30)) w6a.heap.size 0 (cs (zp 0)).toList = w3 := ⟨_, rfl⟩
  rw [hw] at h1 Q2 bc
  have HD6 := Lib.hid ((HD5.out.trans (HB6.out.mono HD5.out.size)).trans (bc.mono (HD5.out.trans (HB6.out.mono HD5.out.size)).size))
  have HP6 := Lib.hid Q2
  clear Q1 Q2 hw bc hb6
  go_wp2_with (first | (go_at_call 20; (with_reducible refine (HRam.out _ (by decide) _ n7 _ HD6.out).mono ?_); rintro e w7 ⟨M7, B7, ad7, cap7, rfl, hr7⟩; refine Hid.out ?_))
  refine Lib.hid ?_
  clear h1
  obtain ⟨X7, hX⟩ : ∃ X, (stepP (zp 0) (allB [371261439])).1 = X := ⟨_, rfl⟩
  have HX7 : Hid (X7.r 2 = 4 ∧ X7.pc = 0) := Lib.hid (by rw [← hX]; exact ⟨by kernel_rfl, by kernel_rfl⟩)
  have HU7 : Hid (Calls Tryd.prog 12 #[.agg #[.int .u32 0, .int .u32 0, .int .u32 0, .int .u32 0, .int .u32 0, .int .u32 0, .int .u32 0, .int .u32 0, .complex .f64 0 0, .complex .f64 0 0, .int .u32 0], mv M7] w7 fun e w' => e = .returned (.tuple #[.agg (cs X7), .int .i64 0]) ∧ Wrote w7 B7 ad7 cap7 (stepP (zp 0) (allB [371261439])).2.2 w' ∧ Below w6b.heap.size w6b w') := Lib.hid (by
    have h := step_to HT.out HD6.out hr7 (zp 0) (zp_ok 0 (by decide) (by decide))
    rw [show (stepP (zp 0) (allB [371261439])).2.1 = 0 from by kernel_rfl, hX] at h
    exact h)
  clear hX hr7
  go_wp2_with (first | (go_at_call 12; (with_reducible refine HU7.out.mono ?_); rintro e w7a ⟨rfl, hw7, hb7⟩; refine Hid.out ?_))
  refine Lib.hid ?_
  clear hw7
  have HB7 := Lib.hid hb7
  have Q1 := Blk.new w7a zcs 30
  have h1 := run_stC Q1 rfl (cs_size X7) (cs_one _)
  have Q2 := CoC.Blk.setAll Q1 (ds := cs X7) rfl
  have bc := below_all w7a.heap.size (Nat.le_refl _) (cs X7).toList 0 ((Below.refl w7a.heap.size w7a).alloc (Nat.le_refl _) (.cells zcs 30))
  obtain ⟨w7b, hw⟩ : ∃ w3, World.setCells (w7a.alloc (.cells zcs 30)) w7a.heap.size 0 (cs X7).toList = w3 := ⟨_, rfl⟩
  rw [hw] at h1 Q2 bc
  have HD7 := Lib.hid ((HD6.out.trans (HB7.out.mono HD6.out.size)).trans (bc.mono (HD6.out.trans (HB7.out.mono HD6.out.size)).size))
  have HP7 := Lib.hid Q2
  have HP6 := Lib.hid ((HP6.out.below HB7.out).below bc)
  clear Q1 Q2 hw bc hb7
  have HWn := Lib.hid word_nil
  have HA := Lib.hid (alive_any w7b (HT.out.below HD7.out) (HM.out.below HD7.out))
  have HSn := Lib.hid setByte_nil
  have HSt := Lib.hid (fun wx (hb : Below w7b.heap.size w7b wx) => (show wx.cell? ⟨w6a.heap.size, 10, none⟩ = some (.int .u32 0) ∧ wx.cell? ⟨w7a.heap.size, 2, none⟩ = some (.int .u32 4) ∧ wx.cell? ⟨w7a.heap.size, 10, none⟩ = some (.int .u32 0) from by
    obtain ⟨x1, x2⟩ := HX7.out
    refine ⟨?_, ?_, ?_⟩
    · rw [(HP6.out.below hb).cell]; rfl
    · rw [(HP7.out.below hb).cell, cs_r X7 (by decide), x1]
    · rw [(HP7.out.below hb).cell, cs_pc, x2]))
  go_wp2_with (first | (go_at_call 18; (with_reducible refine (HWn.out _).mono ?_); rintro e w8 ⟨rfl, rfl⟩) | (go_at_call 21; (with_reducible refine HA.out.mono ?_); rintro e w9 ⟨rfl, hb9⟩; refine Hid.out ?_))
  refine Lib.hid ?_
  obtain ⟨c1, c2, c3⟩ := HSt.out _ hb9
  have HB9 := Lib.hid hb9
  clear hb9 h1
  go_wp2_with (first | (go_at_call 19; (with_reducible refine (HSn.out _).mono ?_); rintro e w10 ⟨rfl, hb10⟩; refine Hid.out ?_))
  refine Lib.hid ?_
  have HB10 := Lib.hid hb10
  clear hb10
  go_wp2
  go_ret
  exact ⟨rfl, (HD7.out.trans (HB9.out.mono HD7.out.size)).trans (HB10.out.mono (HD7.out.trans (HB9.out.mono HD7.out.size)).size)⟩
end Go.Proofs.YtgnpbedhpkmkfaaDoor.Walk
