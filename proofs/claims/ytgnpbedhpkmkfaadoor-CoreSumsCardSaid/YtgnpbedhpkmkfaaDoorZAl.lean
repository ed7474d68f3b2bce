/-
  alive: the chapter's examples.
-/
import Derived.Test.YtgnpbedhpkmkfaaDoorZAv
import Derived.Test.YtgnpbedhpkmkfaaDoorZGn
namespace Go.Proofs.YtgnpbedhpkmkfaaDoor.Al
open Go Go.RowKit Kit Bk CoM CoR CoB CoC CoW CoI CoE CoY Bytes3 IsaT IsaU IsaV Sm Ru Rw Ar Av
open IsaP (Ml)
open Fl Whole Gleaf Gparts Gwhole Gnums Gg WordsG
set_option linter.unusedVariables false
attribute [local go_sem ↓] ldc_wrap stc_wrap

theorem mki (M : Nat) (w : World) : (Instr.makeInterface 32 (pm M)).run Tryd.prog w = .ok (mv M) w := by kernel_rfl
theorem mk_any (w : World) : Calls Tryd.prog 44 #[.int .i64 (-5), .int .i64 12] w fun e w' => e = .returned (.complex .f64 13840687554816376832 4622945017495814144) ∧ w = w' := by
  have h := Gnums.make_any (-5) 12 w
  rw [show fl (wr (-5)) = 13840687554816376832 from by kernel_rfl, show fl (wr 12) = 4622945017495814144 from by kernel_rfl] at h
  exact h

set_option maxRecDepth 100000 in
set_option maxHeartbeats 4000000 in
theorem alive_any (w : World) (hT : Tabs w) (hM : Ml w) :
    Calls Tryd.prog 21 #[] w fun e w' => e = .returned (.bool true) ∧ Below w.heap.size w w' := by
  have HR1 := Lib.hid (ram_any p1 (by decide) _ a1 w hT hM)
  have HR2 := Lib.hid (fun wx (hb : Below w.heap.size w wx) => ram_any p2 (by decide) _ a2 wx (hT.below hb) (hM.below hb))
  have hmi := mki
  obtain ⟨X1, b1, hE1, hx1, hx2⟩ := e1
  obtain ⟨X2, b2, hE2, hx3, hx4, hx5⟩ := e2
  have HE1 := Lib.hid hE1
  have HE2 := Lib.hid hE2
  have HX := Lib.hid (And.intro hx1 (And.intro hx2 (And.intro hx3 (And.intro hx4 hx5))))
  have HT := Lib.hid hT
  have B00 := Lib.hid (Below.refl w.heap.size w)
  clear hE1 hE2 hx1 hx2 hx3 hx4 hx5 hT hM
  go_enter Tryd.func21, Tryd.ntmps21
  go_wp2_with (first | (go_at_call 20; (with_reducible refine HR1.out.mono ?_); rintro e w1 ⟨M1, B1, ad1, cap1, rfl, hr1⟩; refine Hid.out ?_))
  refine Lib.hid ?_
  have HRr := Lib.hid hr1
  have HU1 : Hid (Calls Tryd.prog 15 #[.agg zcs, mv M1, .int .i64 99] w1 fun e w' => e = .returned (.tuple #[.agg (cs X1), .int .i64 2, .int .i64 1]) ∧ Wrote w1 B1 ad1 cap1 b1 w' ∧ Below w.heap.size w w') := Lib.hid (run_to HT.out B00.out hr1 z0 z0_ok 99 (by decide) HE1.out)
  clear hr1
  go_wp2_with (first | (go_at_call 15; (with_reducible refine HU1.out.mono ?_); rintro e w2 ⟨rfl, hw2, hb2⟩; refine Hid.out ?_))
  refine Lib.hid ?_
  have HB2 := Lib.hid hb2
  have Q1 := Blk.new w2 zcs 30
  have h1 := run_stC Q1 rfl (cs_size X1) (cs_one _)
  have Q2 := CoC.Blk.setAll Q1 (ds := cs X1) rfl
  have bc := below_all w2.heap.size (Nat.le_refl _) (cs X1).toList 0 ((Below.refl w2.heap.size w2).alloc (Nat.le_refl _) (.cells zcs 30))
  obtain ⟨w3, hw3⟩ : ∃ w3, World.setCells (w2.alloc (.cells zcs 30)) w2.heap.size 0 (cs X1).toList = w3 := ⟨_, rfl⟩
  rw [hw3] at h1 Q2 bc
  have HD3 := Lib.hid (HB2.out.trans (bc.mono HB2.out.size))
  have HP1 := Lib.hid Q2
  clear Q1 Q2 hw3 bc hw2 hb2 HU1
  go_wp2_with (first | (go_at_call 20; (with_reducible refine (HR2.out _ HD3.out).mono ?_); rintro e w4 ⟨M2, B2, ad2, cap2, rfl, hr2⟩; refine Hid.out ?_))
  refine Lib.hid ?_
  have HU2 : Hid (Calls Tryd.prog 15 #[.agg #[.int .u32 0, .int .u32 2, .int .u32 3, .int .u32 0, .int .u32 0, .int .u32 0, .int .u32 0, .int .u32 0, .complex .f64 0 0, .complex .f64 0 0, .int .u32 0], mv M2, .int .i64 3] w4 fun e w' => e = .returned (.tuple #[.agg (cs X2), .int .i64 3, .int .i64 0]) ∧ Wrote w4 B2 ad2 cap2 b2 w' ∧ Below w3.heap.size w3 w') := Lib.hid (run_to HT.out HD3.out hr2 z1 z1_ok 3 (by decide) HE2.out)
  clear hr2 h1
  go_wp2_with (first | (go_at_call 15; (with_reducible refine HU2.out.mono ?_); rintro e w5 ⟨rfl, hw5, hb5⟩; refine Hid.out ?_))
  refine Lib.hid ?_
  have HB5 := Lib.hid hb5
  have Q1 := Blk.new w5 zcs 30
  have h1 := run_stC Q1 rfl (cs_size X2) (cs_one _)
  have Q2 := CoC.Blk.setAll Q1 (ds := cs X2) rfl
  have bc := below_all w5.heap.size (Nat.le_refl _) (cs X2).toList 0 ((Below.refl w5.heap.size w5).alloc (Nat.le_refl _) (.cells zcs 30))
  obtain ⟨w6, hw6⟩ : ∃ w6, World.setCells (w5.alloc (.cells zcs 30)) w5.heap.size 0 (cs X2).toList = w6 := ⟨_, rfl⟩
  rw [hw6] at h1 Q2 bc
  have HD6 := Lib.hid ((HD3.out.trans (HB5.out.mono HD3.out.size)).trans (bc.mono (HD3.out.trans (HB5.out.mono HD3.out.size)).size))
  have HP2 := Lib.hid Q2
  have HP3 := Lib.hid ((HP1.out.below HB5.out).below bc)
  clear Q1 Q2 hw6 bc hw5 hb5 HU2
  have HSt := Lib.hid (fun wx (hb : Below w6.heap.size w6 wx) => (show wx.cell? ⟨w2.heap.size, 1, none⟩ = some (.int .u32 10) ∧ wx.cell? ⟨w2.heap.size, 10, none⟩ = some (.int .u32 8) ∧ wx.cell? ⟨w5.heap.size, 8, none⟩ = some (.complex .f64 13840687554816376832 4622945017495814144) ∧ wx.cell? ⟨w5.heap.size, 4, none⟩ = some (.int .u32 4294967291) ∧ wx.cell? ⟨w5.heap.size, 5, none⟩ = some (.int .u32 12) from by
    obtain ⟨x1, x2, x3, x4, x5⟩ := HX.out
    refine ⟨?_, ?_, ?_, ?_, ?_⟩
    · rw [(HP3.out.below hb).cell, cs_r X1 (by decide), x1]
    · rw [(HP3.out.below hb).cell, cs_pc, x2]
    · rw [(HP2.out.below hb).cell, show (8 : Nat) = 8 + 0 from rfl, cs_z X2 (by decide), x5]
    · rw [(HP2.out.below hb).cell, cs_r X2 (by decide), x3]
    · rw [(HP2.out.below hb).cell, cs_r X2 (by decide), x4]))
  have B0 := (Below.refl w6.heap.size w6).drew
  have HMk := Lib.hid mk_any
  go_wp2
  clear h1
  go_region_held (fun wx => wx.cell? ⟨w2.heap.size, 1, none⟩ = some (.int .u32 10) ∧ wx.cell? ⟨w2.heap.size, 10, none⟩ = some (.int .u32 8) ∧ wx.cell? ⟨w5.heap.size, 8, none⟩ = some (.complex .f64 13840687554816376832 4622945017495814144) ∧ wx.cell? ⟨w5.heap.size, 4, none⟩ = some (.int .u32 4294967291) ∧ wx.cell? ⟨w5.heap.size, 5, none⟩ = some (.int .u32 12)) (first | exact HSt.out _ B0 | go_keep) ((go_at_call 44; (with_reducible refine (HMk.out _).mono ?_); rintro e w7 ⟨rfl, rfl⟩))
  go_wp2
  go_ret
  exact ⟨rfl, HD6.out.trans (B0.mono HD6.out.size)⟩
end Go.Proofs.YtgnpbedhpkmkfaaDoor.Al
