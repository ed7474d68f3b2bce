/-
  Step: what lw, sw, lb, sb.
-/
import Derived.Test.YtgnpbedhpkmkfaaDoorZCoZ
namespace Go.Proofs.YtgnpbedhpkmkfaaDoor.CoA
open Go Go.RowKit Kit Bk CoM CoR CoB CoW CoI CoF CoT CoU CoV CoC CoX CoY IsaM IsaT IsaL IsaC IsaE IsaN
set_option linter.unusedVariables false
attribute [local go_sem ↓] ldc_wrap stc_wrap

set_option maxRecDepth 100000 in
set_option maxHeartbeats 2000000 in
theorem mem_15 (w : World) (hT : Tabs w) (M B : Nat) (ad : Option Addr) (cap : Nat) (bs : CoM.Bs) (hM : RamAt w M ad cap bs) (hL : Lies w B ad cap bs) (s : St) (hs : s.Ok) (a b : Nat) (i : Int) (hf : fetchP s.pc bs = .inr (15, a, b, i)) (hfit : Fits 15 a b i) (v : Int) (bs' : CoM.Bs) (hB0 : B < w.heap.size)
    (HR : Hid (∀ wx, Below w.heap.size w wx → Calls Tryd.prog 28 #[plc (memAt 15 b i s) 4 false, mv M, uv (s.r a)] wx fun e w' => e = .returned (.tuple #[uv v, .bool true]) ∧ Wrote wx B ad cap bs' w')) :
    Calls Tryd.prog 12 #[cv s, mv M] w fun e w' => e = .returned (.tuple #[cv (setP (setR s a v) (nxt 15 (s.r a) i s.pc)), .int .i64 0]) ∧ Wrote w B ad cap bs' w' := by
  have hbd := hfit.bd
  have ha : a < 8 := by omega
  have hb : b < 8 := by omega
  have HF : Hid (∀ wx, Below w.heap.size w wx → Calls Tryd.prog 23 #[cv s, mv M] wx fun e w' => e = .returned (.tuple #[.agg #[.int .i64 15, .int .i64 (a : Int), .int .i64 (b : Int), .int .i64 i], .int .i64 0]) ∧ Below wx.heap.size wx w') := Lib.hid (fun wx hb => by
    have := fetch_any wx (hT.below hb) M B ad cap bs (hM.below hb) (Lies.below hL hb) s hs
    rw [hf] at this
    exact this)
  obtain ⟨P, hP⟩ : ∃ P, nxt 15 (s.r a) i s.pc = P := ⟨_, rfl⟩
  have HNX : Hid (∀ wx, Calls Tryd.prog 31 #[.agg #[.int .i64 15, .int .i64 (a : Int), .int .i64 (b : Int), .int .i64 i], cv s] wx fun e w' => e = .returned (uv P) ∧ Below wx.heap.size wx w') := Lib.hid (fun wx => by have := next_any wx 15 a b i ha hb s hs; rw [hP] at this; exact this)
  rw [hP]
  have HSR := Lib.hid (cs_setR s (k := a) v ha)
  have HTC : Hid (∀ wx, Calls Tryd.prog 24 #[.agg #[.int .i64 15, .int .i64 (a : Int), .int .i64 (b : Int), .int .i64 i], cv s] wx fun e w' => e = .returned (plc (memAt 15 b i s) 4 false) ∧ Below wx.heap.size wx w') := Lib.hid (fun wx => touched_any wx 15 a b i hb s hs)
  generalize memAt 15 b i s = at0 at *
  have hai : (a : Int) < 8 := by omega
  have hai0 : (0 : Int) ≤ (a : Int) := by omega
  have hca := cs_r s ha
  have hBl := CoY.Lies.lt hL
  have B2 := ((Below.refl w.heap.size w).alloc (Nat.le_refl _) (.cells (cs s) 30)).alloc (by simp) (.cells zcs 30)
  have C1 := (Blk.new w (cs s) 30).below ((Below.refl _ _).alloc (Nat.le_refl _) (.cells zcs 30))
  have R1 := Blk.new (w.alloc (.cells (cs s) 30)) zcs 30
  rw [World.size_alloc] at R1
  have h0 := run_ldC C1 (cs_size s)
  clear hT hf hs hbd hfit hb hP
  clear hM
  go_enter Tryd.func12, Tryd.ntmps12
  go_wp2_with (first | (go_at_call 23; (with_reducible refine (HF.out _ B2).mono ?_); rintro e w1 ⟨rfl, hb1⟩; refine Hid.out ?_))
  refine Lib.hid ?_
  have bb1 := hb1.trans (((Below.refl w1.heap.size w1).alloc (Nat.le_refl _) (.cells #[.int .i64 15, .int .i64 (a : Int), .int .i64 (b : Int), .int .i64 i] 61)).mono hb1.size)
  have bb2 := bb1.trans (((Below.refl (w1.alloc (.cells #[.int .i64 15, .int .i64 (a : Int), .int .i64 (b : Int), .int .i64 i] 61)).heap.size (w1.alloc (.cells #[.int .i64 15, .int .i64 (a : Int), .int .i64 (b : Int), .int .i64 i] 61))).alloc (Nat.le_refl _) (.cells zcs 30)).mono bb1.size)
  have h1 := run_ldC (C1.below bb1) (cs_size s)
  have E1 := Blk.new (w1.alloc (.cells #[.int .i64 15, .int .i64 (a : Int), .int .i64 (b : Int), .int .i64 i] 61)) zcs 30
  have X1 := (Blk.new w1 #[.int .i64 15, .int .i64 (a : Int), .int .i64 (b : Int), .int .i64 i] 61).below ((Below.refl _ _).alloc (Nat.le_refl _) (.cells zcs 30))
  rw [World.size_alloc] at E1
  have hnX : w.heap.size + 1 < w1.heap.size := by have := hb1.size; simp at this; omega
  have F1 : Four w w.heap.size w1.heap.size s 15 a b i zcs ((w1.alloc (.cells #[.int .i64 15, .int .i64 (a : Int), .int .i64 (b : Int), .int .i64 i] 61)).alloc (.cells zcs 30)) := ⟨C1.below bb2, R1.below bb2, X1, E1, hnX⟩
  have h2 := run_stC E1 rfl (cs_size s) (cs_one s)
  have F2 := F1.all (cs s) rfl
  have W2 := Wrote.sets hBl (w1.heap.size + 1) (by omega) (cs s).toList 0 (Wrote.of_below hL (B2.trans (bb2.mono B2.size)))
  obtain ⟨w2, hw2⟩ : ∃ w2, World.setCells ((w1.alloc (.cells #[.int .i64 15, .int .i64 (a : Int), .int .i64 (b : Int), .int .i64 i] 61)).alloc (.cells zcs 30)) (w1.heap.size + 1) 0 (cs s).toList = w2 := ⟨_, rfl⟩
  have D2 := below_all (w1.heap.size + 1) (by omega) (cs s).toList 0 (B2.trans (bb2.mono B2.size))
  rw [hw2] at h2 F2 W2 D2
  have x0 := F2.x.cell 0
  clear hw2 F1 E1 X1 bb1 bb2 C1 R1 h0 hb1 B2 hL
  go_wp2
  have HCA := Lib.hid hca
  have HF := Lib.hid (fun wx (F : Four w w.heap.size w1.heap.size s 15 a b i (cs s) wx) => (show (wx.cell? ⟨w1.heap.size, 0, none⟩ = some (.int .i64 15) ∧ wx.cell? ⟨w1.heap.size, 1, none⟩ = some (.int .i64 (a : Int)) ∧ wx.cell? ⟨w1.heap.size, 2, none⟩ = some (.int .i64 (b : Int)) ∧ wx.cell? ⟨w1.heap.size, 3, none⟩ = some (.int .i64 i)) ∧ (ldC (.pointer (some ⟨w.heap.size, 0, none⟩))).run Tryd.prog wx = .ok (.agg (cs s)) wx ∧ wx.cell? ⟨w.heap.size, a, none⟩ = some (uv (s.r a)) from ⟨⟨F.x.cell 0, F.x.cell 1, F.x.cell 2, F.x.cell 3⟩, run_ldC F.c (cs_size s), (F.c.cell a).trans HCA.out⟩))
  have HF2 := Lib.hid F2
  have HW2 := Lib.hid W2
  have HD2 := Lib.hid D2
  clear F2 W2 D2 h1 h2
  have B0 := (Below.refl w2.heap.size w2).drew
  go_region_held (fun wx => (wx.cell? ⟨w1.heap.size, 0, none⟩ = some (.int .i64 15) ∧ wx.cell? ⟨w1.heap.size, 1, none⟩ = some (.int .i64 (a : Int)) ∧ wx.cell? ⟨w1.heap.size, 2, none⟩ = some (.int .i64 (b : Int)) ∧ wx.cell? ⟨w1.heap.size, 3, none⟩ = some (.int .i64 i)) ∧ (ldC (.pointer (some ⟨w.heap.size, 0, none⟩))).run Tryd.prog wx = .ok (.agg (cs s)) wx ∧ wx.cell? ⟨w.heap.size, a, none⟩ = some (uv (s.r a))) (first | exact HF.out _ F4 | exact HF.out _ (HF2.out.below B3) | exact HF.out _ (HF2.out.below B0) | go_keep) (first | (go_at_call 24; (with_reducible refine (HTC.out _).mono ?_); rintro e w3 ⟨rfl, hb3⟩; have B3 := B0.trans hb3) | (go_at_call 28; (with_reducible refine (HR.out _ (HD2.out.trans (B3.mono HD2.out.size))).mono ?_); rintro e w4 ⟨rfl, hb4⟩; have F4 := (HF2.out.below B3).kept hb4.kp hB0))
  have W4 : Wrote w B ad cap bs' w4 := (HW2.out.below B3).trans hb4
  have y1 := F4.e.cell a
  rw [hca] at y1
  have f1 := F4.e.free a
  have x1 := F4.x.cell 1
  have F5 := F4.set a (uv v)
  rw [HSR.out] at F5
  have hB' : bs' = [] ∨ B < w.heap.size := .inr hB0
  have W5 := W4.set hB' (w1.heap.size + 1) a (uv v) (by omega)
  clear F4 W4 B3 B0 hb3 hb4 hBl
  have hBl := hB'
  have HN : Hid (∀ wx, Calls Tryd.prog 31 #[.agg #[.int .i64 15, .int .i64 (a : Int), .int .i64 (b : Int), .int .i64 i], cv s] wx fun e w' => e = .returned (uv P) ∧ Below wx.heap.size wx w') := HNX
  have g1 := run_ldC F5.c (cs_size s)
  have z0 := F5.x.cell 0
  have z1 := F5.x.cell 1
  have z2 := F5.x.cell 2
  have z3 := F5.x.cell 3
  go_wp2_with (first | (go_at_call 31; (with_reducible refine (HN.out _).mono ?_); rintro e w5 ⟨rfl, hb5⟩; refine Hid.out ?_))
  refine Lib.hid ?_
  have F5 := F5.below hb5
  have W5 := W5.below hb5
  clear g1 z0 z1 z2 z3 hb5
  have y10 := F5.e.cell 10
  rw [cs_pc] at y10
  have f10 := F5.e.free 10
  have F6 := F5.set 10 (uv P)
  rw [cs_setP] at F6
  have W6 := W5.set hBl (w1.heap.size + 1) 10 (uv P) (by omega)
  have h3 := run_ldC F6.e (cs_size _)
  have h4 := run_stC F6.r rfl (cs_size (setP (setR s a v) P)) (cs_one _)
  have HR := Lib.hid (Blk.setAll F6.r (ds := cs (setP (setR s a v) P)) rfl)
  have HS := Lib.hid (cs_size (setP (setR s a v) P))
  have HW := Lib.hid (Wrote.sets hBl (w.heap.size + 1) (by omega) (cs (setP (setR s a v) P)).toList 0 W6)
  clear F5 F6 W5 W6
  generalize hD : cs (setP (setR s a v) P) = D at *
  have HE := Lib.hid hD
  clear hD
  go_wp2
  refine bodyPost_ret (v := .tuple #[.agg D, .int .i64 0]) ?_ rfl ⟨by rw [← HE.out], HW.out⟩
  exact results_cell_row2 rfl _ _ (w.heap.size + 1) 30 D (0, 0) _ _ rfl rfl HR.out Tryd.underlying30 rfl (by rw [infoC, HS.out])

set_option maxRecDepth 100000 in
set_option maxHeartbeats 2000000 in
theorem memno_15 (w : World) (hT : Tabs w) (M B : Nat) (ad : Option Addr) (cap : Nat) (bs : CoM.Bs) (hM : RamAt w M ad cap bs) (hL : Lies w B ad cap bs) (s : St) (hs : s.Ok) (a b : Nat) (i : Int) (hf : fetchP s.pc bs = .inr (15, a, b, i)) (hfit : Fits 15 a b i) (v : Int)
    (HR : Hid (∀ wx, Below w.heap.size w wx → Calls Tryd.prog 28 #[plc (memAt 15 b i s) 4 false, mv M, uv (s.r a)] wx fun e w' => e = .returned (.tuple #[uv v, .bool false]) ∧ Below wx.heap.size wx w')) :
    Calls Tryd.prog 12 #[cv s, mv M] w fun e w' => e = .returned (.tuple #[cv s, .int .i64 2]) ∧ Wrote w B ad cap bs w' := by
  have hbd := hfit.bd
  have ha : a < 8 := by omega
  have hb : b < 8 := by omega
  have HF : Hid (∀ wx, Below w.heap.size w wx → Calls Tryd.prog 23 #[cv s, mv M] wx fun e w' => e = .returned (.tuple #[.agg #[.int .i64 15, .int .i64 (a : Int), .int .i64 (b : Int), .int .i64 i], .int .i64 0]) ∧ Below wx.heap.size wx w') := Lib.hid (fun wx hb => by
    have := fetch_any wx (hT.below hb) M B ad cap bs (hM.below hb) (Lies.below hL hb) s hs
    rw [hf] at this
    exact this)
  have HTC : Hid (∀ wx, Calls Tryd.prog 24 #[.agg #[.int .i64 15, .int .i64 (a : Int), .int .i64 (b : Int), .int .i64 i], cv s] wx fun e w' => e = .returned (plc (memAt 15 b i s) 4 false) ∧ Below wx.heap.size wx w') := Lib.hid (fun wx => touched_any wx 15 a b i hb s hs)
  generalize memAt 15 b i s = at0 at *
  have hai : (a : Int) < 8 := by omega
  have hai0 : (0 : Int) ≤ (a : Int) := by omega
  have hca := cs_r s ha
  have hBl := CoY.Lies.lt hL
  have B2 := ((Below.refl w.heap.size w).alloc (Nat.le_refl _) (.cells (cs s) 30)).alloc (by simp) (.cells zcs 30)
  have C1 := (Blk.new w (cs s) 30).below ((Below.refl _ _).alloc (Nat.le_refl _) (.cells zcs 30))
  have R1 := Blk.new (w.alloc (.cells (cs s) 30)) zcs 30
  rw [World.size_alloc] at R1
  have h0 := run_ldC C1 (cs_size s)
  clear hT hf hs hbd hfit hb
  clear hM
  go_enter Tryd.func12, Tryd.ntmps12
  go_wp2_with (first | (go_at_call 23; (with_reducible refine (HF.out _ B2).mono ?_); rintro e w1 ⟨rfl, hb1⟩; refine Hid.out ?_))
  refine Lib.hid ?_
  have bb1 := hb1.trans (((Below.refl w1.heap.size w1).alloc (Nat.le_refl _) (.cells #[.int .i64 15, .int .i64 (a : Int), .int .i64 (b : Int), .int .i64 i] 61)).mono hb1.size)
  have bb2 := bb1.trans (((Below.refl (w1.alloc (.cells #[.int .i64 15, .int .i64 (a : Int), .int .i64 (b : Int), .int .i64 i] 61)).heap.size (w1.alloc (.cells #[.int .i64 15, .int .i64 (a : Int), .int .i64 (b : Int), .int .i64 i] 61))).alloc (Nat.le_refl _) (.cells zcs 30)).mono bb1.size)
  have h1 := run_ldC (C1.below bb1) (cs_size s)
  have E1 := Blk.new (w1.alloc (.cells #[.int .i64 15, .int .i64 (a : Int), .int .i64 (b : Int), .int .i64 i] 61)) zcs 30
  have X1 := (Blk.new w1 #[.int .i64 15, .int .i64 (a : Int), .int .i64 (b : Int), .int .i64 i] 61).below ((Below.refl _ _).alloc (Nat.le_refl _) (.cells zcs 30))
  rw [World.size_alloc] at E1
  have hnX : w.heap.size + 1 < w1.heap.size := by have := hb1.size; simp at this; omega
  have F1 : Four w w.heap.size w1.heap.size s 15 a b i zcs ((w1.alloc (.cells #[.int .i64 15, .int .i64 (a : Int), .int .i64 (b : Int), .int .i64 i] 61)).alloc (.cells zcs 30)) := ⟨C1.below bb2, R1.below bb2, X1, E1, hnX⟩
  have h2 := run_stC E1 rfl (cs_size s) (cs_one s)
  have F2 := F1.all (cs s) rfl
  have W2 := Wrote.sets hBl (w1.heap.size + 1) (by omega) (cs s).toList 0 (Wrote.of_below hL (B2.trans (bb2.mono B2.size)))
  obtain ⟨w2, hw2⟩ : ∃ w2, World.setCells ((w1.alloc (.cells #[.int .i64 15, .int .i64 (a : Int), .int .i64 (b : Int), .int .i64 i] 61)).alloc (.cells zcs 30)) (w1.heap.size + 1) 0 (cs s).toList = w2 := ⟨_, rfl⟩
  have D2 := below_all (w1.heap.size + 1) (by omega) (cs s).toList 0 (B2.trans (bb2.mono B2.size))
  rw [hw2] at h2 F2 W2 D2
  have x0 := F2.x.cell 0
  clear hw2 F1 E1 X1 bb1 bb2 C1 R1 h0 hb1 B2 hL
  go_wp2
  have HCA := Lib.hid hca
  have HF := Lib.hid (fun wx (F : Four w w.heap.size w1.heap.size s 15 a b i (cs s) wx) => (show (wx.cell? ⟨w1.heap.size, 0, none⟩ = some (.int .i64 15) ∧ wx.cell? ⟨w1.heap.size, 1, none⟩ = some (.int .i64 (a : Int)) ∧ wx.cell? ⟨w1.heap.size, 2, none⟩ = some (.int .i64 (b : Int)) ∧ wx.cell? ⟨w1.heap.size, 3, none⟩ = some (.int .i64 i)) ∧ (ldC (.pointer (some ⟨w.heap.size, 0, none⟩))).run Tryd.prog wx = .ok (.agg (cs s)) wx ∧ wx.cell? ⟨w.heap.size, a, none⟩ = some (uv (s.r a)) from ⟨⟨F.x.cell 0, F.x.cell 1, F.x.cell 2, F.x.cell 3⟩, run_ldC F.c (cs_size s), (F.c.cell a).trans HCA.out⟩))
  have HF2 := Lib.hid F2
  have HW2 := Lib.hid W2
  have HD2 := Lib.hid D2
  clear F2 W2 D2 h1 h2
  have B0 := (Below.refl w2.heap.size w2).drew
  go_region_held (fun wx => (wx.cell? ⟨w1.heap.size, 0, none⟩ = some (.int .i64 15) ∧ wx.cell? ⟨w1.heap.size, 1, none⟩ = some (.int .i64 (a : Int)) ∧ wx.cell? ⟨w1.heap.size, 2, none⟩ = some (.int .i64 (b : Int)) ∧ wx.cell? ⟨w1.heap.size, 3, none⟩ = some (.int .i64 i)) ∧ (ldC (.pointer (some ⟨w.heap.size, 0, none⟩))).run Tryd.prog wx = .ok (.agg (cs s)) wx ∧ wx.cell? ⟨w.heap.size, a, none⟩ = some (uv (s.r a))) (first | exact HF.out _ F4 | exact HF.out _ (HF2.out.below B3) | exact HF.out _ (HF2.out.below B0) | go_keep) (first | (go_at_call 24; (with_reducible refine (HTC.out _).mono ?_); rintro e w3 ⟨rfl, hb3⟩; have B3 := B0.trans hb3) | (go_at_call 28; (with_reducible refine (HR.out _ (HD2.out.trans (B3.mono HD2.out.size))).mono ?_); rintro e w4 ⟨rfl, hb4⟩; have F4 := (HF2.out.below B3).below hb4))
  have W4 : Wrote w B ad cap bs w4 := (HW2.out.below B3).below hb4
  have h3 := run_ldC F4.c (cs_size s)
  have h4 := run_stC F4.r rfl (cs_size s) (cs_one s)
  have HR := Lib.hid (Blk.setAll F4.r (ds := cs s) rfl)
  have HS := Lib.hid (cs_size s)
  have HW := Lib.hid (Wrote.sets hBl (w.heap.size + 1) (by omega) (cs s).toList 0 W4)
  clear F4 W4 B3 B0 hb3 hb4 hca
  generalize hD : cs s = D at *
  have HE := Lib.hid hD
  clear hD
  go_wp2
  refine bodyPost_ret (v := .tuple #[.agg D, .int .i64 2]) ?_ rfl ⟨by rw [← HE.out], HW.out⟩
  exact results_cell_row2 rfl _ _ (w.heap.size + 1) 30 D (0, 0) _ _ rfl rfl HR.out Tryd.underlying30 rfl (by rw [infoC, HS.out])

set_option maxRecDepth 100000 in
set_option maxHeartbeats 2000000 in
theorem mem_16 (w : World) (hT : Tabs w) (M B : Nat) (ad : Option Addr) (cap : Nat) (bs : CoM.Bs) (hM : RamAt w M ad cap bs) (hL : Lies w B ad cap bs) (s : St) (hs : s.Ok) (a b : Nat) (i : Int) (hf : fetchP s.pc bs = .inr (16, a, b, i)) (hfit : Fits 16 a b i) (v : Int) (bs' : CoM.Bs) (hB0 : B < w.heap.size)
    (HR : Hid (∀ wx, Below w.heap.size w wx → Calls Tryd.prog 28 #[plc (memAt 16 b i s) 4 true, mv M, uv (s.r a)] wx fun e w' => e = .returned (.tuple #[uv v, .bool true]) ∧ Wrote wx B ad cap bs' w')) :
    Calls Tryd.prog 12 #[cv s, mv M] w fun e w' => e = .returned (.tuple #[cv (setP (setR s a v) (nxt 16 (s.r a) i s.pc)), .int .i64 0]) ∧ Wrote w B ad cap bs' w' := by
  have hbd := hfit.bd
  have ha : a < 8 := by omega
  have hb : b < 8 := by omega
  have HF : Hid (∀ wx, Below w.heap.size w wx → Calls Tryd.prog 23 #[cv s, mv M] wx fun e w' => e = .returned (.tuple #[.agg #[.int .i64 16, .int .i64 (a : Int), .int .i64 (b : Int), .int .i64 i], .int .i64 0]) ∧ Below wx.heap.size wx w') := Lib.hid (fun wx hb => by
    have := fetch_any wx (hT.below hb) M B ad cap bs (hM.below hb) (Lies.below hL hb) s hs
    rw [hf] at this
    exact this)
  obtain ⟨P, hP⟩ : ∃ P, nxt 16 (s.r a) i s.pc = P := ⟨_, rfl⟩
  have HNX : Hid (∀ wx, Calls Tryd.prog 31 #[.agg #[.int .i64 16, .int .i64 (a : Int), .int .i64 (b : Int), .int .i64 i], cv s] wx fun e w' => e = .returned (uv P) ∧ Below wx.heap.size wx w') := Lib.hid (fun wx => by have := next_any wx 16 a b i ha hb s hs; rw [hP] at this; exact this)
  rw [hP]
  have HSR := Lib.hid (cs_setR s (k := a) v ha)
  have HTC : Hid (∀ wx, Calls Tryd.prog 24 #[.agg #[.int .i64 16, .int .i64 (a : Int), .int .i64 (b : Int), .int .i64 i], cv s] wx fun e w' => e = .returned (plc (memAt 16 b i s) 4 true) ∧ Below wx.heap.size wx w') := Lib.hid (fun wx => touched_any wx 16 a b i hb s hs)
  generalize memAt 16 b i s = at0 at *
  have hai : (a : Int) < 8 := by omega
  have hai0 : (0 : Int) ≤ (a : Int) := by omega
  have hca := cs_r s ha
  have hBl := CoY.Lies.lt hL
  have B2 := ((Below.refl w.heap.size w).alloc (Nat.le_refl _) (.cells (cs s) 30)).alloc (by simp) (.cells zcs 30)
  have C1 := (Blk.new w (cs s) 30).below ((Below.refl _ _).alloc (Nat.le_refl _) (.cells zcs 30))
  have R1 := Blk.new (w.alloc (.cells (cs s) 30)) zcs 30
  rw [World.size_alloc] at R1
  have h0 := run_ldC C1 (cs_size s)
  clear hT hf hs hbd hfit hb hP
  clear hM
  go_enter Tryd.func12, Tryd.ntmps12
  go_wp2_with (first | (go_at_call 23; (with_reducible refine (HF.out _ B2).mono ?_); rintro e w1 ⟨rfl, hb1⟩; refine Hid.out ?_))
  refine Lib.hid ?_
  have bb1 := hb1.trans (((Below.refl w1.heap.size w1).alloc (Nat.le_refl _) (.cells #[.int .i64 16, .int .i64 (a : Int), .int .i64 (b : Int), .int .i64 i] 61)).mono hb1.size)
  have bb2 := bb1.trans (((Below.refl (w1.alloc (.cells #[.int .i64 16, .int .i64 (a : Int), .int .i64 (b : Int), .int .i64 i] 61)).heap.size (w1.alloc (.cells #[.int .i64 16, .int .i64 (a : Int), .int .i64 (b : Int), .int .i64 i] 61))).alloc (Nat.le_refl _) (.cells zcs 30)).mono bb1.size)
  have h1 := run_ldC (C1.below bb1) (cs_size s)
  have E1 := Blk.new (w1.alloc (.cells #[.int .i64 16, .int .i64 (a : Int), .int .i64 (b : Int), .int .i64 i] 61)) zcs 30
  have X1 := (Blk.new w1 #[.int .i64 16, .int .i64 (a : Int), .int .i64 (b : Int), .int .i64 i] 61).below ((Below.refl _ _).alloc (Nat.le_refl _) (.cells zcs 30))
  rw [World.size_alloc] at E1
  have hnX : w.heap.size + 1 < w1.heap.size := by have := hb1.size; simp at this; omega
  have F1 : Four w w.heap.size w1.heap.size s 16 a b i zcs ((w1.alloc (.cells #[.int .i64 16, .int .i64 (a : Int), .int .i64 (b : Int), .int .i64 i] 61)).alloc (.cells zcs 30)) := ⟨C1.below bb2, R1.below bb2, X1, E1, hnX⟩
  have h2 := run_stC E1 rfl (cs_size s) (cs_one s)
  have F2 := F1.all (cs s) rfl
  have W2 := Wrote.sets hBl (w1.heap.size + 1) (by omega) (cs s).toList 0 (Wrote.of_below hL (B2.trans (bb2.mono B2.size)))
  obtain ⟨w2, hw2⟩ : ∃ w2, World.setCells ((w1.alloc (.cells #[.int .i64 16, .int .i64 (a : Int), .int .i64 (b : Int), .int .i64 i] 61)).alloc (.cells zcs 30)) (w1.heap.size + 1) 0 (cs s).toList = w2 := ⟨_, rfl⟩
  have D2 := below_all (w1.heap.size + 1) (by omega) (cs s).toList 0 (B2.trans (bb2.mono B2.size))
  rw [hw2] at h2 F2 W2 D2
  have x0 := F2.x.cell 0
  clear hw2 F1 E1 X1 bb1 bb2 C1 R1 h0 hb1 B2 hL
  go_wp2
  have HCA := Lib.hid hca
  have HF := Lib.hid (fun wx (F : Four w w.heap.size w1.heap.size s 16 a b i (cs s) wx) => (show (wx.cell? ⟨w1.heap.size, 0, none⟩ = some (.int .i64 16) ∧ wx.cell? ⟨w1.heap.size, 1, none⟩ = some (.int .i64 (a : Int)) ∧ wx.cell? ⟨w1.heap.size, 2, none⟩ = some (.int .i64 (b : Int)) ∧ wx.cell? ⟨w1.heap.size, 3, none⟩ = some (.int .i64 i)) ∧ (ldC (.pointer (some ⟨w.heap.size, 0, none⟩))).run Tryd.prog wx = .ok (.agg (cs s)) wx ∧ wx.cell? ⟨w.heap.size, a, none⟩ = some (uv (s.r a)) from ⟨⟨F.x.cell 0, F.x.cell 1, F.x.cell 2, F.x.cell 3⟩, run_ldC F.c (cs_size s), (F.c.cell a).trans HCA.out⟩))
  have HF2 := Lib.hid F2
  have HW2 := Lib.hid W2
  have HD2 := Lib.hid D2
  clear F2 W2 D2 h1 h2
  have B0 := (Below.refl w2.heap.size w2).drew
  go_region_held (fun wx => (wx.cell? ⟨w1.heap.size, 0, none⟩ = some (.int .i64 16) ∧ wx.cell? ⟨w1.heap.size, 1, none⟩ = some (.int .i64 (a : Int)) ∧ wx.cell? ⟨w1.heap.size, 2, none⟩ = some (.int .i64 (b : Int)) ∧ wx.cell? ⟨w1.heap.size, 3, none⟩ = some (.int .i64 i)) ∧ (ldC (.pointer (some ⟨w.heap.size, 0, none⟩))).run Tryd.prog wx = .ok (.agg (cs s)) wx ∧ wx.cell? ⟨w.heap.size, a, none⟩ = some (uv (s.r a))) (first | exact HF.out _ F4 | exact HF.out _ (HF2.out.below B3) | exact HF.out _ (HF2.out.below B0) | go_keep) (first | (go_at_call 24; (with_reducible refine (HTC.out _).mono ?_); rintro e w3 ⟨rfl, hb3⟩; have B3 := B0.trans hb3) | (go_at_call 28; (with_reducible refine (HR.out _ (HD2.out.trans (B3.mono HD2.out.size))).mono ?_); rintro e w4 ⟨rfl, hb4⟩; have F4 := (HF2.out.below B3).kept hb4.kp hB0))
  have W4 : Wrote w B ad cap bs' w4 := (HW2.out.below B3).trans hb4
  have y1 := F4.e.cell a
  rw [hca] at y1
  have f1 := F4.e.free a
  have x1 := F4.x.cell 1
  have F5 := F4.set a (uv v)
  rw [HSR.out] at F5
  have hB' : bs' = [] ∨ B < w.heap.size := .inr hB0
  have W5 := W4.set hB' (w1.heap.size + 1) a (uv v) (by omega)
  clear F4 W4 B3 B0 hb3 hb4 hBl
  have hBl := hB'
  have HN : Hid (∀ wx, Calls Tryd.prog 31 #[.agg #[.int .i64 16, .int .i64 (a : Int), .int .i64 (b : Int), .int .i64 i], cv s] wx fun e w' => e = .returned (uv P) ∧ Below wx.heap.size wx w') := HNX
  have g1 := run_ldC F5.c (cs_size s)
  have z0 := F5.x.cell 0
  have z1 := F5.x.cell 1
  have z2 := F5.x.cell 2
  have z3 := F5.x.cell 3
  go_wp2_with (first | (go_at_call 31; (with_reducible refine (HN.out _).mono ?_); rintro e w5 ⟨rfl, hb5⟩; refine Hid.out ?_))
  refine Lib.hid ?_
  have F5 := F5.below hb5
  have W5 := W5.below hb5
  clear g1 z0 z1 z2 z3 hb5
  have y10 := F5.e.cell 10
  rw [cs_pc] at y10
  have f10 := F5.e.free 10
  have F6 := F5.set 10 (uv P)
  rw [cs_setP] at F6
  have W6 := W5.set hBl (w1.heap.size + 1) 10 (uv P) (by omega)
  have h3 := run_ldC F6.e (cs_size _)
  have h4 := run_stC F6.r rfl (cs_size (setP (setR s a v) P)) (cs_one _)
  have HR := Lib.hid (Blk.setAll F6.r (ds := cs (setP (setR s a v) P)) rfl)
  have HS := Lib.hid (cs_size (setP (setR s a v) P))
  have HW := Lib.hid (Wrote.sets hBl (w.heap.size + 1) (by omega) (cs (setP (setR s a v) P)).toList 0 W6)
  clear F5 F6 W5 W6
  generalize hD : cs (setP (setR s a v) P) = D at *
  have HE := Lib.hid hD
  clear hD
  go_wp2
  refine bodyPost_ret (v := .tuple #[.agg D, .int .i64 0]) ?_ rfl ⟨by rw [← HE.out], HW.out⟩
  exact results_cell_row2 rfl _ _ (w.heap.size + 1) 30 D (0, 0) _ _ rfl rfl HR.out Tryd.underlying30 rfl (by rw [infoC, HS.out])

set_option maxRecDepth 100000 in
set_option maxHeartbeats 2000000 in
theorem memno_16 (w : World) (hT : Tabs w) (M B : Nat) (ad : Option Addr) (cap : Nat) (bs : CoM.Bs) (hM : RamAt w M ad cap bs) (hL : Lies w B ad cap bs) (s : St) (hs : s.Ok) (a b : Nat) (i : Int) (hf : fetchP s.pc bs = .inr (16, a, b, i)) (hfit : Fits 16 a b i) (v : Int)
    (HR : Hid (∀ wx, Below w.heap.size w wx → Calls Tryd.prog 28 #[plc (memAt 16 b i s) 4 true, mv M, uv (s.r a)] wx fun e w' => e = .returned (.tuple #[uv v, .bool false]) ∧ Below wx.heap.size wx w')) :
    Calls Tryd.prog 12 #[cv s, mv M] w fun e w' => e = .returned (.tuple #[cv s, .int .i64 2]) ∧ Wrote w B ad cap bs w' := by
  have hbd := hfit.bd
  have ha : a < 8 := by omega
  have hb : b < 8 := by omega
  have HF : Hid (∀ wx, Below w.heap.size w wx → Calls Tryd.prog 23 #[cv s, mv M] wx fun e w' => e = .returned (.tuple #[.agg #[.int .i64 16, .int .i64 (a : Int), .int .i64 (b : Int), .int .i64 i], .int .i64 0]) ∧ Below wx.heap.size wx w') := Lib.hid (fun wx hb => by
    have := fetch_any wx (hT.below hb) M B ad cap bs (hM.below hb) (Lies.below hL hb) s hs
    rw [hf] at this
    exact this)
  have HTC : Hid (∀ wx, Calls Tryd.prog 24 #[.agg #[.int .i64 16, .int .i64 (a : Int), .int .i64 (b : Int), .int .i64 i], cv s] wx fun e w' => e = .returned (plc (memAt 16 b i s) 4 true) ∧ Below wx.heap.size wx w') := Lib.hid (fun wx => touched_any wx 16 a b i hb s hs)
  generalize memAt 16 b i s = at0 at *
  have hai : (a : Int) < 8 := by omega
  have hai0 : (0 : Int) ≤ (a : Int) := by omega
  have hca := cs_r s ha
  have hBl := CoY.Lies.lt hL
  have B2 := ((Below.refl w.heap.size w).alloc (Nat.le_refl _) (.cells (cs s) 30)).alloc (by simp) (.cells zcs 30)
  have C1 := (Blk.new w (cs s) 30).below ((Below.refl _ _).alloc (Nat.le_refl _) (.cells zcs 30))
  have R1 := Blk.new (w.alloc (.cells (cs s) 30)) zcs 30
  rw [World.size_alloc] at R1
  have h0 := run_ldC C1 (cs_size s)
  clear hT hf hs hbd hfit hb
  clear hM
  go_enter Tryd.func12, Tryd.ntmps12
  go_wp2_with (first | (go_at_call 23; (with_reducible refine (HF.out _ B2).mono ?_); rintro e w1 ⟨rfl, hb1⟩; refine Hid.out ?_))
  refine Lib.hid ?_
  have bb1 := hb1.trans (((Below.refl w1.heap.size w1).alloc (Nat.le_refl _) (.cells #[.int .i64 16, .int .i64 (a : Int), .int .i64 (b : Int), .int .i64 i] 61)).mono hb1.size)
  have bb2 := bb1.trans (((Below.refl (w1.alloc (.cells #[.int .i64 16, .int .i64 (a : Int), .int .i64 (b : Int), .int .i64 i] 61)).heap.size (w1.alloc (.cells #[.int .i64 16, .int .i64 (a : Int), .int .i64 (b : Int), .int .i64 i] 61))).alloc (Nat.le_refl _) (.cells zcs 30)).mono bb1.size)
  have h1 := run_ldC (C1.below bb1) (cs_size s)
  have E1 := Blk.new (w1.alloc (.cells #[.int .i64 16, .int .i64 (a : Int), .int .i64 (b : Int), .int .i64 i] 61)) zcs 30
  have X1 := (Blk.new w1 #[.int .i64 16, .int .i64 (a : Int), .int .i64 (b : Int), .int .i64 i] 61).below ((Below.refl _ _).alloc (Nat.le_refl _) (.cells zcs 30))
  rw [World.size_alloc] at E1
  have hnX : w.heap.size + 1 < w1.heap.size := by have := hb1.size; simp at this; omega
  have F1 : Four w w.heap.size w1.heap.size s 16 a b i zcs ((w1.alloc (.cells #[.int .i64 16, .int .i64 (a : Int), .int .i64 (b : Int), .int .i64 i] 61)).alloc (.cells zcs 30)) := ⟨C1.below bb2, R1.below bb2, X1, E1, hnX⟩
  have h2 := run_stC E1 rfl (cs_size s) (cs_one s)
  have F2 := F1.all (cs s) rfl
  have W2 := Wrote.sets hBl (w1.heap.size + 1) (by omega) (cs s).toList 0 (Wrote.of_below hL (B2.trans (bb2.mono B2.size)))
  obtain ⟨w2, hw2⟩ : ∃ w2, World.setCells ((w1.alloc (.cells #[.int .i64 16, .int .i64 (a : Int), .int .i64 (b : Int), .int .i64 i] 61)).alloc (.cells zcs 30)) (w1.heap.size + 1) 0 (cs s).toList = w2 := ⟨_, rfl⟩
  have D2 := below_all (w1.heap.size + 1) (by omega) (cs s).toList 0 (B2.trans (bb2.mono B2.size))
  rw [hw2] at h2 F2 W2 D2
  have x0 := F2.x.cell 0
  clear hw2 F1 E1 X1 bb1 bb2 C1 R1 h0 hb1 B2 hL
  go_wp2
  have HCA := Lib.hid hca
  have HF := Lib.hid (fun wx (F : Four w w.heap.size w1.heap.size s 16 a b i (cs s) wx) => (show (wx.cell? ⟨w1.heap.size, 0, none⟩ = some (.int .i64 16) ∧ wx.cell? ⟨w1.heap.size, 1, none⟩ = some (.int .i64 (a : Int)) ∧ wx.cell? ⟨w1.heap.size, 2, none⟩ = some (.int .i64 (b : Int)) ∧ wx.cell? ⟨w1.heap.size, 3, none⟩ = some (.int .i64 i)) ∧ (ldC (.pointer (some ⟨w.heap.size, 0, none⟩))).run Tryd.prog wx = .ok (.agg (cs s)) wx ∧ wx.cell? ⟨w.heap.size, a, none⟩ = some (uv (s.r a)) from ⟨⟨F.x.cell 0, F.x.cell 1, F.x.cell 2, F.x.cell 3⟩, run_ldC F.c (cs_size s), (F.c.cell a).trans HCA.out⟩))
  have HF2 := Lib.hid F2
  have HW2 := Lib.hid W2
  have HD2 := Lib.hid D2
  clear F2 W2 D2 h1 h2
  have B0 := (Below.refl w2.heap.size w2).drew
  go_region_held (fun wx => (wx.cell? ⟨w1.heap.size, 0, none⟩ = some (.int .i64 16) ∧ wx.cell? ⟨w1.heap.size, 1, none⟩ = some (.int .i64 (a : Int)) ∧ wx.cell? ⟨w1.heap.size, 2, none⟩ = some (.int .i64 (b : Int)) ∧ wx.cell? ⟨w1.heap.size, 3, none⟩ = some (.int .i64 i)) ∧ (ldC (.pointer (some ⟨w.heap.size, 0, none⟩))).run Tryd.prog wx = .ok (.agg (cs s)) wx ∧ wx.cell? ⟨w.heap.size, a, none⟩ = some (uv (s.r a))) (first | exact HF.out _ F4 | exact HF.out _ (HF2.out.below B3) | exact HF.out _ (HF2.out.below B0) | go_keep) (first | (go_at_call 24; (with_reducible refine (HTC.out _).mono ?_); rintro e w3 ⟨rfl, hb3⟩; have B3 := B0.trans hb3) | (go_at_call 28; (with_reducible refine (HR.out _ (HD2.out.trans (B3.mono HD2.out.size))).mono ?_); rintro e w4 ⟨rfl, hb4⟩; have F4 := (HF2.out.below B3).below hb4))
  have W4 : Wrote w B ad cap bs w4 := (HW2.out.below B3).below hb4
  have h3 := run_ldC F4.c (cs_size s)
  have h4 := run_stC F4.r rfl (cs_size s) (cs_one s)
  have HR := Lib.hid (Blk.setAll F4.r (ds := cs s) rfl)
  have HS := Lib.hid (cs_size s)
  have HW := Lib.hid (Wrote.sets hBl (w.heap.size + 1) (by omega) (cs s).toList 0 W4)
  clear F4 W4 B3 B0 hb3 hb4 hca
  generalize hD : cs s = D at *
  have HE := Lib.hid hD
  clear hD
  go_wp2
  refine bodyPost_ret (v := .tuple #[.agg D, .int .i64 2]) ?_ rfl ⟨by rw [← HE.out], HW.out⟩
  exact results_cell_row2 rfl _ _ (w.heap.size + 1) 30 D (0, 0) _ _ rfl rfl HR.out Tryd.underlying30 rfl (by rw [infoC, HS.out])

set_option maxRecDepth 100000 in
set_option maxHeartbeats 2000000 in
theorem mem_17 (w : World) (hT : Tabs w) (M B : Nat) (ad : Option Addr) (cap : Nat) (bs : CoM.Bs) (hM : RamAt w M ad cap bs) (hL : Lies w B ad cap bs) (s : St) (hs : s.Ok) (a b : Nat) (i : Int) (hf : fetchP s.pc bs = .inr (17, a, b, i)) (hfit : Fits 17 a b i) (v : Int) (bs' : CoM.Bs) (hB0 : B < w.heap.size)
    (HR : Hid (∀ wx, Below w.heap.size w wx → Calls Tryd.prog 28 #[plc (memAt 17 b i s) 1 false, mv M, uv (s.r a)] wx fun e w' => e = .returned (.tuple #[uv v, .bool true]) ∧ Wrote wx B ad cap bs' w')) :
    Calls Tryd.prog 12 #[cv s, mv M] w fun e w' => e = .returned (.tuple #[cv (setP (setR s a v) (nxt 17 (s.r a) i s.pc)), .int .i64 0]) ∧ Wrote w B ad cap bs' w' := by
  have hbd := hfit.bd
  have ha : a < 8 := by omega
  have hb : b < 8 := by omega
  have HF : Hid (∀ wx, Below w.heap.size w wx → Calls Tryd.prog 23 #[cv s, mv M] wx fun e w' => e = .returned (.tuple #[.agg #[.int .i64 17, .int .i64 (a : Int), .int .i64 (b : Int), .int .i64 i], .int .i64 0]) ∧ Below wx.heap.size wx w') := Lib.hid (fun wx hb => by
    have := fetch_any wx (hT.below hb) M B ad cap bs (hM.below hb) (Lies.below hL hb) s hs
    rw [hf] at this
    exact this)
  obtain ⟨P, hP⟩ : ∃ P, nxt 17 (s.r a) i s.pc = P := ⟨_, rfl⟩
  have HNX : Hid (∀ wx, Calls Tryd.prog 31 #[.agg #[.int .i64 17, .int .i64 (a : Int), .int .i64 (b : Int), .int .i64 i], cv s] wx fun e w' => e = .returned (uv P) ∧ Below wx.heap.size wx w') := Lib.hid (fun wx => by have := next_any wx 17 a b i ha hb s hs; rw [hP] at this; exact this)
  rw [hP]
  have HSR := Lib.hid (cs_setR s (k := a) v ha)
  have HTC : Hid (∀ wx, Calls Tryd.prog 24 #[.agg #[.int .i64 17, .int .i64 (a : Int), .int .i64 (b : Int), .int .i64 i], cv s] wx fun e w' => e = .returned (plc (memAt 17 b i s) 1 false) ∧ Below wx.heap.size wx w') := Lib.hid (fun wx => touched_any wx 17 a b i hb s hs)
  generalize memAt 17 b i s = at0 at *
  have hai : (a : Int) < 8 := by omega
  have hai0 : (0 : Int) ≤ (a : Int) := by omega
  have hca := cs_r s ha
  have hBl := CoY.Lies.lt hL
  have B2 := ((Below.refl w.heap.size w).alloc (Nat.le_refl _) (.cells (cs s) 30)).alloc (by simp) (.cells zcs 30)
  have C1 := (Blk.new w (cs s) 30).below ((Below.refl _ _).alloc (Nat.le_refl _) (.cells zcs 30))
  have R1 := Blk.new (w.alloc (.cells (cs s) 30)) zcs 30
  rw [World.size_alloc] at R1
  have h0 := run_ldC C1 (cs_size s)
  clear hT hf hs hbd hfit hb hP
  clear hM
  go_enter Tryd.func12, Tryd.ntmps12
  go_wp2_with (first | (go_at_call 23; (with_reducible refine (HF.out _ B2).mono ?_); rintro e w1 ⟨rfl, hb1⟩; refine Hid.out ?_))
  refine Lib.hid ?_
  have bb1 := hb1.trans (((Below.refl w1.heap.size w1).alloc (Nat.le_refl _) (.cells #[.int .i64 17, .int .i64 (a : Int), .int .i64 (b : Int), .int .i64 i] 61)).mono hb1.size)
  have bb2 := bb1.trans (((Below.refl (w1.alloc (.cells #[.int .i64 17, .int .i64 (a : Int), .int .i64 (b : Int), .int .i64 i] 61)).heap.size (w1.alloc (.cells #[.int .i64 17, .int .i64 (a : Int), .int .i64 (b : Int), .int .i64 i] 61))).alloc (Nat.le_refl _) (.cells zcs 30)).mono bb1.size)
  have h1 := run_ldC (C1.below bb1) (cs_size s)
  have E1 := Blk.new (w1.alloc (.cells #[.int .i64 17, .int .i64 (a : Int), .int .i64 (b : Int), .int .i64 i] 61)) zcs 30
  have X1 := (Blk.new w1 #[.int .i64 17, .int .i64 (a : Int), .int .i64 (b : Int), .int .i64 i] 61).below ((Below.refl _ _).alloc (Nat.le_refl _) (.cells zcs 30))
  rw [World.size_alloc] at E1
  have hnX : w.heap.size + 1 < w1.heap.size := by have := hb1.size; simp at this; omega
  have F1 : Four w w.heap.size w1.heap.size s 17 a b i zcs ((w1.alloc (.cells #[.int .i64 17, .int .i64 (a : Int), .int .i64 (b : Int), .int .i64 i] 61)).alloc (.cells zcs 30)) := ⟨C1.below bb2, R1.below bb2, X1, E1, hnX⟩
  have h2 := run_stC E1 rfl (cs_size s) (cs_one s)
  have F2 := F1.all (cs s) rfl
  have W2 := Wrote.sets hBl (w1.heap.size + 1) (by omega) (cs s).toList 0 (Wrote.of_below hL (B2.trans (bb2.mono B2.size)))
  obtain ⟨w2, hw2⟩ : ∃ w2, World.setCells ((w1.alloc (.cells #[.int .i64 17, .int .i64 (a : Int), .int .i64 (b : Int), .int .i64 i] 61)).alloc (.cells zcs 30)) (w1.heap.size + 1) 0 (cs s).toList = w2 := ⟨_, rfl⟩
  have D2 := below_all (w1.heap.size + 1) (by omega) (cs s).toList 0 (B2.trans (bb2.mono B2.size))
  rw [hw2] at h2 F2 W2 D2
  have x0 := F2.x.cell 0
  clear hw2 F1 E1 X1 bb1 bb2 C1 R1 h0 hb1 B2 hL
  go_wp2
  have HCA := Lib.hid hca
  have HF := Lib.hid (fun wx (F : Four w w.heap.size w1.heap.size s 17 a b i (cs s) wx) => (show (wx.cell? ⟨w1.heap.size, 0, none⟩ = some (.int .i64 17) ∧ wx.cell? ⟨w1.heap.size, 1, none⟩ = some (.int .i64 (a : Int)) ∧ wx.cell? ⟨w1.heap.size, 2, none⟩ = some (.int .i64 (b : Int)) ∧ wx.cell? ⟨w1.heap.size, 3, none⟩ = some (.int .i64 i)) ∧ (ldC (.pointer (some ⟨w.heap.size, 0, none⟩))).run Tryd.prog wx = .ok (.agg (cs s)) wx ∧ wx.cell? ⟨w.heap.size, a, none⟩ = some (uv (s.r a)) from ⟨⟨F.x.cell 0, F.x.cell 1, F.x.cell 2, F.x.cell 3⟩, run_ldC F.c (cs_size s), (F.c.cell a).trans HCA.out⟩))
  have HF2 := Lib.hid F2
  have HW2 := Lib.hid W2
  have HD2 := Lib.hid D2
  clear F2 W2 D2 h1 h2
  have B0 := (Below.refl w2.heap.size w2).drew
  go_region_held (fun wx => (wx.cell? ⟨w1.heap.size, 0, none⟩ = some (.int .i64 17) ∧ wx.cell? ⟨w1.heap.size, 1, none⟩ = some (.int .i64 (a : Int)) ∧ wx.cell? ⟨w1.heap.size, 2, none⟩ = some (.int .i64 (b : Int)) ∧ wx.cell? ⟨w1.heap.size, 3, none⟩ = some (.int .i64 i)) ∧ (ldC (.pointer (some ⟨w.heap.size, 0, none⟩))).run Tryd.prog wx = .ok (.agg (cs s)) wx ∧ wx.cell? ⟨w.heap.size, a, none⟩ = some (uv (s.r a))) (first | exact HF.out _ F4 | exact HF.out _ (HF2.out.below B3) | exact HF.out _ (HF2.out.below B0) | go_keep) (first | (go_at_call 24; (with_reducible refine (HTC.out _).mono ?_); rintro e w3 ⟨rfl, hb3⟩; have B3 := B0.trans hb3) | (go_at_call 28; (with_reducible refine (HR.out _ (HD2.out.trans (B3.mono HD2.out.size))).mono ?_); rintro e w4 ⟨rfl, hb4⟩; have F4 := (HF2.out.below B3).kept hb4.kp hB0))
  have W4 : Wrote w B ad cap bs' w4 := (HW2.out.below B3).trans hb4
  have y1 := F4.e.cell a
  rw [hca] at y1
  have f1 := F4.e.free a
  have x1 := F4.x.cell 1
  have F5 := F4.set a (uv v)
  rw [HSR.out] at F5
  have hB' : bs' = [] ∨ B < w.heap.size := .inr hB0
  have W5 := W4.set hB' (w1.heap.size + 1) a (uv v) (by omega)
  clear F4 W4 B3 B0 hb3 hb4 hBl
  have hBl := hB'
  have HN : Hid (∀ wx, Calls Tryd.prog 31 #[.agg #[.int .i64 17, .int .i64 (a : Int), .int .i64 (b : Int), .int .i64 i], cv s] wx fun e w' => e = .returned (uv P) ∧ Below wx.heap.size wx w') := HNX
  have g1 := run_ldC F5.c (cs_size s)
  have z0 := F5.x.cell 0
  have z1 := F5.x.cell 1
  have z2 := F5.x.cell 2
  have z3 := F5.x.cell 3
  go_wp2_with (first | (go_at_call 31; (with_reducible refine (HN.out _).mono ?_); rintro e w5 ⟨rfl, hb5⟩; refine Hid.out ?_))
  refine Lib.hid ?_
  have F5 := F5.below hb5
  have W5 := W5.below hb5
  clear g1 z0 z1 z2 z3 hb5
  have y10 := F5.e.cell 10
  rw [cs_pc] at y10
  have f10 := F5.e.free 10
  have F6 := F5.set 10 (uv P)
  rw [cs_setP] at F6
  have W6 := W5.set hBl (w1.heap.size + 1) 10 (uv P) (by omega)
  have h3 := run_ldC F6.e (cs_size _)
  have h4 := run_stC F6.r rfl (cs_size (setP (setR s a v) P)) (cs_one _)
  have HR := Lib.hid (Blk.setAll F6.r (ds := cs (setP (setR s a v) P)) rfl)
  have HS := Lib.hid (cs_size (setP (setR s a v) P))
  have HW := Lib.hid (Wrote.sets hBl (w.heap.size + 1) (by omega) (cs (setP (setR s a v) P)).toList 0 W6)
  clear F5 F6 W5 W6
  generalize hD : cs (setP (setR s a v) P) = D at *
  have HE := Lib.hid hD
  clear hD
  go_wp2
  refine bodyPost_ret (v := .tuple #[.agg D, .int .i64 0]) ?_ rfl ⟨by rw [← HE.out], HW.out⟩
  exact results_cell_row2 rfl _ _ (w.heap.size + 1) 30 D (0, 0) _ _ rfl rfl HR.out Tryd.underlying30 rfl (by rw [infoC, HS.out])

set_option maxRecDepth 100000 in
set_option maxHeartbeats 2000000 in
theorem memno_17 (w : World) (hT : Tabs w) (M B : Nat) (ad : Option Addr) (cap : Nat) (bs : CoM.Bs) (hM : RamAt w M ad cap bs) (hL : Lies w B ad cap bs) (s : St) (hs : s.Ok) (a b : Nat) (i : Int) (hf : fetchP s.pc bs = .inr (17, a, b, i)) (hfit : Fits 17 a b i) (v : Int)
    (HR : Hid (∀ wx, Below w.heap.size w wx → Calls Tryd.prog 28 #[plc (memAt 17 b i s) 1 false, mv M, uv (s.r a)] wx fun e w' => e = .returned (.tuple #[uv v, .bool false]) ∧ Below wx.heap.size wx w')) :
    Calls Tryd.prog 12 #[cv s, mv M] w fun e w' => e = .returned (.tuple #[cv s, .int .i64 2]) ∧ Wrote w B ad cap bs w' := by
  have hbd := hfit.bd
  have ha : a < 8 := by omega
  have hb : b < 8 := by omega
  have HF : Hid (∀ wx, Below w.heap.size w wx → Calls Tryd.prog 23 #[cv s, mv M] wx fun e w' => e = .returned (.tuple #[.agg #[.int .i64 17, .int .i64 (a : Int), .int .i64 (b : Int), .int .i64 i], .int .i64 0]) ∧ Below wx.heap.size wx w') := Lib.hid (fun wx hb => by
    have := fetch_any wx (hT.below hb) M B ad cap bs (hM.below hb) (Lies.below hL hb) s hs
    rw [hf] at this
    exact this)
  have HTC : Hid (∀ wx, Calls Tryd.prog 24 #[.agg #[.int .i64 17, .int .i64 (a : Int), .int .i64 (b : Int), .int .i64 i], cv s] wx fun e w' => e = .returned (plc (memAt 17 b i s) 1 false) ∧ Below wx.heap.size wx w') := Lib.hid (fun wx => touched_any wx 17 a b i hb s hs)
  generalize memAt 17 b i s = at0 at *
  have hai : (a : Int) < 8 := by omega
  have hai0 : (0 : Int) ≤ (a : Int) := by omega
  have hca := cs_r s ha
  have hBl := CoY.Lies.lt hL
  have B2 := ((Below.refl w.heap.size w).alloc (Nat.le_refl _) (.cells (cs s) 30)).alloc (by simp) (.cells zcs 30)
  have C1 := (Blk.new w (cs s) 30).below ((Below.refl _ _).alloc (Nat.le_refl _) (.cells zcs 30))
  have R1 := Blk.new (w.alloc (.cells (cs s) 30)) zcs 30
  rw [World.size_alloc] at R1
  have h0 := run_ldC C1 (cs_size s)
  clear hT hf hs hbd hfit hb
  clear hM
  go_enter Tryd.func12, Tryd.ntmps12
  go_wp2_with (first | (go_at_call 23; (with_reducible refine (HF.out _ B2).mono ?_); rintro e w1 ⟨rfl, hb1⟩; refine Hid.out ?_))
  refine Lib.hid ?_
  have bb1 := hb1.trans (((Below.refl w1.heap.size w1).alloc (Nat.le_refl _) (.cells #[.int .i64 17, .int .i64 (a : Int), .int .i64 (b : Int), .int .i64 i] 61)).mono hb1.size)
  have bb2 := bb1.trans (((Below.refl (w1.alloc (.cells #[.int .i64 17, .int .i64 (a : Int), .int .i64 (b : Int), .int .i64 i] 61)).heap.size (w1.alloc (.cells #[.int .i64 17, .int .i64 (a : Int), .int .i64 (b : Int), .int .i64 i] 61))).alloc (Nat.le_refl _) (.cells zcs 30)).mono bb1.size)
  have h1 := run_ldC (C1.below bb1) (cs_size s)
  have E1 := Blk.new (w1.alloc (.cells #[.int .i64 17, .int .i64 (a : Int), .int .i64 (b : Int), .int .i64 i] 61)) zcs 30
  have X1 := (Blk.new w1 #[.int .i64 17, .int .i64 (a : Int), .int .i64 (b : Int), .int .i64 i] 61).below ((Below.refl _ _).alloc (Nat.le_refl _) (.cells zcs 30))
  rw [World.size_alloc] at E1
  have hnX : w.heap.size + 1 < w1.heap.size := by have := hb1.size; simp at this; omega
  have F1 : Four w w.heap.size w1.heap.size s 17 a b i zcs ((w1.alloc (.cells #[.int .i64 17, .int .i64 (a : Int), .int .i64 (b : Int), .int .i64 i] 61)).alloc (.cells zcs 30)) := ⟨C1.below bb2, R1.below bb2, X1, E1, hnX⟩
  have h2 := run_stC E1 rfl (cs_size s) (cs_one s)
  have F2 := F1.all (cs s) rfl
  have W2 := Wrote.sets hBl (w1.heap.size + 1) (by omega) (cs s).toList 0 (Wrote.of_below hL (B2.trans (bb2.mono B2.size)))
  obtain ⟨w2, hw2⟩ : ∃ w2, World.setCells ((w1.alloc (.cells #[.int .i64 17, .int .i64 (a : Int), .int .i64 (b : Int), .int .i64 i] 61)).alloc (.cells zcs 30)) (w1.heap.size + 1) 0 (cs s).toList = w2 := ⟨_, rfl⟩
  have D2 := below_all (w1.heap.size + 1) (by omega) (cs s).toList 0 (B2.trans (bb2.mono B2.size))
  rw [hw2] at h2 F2 W2 D2
  have x0 := F2.x.cell 0
  clear hw2 F1 E1 X1 bb1 bb2 C1 R1 h0 hb1 B2 hL
  go_wp2
  have HCA := Lib.hid hca
  have HF := Lib.hid (fun wx (F : Four w w.heap.size w1.heap.size s 17 a b i (cs s) wx) => (show (wx.cell? ⟨w1.heap.size, 0, none⟩ = some (.int .i64 17) ∧ wx.cell? ⟨w1.heap.size, 1, none⟩ = some (.int .i64 (a : Int)) ∧ wx.cell? ⟨w1.heap.size, 2, none⟩ = some (.int .i64 (b : Int)) ∧ wx.cell? ⟨w1.heap.size, 3, none⟩ = some (.int .i64 i)) ∧ (ldC (.pointer (some ⟨w.heap.size, 0, none⟩))).run Tryd.prog wx = .ok (.agg (cs s)) wx ∧ wx.cell? ⟨w.heap.size, a, none⟩ = some (uv (s.r a)) from ⟨⟨F.x.cell 0, F.x.cell 1, F.x.cell 2, F.x.cell 3⟩, run_ldC F.c (cs_size s), (F.c.cell a).trans HCA.out⟩))
  have HF2 := Lib.hid F2
  have HW2 := Lib.hid W2
  have HD2 := Lib.hid D2
  clear F2 W2 D2 h1 h2
  have B0 := (Below.refl w2.heap.size w2).drew
  go_region_held (fun wx => (wx.cell? ⟨w1.heap.size, 0, none⟩ = some (.int .i64 17) ∧ wx.cell? ⟨w1.heap.size, 1, none⟩ = some (.int .i64 (a : Int)) ∧ wx.cell? ⟨w1.heap.size, 2, none⟩ = some (.int .i64 (b : Int)) ∧ wx.cell? ⟨w1.heap.size, 3, none⟩ = some (.int .i64 i)) ∧ (ldC (.pointer (some ⟨w.heap.size, 0, none⟩))).run Tryd.prog wx = .ok (.agg (cs s)) wx ∧ wx.cell? ⟨w.heap.size, a, none⟩ = some (uv (s.r a))) (first | exact HF.out _ F4 | exact HF.out _ (HF2.out.below B3) | exact HF.out _ (HF2.out.below B0) | go_keep) (first | (go_at_call 24; (with_reducible refine (HTC.out _).mono ?_); rintro e w3 ⟨rfl, hb3⟩; have B3 := B0.trans hb3) | (go_at_call 28; (with_reducible refine (HR.out _ (HD2.out.trans (B3.mono HD2.out.size))).mono ?_); rintro e w4 ⟨rfl, hb4⟩; have F4 := (HF2.out.below B3).below hb4))
  have W4 : Wrote w B ad cap bs w4 := (HW2.out.below B3).below hb4
  have h3 := run_ldC F4.c (cs_size s)
  have h4 := run_stC F4.r rfl (cs_size s) (cs_one s)
  have HR := Lib.hid (Blk.setAll F4.r (ds := cs s) rfl)
  have HS := Lib.hid (cs_size s)
  have HW := Lib.hid (Wrote.sets hBl (w.heap.size + 1) (by omega) (cs s).toList 0 W4)
  clear F4 W4 B3 B0 hb3 hb4 hca
  generalize hD : cs s = D at *
  have HE := Lib.hid hD
  clear hD
  go_wp2
  refine bodyPost_ret (v := .tuple #[.agg D, .int .i64 2]) ?_ rfl ⟨by rw [← HE.out], HW.out⟩
  exact results_cell_row2 rfl _ _ (w.heap.size + 1) 30 D (0, 0) _ _ rfl rfl HR.out Tryd.underlying30 rfl (by rw [infoC, HS.out])

set_option maxRecDepth 100000 in
set_option maxHeartbeats 2000000 in
theorem mem_18 (w : World) (hT : Tabs w) (M B : Nat) (ad : Option Addr) (cap : Nat) (bs : CoM.Bs) (hM : RamAt w M ad cap bs) (hL : Lies w B ad cap bs) (s : St) (hs : s.Ok) (a b : Nat) (i : Int) (hf : fetchP s.pc bs = .inr (18, a, b, i)) (hfit : Fits 18 a b i) (v : Int) (bs' : CoM.Bs) (hB0 : B < w.heap.size)
    (HR : Hid (∀ wx, Below w.heap.size w wx → Calls Tryd.prog 28 #[plc (memAt 18 b i s) 1 true, mv M, uv (s.r a)] wx fun e w' => e = .returned (.tuple #[uv v, .bool true]) ∧ Wrote wx B ad cap bs' w')) :
    Calls Tryd.prog 12 #[cv s, mv M] w fun e w' => e = .returned (.tuple #[cv (setP (setR s a v) (nxt 18 (s.r a) i s.pc)), .int .i64 0]) ∧ Wrote w B ad cap bs' w' := by
  have hbd := hfit.bd
  have ha : a < 8 := by omega
  have hb : b < 8 := by omega
  have HF : Hid (∀ wx, Below w.heap.size w wx → Calls Tryd.prog 23 #[cv s, mv M] wx fun e w' => e = .returned (.tuple #[.agg #[.int .i64 18, .int .i64 (a : Int), .int .i64 (b : Int), .int .i64 i], .int .i64 0]) ∧ Below wx.heap.size wx w') := Lib.hid (fun wx hb => by
    have := fetch_any wx (hT.below hb) M B ad cap bs (hM.below hb) (Lies.below hL hb) s hs
    rw [hf] at this
    exact this)
  obtain ⟨P, hP⟩ : ∃ P, nxt 18 (s.r a) i s.pc = P := ⟨_, rfl⟩
  have HNX : Hid (∀ wx, Calls Tryd.prog 31 #[.agg #[.int .i64 18, .int .i64 (a : Int), .int .i64 (b : Int), .int .i64 i], cv s] wx fun e w' => e = .returned (uv P) ∧ Below wx.heap.size wx w') := Lib.hid (fun wx => by have := next_any wx 18 a b i ha hb s hs; rw [hP] at this; exact this)
  rw [hP]
  have HSR := Lib.hid (cs_setR s (k := a) v ha)
  have HTC : Hid (∀ wx, Calls Tryd.prog 24 #[.agg #[.int .i64 18, .int .i64 (a : Int), .int .i64 (b : Int), .int .i64 i], cv s] wx fun e w' => e = .returned (plc (memAt 18 b i s) 1 true) ∧ Below wx.heap.size wx w') := Lib.hid (fun wx => touched_any wx 18 a b i hb s hs)
  generalize memAt 18 b i s = at0 at *
  have hai : (a : Int) < 8 := by omega
  have hai0 : (0 : Int) ≤ (a : Int) := by omega
  have hca := cs_r s ha
  have hBl := CoY.Lies.lt hL
  have B2 := ((Below.refl w.heap.size w).alloc (Nat.le_refl _) (.cells (cs s) 30)).alloc (by simp) (.cells zcs 30)
  have C1 := (Blk.new w (cs s) 30).below ((Below.refl _ _).alloc (Nat.le_refl _) (.cells zcs 30))
  have R1 := Blk.new (w.alloc (.cells (cs s) 30)) zcs 30
  rw [World.size_alloc] at R1
  have h0 := run_ldC C1 (cs_size s)
  clear hT hf hs hbd hfit hb hP
  clear hM
  go_enter Tryd.func12, Tryd.ntmps12
  go_wp2_with (first | (go_at_call 23; (with_reducible refine (HF.out _ B2).mono ?_); rintro e w1 ⟨rfl, hb1⟩; refine Hid.out ?_))
  refine Lib.hid ?_
  have bb1 := hb1.trans (((Below.refl w1.heap.size w1).alloc (Nat.le_refl _) (.cells #[.int .i64 18, .int .i64 (a : Int), .int .i64 (b : Int), .int .i64 i] 61)).mono hb1.size)
  have bb2 := bb1.trans (((Below.refl (w1.alloc (.cells #[.int .i64 18, .int .i64 (a : Int), .int .i64 (b : Int), .int .i64 i] 61)).heap.size (w1.alloc (.cells #[.int .i64 18, .int .i64 (a : Int), .int .i64 (b : Int), .int .i64 i] 61))).alloc (Nat.le_refl _) (.cells zcs 30)).mono bb1.size)
  have h1 := run_ldC (C1.below bb1) (cs_size s)
  have E1 := Blk.new (w1.alloc (.cells #[.int .i64 18, .int .i64 (a : Int), .int .i64 (b : Int), .int .i64 i] 61)) zcs 30
  have X1 := (Blk.new w1 #[.int .i64 18, .int .i64 (a : Int), .int .i64 (b : Int), .int .i64 i] 61).below ((Below.refl _ _).alloc (Nat.le_refl _) (.cells zcs 30))
  rw [World.size_alloc] at E1
  have hnX : w.heap.size + 1 < w1.heap.size := by have := hb1.size; simp at this; omega
  have F1 : Four w w.heap.size w1.heap.size s 18 a b i zcs ((w1.alloc (.cells #[.int .i64 18, .int .i64 (a : Int), .int .i64 (b : Int), .int .i64 i] 61)).alloc (.cells zcs 30)) := ⟨C1.below bb2, R1.below bb2, X1, E1, hnX⟩
  have h2 := run_stC E1 rfl (cs_size s) (cs_one s)
  have F2 := F1.all (cs s) rfl
  have W2 := Wrote.sets hBl (w1.heap.size + 1) (by omega) (cs s).toList 0 (Wrote.of_below hL (B2.trans (bb2.mono B2.size)))
  obtain ⟨w2, hw2⟩ : ∃ w2, World.setCells ((w1.alloc (.cells #[.int .i64 18, .int .i64 (a : Int), .int .i64 (b : Int), .int .i64 i] 61)).alloc (.cells zcs 30)) (w1.heap.size + 1) 0 (cs s).toList = w2 := ⟨_, rfl⟩
  have D2 := below_all (w1.heap.size + 1) (by omega) (cs s).toList 0 (B2.trans (bb2.mono B2.size))
  rw [hw2] at h2 F2 W2 D2
  have x0 := F2.x.cell 0
  clear hw2 F1 E1 X1 bb1 bb2 C1 R1 h0 hb1 B2 hL
  go_wp2
  have HCA := Lib.hid hca
  have HF := Lib.hid (fun wx (F : Four w w.heap.size w1.heap.size s 18 a b i (cs s) wx) => (show (wx.cell? ⟨w1.heap.size, 0, none⟩ = some (.int .i64 18) ∧ wx.cell? ⟨w1.heap.size, 1, none⟩ = some (.int .i64 (a : Int)) ∧ wx.cell? ⟨w1.heap.size, 2, none⟩ = some (.int .i64 (b : Int)) ∧ wx.cell? ⟨w1.heap.size, 3, none⟩ = some (.int .i64 i)) ∧ (ldC (.pointer (some ⟨w.heap.size, 0, none⟩))).run Tryd.prog wx = .ok (.agg (cs s)) wx ∧ wx.cell? ⟨w.heap.size, a, none⟩ = some (uv (s.r a)) from ⟨⟨F.x.cell 0, F.x.cell 1, F.x.cell 2, F.x.cell 3⟩, run_ldC F.c (cs_size s), (F.c.cell a).trans HCA.out⟩))
  have HF2 := Lib.hid F2
  have HW2 := Lib.hid W2
  have HD2 := Lib.hid D2
  clear F2 W2 D2 h1 h2
  have B0 := (Below.refl w2.heap.size w2).drew
  go_region_held (fun wx => (wx.cell? ⟨w1.heap.size, 0, none⟩ = some (.int .i64 18) ∧ wx.cell? ⟨w1.heap.size, 1, none⟩ = some (.int .i64 (a : Int)) ∧ wx.cell? ⟨w1.heap.size, 2, none⟩ = some (.int .i64 (b : Int)) ∧ wx.cell? ⟨w1.heap.size, 3, none⟩ = some (.int .i64 i)) ∧ (ldC (.pointer (some ⟨w.heap.size, 0, none⟩))).run Tryd.prog wx = .ok (.agg (cs s)) wx ∧ wx.cell? ⟨w.heap.size, a, none⟩ = some (uv (s.r a))) (first | exact HF.out _ F4 | exact HF.out _ (HF2.out.below B3) | exact HF.out _ (HF2.out.below B0) | go_keep) (first | (go_at_call 24; (with_reducible refine (HTC.out _).mono ?_); rintro e w3 ⟨rfl, hb3⟩; have B3 := B0.trans hb3) | (go_at_call 28; (with_reducible refine (HR.out _ (HD2.out.trans (B3.mono HD2.out.size))).mono ?_); rintro e w4 ⟨rfl, hb4⟩; have F4 := (HF2.out.below B3).kept hb4.kp hB0))
  have W4 : Wrote w B ad cap bs' w4 := (HW2.out.below B3).trans hb4
  have y1 := F4.e.cell a
  rw [hca] at y1
  have f1 := F4.e.free a
  have x1 := F4.x.cell 1
  have F5 := F4.set a (uv v)
  rw [HSR.out] at F5
  have hB' : bs' = [] ∨ B < w.heap.size := .inr hB0
  have W5 := W4.set hB' (w1.heap.size + 1) a (uv v) (by omega)
  clear F4 W4 B3 B0 hb3 hb4 hBl
  have hBl := hB'
  have HN : Hid (∀ wx, Calls Tryd.prog 31 #[.agg #[.int .i64 18, .int .i64 (a : Int), .int .i64 (b : Int), .int .i64 i], cv s] wx fun e w' => e = .returned (uv P) ∧ Below wx.heap.size wx w') := HNX
  have g1 := run_ldC F5.c (cs_size s)
  have z0 := F5.x.cell 0
  have z1 := F5.x.cell 1
  have z2 := F5.x.cell 2
  have z3 := F5.x.cell 3
  go_wp2_with (first | (go_at_call 31; (with_reducible refine (HN.out _).mono ?_); rintro e w5 ⟨rfl, hb5⟩; refine Hid.out ?_))
  refine Lib.hid ?_
  have F5 := F5.below hb5
  have W5 := W5.below hb5
  clear g1 z0 z1 z2 z3 hb5
  have y10 := F5.e.cell 10
  rw [cs_pc] at y10
  have f10 := F5.e.free 10
  have F6 := F5.set 10 (uv P)
  rw [cs_setP] at F6
  have W6 := W5.set hBl (w1.heap.size + 1) 10 (uv P) (by omega)
  have h3 := run_ldC F6.e (cs_size _)
  have h4 := run_stC F6.r rfl (cs_size (setP (setR s a v) P)) (cs_one _)
  have HR := Lib.hid (Blk.setAll F6.r (ds := cs (setP (setR s a v) P)) rfl)
  have HS := Lib.hid (cs_size (setP (setR s a v) P))
  have HW := Lib.hid (Wrote.sets hBl (w.heap.size + 1) (by omega) (cs (setP (setR s a v) P)).toList 0 W6)
  clear F5 F6 W5 W6
  generalize hD : cs (setP (setR s a v) P) = D at *
  have HE := Lib.hid hD
  clear hD
  go_wp2
  refine bodyPost_ret (v := .tuple #[.agg D, .int .i64 0]) ?_ rfl ⟨by rw [← HE.out], HW.out⟩
  exact results_cell_row2 rfl _ _ (w.heap.size + 1) 30 D (0, 0) _ _ rfl rfl HR.out Tryd.underlying30 rfl (by rw [infoC, HS.out])

set_option maxRecDepth 100000 in
set_option maxHeartbeats 2000000 in
theorem memno_18 (w : World) (hT : Tabs w) (M B : Nat) (ad : Option Addr) (cap : Nat) (bs : CoM.Bs) (hM : RamAt w M ad cap bs) (hL : Lies w B ad cap bs) (s : St) (hs : s.Ok) (a b : Nat) (i : Int) (hf : fetchP s.pc bs = .inr (18, a, b, i)) (hfit : Fits 18 a b i) (v : Int)
    (HR : Hid (∀ wx, Below w.heap.size w wx → Calls Tryd.prog 28 #[plc (memAt 18 b i s) 1 true, mv M, uv (s.r a)] wx fun e w' => e = .returned (.tuple #[uv v, .bool false]) ∧ Below wx.heap.size wx w')) :
    Calls Tryd.prog 12 #[cv s, mv M] w fun e w' => e = .returned (.tuple #[cv s, .int .i64 2]) ∧ Wrote w B ad cap bs w' := by
  have hbd := hfit.bd
  have ha : a < 8 := by omega
  have hb : b < 8 := by omega
  have HF : Hid (∀ wx, Below w.heap.size w wx → Calls Tryd.prog 23 #[cv s, mv M] wx fun e w' => e = .returned (.tuple #[.agg #[.int .i64 18, .int .i64 (a : Int), .int .i64 (b : Int), .int .i64 i], .int .i64 0]) ∧ Below wx.heap.size wx w') := Lib.hid (fun wx hb => by
    have := fetch_any wx (hT.below hb) M B ad cap bs (hM.below hb) (Lies.below hL hb) s hs
    rw [hf] at this
    exact this)
  have HTC : Hid (∀ wx, Calls Tryd.prog 24 #[.agg #[.int .i64 18, .int .i64 (a : Int), .int .i64 (b : Int), .int .i64 i], cv s] wx fun e w' => e = .returned (plc (memAt 18 b i s) 1 true) ∧ Below wx.heap.size wx w') := Lib.hid (fun wx => touched_any wx 18 a b i hb s hs)
  generalize memAt 18 b i s = at0 at *
  have hai : (a : Int) < 8 := by omega
  have hai0 : (0 : Int) ≤ (a : Int) := by omega
  have hca := cs_r s ha
  have hBl := CoY.Lies.lt hL
  have B2 := ((Below.refl w.heap.size w).alloc (Nat.le_refl _) (.cells (cs s) 30)).alloc (by simp) (.cells zcs 30)
  have C1 := (Blk.new w (cs s) 30).below ((Below.refl _ _).alloc (Nat.le_refl _) (.cells zcs 30))
  have R1 := Blk.new (w.alloc (.cells (cs s) 30)) zcs 30
  rw [World.size_alloc] at R1
  have h0 := run_ldC C1 (cs_size s)
  clear hT hf hs hbd hfit hb
  clear hM
  go_enter Tryd.func12, Tryd.ntmps12
  go_wp2_with (first | (go_at_call 23; (with_reducible refine (HF.out _ B2).mono ?_); rintro e w1 ⟨rfl, hb1⟩; refine Hid.out ?_))
  refine Lib.hid ?_
  have bb1 := hb1.trans (((Below.refl w1.heap.size w1).alloc (Nat.le_refl _) (.cells #[.int .i64 18, .int .i64 (a : Int), .int .i64 (b : Int), .int .i64 i] 61)).mono hb1.size)
  have bb2 := bb1.trans (((Below.refl (w1.alloc (.cells #[.int .i64 18, .int .i64 (a : Int), .int .i64 (b : Int), .int .i64 i] 61)).heap.size (w1.alloc (.cells #[.int .i64 18, .int .i64 (a : Int), .int .i64 (b : Int), .int .i64 i] 61))).alloc (Nat.le_refl _) (.cells zcs 30)).mono bb1.size)
  have h1 := run_ldC (C1.below bb1) (cs_size s)
  have E1 := Blk.new (w1.alloc (.cells #[.int .i64 18, .int .i64 (a : Int), .int .i64 (b : Int), .int .i64 i] 61)) zcs 30
  have X1 := (Blk.new w1 #[.int .i64 18, .int .i64 (a : Int), .int .i64 (b : Int), .int .i64 i] 61).below ((Below.refl _ _).alloc (Nat.le_refl _) (.cells zcs 30))
  rw [World.size_alloc] at E1
  have hnX : w.heap.size + 1 < w1.heap.size := by have := hb1.size; simp at this; omega
  have F1 : Four w w.heap.size w1.heap.size s 18 a b i zcs ((w1.alloc (.cells #[.int .i64 18, .int .i64 (a : Int), .int .i64 (b : Int), .int .i64 i] 61)).alloc (.cells zcs 30)) := ⟨C1.below bb2, R1.below bb2, X1, E1, hnX⟩
  have h2 := run_stC E1 rfl (cs_size s) (cs_one s)
  have F2 := F1.all (cs s) rfl
  have W2 := Wrote.sets hBl (w1.heap.size + 1) (by omega) (cs s).toList 0 (Wrote.of_below hL (B2.trans (bb2.mono B2.size)))
  obtain ⟨w2, hw2⟩ : ∃ w2, World.setCells ((w1.alloc (.cells #[.int .i64 18, .int .i64 (a : Int), .int .i64 (b : Int), .int .i64 i] 61)).alloc (.cells zcs 30)) (w1.heap.size + 1) 0 (cs s).toList = w2 := ⟨_, rfl⟩
  have D2 := below_all (w1.heap.size + 1) (by omega) (cs s).toList 0 (B2.trans (bb2.mono B2.size))
  rw [hw2] at h2 F2 W2 D2
  have x0 := F2.x.cell 0
  clear hw2 F1 E1 X1 bb1 bb2 C1 R1 h0 hb1 B2 hL
  go_wp2
  have HCA := Lib.hid hca
  have HF := Lib.hid (fun wx (F : Four w w.heap.size w1.heap.size s 18 a b i (cs s) wx) => (show (wx.cell? ⟨w1.heap.size, 0, none⟩ = some (.int .i64 18) ∧ wx.cell? ⟨w1.heap.size, 1, none⟩ = some (.int .i64 (a : Int)) ∧ wx.cell? ⟨w1.heap.size, 2, none⟩ = some (.int .i64 (b : Int)) ∧ wx.cell? ⟨w1.heap.size, 3, none⟩ = some (.int .i64 i)) ∧ (ldC (.pointer (some ⟨w.heap.size, 0, none⟩))).run Tryd.prog wx = .ok (.agg (cs s)) wx ∧ wx.cell? ⟨w.heap.size, a, none⟩ = some (uv (s.r a)) from ⟨⟨F.x.cell 0, F.x.cell 1, F.x.cell 2, F.x.cell 3⟩, run_ldC F.c (cs_size s), (F.c.cell a).trans HCA.out⟩))
  have HF2 := Lib.hid F2
  have HW2 := Lib.hid W2
  have HD2 := Lib.hid D2
  clear F2 W2 D2 h1 h2
  have B0 := (Below.refl w2.heap.size w2).drew
  go_region_held (fun wx => (wx.cell? ⟨w1.heap.size, 0, none⟩ = some (.int .i64 18) ∧ wx.cell? ⟨w1.heap.size, 1, none⟩ = some (.int .i64 (a : Int)) ∧ wx.cell? ⟨w1.heap.size, 2, none⟩ = some (.int .i64 (b : Int)) ∧ wx.cell? ⟨w1.heap.size, 3, none⟩ = some (.int .i64 i)) ∧ (ldC (.pointer (some ⟨w.heap.size, 0, none⟩))).run Tryd.prog wx = .ok (.agg (cs s)) wx ∧ wx.cell? ⟨w.heap.size, a, none⟩ = some (uv (s.r a))) (first | exact HF.out _ F4 | exact HF.out _ (HF2.out.below B3) | exact HF.out _ (HF2.out.below B0) | go_keep) (first | (go_at_call 24; (with_reducible refine (HTC.out _).mono ?_); rintro e w3 ⟨rfl, hb3⟩; have B3 := B0.trans hb3) | (go_at_call 28; (with_reducible refine (HR.out _ (HD2.out.trans (B3.mono HD2.out.size))).mono ?_); rintro e w4 ⟨rfl, hb4⟩; have F4 := (HF2.out.below B3).below hb4))
  have W4 : Wrote w B ad cap bs w4 := (HW2.out.below B3).below hb4
  have h3 := run_ldC F4.c (cs_size s)
  have h4 := run_stC F4.r rfl (cs_size s) (cs_one s)
  have HR := Lib.hid (Blk.setAll F4.r (ds := cs s) rfl)
  have HS := Lib.hid (cs_size s)
  have HW := Lib.hid (Wrote.sets hBl (w.heap.size + 1) (by omega) (cs s).toList 0 W4)
  clear F4 W4 B3 B0 hb3 hb4 hca
  generalize hD : cs s = D at *
  have HE := Lib.hid hD
  clear hD
  go_wp2
  refine bodyPost_ret (v := .tuple #[.agg D, .int .i64 2]) ?_ rfl ⟨by rw [← HE.out], HW.out⟩
  exact results_cell_row2 rfl _ _ (w.heap.size + 1) 30 D (0, 0) _ _ rfl rfl HR.out Tryd.underlying30 rfl (by rw [infoC, HS.out])
end Go.Proofs.YtgnpbedhpkmkfaaDoor.CoA

/-
  Step and Touches, whole, where memory is a Ram.
-/
namespace Go.Proofs.YtgnpbedhpkmkfaaDoor.CoE
open Go Go.RowKit Kit Bk CoM CoR CoB CoW CoI CoF CoT CoU CoV CoC CoX CoY CoZ CoA IsaM IsaT IsaL IsaC IsaE IsaN
set_option linter.unusedVariables false

theorem fetch_fits {pc : Int} {bs : CoM.Bs} {k a b : Nat} {i : Int} (h : fetchP pc bs = .inr (k, a, b, i)) : Fits k a b i := by
  unfold fetchP at h
  split at h
  · cases h
  · rename_i n hn
    split at h
    · rename_i hm
      have hm2 : May _ _ _ _ := of_decide_eq_true hm
      have hb := hm2.2.bd
      obtain ⟨rfl, rfl, rfl, rfl⟩ : (dOp n).toNat = k ∧ (dA n).toNat = a ∧ (dB n).toNat = b ∧ dI n = i := by
        simp only [Sum.inr.injEq, Prod.mk.injEq] at h
        exact h
      have e1 : (((dA n).toNat : Nat) : Int) = dA n := Int.toNat_of_nonneg (by omega)
      have e2 : (((dB n).toNat : Nat) : Int) = dB n := Int.toNat_of_nonneg (by omega)
      rw [e1, e2]
      exact hm2.2
    · cases h
theorem fetch_trap {pc : Int} {bs : CoM.Bs} {t : Int} (h : fetchP pc bs = .inl t) : t = 2 ∨ t = 3 := by
  unfold fetchP at h
  split at h
  · exact .inl (Sum.inl.inj h).symm
  · split at h
    · cases h
    · exact .inr (Sum.inl.inj h).symm
theorem m32_bd (x : Int) : 0 ≤ m32 x ∧ m32 x < 4294967296 := by unfold m32; omega

theorem step_mem (w : World) (hT : Tabs w) (M B : Nat) (ad : Option Addr) (cap : Nat) (bs : CoM.Bs) (hM : RamAt w M ad cap bs) (hL : Lies w B ad cap bs) (hMB : M ≠ B) (s : St) (hs : s.Ok) (k a b : Nat) (i : Int) (hf : fetchP s.pc bs = .inr (k, a, b, i)) (hk : isMem k = true) :
    Calls Tryd.prog 12 #[cv s, mv M] w fun e w' => e = .returned (.tuple #[cv (execP k a b i s bs).1, .int .i64 (execP k a b i s bs).2.1]) ∧ Wrote w B ad cap (execP k a b i s bs).2.2 w' := by
  have hfit := fetch_fits hf
  have hle := hL.le
  obtain ⟨at0, hat⟩ := Int.eq_ofNat_of_zero_le (m32_bd (s.r b + m32 i)).1
  have hat1 := (m32_bd (s.r b + m32 i)).2
  have hat2 : memAt k b i s = (at0 : Int) := hat
  rw [hat] at hat1
  have hlt : at0 < 4294967296 := by omega
  obtain ⟨v, hv⟩ := Int.eq_ofNat_of_zero_le (hs.r0 a)
  have hv1 : v < 4294967296 := by have := hs.r1 a; omega
  have hc : k = 15 ∨ k = 16 ∨ k = 17 ∨ k = 18 := by
    unfold isMem at hk
    simp at hk
    omega
  have e24 : ¬ k = 24 := by omega
  have hlt2 := CoY.Lies.lt hL
  unfold execP
  rw [if_neg e24, if_pos hk, hat2]
  cases hr : rch bs (at0 : Int) (lng k) with
  | true =>
    simp only [if_true]
    have hn : nxt k (s.r a) i s.pc = m32 (s.pc + 4) := by rcases hc with rfl | rfl | rfl | rfl <;> rfl
    rw [← hn]
    unfold rch at hr
    simp only [Bool.and_eq_true, decide_eq_true_eq, Bool.not_eq_true', Bool.and_eq_false_iff, decide_eq_false_iff_not] at hr
    obtain ⟨h1, h2⟩ := hr
    have hB0 : B < w.heap.size := by
      rcases hlt2 with h | h
      · exfalso
        rw [h] at h1
        have : 1 ≤ lng k := by rcases hc with rfl | rfl | rfl | rfl <;> decide
        simp at h1
        omega
      · exact h
    rcases hc with rfl | rfl | rfl | rfl
    · have h3 : (at0 : Int) + 4 ≤ bs.length := h1
      have h4 : (at0 : Int) % 4 = 0 := by rcases h2 with h | h <;> first | exact absurd rfl h | omega
      exact mem_15 w hT M B ad cap bs hM hL s hs a b i hf hfit _ bs hB0 (Lib.hid (fun wx hb => by
        rw [hat2]
        exact (reach_rw wx M B ad cap bs (hM.below hb) (Lies.below hL hb) at0 hlt (by omega) (by simp [h4]) _).mono fun e w' ⟨he, hb'⟩ => ⟨he, Wrote.of_below (Lies.below hL hb) hb'⟩))
    · have h3 : (at0 : Int) + 4 ≤ bs.length := h1
      have h4 : (at0 : Int) % 4 = 0 := by rcases h2 with h | h <;> first | exact absurd rfl h | omega
      exact mem_16 w hT M B ad cap bs hM hL s hs a b i hf hfit _ _ hB0 (Lib.hid (fun wx hb => by
        rw [hat2, show memV 16 (at0 : Int) (s.r a) bs = s.r a from rfl, show memP 16 (at0 : Int) (s.r a) bs = put4 bs (at0 : Int).toNat (s.r a).toNat from rfl, hv, Int.toNat_natCast, Int.toNat_natCast]
        exact reach_ww wx M B ad cap bs (hM.below hb) (Lies.below hL hb) at0 hlt (by omega) (by simp [h4]) v hv1 hMB))
    · have h3 : (at0 : Int) + 1 ≤ bs.length := h1
      exact mem_17 w hT M B ad cap bs hM hL s hs a b i hf hfit _ bs hB0 (Lib.hid (fun wx hb => by
        rw [hat2]
        exact (reach_rb wx M B ad cap bs (hM.below hb) (Lies.below hL hb) at0 hlt (by omega) _).mono fun e w' ⟨he, hb'⟩ => ⟨he, Wrote.of_below (Lies.below hL hb) hb'⟩))
    · have h3 : (at0 : Int) + 1 ≤ bs.length := h1
      exact mem_18 w hT M B ad cap bs hM hL s hs a b i hf hfit _ _ hB0 (Lib.hid (fun wx hb => by
        rw [hat2, show memV 18 (at0 : Int) (s.r a) bs = s.r a from rfl, show memP 18 (at0 : Int) (s.r a) bs = put1 bs (at0 : Int).toNat (s.r a).toNat from rfl, hv, Int.toNat_natCast, Int.toNat_natCast]
        exact reach_wb wx M B ad cap bs (hM.below hb) (Lies.below hL hb) at0 hlt (by omega) v hv1 hMB))
  | false =>
    simp only [Bool.false_eq_true, if_false]
    unfold rch at hr
    simp only [Bool.and_eq_false_iff, decide_eq_false_iff_not, Bool.not_eq_false', Bool.and_eq_true, decide_eq_true_eq] at hr
    rcases hc with rfl | rfl | rfl | rfl
    · by_cases h4 : (at0 : Int) % 4 = 0
      · have h3 : ¬ (at0 : Int) + 4 ≤ bs.length := by rcases hr with h | h; exact h; exact absurd h4 h.2
        exact memno_15 w hT M B ad cap bs hM hL s hs a b i hf hfit _ (Lib.hid (fun wx hb => by
          rw [hat2]
          exact reach_rw_no wx M B ad cap bs (hM.below hb) (Lies.below hL hb) at0 hlt (by omega) (by simp [h4]) _))
      · exact memno_15 w hT M B ad cap bs hM hL s hs a b i hf hfit _ (Lib.hid (fun wx hb => by
          rw [hat2]
          exact reach_al wx M B ad cap bs (hM.below hb) (Lies.below hL hb) at0 false (by simp [h4]) _))
    · by_cases h4 : (at0 : Int) % 4 = 0
      · have h3 : ¬ (at0 : Int) + 4 ≤ bs.length := by rcases hr with h | h; exact h; exact absurd h4 h.2
        exact memno_16 w hT M B ad cap bs hM hL s hs a b i hf hfit _ (Lib.hid (fun wx hb => by
          rw [hat2, hv]
          exact reach_ww_no wx M B ad cap bs (hM.below hb) (Lies.below hL hb) at0 hlt (by omega) (by simp [h4]) v hv1))
      · exact memno_16 w hT M B ad cap bs hM hL s hs a b i hf hfit _ (Lib.hid (fun wx hb => by
          rw [hat2]
          exact reach_al wx M B ad cap bs (hM.below hb) (Lies.below hL hb) at0 true (by simp [h4]) _))
    · have h3 : ¬ (at0 : Int) + 1 ≤ bs.length := by rcases hr with h | h; exact h; exact absurd h.1 (by decide)
      exact memno_17 w hT M B ad cap bs hM hL s hs a b i hf hfit _ (Lib.hid (fun wx hb => by
        rw [hat2]
        exact reach_rb_no wx M B ad cap bs (hM.below hb) (Lies.below hL hb) at0 hlt (by omega) _))
    · have h3 : ¬ (at0 : Int) + 1 ≤ bs.length := by rcases hr with h | h; exact h; exact absurd h.1 (by decide)
      exact memno_18 w hT M B ad cap bs hM hL s hs a b i hf hfit _ (Lib.hid (fun wx hb => by
        rw [hat2, hv]
        exact reach_wb_no wx M B ad cap bs (hM.below hb) (Lies.below hL hb) at0 hlt (by omega) v hv1))

theorem step_any (w : World) (hT : Tabs w) (M B : Nat) (ad : Option Addr) (cap : Nat) (bs : CoM.Bs) (hM : RamAt w M ad cap bs) (hL : Lies w B ad cap bs) (hMB : M ≠ B) (s : St) (hs : s.Ok) :
    Calls Tryd.prog 12 #[cv s, mv M] w fun e w' => e = .returned (.tuple #[cv (stepP s bs).1, .int .i64 (stepP s bs).2.1]) ∧ Wrote w B ad cap (stepP s bs).2.2 w' := by
  unfold stepP
  cases hf : fetchP s.pc bs with
  | inl t =>
    exact step_trap w hT M B ad cap bs hM hL s hs t hf (by rcases fetch_trap hf with rfl | rfl <;> rfl)
  | inr x =>
    obtain ⟨k, a, b, i⟩ := x
    have hfit := fetch_fits hf
    have h30 := hfit.k30
    show Calls Tryd.prog 12 #[cv s, mv M] w fun e w' => e = .returned (.tuple #[cv (execP k a b i s bs).1, .int .i64 (execP k a b i s bs).2.1]) ∧ Wrote w B ad cap (execP k a b i s bs).2.2 w'
    by_cases h24 : k = 24
    · subst h24
      exact step_sys w hT M B ad cap bs hM hL s hs a b i hf
    by_cases hm : isMem k = true
    · exact step_mem w hT M B ad cap bs hM hL hMB s hs k a b i hf hm
    unfold execP
    rw [if_neg h24, if_neg hm]
    by_cases h25 : 25 ≤ k
    · rw [if_pos h25]
      have hn : nxt k (s.r a) i s.pc = m32 (s.pc + 4) := no_eq (by omega) (by unfold jumps; simp; omega)
      rw [← hn]
      exact step_z w hT M B ad cap bs hM hL s hs k h25 a b i hf hfit
    · rw [if_neg h25]
      exact step_reg w hT M B ad cap bs hM hL s hs k (by unfold isMem at hm; simp at hm; omega) (by omega) a b i hf hfit

attribute [local go_sem ↓] ldc_wrap stc_wrap
set_option maxRecDepth 100000 in
set_option maxHeartbeats 1000000 in
theorem touches_walk (w : World) (mem : Value) (s : St) (k a b : Nat) (i t A L : Int) (W : Bool)
    (HF : Hid (∀ wx, Below w.heap.size w wx → Calls Tryd.prog 23 #[cv s, mem] wx fun e w' => e = .returned (.tuple #[.agg #[.int .i64 (k : Int), .int .i64 (a : Int), .int .i64 (b : Int), .int .i64 i], .int .i64 t]) ∧ Below wx.heap.size wx w'))
    (HT : Hid (∀ wx, Calls Tryd.prog 24 #[.agg #[.int .i64 (k : Int), .int .i64 (a : Int), .int .i64 (b : Int), .int .i64 i], cv s] wx fun e w' => e = .returned (plc A L W) ∧ Below wx.heap.size wx w')) :
    Calls Tryd.prog 10 #[cv s, mem] w fun e w' => e = .returned (.tuple #[uv A, .int .i64 L, .bool W]) ∧ Below w.heap.size w w' := by
  have B1 := (Below.refl w.heap.size w).alloc (Nat.le_refl _) (.cells (cs s) 30)
  have C1 := Blk.new w (cs s) 30
  have h0 := run_ldC C1 (cs_size s)
  go_enter Tryd.func10, Tryd.ntmps10
  go_wp2_with (first | (go_at_call 23; (with_reducible refine (HF.out _ B1).mono ?_); rintro e w1 ⟨rfl, hb1⟩; refine Hid.out ?_))
  refine Lib.hid ?_
  have C2 := (C1.below hb1).below ((Below.refl _ _).alloc (Nat.le_refl _) (.cells #[.int .i64 (k : Int), .int .i64 (a : Int), .int .i64 (b : Int), .int .i64 i] 61))
  have h1 := run_ldC C2 (cs_size s)
  have D1 := B1.trans (hb1.mono B1.size)
  have D2 := D1.alloc D1.size (.cells #[.int .i64 (k : Int), .int .i64 (a : Int), .int .i64 (b : Int), .int .i64 i] 61)
  go_wp2_with (first | (go_at_call 24; (with_reducible refine (HT.out _).mono ?_); rintro e w2 ⟨rfl, hb2⟩; refine Hid.out ?_))
  refine Lib.hid ?_
  have D3 := D2.trans (hb2.mono D2.size)
  have D4 := D3.alloc D3.size (.cells #[.int .u32 A, .int .i64 L, .bool W] 71)
  clear h0 h1 C1 C2 B1 D1 D2 D3 hb1 hb2
  go_wp2
  go_quiet (fail)
  go_wp2
  go_ret3
  exact ⟨rfl, D4.trans (drew_below _ _ _)⟩

theorem tv_eq (k b : Nat) (i : Int) (s : St) (a : Nat) : tv k b i s = plc (if isMem k then memAt k b i s else 0) (if isMem k then lng k else 0) (if isMem k then wrt k else false) := by
  unfold tv
  split <;> rfl
theorem touches_any (w : World) (hT : Tabs w) (M B : Nat) (ad : Option Addr) (cap : Nat) (bs : CoM.Bs) (hM : RamAt w M ad cap bs) (hL : Lies w B ad cap bs) (s : St) (hs : s.Ok) :
    Calls Tryd.prog 10 #[cv s, mv M] w fun e w' => e = .returned (.tuple #[uv (touchP s bs).1, .int .i64 (touchP s bs).2.1, .bool (touchP s bs).2.2]) ∧ Below w.heap.size w w' := by
  have HF := fun wx (hb : Below w.heap.size w wx) => fetch_any wx (hT.below hb) M B ad cap bs (hM.below hb) (Lies.below hL hb) s hs
  unfold touchP
  cases hf : fetchP s.pc bs with
  | inl t =>
    rw [hf] at HF
    exact touches_walk w (mv M) s 0 0 0 0 t 0 0 false (Lib.hid HF) (Lib.hid (fun wx => touched_any wx 0 0 0 0 (by decide) s hs))
  | inr x =>
    obtain ⟨k, a, b, i⟩ := x
    have hfit := fetch_fits hf
    have hbd := hfit.bd
    rw [hf] at HF
    have := touches_walk w (mv M) s k a b i 0 _ _ _ (Lib.hid HF) (Lib.hid (fun wx => by have := touched_any wx k a b i (by omega) s hs; rw [tv_eq k b i s a] at this; exact this))
    refine this.mono fun e w' ⟨he, hb⟩ => ⟨?_, hb⟩
    rw [he]
    show _ = Ending.returned (.tuple #[uv (if isMem k then (memAt k b i s, lng k, wrt k) else (0, 0, false)).1, .int .i64 (if isMem k then (memAt k b i s, lng k, wrt k) else (0, 0, false)).2.1, .bool (if isMem k then (memAt k b i s, lng k, wrt k) else (0, 0, false)).2.2])
    cases isMem k <;> rfl
end Go.Proofs.YtgnpbedhpkmkfaaDoor.CoE
