/-
  The document's own: Step: Gaussian registers, registers.
-/
import Derived.Test.YtgnpbedhpkmkfaaDoorZRfG
import Derived.Test.YtgnpbedhpkmkfaaDoorZGr
namespace Go.Proofs.YtgnpbedhpkmkfaaDoor.RfH
open Go Go.RowKit Kit Fl Whole Gleaf Gparts Gwhole Gnums Gref Gref Gg WordsG Bk CoM CoR CoB CoW CoI CoF CoT CoU CoV CoC CoX CoY CoE IsaM IsaT IsaL IsaC IsaE IsaN RfA Rc RfD RfE RfF RfC RfG
set_option linter.unusedVariables false
attribute [local go_sem ↓] ldc_wrap stc_wrap

theorem rwords_any (a b : Nat) (w : World) :
    Calls Tryd.prog 34 #[.complex .f64 a b] w fun e w' => e = .returned (.tuple #[.int .u32 (wd (re a b)), .int .u32 (wd (im a b))]) ∧ w = w' := by
  obtain ⟨h1, h1'⟩ := re_range a b
  obtain ⟨h2, h2'⟩ := im_range a b
  by_cases hp : re a b < 0
  all_goals by_cases hq : im a b < 0
  all_goals
    go_enter Tryd.func34, Tryd.ntmps34
    go_wp2_with (first | (go_at_call 37; refine (rparts_any _ _ _).mono ?_; rintro e w1 ⟨rfl, rfl⟩))
    go_ret2
    refine ⟨ret_ii ?_ ?_, rfl⟩
    all_goals (unfold wd; omega)

theorem rfrom_any (x y : Int) (hx : 0 ≤ x ∧ x < 4294967296) (hy : 0 ≤ y ∧ y < 4294967296) (w : World) :
    Calls Tryd.prog 33 #[.int .u32 x, .int .u32 y] w fun e w' => e = .returned (zv (gm (sx x) (sx y))) ∧ w = w' := by
  obtain ⟨h1, h1'⟩ := hx
  obtain ⟨h2, h2'⟩ := hy
  by_cases hp : 2147483648 ≤ x
  all_goals by_cases hq : 2147483648 ≤ y
  all_goals
    go_enter Tryd.func33, Tryd.ntmps33
    go_wp2_with (first | (go_at_call 38; refine (rmake_any _ _ _ (by omega) (by omega)).mono ?_; rintro e w1 ⟨rfl, rfl⟩))
    go_ret
    refine ⟨?_, rfl⟩
    show Ending.returned (zv (gm _ _)) = _
    refine congrArg Ending.returned ?_
    congr 2
    all_goals (unfold sx wrap32; omega)

set_option maxRecDepth 100000 in
set_option maxHeartbeats 2000000 in
theorem rs_27 (w : World) (B : Nat) (ad : Option Addr) (cap : Nat) (bs : CoM.Bs) (hL : Lies w B ad cap bs) (s : St) (hs : s.Ok) (p n : Nat) (hp : s.pc = (p : Int)) (h4 : ((p : Int) % 4 != 0) = false) (a b : Nat) (i : Int) (hi : -32768 ≤ i ∧ i ≤ 32767) (ha : a < 8) (hb : b < 8) (ha2 : a < 2) (hb2 : b < 2)
    (HWd : Hid (∀ wx, Below w.heap.size w wx → Calls Tryd.prog 25 #[sl ad bs cap, uv (p : Int)] wx fun e' w' => e' = .returned (.tuple #[uv (n : Int), .bool true]) ∧ wx = w'))
    (HDc : Hid (∀ wx, Calls Tryd.prog 26 #[uv (n : Int)] wx fun e' w' => e' = .returned (.tuple #[.agg #[.int .i64 27, .int .i64 (a : Int), .int .i64 (b : Int), .int .i64 i], .int .i64 0]) ∧ Below wx.heap.size wx w')) :
    Calls Tryd.prog 13 #[cv s, sl ad bs cap] w fun e' w' => e' = .returned (.tuple #[cv (setP (zst 27 a b s) (m32 (s.pc + 4))), .int .i64 0]) ∧ Wrote w B ad cap bs w' := by
  have haz := cs_z s ha2
  have hai : (a : Int) < 2 := by omega
  have hai0 : (0 : Int) ≤ (a : Int) := by omega
  have hbz := cs_z s hb2
  have hbi : (b : Int) < 2 := by omega
  have hbi0 : (0 : Int) ≤ (b : Int) := by omega
  have HAZ := Lib.hid haz
  have HBZ := Lib.hid hbz
  obtain ⟨z', hz'⟩ : ∃ z', zpair (zre (s.z a) + zre (s.z b)) (zim (s.z a) + zim (s.z b)) = z' := ⟨_, rfl⟩
  have hzz : zst 27 a b s = setZ s a z' := by rw [← hz']; rfl
  have HC : Hid (∀ wx, Calls Tryd.prog 35 #[zc (s.z a), zc (s.z b)] wx fun e w' => e = .returned (zc z') ∧ wx = w') := Lib.hid (fun wx => by have := radd_any (s.z a).1 (s.z a).2 (s.z b).1 (s.z b).2 wx; rw [← hz']; exact this)
  rw [hzz]
  clear hzz
  have hBl := CoY.Lies.lt hL
  have hcp := cs_pc s
  rw [hp] at hcp
  have B2 := ((Below.refl w.heap.size w).alloc (Nat.le_refl _) (.cells (cs s) 30)).alloc (by simp) (.cells zcs 30)
  have C1 := (Blk.new w (cs s) 30).below ((Below.refl _ _).alloc (Nat.le_refl _) (.cells zcs 30))
  have R1 := Blk.new (w.alloc (.cells (cs s) 30)) zcs 30
  rw [World.size_alloc] at R1
  have h0 := run_ldC C1 (cs_size s)
  go_enter Tryd.func13, Tryd.ntmps13
  go_wp2_with (first | (go_at_call 25; (with_reducible refine (HWd.out _ B2).mono ?_); rintro e' w0 ⟨rfl, rfl⟩) | (go_at_call 26; (with_reducible refine (HDc.out _).mono ?_); rintro e' w1 ⟨rfl, hb1⟩; refine Hid.out ?_))
  refine Lib.hid ?_
  have bb1 := hb1.trans (((Below.refl w1.heap.size w1).alloc (Nat.le_refl _) (.cells #[.int .i64 27, .int .i64 (a : Int), .int .i64 (b : Int), .int .i64 i] 61)).mono hb1.size)
  have bb2 := bb1.trans (((Below.refl (w1.alloc (.cells #[.int .i64 27, .int .i64 (a : Int), .int .i64 (b : Int), .int .i64 i] 61)).heap.size (w1.alloc (.cells #[.int .i64 27, .int .i64 (a : Int), .int .i64 (b : Int), .int .i64 i] 61))).alloc (Nat.le_refl _) (.cells zcs 30)).mono bb1.size)
  have h1 := run_ldC (C1.below bb1) (cs_size s)
  have E1 := Blk.new (w1.alloc (.cells #[.int .i64 27, .int .i64 (a : Int), .int .i64 (b : Int), .int .i64 i] 61)) zcs 30
  have X1 := (Blk.new w1 #[.int .i64 27, .int .i64 (a : Int), .int .i64 (b : Int), .int .i64 i] 61).below ((Below.refl _ _).alloc (Nat.le_refl _) (.cells zcs 30))
  rw [World.size_alloc] at E1
  have hnX : w.heap.size + 1 < w1.heap.size := by have := hb1.size; simp at this; omega
  have F1 : Four w w.heap.size w1.heap.size s 27 a b i zcs ((w1.alloc (.cells #[.int .i64 27, .int .i64 (a : Int), .int .i64 (b : Int), .int .i64 i] 61)).alloc (.cells zcs 30)) := ⟨C1.below bb2, R1.below bb2, X1, E1, hnX⟩
  have h2 := run_stC E1 rfl (cs_size s) (cs_one s)
  have F2 := F1.all (cs s) rfl
  have W2 := Wrote.sets hBl (w1.heap.size + 1) (by omega) (cs s).toList 0 (Wrote.of_below hL (B2.trans (bb2.mono B2.size)))
  obtain ⟨w2, hw2⟩ : ∃ w2, World.setCells ((w1.alloc (.cells #[.int .i64 27, .int .i64 (a : Int), .int .i64 (b : Int), .int .i64 i] 61)).alloc (.cells zcs 30)) (w1.heap.size + 1) 0 (cs s).toList = w2 := ⟨_, rfl⟩
  have D2 := below_all (w1.heap.size + 1) (by omega) (cs s).toList 0 (B2.trans (bb2.mono B2.size))
  rw [hw2] at h2 F2 W2 D2
  have c10 := (F2.c.cell 10).trans hcp
  have e10 := (F2.e.cell 10).trans hcp
  have g10 := F2.e.free 10
  have x3 := F2.x.cell 3
  clear hw2 F1 E1 X1 bb1 bb2 C1 R1 h0 hb1 B2 hL hcp
  go_wp2
  go_quiet ((go_at_call 27; exact quiet (imm_any i hi _)))
  have F3 := F2.set 10 (uv (m32 (s.pc + 4)))
  rw [cs_setP] at F3
  have W3 := W2.set hBl (w1.heap.size + 1) 10 (uv (m32 (s.pc + 4))) (by omega)
  have D3 := D2.setCell (p := ⟨w1.heap.size + 1, 10, none⟩) (by show w.heap.size ≤ w1.heap.size + 1; omega) (uv (m32 (s.pc + 4)))
  have bd := drew_below (w2.setCell ⟨w1.heap.size + 1, 10, none⟩ (uv (m32 (s.pc + 4)))).heap.size (w2.setCell ⟨w1.heap.size + 1, 10, none⟩ (uv (m32 (s.pc + 4)))) nq
  have F4 := F3.below bd
  have W4 := W3.below bd
  have D4 := D3.trans (bd.mono D3.size)
  obtain ⟨w4, hw4⟩ : ∃ w4, World.drewN (w2.setCell ⟨w1.heap.size + 1, 10, none⟩ (uv (m32 (s.pc + 4)))) nq = w4 := ⟨_, rfl⟩
  rw [hw4] at F4 W4 D4
  have hw4' : World.drewN (w2.setCell ⟨w1.heap.size + 1, 10, none⟩ (Value.int .u32 (((p : Int) + 4) % 4294967296))) nq = w4 := by rw [← hw4, hp]; rfl
  have hfar : ((((p : Int) + 4) % 4294967296 + 4 * m32 i % 4294967296) % 4294967296) = m32 (m32 (s.pc + 4) + m32 (4 * m32 i)) := by rw [hp]; rfl
  generalize hfr : m32 (m32 (s.pc + 4) + m32 (4 * m32 i)) = far at *
  have HFR := Lib.hid hfr
  have HFA := Lib.hid hfar
  have HW4 := Lib.hid hw4'
  clear hw4 hw4' F2 W2 F3 W3 bd c10 e10 g10 x3 h1 h2 hfr hfar D2 D3
  rw [HW4.out, HFA.out]
  have x0 := F4.x.cell 0
  have HS0 := Lib.hid (fun wx (F : Four w w.heap.size w1.heap.size s 27 a b i (cs (setP s (m32 (s.pc + 4)))) wx) => (show wx.cell? ⟨w1.heap.size, 1, none⟩ = some (.int .i64 (a : Int)) ∧ wx.cell? ⟨w1.heap.size, 2, none⟩ = some (.int .i64 (b : Int)) ∧ wx.cell? ⟨w.heap.size, 8 + a, none⟩ = some (zc (s.z a)) ∧ wx.cell? ⟨w.heap.size, 8 + b, none⟩ = some (zc (s.z b)) from ⟨F.x.cell 1, F.x.cell 2, (F.c.cell (8 + a)).trans HAZ.out, (F.c.cell (8 + b)).trans HBZ.out⟩))
  have HF4 := Lib.hid F4
  have HW5 := Lib.hid W4
  have y1 := F4.e.cell (8 + a)
  rw [cs_z _ ha2] at y1
  have f1 := F4.e.free (8 + a)
  have h0 : (store ⟨w1.heap.size + 1, 8 + a, none⟩ (zc z')).run Tryd.prog w4.drew = .ok () ((w4.setCell ⟨w1.heap.size + 1, 8 + a, none⟩ (zc z')).drew) := by
    rw [run_store _ _ _ _ _ rfl, show w4.drew.cell? ⟨w1.heap.size + 1, 8 + a, none⟩ = _ from y1]
    simp only [show w4.drew.frozen? ⟨w1.heap.size + 1, 8 + a, none⟩ = false from f1, Bool.false_eq_true, if_false]
    rfl
  have F5 := (F4.set (8 + a) (zc z')).below ((Below.refl _ _).drew)
  have HSX := Lib.hid (HS0.out _ ((F4.below ((Below.refl _ _).drew))))
  rw [cs_setZ _ _ ha2] at F5
  have W5 := (W4.set hBl (w1.heap.size + 1) (8 + a) (zc z') (by omega)).below ((Below.refl _ _).drew)
  have HSY : Hid (((w4.setCell ⟨w1.heap.size + 1, 8 + a, none⟩ (zc z')).drew).cell? ⟨w1.heap.size, 1, none⟩ = some (.int .i64 (a : Int)) ∧ ((w4.setCell ⟨w1.heap.size + 1, 8 + a, none⟩ (zc z')).drew).cell? ⟨w1.heap.size, 2, none⟩ = some (.int .i64 (b : Int)) ∧ ((w4.setCell ⟨w1.heap.size + 1, 8 + a, none⟩ (zc z')).drew).cell? ⟨w.heap.size, 8 + a, none⟩ = some (zc (s.z a)) ∧ ((w4.setCell ⟨w1.heap.size + 1, 8 + a, none⟩ (zc z')).drew).cell? ⟨w.heap.size, 8 + b, none⟩ = some (zc (s.z b))) := Lib.hid (⟨((F4.set (8 + a) (zc z')).below ((Below.refl _ _).drew)).x.cell 1, ((F4.set (8 + a) (zc z')).below ((Below.refl _ _).drew)).x.cell 2, (((F4.set (8 + a) (zc z')).below ((Below.refl _ _).drew)).c.cell (8 + a)).trans HAZ.out, (((F4.set (8 + a) (zc z')).below ((Below.refl _ _).drew)).c.cell (8 + b)).trans HBZ.out⟩)
  clear F4 W4 D4
  go_wp2
  go_region_held (fun wx => wx.cell? ⟨w1.heap.size, 1, none⟩ = some (.int .i64 (a : Int)) ∧ wx.cell? ⟨w1.heap.size, 2, none⟩ = some (.int .i64 (b : Int)) ∧ wx.cell? ⟨w.heap.size, 8 + a, none⟩ = some (zc (s.z a)) ∧ wx.cell? ⟨w.heap.size, 8 + b, none⟩ = some (zc (s.z b))) (first | exact HSY.out | exact HSX.out | go_keep) ((go_at_call 35; (with_reducible refine (HC.out _).mono ?_); rintro e' w5 ⟨rfl, rfl⟩))
  obtain ⟨w6, hw6⟩ : ∃ w6, (w4.setCell ⟨w1.heap.size + 1, 8 + a, none⟩ (zc z')).drew = w6 := ⟨_, rfl⟩
  rw [hw6] at F5 W5
  have hw6' := hw6
  rw [hw6']
  clear hw6 hw6' h0 y1 f1
  have h3 := run_ldC F5.e (cs_size _)
  have h5 := run_stC F5.r rfl (cs_size (setZ (setP s (m32 (s.pc + 4))) a z')) (cs_one _)
  have HR := Lib.hid (CoC.Blk.setAll F5.r (ds := cs (setZ (setP s (m32 (s.pc + 4))) a z')) rfl)
  have HS := Lib.hid (cs_size (setZ (setP s (m32 (s.pc + 4))) a z'))
  have HW := Lib.hid (Wrote.sets hBl (w.heap.size + 1) (by omega) (cs (setZ (setP s (m32 (s.pc + 4))) a z')).toList 0 W5)
  clear F5 W5
  generalize hD : cs (setZ (setP s (m32 (s.pc + 4))) a z') = D at *
  have HE := Lib.hid hD
  clear hD
  go_wp2
  refine bodyPost_ret (v := .tuple #[.agg D, .int .i64 0]) ?_ rfl ⟨by rw [← HE.out]; rfl, HW.out⟩
  exact results_cell_row2 rfl _ _ (w.heap.size + 1) 30 D (0, 0) _ _ rfl rfl HR.out Tryd.underlying30 rfl (by rw [infoC, HS.out])

set_option maxRecDepth 100000 in
set_option maxHeartbeats 2000000 in
theorem rs_28 (w : World) (B : Nat) (ad : Option Addr) (cap : Nat) (bs : CoM.Bs) (hL : Lies w B ad cap bs) (s : St) (hs : s.Ok) (p n : Nat) (hp : s.pc = (p : Int)) (h4 : ((p : Int) % 4 != 0) = false) (a b : Nat) (i : Int) (hi : -32768 ≤ i ∧ i ≤ 32767) (ha : a < 8) (hb : b < 8) (ha2 : a < 2) (hb2 : b < 2)
    (HWd : Hid (∀ wx, Below w.heap.size w wx → Calls Tryd.prog 25 #[sl ad bs cap, uv (p : Int)] wx fun e' w' => e' = .returned (.tuple #[uv (n : Int), .bool true]) ∧ wx = w'))
    (HDc : Hid (∀ wx, Calls Tryd.prog 26 #[uv (n : Int)] wx fun e' w' => e' = .returned (.tuple #[.agg #[.int .i64 28, .int .i64 (a : Int), .int .i64 (b : Int), .int .i64 i], .int .i64 0]) ∧ Below wx.heap.size wx w')) :
    Calls Tryd.prog 13 #[cv s, sl ad bs cap] w fun e' w' => e' = .returned (.tuple #[cv (setP (zst 28 a b s) (m32 (s.pc + 4))), .int .i64 0]) ∧ Wrote w B ad cap bs w' := by
  have haz := cs_z s ha2
  have hai : (a : Int) < 2 := by omega
  have hai0 : (0 : Int) ≤ (a : Int) := by omega
  have hbz := cs_z s hb2
  have hbi : (b : Int) < 2 := by omega
  have hbi0 : (0 : Int) ≤ (b : Int) := by omega
  have HAZ := Lib.hid haz
  have HBZ := Lib.hid hbz
  obtain ⟨z', hz'⟩ : ∃ z', zpair (zre (s.z a) * zre (s.z b) - zim (s.z a) * zim (s.z b)) (zre (s.z a) * zim (s.z b) + zim (s.z a) * zre (s.z b)) = z' := ⟨_, rfl⟩
  have hzz : zst 28 a b s = setZ s a z' := by rw [← hz']; rfl
  have HC : Hid (∀ wx, Calls Tryd.prog 36 #[zc (s.z a), zc (s.z b)] wx fun e w' => e = .returned (zc z') ∧ wx = w') := Lib.hid (fun wx => by have := rmul_any (s.z a).1 (s.z a).2 (s.z b).1 (s.z b).2 wx; rw [← hz']; exact this)
  rw [hzz]
  clear hzz
  have hBl := CoY.Lies.lt hL
  have hcp := cs_pc s
  rw [hp] at hcp
  have B2 := ((Below.refl w.heap.size w).alloc (Nat.le_refl _) (.cells (cs s) 30)).alloc (by simp) (.cells zcs 30)
  have C1 := (Blk.new w (cs s) 30).below ((Below.refl _ _).alloc (Nat.le_refl _) (.cells zcs 30))
  have R1 := Blk.new (w.alloc (.cells (cs s) 30)) zcs 30
  rw [World.size_alloc] at R1
  have h0 := run_ldC C1 (cs_size s)
  go_enter Tryd.func13, Tryd.ntmps13
  go_wp2_with (first | (go_at_call 25; (with_reducible refine (HWd.out _ B2).mono ?_); rintro e' w0 ⟨rfl, rfl⟩) | (go_at_call 26; (with_reducible refine (HDc.out _).mono ?_); rintro e' w1 ⟨rfl, hb1⟩; refine Hid.out ?_))
  refine Lib.hid ?_
  have bb1 := hb1.trans (((Below.refl w1.heap.size w1).alloc (Nat.le_refl _) (.cells #[.int .i64 28, .int .i64 (a : Int), .int .i64 (b : Int), .int .i64 i] 61)).mono hb1.size)
  have bb2 := bb1.trans (((Below.refl (w1.alloc (.cells #[.int .i64 28, .int .i64 (a : Int), .int .i64 (b : Int), .int .i64 i] 61)).heap.size (w1.alloc (.cells #[.int .i64 28, .int .i64 (a : Int), .int .i64 (b : Int), .int .i64 i] 61))).alloc (Nat.le_refl _) (.cells zcs 30)).mono bb1.size)
  have h1 := run_ldC (C1.below bb1) (cs_size s)
  have E1 := Blk.new (w1.alloc (.cells #[.int .i64 28, .int .i64 (a : Int), .int .i64 (b : Int), .int .i64 i] 61)) zcs 30
  have X1 := (Blk.new w1 #[.int .i64 28, .int .i64 (a : Int), .int .i64 (b : Int), .int .i64 i] 61).below ((Below.refl _ _).alloc (Nat.le_refl _) (.cells zcs 30))
  rw [World.size_alloc] at E1
  have hnX : w.heap.size + 1 < w1.heap.size := by have := hb1.size; simp at this; omega
  have F1 : Four w w.heap.size w1.heap.size s 28 a b i zcs ((w1.alloc (.cells #[.int .i64 28, .int .i64 (a : Int), .int .i64 (b : Int), .int .i64 i] 61)).alloc (.cells zcs 30)) := ⟨C1.below bb2, R1.below bb2, X1, E1, hnX⟩
  have h2 := run_stC E1 rfl (cs_size s) (cs_one s)
  have F2 := F1.all (cs s) rfl
  have W2 := Wrote.sets hBl (w1.heap.size + 1) (by omega) (cs s).toList 0 (Wrote.of_below hL (B2.trans (bb2.mono B2.size)))
  obtain ⟨w2, hw2⟩ : ∃ w2, World.setCells ((w1.alloc (.cells #[.int .i64 28, .int .i64 (a : Int), .int .i64 (b : Int), .int .i64 i] 61)).alloc (.cells zcs 30)) (w1.heap.size + 1) 0 (cs s).toList = w2 := ⟨_, rfl⟩
  have D2 := below_all (w1.heap.size + 1) (by omega) (cs s).toList 0 (B2.trans (bb2.mono B2.size))
  rw [hw2] at h2 F2 W2 D2
  have c10 := (F2.c.cell 10).trans hcp
  have e10 := (F2.e.cell 10).trans hcp
  have g10 := F2.e.free 10
  have x3 := F2.x.cell 3
  clear hw2 F1 E1 X1 bb1 bb2 C1 R1 h0 hb1 B2 hL hcp
  go_wp2
  go_quiet ((go_at_call 27; exact quiet (imm_any i hi _)))
  have F3 := F2.set 10 (uv (m32 (s.pc + 4)))
  rw [cs_setP] at F3
  have W3 := W2.set hBl (w1.heap.size + 1) 10 (uv (m32 (s.pc + 4))) (by omega)
  have D3 := D2.setCell (p := ⟨w1.heap.size + 1, 10, none⟩) (by show w.heap.size ≤ w1.heap.size + 1; omega) (uv (m32 (s.pc + 4)))
  have bd := drew_below (w2.setCell ⟨w1.heap.size + 1, 10, none⟩ (uv (m32 (s.pc + 4)))).heap.size (w2.setCell ⟨w1.heap.size + 1, 10, none⟩ (uv (m32 (s.pc + 4)))) nq
  have F4 := F3.below bd
  have W4 := W3.below bd
  have D4 := D3.trans (bd.mono D3.size)
  obtain ⟨w4, hw4⟩ : ∃ w4, World.drewN (w2.setCell ⟨w1.heap.size + 1, 10, none⟩ (uv (m32 (s.pc + 4)))) nq = w4 := ⟨_, rfl⟩
  rw [hw4] at F4 W4 D4
  have hw4' : World.drewN (w2.setCell ⟨w1.heap.size + 1, 10, none⟩ (Value.int .u32 (((p : Int) + 4) % 4294967296))) nq = w4 := by rw [← hw4, hp]; rfl
  have hfar : ((((p : Int) + 4) % 4294967296 + 4 * m32 i % 4294967296) % 4294967296) = m32 (m32 (s.pc + 4) + m32 (4 * m32 i)) := by rw [hp]; rfl
  generalize hfr : m32 (m32 (s.pc + 4) + m32 (4 * m32 i)) = far at *
  have HFR := Lib.hid hfr
  have HFA := Lib.hid hfar
  have HW4 := Lib.hid hw4'
  clear hw4 hw4' F2 W2 F3 W3 bd c10 e10 g10 x3 h1 h2 hfr hfar D2 D3
  rw [HW4.out, HFA.out]
  have x0 := F4.x.cell 0
  have HS0 := Lib.hid (fun wx (F : Four w w.heap.size w1.heap.size s 28 a b i (cs (setP s (m32 (s.pc + 4)))) wx) => (show wx.cell? ⟨w1.heap.size, 1, none⟩ = some (.int .i64 (a : Int)) ∧ wx.cell? ⟨w1.heap.size, 2, none⟩ = some (.int .i64 (b : Int)) ∧ wx.cell? ⟨w.heap.size, 8 + a, none⟩ = some (zc (s.z a)) ∧ wx.cell? ⟨w.heap.size, 8 + b, none⟩ = some (zc (s.z b)) from ⟨F.x.cell 1, F.x.cell 2, (F.c.cell (8 + a)).trans HAZ.out, (F.c.cell (8 + b)).trans HBZ.out⟩))
  have HF4 := Lib.hid F4
  have HW5 := Lib.hid W4
  have y1 := F4.e.cell (8 + a)
  rw [cs_z _ ha2] at y1
  have f1 := F4.e.free (8 + a)
  have h0 : (store ⟨w1.heap.size + 1, 8 + a, none⟩ (zc z')).run Tryd.prog w4.drew = .ok () ((w4.setCell ⟨w1.heap.size + 1, 8 + a, none⟩ (zc z')).drew) := by
    rw [run_store _ _ _ _ _ rfl, show w4.drew.cell? ⟨w1.heap.size + 1, 8 + a, none⟩ = _ from y1]
    simp only [show w4.drew.frozen? ⟨w1.heap.size + 1, 8 + a, none⟩ = false from f1, Bool.false_eq_true, if_false]
    rfl
  have F5 := (F4.set (8 + a) (zc z')).below ((Below.refl _ _).drew)
  have HSX := Lib.hid (HS0.out _ ((F4.below ((Below.refl _ _).drew))))
  rw [cs_setZ _ _ ha2] at F5
  have W5 := (W4.set hBl (w1.heap.size + 1) (8 + a) (zc z') (by omega)).below ((Below.refl _ _).drew)
  have HSY : Hid (((w4.setCell ⟨w1.heap.size + 1, 8 + a, none⟩ (zc z')).drew).cell? ⟨w1.heap.size, 1, none⟩ = some (.int .i64 (a : Int)) ∧ ((w4.setCell ⟨w1.heap.size + 1, 8 + a, none⟩ (zc z')).drew).cell? ⟨w1.heap.size, 2, none⟩ = some (.int .i64 (b : Int)) ∧ ((w4.setCell ⟨w1.heap.size + 1, 8 + a, none⟩ (zc z')).drew).cell? ⟨w.heap.size, 8 + a, none⟩ = some (zc (s.z a)) ∧ ((w4.setCell ⟨w1.heap.size + 1, 8 + a, none⟩ (zc z')).drew).cell? ⟨w.heap.size, 8 + b, none⟩ = some (zc (s.z b))) := Lib.hid (⟨((F4.set (8 + a) (zc z')).below ((Below.refl _ _).drew)).x.cell 1, ((F4.set (8 + a) (zc z')).below ((Below.refl _ _).drew)).x.cell 2, (((F4.set (8 + a) (zc z')).below ((Below.refl _ _).drew)).c.cell (8 + a)).trans HAZ.out, (((F4.set (8 + a) (zc z')).below ((Below.refl _ _).drew)).c.cell (8 + b)).trans HBZ.out⟩)
  clear F4 W4 D4
  go_wp2
  go_region_held (fun wx => wx.cell? ⟨w1.heap.size, 1, none⟩ = some (.int .i64 (a : Int)) ∧ wx.cell? ⟨w1.heap.size, 2, none⟩ = some (.int .i64 (b : Int)) ∧ wx.cell? ⟨w.heap.size, 8 + a, none⟩ = some (zc (s.z a)) ∧ wx.cell? ⟨w.heap.size, 8 + b, none⟩ = some (zc (s.z b))) (first | exact HSY.out | exact HSX.out | go_keep) ((go_at_call 36; (with_reducible refine (HC.out _).mono ?_); rintro e' w5 ⟨rfl, rfl⟩))
  obtain ⟨w6, hw6⟩ : ∃ w6, (w4.setCell ⟨w1.heap.size + 1, 8 + a, none⟩ (zc z')).drew = w6 := ⟨_, rfl⟩
  rw [hw6] at F5 W5
  have hw6' := hw6
  rw [hw6']
  clear hw6 hw6' h0 y1 f1
  have h3 := run_ldC F5.e (cs_size _)
  have h5 := run_stC F5.r rfl (cs_size (setZ (setP s (m32 (s.pc + 4))) a z')) (cs_one _)
  have HR := Lib.hid (CoC.Blk.setAll F5.r (ds := cs (setZ (setP s (m32 (s.pc + 4))) a z')) rfl)
  have HS := Lib.hid (cs_size (setZ (setP s (m32 (s.pc + 4))) a z'))
  have HW := Lib.hid (Wrote.sets hBl (w.heap.size + 1) (by omega) (cs (setZ (setP s (m32 (s.pc + 4))) a z')).toList 0 W5)
  clear F5 W5
  generalize hD : cs (setZ (setP s (m32 (s.pc + 4))) a z') = D at *
  have HE := Lib.hid hD
  clear hD
  go_wp2
  refine bodyPost_ret (v := .tuple #[.agg D, .int .i64 0]) ?_ rfl ⟨by rw [← HE.out]; rfl, HW.out⟩
  exact results_cell_row2 rfl _ _ (w.heap.size + 1) 30 D (0, 0) _ _ rfl rfl HR.out Tryd.underlying30 rfl (by rw [infoC, HS.out])

set_option maxRecDepth 100000 in
set_option maxHeartbeats 2000000 in
theorem rs_25 (w : World) (B : Nat) (ad : Option Addr) (cap : Nat) (bs : CoM.Bs) (hL : Lies w B ad cap bs) (s : St) (hs : s.Ok) (p n : Nat) (hp : s.pc = (p : Int)) (h4 : ((p : Int) % 4 != 0) = false) (a b : Nat) (i : Int) (hi : -32768 ≤ i ∧ i ≤ 32767) (ha : a < 8) (hb : b < 8) (ha2 : a < 2) (hb2 : b < 7)
    (HWd : Hid (∀ wx, Below w.heap.size w wx → Calls Tryd.prog 25 #[sl ad bs cap, uv (p : Int)] wx fun e' w' => e' = .returned (.tuple #[uv (n : Int), .bool true]) ∧ wx = w'))
    (HDc : Hid (∀ wx, Calls Tryd.prog 26 #[uv (n : Int)] wx fun e' w' => e' = .returned (.tuple #[.agg #[.int .i64 25, .int .i64 (a : Int), .int .i64 (b : Int), .int .i64 i], .int .i64 0]) ∧ Below wx.heap.size wx w')) :
    Calls Tryd.prog 13 #[cv s, sl ad bs cap] w fun e' w' => e' = .returned (.tuple #[cv (setP (zst 25 a b s) (m32 (s.pc + 4))), .int .i64 0]) ∧ Wrote w B ad cap bs w' := by
  have haz := cs_z s ha2
  have hai : (a : Int) < 2 := by omega
  have hai0 : (0 : Int) ≤ (a : Int) := by omega
  obtain ⟨c, hc⟩ : ∃ c, c = b + 1 := ⟨_, rfl⟩
  have hcb := cs_r s hb
  have hcc := cs_r s (show c < 8 by omega)
  have hbi : (b : Int) < 8 := by omega
  have hbi0 : (0 : Int) ≤ (b : Int) := by omega
  have hci : (c : Int) < 8 := by omega
  have hci0 : (0 : Int) ≤ (c : Int) := by omega
  have hcI : (b : Int) + 1 = (c : Int) := by omega
  have hwr : IntKind.i64.wrap (c : Int) = (c : Int) := by rw [IntKind.wrap_i64]; omega
  have HCB := Lib.hid hcb
  have HCC := Lib.hid hcc
  obtain ⟨z', hz'⟩ : ∃ z', zpair (sx (s.r b)) (sx (s.r c)) = z' := ⟨_, rfl⟩
  have hzz : zst 25 a b s = setZ s a z' := by rw [← hz', hc]; rfl
  have HC : Hid (∀ wx, Calls Tryd.prog 33 #[uv (s.r b), uv (s.r c)] wx fun e w' => e = .returned (zc z') ∧ wx = w') := Lib.hid (fun wx => by have := rfrom_any (s.r b) (s.r c) ⟨hs.r0 _, hs.r1 _⟩ ⟨hs.r0 _, hs.r1 _⟩ wx; rw [← hz']; exact this)
  clear hc
  rw [hzz]
  clear hzz
  have hBl := CoY.Lies.lt hL
  have hcp := cs_pc s
  rw [hp] at hcp
  have B2 := ((Below.refl w.heap.size w).alloc (Nat.le_refl _) (.cells (cs s) 30)).alloc (by simp) (.cells zcs 30)
  have C1 := (Blk.new w (cs s) 30).below ((Below.refl _ _).alloc (Nat.le_refl _) (.cells zcs 30))
  have R1 := Blk.new (w.alloc (.cells (cs s) 30)) zcs 30
  rw [World.size_alloc] at R1
  have h0 := run_ldC C1 (cs_size s)
  go_enter Tryd.func13, Tryd.ntmps13
  go_wp2_with (first | (go_at_call 25; (with_reducible refine (HWd.out _ B2).mono ?_); rintro e' w0 ⟨rfl, rfl⟩) | (go_at_call 26; (with_reducible refine (HDc.out _).mono ?_); rintro e' w1 ⟨rfl, hb1⟩; refine Hid.out ?_))
  refine Lib.hid ?_
  have bb1 := hb1.trans (((Below.refl w1.heap.size w1).alloc (Nat.le_refl _) (.cells #[.int .i64 25, .int .i64 (a : Int), .int .i64 (b : Int), .int .i64 i] 61)).mono hb1.size)
  have bb2 := bb1.trans (((Below.refl (w1.alloc (.cells #[.int .i64 25, .int .i64 (a : Int), .int .i64 (b : Int), .int .i64 i] 61)).heap.size (w1.alloc (.cells #[.int .i64 25, .int .i64 (a : Int), .int .i64 (b : Int), .int .i64 i] 61))).alloc (Nat.le_refl _) (.cells zcs 30)).mono bb1.size)
  have h1 := run_ldC (C1.below bb1) (cs_size s)
  have E1 := Blk.new (w1.alloc (.cells #[.int .i64 25, .int .i64 (a : Int), .int .i64 (b : Int), .int .i64 i] 61)) zcs 30
  have X1 := (Blk.new w1 #[.int .i64 25, .int .i64 (a : Int), .int .i64 (b : Int), .int .i64 i] 61).below ((Below.refl _ _).alloc (Nat.le_refl _) (.cells zcs 30))
  rw [World.size_alloc] at E1
  have hnX : w.heap.size + 1 < w1.heap.size := by have := hb1.size; simp at this; omega
  have F1 : Four w w.heap.size w1.heap.size s 25 a b i zcs ((w1.alloc (.cells #[.int .i64 25, .int .i64 (a : Int), .int .i64 (b : Int), .int .i64 i] 61)).alloc (.cells zcs 30)) := ⟨C1.below bb2, R1.below bb2, X1, E1, hnX⟩
  have h2 := run_stC E1 rfl (cs_size s) (cs_one s)
  have F2 := F1.all (cs s) rfl
  have W2 := Wrote.sets hBl (w1.heap.size + 1) (by omega) (cs s).toList 0 (Wrote.of_below hL (B2.trans (bb2.mono B2.size)))
  obtain ⟨w2, hw2⟩ : ∃ w2, World.setCells ((w1.alloc (.cells #[.int .i64 25, .int .i64 (a : Int), .int .i64 (b : Int), .int .i64 i] 61)).alloc (.cells zcs 30)) (w1.heap.size + 1) 0 (cs s).toList = w2 := ⟨_, rfl⟩
  have D2 := below_all (w1.heap.size + 1) (by omega) (cs s).toList 0 (B2.trans (bb2.mono B2.size))
  rw [hw2] at h2 F2 W2 D2
  have c10 := (F2.c.cell 10).trans hcp
  have e10 := (F2.e.cell 10).trans hcp
  have g10 := F2.e.free 10
  have x3 := F2.x.cell 3
  clear hw2 F1 E1 X1 bb1 bb2 C1 R1 h0 hb1 B2 hL hcp
  go_wp2
  go_quiet ((go_at_call 27; exact quiet (imm_any i hi _)))
  have F3 := F2.set 10 (uv (m32 (s.pc + 4)))
  rw [cs_setP] at F3
  have W3 := W2.set hBl (w1.heap.size + 1) 10 (uv (m32 (s.pc + 4))) (by omega)
  have D3 := D2.setCell (p := ⟨w1.heap.size + 1, 10, none⟩) (by show w.heap.size ≤ w1.heap.size + 1; omega) (uv (m32 (s.pc + 4)))
  have bd := drew_below (w2.setCell ⟨w1.heap.size + 1, 10, none⟩ (uv (m32 (s.pc + 4)))).heap.size (w2.setCell ⟨w1.heap.size + 1, 10, none⟩ (uv (m32 (s.pc + 4)))) nq
  have F4 := F3.below bd
  have W4 := W3.below bd
  have D4 := D3.trans (bd.mono D3.size)
  obtain ⟨w4, hw4⟩ : ∃ w4, World.drewN (w2.setCell ⟨w1.heap.size + 1, 10, none⟩ (uv (m32 (s.pc + 4)))) nq = w4 := ⟨_, rfl⟩
  rw [hw4] at F4 W4 D4
  have hw4' : World.drewN (w2.setCell ⟨w1.heap.size + 1, 10, none⟩ (Value.int .u32 (((p : Int) + 4) % 4294967296))) nq = w4 := by rw [← hw4, hp]; rfl
  have hfar : ((((p : Int) + 4) % 4294967296 + 4 * m32 i % 4294967296) % 4294967296) = m32 (m32 (s.pc + 4) + m32 (4 * m32 i)) := by rw [hp]; rfl
  generalize hfr : m32 (m32 (s.pc + 4) + m32 (4 * m32 i)) = far at *
  have HFR := Lib.hid hfr
  have HFA := Lib.hid hfar
  have HW4 := Lib.hid hw4'
  clear hw4 hw4' F2 W2 F3 W3 bd c10 e10 g10 x3 h1 h2 hfr hfar D2 D3
  rw [HW4.out, HFA.out]
  have x0 := F4.x.cell 0
  have HS0 := Lib.hid (fun wx (F : Four w w.heap.size w1.heap.size s 25 a b i (cs (setP s (m32 (s.pc + 4)))) wx) => (show wx.cell? ⟨w1.heap.size, 1, none⟩ = some (.int .i64 (a : Int)) ∧ wx.cell? ⟨w1.heap.size, 2, none⟩ = some (.int .i64 (b : Int)) ∧ wx.cell? ⟨w.heap.size, b, none⟩ = some (uv (s.r b)) ∧ wx.cell? ⟨w.heap.size, c, none⟩ = some (uv (s.r c)) from ⟨F.x.cell 1, F.x.cell 2, (F.c.cell b).trans HCB.out, (F.c.cell c).trans HCC.out⟩))
  have HF4 := Lib.hid F4
  have HW5 := Lib.hid W4
  have y1 := F4.e.cell (8 + a)
  rw [cs_z _ ha2] at y1
  have f1 := F4.e.free (8 + a)
  have h0 : (store ⟨w1.heap.size + 1, 8 + a, none⟩ (zc z')).run Tryd.prog w4.drew = .ok () ((w4.setCell ⟨w1.heap.size + 1, 8 + a, none⟩ (zc z')).drew) := by
    rw [run_store _ _ _ _ _ rfl, show w4.drew.cell? ⟨w1.heap.size + 1, 8 + a, none⟩ = _ from y1]
    simp only [show w4.drew.frozen? ⟨w1.heap.size + 1, 8 + a, none⟩ = false from f1, Bool.false_eq_true, if_false]
    rfl
  have F5 := (F4.set (8 + a) (zc z')).below ((Below.refl _ _).drew)
  have HSX := Lib.hid (HS0.out _ ((F4.below ((Below.refl _ _).drew))))
  rw [cs_setZ _ _ ha2] at F5
  have W5 := (W4.set hBl (w1.heap.size + 1) (8 + a) (zc z') (by omega)).below ((Below.refl _ _).drew)
  have HSY : Hid (((w4.setCell ⟨w1.heap.size + 1, 8 + a, none⟩ (zc z')).drew).cell? ⟨w1.heap.size, 1, none⟩ = some (.int .i64 (a : Int)) ∧ ((w4.setCell ⟨w1.heap.size + 1, 8 + a, none⟩ (zc z')).drew).cell? ⟨w1.heap.size, 2, none⟩ = some (.int .i64 (b : Int)) ∧ ((w4.setCell ⟨w1.heap.size + 1, 8 + a, none⟩ (zc z')).drew).cell? ⟨w.heap.size, b, none⟩ = some (uv (s.r b)) ∧ ((w4.setCell ⟨w1.heap.size + 1, 8 + a, none⟩ (zc z')).drew).cell? ⟨w.heap.size, c, none⟩ = some (uv (s.r c))) := Lib.hid (⟨((F4.set (8 + a) (zc z')).below ((Below.refl _ _).drew)).x.cell 1, ((F4.set (8 + a) (zc z')).below ((Below.refl _ _).drew)).x.cell 2, (((F4.set (8 + a) (zc z')).below ((Below.refl _ _).drew)).c.cell b).trans HCB.out, (((F4.set (8 + a) (zc z')).below ((Below.refl _ _).drew)).c.cell c).trans HCC.out⟩)
  clear F4 W4 D4
  go_wp2
  go_region_held (fun wx => wx.cell? ⟨w1.heap.size, 1, none⟩ = some (.int .i64 (a : Int)) ∧ wx.cell? ⟨w1.heap.size, 2, none⟩ = some (.int .i64 (b : Int)) ∧ wx.cell? ⟨w.heap.size, b, none⟩ = some (uv (s.r b)) ∧ wx.cell? ⟨w.heap.size, c, none⟩ = some (uv (s.r c))) (first | exact HSY.out | exact HSX.out | go_keep) ((go_at_call 33; (with_reducible refine (HC.out _).mono ?_); rintro e' w5 ⟨rfl, rfl⟩))
  obtain ⟨w6, hw6⟩ : ∃ w6, (w4.setCell ⟨w1.heap.size + 1, 8 + a, none⟩ (zc z')).drew = w6 := ⟨_, rfl⟩
  rw [hw6] at F5 W5
  have hw6' := hw6
  rw [hw6']
  clear hw6 hw6' h0 y1 f1
  have h3 := run_ldC F5.e (cs_size _)
  have h5 := run_stC F5.r rfl (cs_size (setZ (setP s (m32 (s.pc + 4))) a z')) (cs_one _)
  have HR := Lib.hid (CoC.Blk.setAll F5.r (ds := cs (setZ (setP s (m32 (s.pc + 4))) a z')) rfl)
  have HS := Lib.hid (cs_size (setZ (setP s (m32 (s.pc + 4))) a z'))
  have HW := Lib.hid (Wrote.sets hBl (w.heap.size + 1) (by omega) (cs (setZ (setP s (m32 (s.pc + 4))) a z')).toList 0 W5)
  clear F5 W5
  generalize hD : cs (setZ (setP s (m32 (s.pc + 4))) a z') = D at *
  have HE := Lib.hid hD
  clear hD
  go_wp2
  refine bodyPost_ret (v := .tuple #[.agg D, .int .i64 0]) ?_ rfl ⟨by rw [← HE.out]; rfl, HW.out⟩
  exact results_cell_row2 rfl _ _ (w.heap.size + 1) 30 D (0, 0) _ _ rfl rfl HR.out Tryd.underlying30 rfl (by rw [infoC, HS.out])
end Go.Proofs.YtgnpbedhpkmkfaaDoor.RfH
