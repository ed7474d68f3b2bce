/-
  The document's own: Step: Gaussian registers, registers.
-/
import Derived.Test.YtgnpbedhpkmkfaaDoorZRfH
import Derived.Test.YtgnpbedhpkmkfaaDoorZGr
namespace Go.Proofs.YtgnpbedhpkmkfaaDoor.RfI
open Go Go.RowKit Kit Fl Whole Gleaf Gparts Gwhole Gnums Gref Gref Gg WordsG Bk CoM CoR CoB CoW CoI CoF CoT CoU CoV CoC CoX CoY CoE IsaM IsaT IsaL IsaC IsaE IsaN RfA Rc RfD RfE RfF RfC RfG RfH
set_option linter.unusedVariables false
attribute [local go_sem ↓] ldc_wrap stc_wrap

set_option maxRecDepth 100000 in
set_option maxHeartbeats 2000000 in
theorem rs_26 (w : World) (B : Nat) (ad : Option Addr) (cap : Nat) (bs : CoM.Bs) (hL : Lies w B ad cap bs) (s : St) (hs : s.Ok) (p n : Nat) (hp : s.pc = (p : Int)) (h4 : ((p : Int) % 4 != 0) = false) (a b : Nat) (i : Int) (hi : -32768 ≤ i ∧ i ≤ 32767) (ha : a < 8) (hb : b < 8) (ha2 : a < 2) (hb2 : b < 7)
    (HWd : Hid (∀ wx, Below w.heap.size w wx → Calls Tryd.prog 25 #[sl ad bs cap, uv (p : Int)] wx fun e' w' => e' = .returned (.tuple #[uv (n : Int), .bool true]) ∧ wx = w'))
    (HDc : Hid (∀ wx, Calls Tryd.prog 26 #[uv (n : Int)] wx fun e' w' => e' = .returned (.tuple #[.agg #[.int .i64 26, .int .i64 (a : Int), .int .i64 (b : Int), .int .i64 i], .int .i64 0]) ∧ Below wx.heap.size wx w')) :
    Calls Tryd.prog 13 #[cv s, sl ad bs cap] w fun e' w' => e' = .returned (.tuple #[cv (setP (zst 26 a b s) (m32 (s.pc + 4))), .int .i64 0]) ∧ Wrote w B ad cap bs w' := by
  have haz := cs_z s ha2
  have hai : (a : Int) < 2 := by omega
  have hai0 : (0 : Int) ≤ (a : Int) := by omega
  obtain ⟨c, hc⟩ : ∃ c, c = b + 1 := ⟨_, rfl⟩
  have hbi : (b : Int) < 8 := by omega
  have hbi0 : (0 : Int) ≤ (b : Int) := by omega
  have hci : (c : Int) < 8 := by omega
  have hci0 : (0 : Int) ≤ (c : Int) := by omega
  have hcI : (b : Int) + 1 = (c : Int) := by omega
  have hwr : IntKind.i64.wrap (c : Int) = (c : Int) := by rw [IntKind.wrap_i64]; omega
  have hne : b ≠ c := by omega
  have hc8 : c < 8 := by omega
  have HAZ := Lib.hid haz
  obtain ⟨v1, hv1⟩ : ∃ v1, wd (zre (s.z a)) = v1 := ⟨_, rfl⟩
  obtain ⟨v2, hv2⟩ : ∃ v2, wd (zim (s.z a)) = v2 := ⟨_, rfl⟩
  have hzz : zst 26 a b s = setR (setR s b v1) c v2 := by rw [← hv1, ← hv2, hc]; rfl
  have HC : Hid (∀ wx, Calls Tryd.prog 34 #[zc (s.z a)] wx fun e w' => e = .returned (.tuple #[uv v1, uv v2]) ∧ wx = w') := Lib.hid (fun wx => by have := rwords_any (s.z a).1 (s.z a).2 wx; rw [← hv1, ← hv2]; exact this)
  rw [hzz]
  clear hzz hv1 hv2 hc
  have hBl := CoY.Lies.lt hL
  have hcp := cs_pc s
  rw [hp] at hcp
  have B2 := ((Below.refl w.heap.size w).alloc (Nat.le_refl _) (.cells (cs s) 30)).alloc (by simp) (.cells zcs 30)
  have C1 := (Blk.new w (cs s) 30).below ((Below.refl _ _).alloc (Nat.le_refl _) (.cells zcs 30))
  have R1 := Blk.new (w.alloc (.cells (cs s) 30)) zcs 30
  rw [World.size_alloc] at R1
  have h0 := run_ldC C1 (cs_size s)
  go_enter Tryd.func13, Tryd.ntmps13
  go_wp2_with (first | (go_at_call 25; (with_reducible refine (HWd.out _ B2).mono ?_); rintro e' w0 ⟨rfl, rfl⟩) | (go_at_call 26; (with_reducible refine (HDc.out _).mono ?_); rintro e' w1 ⟨rfl, hb1⟩; refine Hid.out ?_))
  refine Lib.hid ?_
  have bb1 := hb1.trans (((Below.refl w1.heap.size w1).alloc (Nat.le_refl _) (.cells #[.int .i64 26, .int .i64 (a : Int), .int .i64 (b : Int), .int .i64 i] 61)).mono hb1.size)
  have bb2 := bb1.trans (((Below.refl (w1.alloc (.cells #[.int .i64 26, .int .i64 (a : Int), .int .i64 (b : Int), .int .i64 i] 61)).heap.size (w1.alloc (.cells #[.int .i64 26, .int .i64 (a : Int), .int .i64 (b : Int), .int .i64 i] 61))).alloc (Nat.le_refl _) (.cells zcs 30)).mono bb1.size)
  have h1 := run_ldC (C1.below bb1) (cs_size s)
  have E1 := Blk.new (w1.alloc (.cells #[.int .i64 26, .int .i64 (a : Int), .int .i64 (b : Int), .int .i64 i] 61)) zcs 30
  have X1 := (Blk.new w1 #[.int .i64 26, .int .i64 (a : Int), .int .i64 (b : Int), .int .i64 i] 61).below ((Below.refl _ _).alloc (Nat.le_refl _) (.cells zcs 30))
  rw [World.size_alloc] at E1
  have hnX : w.heap.size + 1 < w1.heap.size := by have := hb1.size; simp at this; omega
  have F1 : Four w w.heap.size w1.heap.size s 26 a b i zcs ((w1.alloc (.cells #[.int .i64 26, .int .i64 (a : Int), .int .i64 (b : Int), .int .i64 i] 61)).alloc (.cells zcs 30)) := ⟨C1.below bb2, R1.below bb2, X1, E1, hnX⟩
  have h2 := run_stC E1 rfl (cs_size s) (cs_one s)
  have F2 := F1.all (cs s) rfl
  have W2 := Wrote.sets hBl (w1.heap.size + 1) (by omega) (cs s).toList 0 (Wrote.of_below hL (B2.trans (bb2.mono B2.size)))
  obtain ⟨w2, hw2⟩ : ∃ w2, World.setCells ((w1.alloc (.cells #[.int .i64 26, .int .i64 (a : Int), .int .i64 (b : Int), .int .i64 i] 61)).alloc (.cells zcs 30)) (w1.heap.size + 1) 0 (cs s).toList = w2 := ⟨_, rfl⟩
  have D2 := below_all (w1.heap.size + 1) (by omega) (cs s).toList 0 (B2.trans (bb2.mono B2.size))
  rw [hw2] at h2 F2 W2 D2
  have c10 := (F2.c.cell 10).trans hcp
  have e10 := (F2.e.cell 10).trans hcp
  have g10 := F2.e.free 10
  have x3 := F2.x.cell 3
  clear hw2 F1 E1 X1 bb1 bb2 C1 R1 h0 hb1 B2 hL hcp
  go_wp2
  go_quiet ((go_at_call 27; exact quiet (imm_any i hi _)))
  have F3 := F2.set 10 (uv (m32 (s.pc + 4)))
  rw [cs_setP] at F3
  have W3 := W2.set hBl (w1.heap.size + 1) 10 (uv (m32 (s.pc + 4))) (by omega)
  have D3 := D2.setCell (p := ⟨w1.heap.size + 1, 10, none⟩) (by show w.heap.size ≤ w1.heap.size + 1; omega) (uv (m32 (s.pc + 4)))
  have bd := drew_below (w2.setCell ⟨w1.heap.size + 1, 10, none⟩ (uv (m32 (s.pc + 4)))).heap.size (w2.setCell ⟨w1.heap.size + 1, 10, none⟩ (uv (m32 (s.pc + 4)))) nq
  have F4 := F3.below bd
  have W4 := W3.below bd
  have D4 := D3.trans (bd.mono D3.size)
  obtain ⟨w4, hw4⟩ : ∃ w4, World.drewN (w2.setCell ⟨w1.heap.size + 1, 10, none⟩ (uv (m32 (s.pc + 4)))) nq = w4 := ⟨_, rfl⟩
  rw [hw4] at F4 W4 D4
  have hw4' : World.drewN (w2.setCell ⟨w1.heap.size + 1, 10, none⟩ (Value.int .u32 (((p : Int) + 4) % 4294967296))) nq = w4 := by rw [← hw4, hp]; rfl
  have hfar : ((((p : Int) + 4) % 4294967296 + 4 * m32 i % 4294967296) % 4294967296) = m32 (m32 (s.pc + 4) + m32 (4 * m32 i)) := by rw [hp]; rfl
  generalize hfr : m32 (m32 (s.pc + 4) + m32 (4 * m32 i)) = far at *
  have HFR := Lib.hid hfr
  have HFA := Lib.hid hfar
  have HW4 := Lib.hid hw4'
  clear hw4 hw4' F2 W2 F3 W3 bd c10 e10 g10 x3 h1 h2 hfr hfar D2 D3
  rw [HW4.out, HFA.out]
  have x0 := F4.x.cell 0
  have HSX : Hid (w4.drew.cell? ⟨w1.heap.size, 1, none⟩ = some (.int .i64 (a : Int)) ∧ w4.drew.cell? ⟨w1.heap.size, 2, none⟩ = some (.int .i64 (b : Int)) ∧ w4.drew.cell? ⟨w.heap.size, 8 + a, none⟩ = some (zc (s.z a))) := Lib.hid (⟨((F4.below ((Below.refl _ _).drew))).x.cell 1, ((F4.below ((Below.refl _ _).drew))).x.cell 2, (((F4.below ((Below.refl _ _).drew))).c.cell (8 + a)).trans HAZ.out⟩)
  have HSY : Hid ((w4.setCell ⟨w1.heap.size + 1, b, none⟩ (uv v1)).drew.cell? ⟨w1.heap.size, 1, none⟩ = some (.int .i64 (a : Int)) ∧ (w4.setCell ⟨w1.heap.size + 1, b, none⟩ (uv v1)).drew.cell? ⟨w1.heap.size, 2, none⟩ = some (.int .i64 (b : Int)) ∧ (w4.setCell ⟨w1.heap.size + 1, b, none⟩ (uv v1)).drew.cell? ⟨w.heap.size, 8 + a, none⟩ = some (zc (s.z a))) := Lib.hid (⟨((F4.set b (uv v1)).below ((Below.refl _ _).drew)).x.cell 1, ((F4.set b (uv v1)).below ((Below.refl _ _).drew)).x.cell 2, (((F4.set b (uv v1)).below ((Below.refl _ _).drew)).c.cell (8 + a)).trans HAZ.out⟩)
  have HSZ : Hid (((w4.setCell ⟨w1.heap.size + 1, b, none⟩ (uv v1)).setCell ⟨w1.heap.size + 1, c, none⟩ (uv v2)).drew.cell? ⟨w1.heap.size, 1, none⟩ = some (.int .i64 (a : Int)) ∧ ((w4.setCell ⟨w1.heap.size + 1, b, none⟩ (uv v1)).setCell ⟨w1.heap.size + 1, c, none⟩ (uv v2)).drew.cell? ⟨w1.heap.size, 2, none⟩ = some (.int .i64 (b : Int)) ∧ ((w4.setCell ⟨w1.heap.size + 1, b, none⟩ (uv v1)).setCell ⟨w1.heap.size + 1, c, none⟩ (uv v2)).drew.cell? ⟨w.heap.size, 8 + a, none⟩ = some (zc (s.z a))) := Lib.hid (⟨(((F4.set b (uv v1)).set c (uv v2)).below ((Below.refl _ _).drew)).x.cell 1, (((F4.set b (uv v1)).set c (uv v2)).below ((Below.refl _ _).drew)).x.cell 2, ((((F4.set b (uv v1)).set c (uv v2)).below ((Below.refl _ _).drew)).c.cell (8 + a)).trans HAZ.out⟩)
  have y1 := F4.e.cell b
  rw [cs_r _ hb] at y1
  have f1 := F4.e.free b
  have y2 := F4.e.cell c
  rw [cs_r _ hc8] at y2
  have f2 := F4.e.free c
  have F5 := F4.set b (uv v1)
  rw [cs_setR _ _ hb] at F5
  have y3 := F5.e.cell c
  rw [cs_r _ hc8] at y3
  have f3 := F5.e.free c
  have F6 := (F5.set c (uv v2)).below ((Below.refl _ _).drew)
  rw [cs_setR _ _ hc8] at F6
  have W6 := ((W4.set hBl (w1.heap.size + 1) b (uv v1) (by omega)).set hBl (w1.heap.size + 1) c (uv v2) (by omega)).below ((Below.refl _ _).drew)
  clear F4 W4 D4 F5
  have HNE := Lib.hid hne
  clear hne
  go_wp2
  go_region_held (fun wx => wx.cell? ⟨w1.heap.size, 1, none⟩ = some (.int .i64 (a : Int)) ∧ wx.cell? ⟨w1.heap.size, 2, none⟩ = some (.int .i64 (b : Int)) ∧ wx.cell? ⟨w.heap.size, 8 + a, none⟩ = some (zc (s.z a))) (first | exact HSZ.out | exact HSY.out | exact HSX.out | go_keep) ((go_at_call 34; (with_reducible refine (HC.out _).mono ?_); rintro e' w5 ⟨rfl, rfl⟩))
  obtain ⟨w6, hw6⟩ : ∃ w6, ((w4.setCell ⟨w1.heap.size + 1, b, none⟩ (uv v1)).setCell ⟨w1.heap.size + 1, c, none⟩ (uv v2)).drew = w6 := ⟨_, rfl⟩
  rw [hw6] at F6 W6
  have hw6' := hw6
  rw [hw6']
  clear hw6 hw6' y1 y2 y3 f1 f2 f3
  have h3 := run_ldC F6.e (cs_size _)
  have h5 := run_stC F6.r rfl (cs_size (setR (setR (setP s (m32 (s.pc + 4))) b v1) c v2)) (cs_one _)
  have HR := Lib.hid (CoC.Blk.setAll F6.r (ds := cs (setR (setR (setP s (m32 (s.pc + 4))) b v1) c v2)) rfl)
  have HS := Lib.hid (cs_size (setR (setR (setP s (m32 (s.pc + 4))) b v1) c v2))
  have HW := Lib.hid (Wrote.sets hBl (w.heap.size + 1) (by omega) (cs (setR (setR (setP s (m32 (s.pc + 4))) b v1) c v2)).toList 0 W6)
  clear F6 W6
  generalize hD : cs (setR (setR (setP s (m32 (s.pc + 4))) b v1) c v2) = D at *
  have HE := Lib.hid hD
  clear hD
  go_wp2
  refine bodyPost_ret (v := .tuple #[.agg D, .int .i64 0]) ?_ rfl ⟨by rw [← HE.out]; rfl, HW.out⟩
  exact results_cell_row2 rfl _ _ (w.heap.size + 1) 30 D (0, 0) _ _ rfl rfl HR.out Tryd.underlying30 rfl (by rw [infoC, HS.out])

set_option maxRecDepth 100000 in
set_option maxHeartbeats 2000000 in
theorem rs_29 (w : World) (B : Nat) (ad : Option Addr) (cap : Nat) (bs : CoM.Bs) (hL : Lies w B ad cap bs) (s : St) (hs : s.Ok) (p n : Nat) (hp : s.pc = (p : Int)) (h4 : ((p : Int) % 4 != 0) = false) (a b : Nat) (i : Int) (hi : -32768 ≤ i ∧ i ≤ 32767) (ha : a < 8) (hb : b < 8) (ha2 : a < 2)
    (HWd : Hid (∀ wx, Below w.heap.size w wx → Calls Tryd.prog 25 #[sl ad bs cap, uv (p : Int)] wx fun e' w' => e' = .returned (.tuple #[uv (n : Int), .bool true]) ∧ wx = w'))
    (HDc : Hid (∀ wx, Calls Tryd.prog 26 #[uv (n : Int)] wx fun e' w' => e' = .returned (.tuple #[.agg #[.int .i64 29, .int .i64 (a : Int), .int .i64 (b : Int), .int .i64 i], .int .i64 0]) ∧ Below wx.heap.size wx w')) :
    Calls Tryd.prog 13 #[cv s, sl ad bs cap] w fun e' w' => e' = .returned (.tuple #[cv (setP (zst 29 a b s) (m32 (s.pc + 4))), .int .i64 0]) ∧ Wrote w B ad cap bs w' := by
  have haz := cs_z s ha2
  have hai : (a : Int) < 2 := by omega
  have hai0 : (0 : Int) ≤ (a : Int) := by omega
  obtain ⟨z', hz'⟩ : ∃ z', zpair (zre (s.z a)) (-(zim (s.z a))) = z' := ⟨_, rfl⟩
  have hzz : zst 29 a b s = setZ s a z' := by rw [← hz']; rfl
  have hr1 := re_range (s.z a).1 (s.z a).2
  have hr2 := im_range (s.z a).1 (s.z a).2
  obtain ⟨u1, hu1⟩ : ∃ u1, re (s.z a).1 (s.z a).2 = u1 := ⟨_, rfl⟩
  obtain ⟨u2, hu2⟩ : ∃ u2, im (s.z a).1 (s.z a).2 = u2 := ⟨_, rfl⟩
  obtain ⟨u3, hu3⟩ : ∃ u3, isN (s.z a).1 (s.z a).2 = u3 := ⟨_, rfl⟩
  have HCP : Hid (∀ wx, Calls Tryd.prog 37 #[zc (s.z a)] wx fun e w' => e = .returned (.tuple #[.int .i64 u1, .int .i64 u2, .bool u3]) ∧ wx = w') := Lib.hid (fun wx => by have := rparts_any (s.z a).1 (s.z a).2 wx; rw [hu1, hu2, hu3] at this; exact this)
  rw [hu1] at hr1
  rw [hu2] at hr2
  have HC : Hid (∀ wx, Calls Tryd.prog 38 #[.int .i64 u1, .int .i64 (-u2)] wx fun e w' => e = .returned (zc z') ∧ wx = w') := Lib.hid (fun wx => by have := rmake_any u1 (-u2) wx (by omega) (by omega); rw [← hz']; unfold zpair zre zim; rw [hu1, hu2]; exact this)
  obtain ⟨hr21, hr22⟩ := hr2
  have hwn : IntKind.i64.wrap (-u2) = -u2 := by rw [IntKind.wrap_i64]; omega
  rw [hzz]
  clear hzz hz' hu1 hu2 hu3 hr1
  have hBl := CoY.Lies.lt hL
  have hcp := cs_pc s
  rw [hp] at hcp
  have B2 := ((Below.refl w.heap.size w).alloc (Nat.le_refl _) (.cells (cs s) 30)).alloc (by simp) (.cells zcs 30)
  have C1 := (Blk.new w (cs s) 30).below ((Below.refl _ _).alloc (Nat.le_refl _) (.cells zcs 30))
  have R1 := Blk.new (w.alloc (.cells (cs s) 30)) zcs 30
  rw [World.size_alloc] at R1
  have h0 := run_ldC C1 (cs_size s)
  go_enter Tryd.func13, Tryd.ntmps13
  go_wp2_with (first | (go_at_call 25; (with_reducible refine (HWd.out _ B2).mono ?_); rintro e' w0 ⟨rfl, rfl⟩) | (go_at_call 26; (with_reducible refine (HDc.out _).mono ?_); rintro e' w1 ⟨rfl, hb1⟩; refine Hid.out ?_))
  refine Lib.hid ?_
  have bb1 := hb1.trans (((Below.refl w1.heap.size w1).alloc (Nat.le_refl _) (.cells #[.int .i64 29, .int .i64 (a : Int), .int .i64 (b : Int), .int .i64 i] 61)).mono hb1.size)
  have bb2 := bb1.trans (((Below.refl (w1.alloc (.cells #[.int .i64 29, .int .i64 (a : Int), .int .i64 (b : Int), .int .i64 i] 61)).heap.size (w1.alloc (.cells #[.int .i64 29, .int .i64 (a : Int), .int .i64 (b : Int), .int .i64 i] 61))).alloc (Nat.le_refl _) (.cells zcs 30)).mono bb1.size)
  have h1 := run_ldC (C1.below bb1) (cs_size s)
  have E1 := Blk.new (w1.alloc (.cells #[.int .i64 29, .int .i64 (a : Int), .int .i64 (b : Int), .int .i64 i] 61)) zcs 30
  have X1 := (Blk.new w1 #[.int .i64 29, .int .i64 (a : Int), .int .i64 (b : Int), .int .i64 i] 61).below ((Below.refl _ _).alloc (Nat.le_refl _) (.cells zcs 30))
  rw [World.size_alloc] at E1
  have hnX : w.heap.size + 1 < w1.heap.size := by have := hb1.size; simp at this; omega
  have F1 : Four w w.heap.size w1.heap.size s 29 a b i zcs ((w1.alloc (.cells #[.int .i64 29, .int .i64 (a : Int), .int .i64 (b : Int), .int .i64 i] 61)).alloc (.cells zcs 30)) := ⟨C1.below bb2, R1.below bb2, X1, E1, hnX⟩
  have h2 := run_stC E1 rfl (cs_size s) (cs_one s)
  have F2 := F1.all (cs s) rfl
  have W2 := Wrote.sets hBl (w1.heap.size + 1) (by omega) (cs s).toList 0 (Wrote.of_below hL (B2.trans (bb2.mono B2.size)))
  obtain ⟨w2, hw2⟩ : ∃ w2, World.setCells ((w1.alloc (.cells #[.int .i64 29, .int .i64 (a : Int), .int .i64 (b : Int), .int .i64 i] 61)).alloc (.cells zcs 30)) (w1.heap.size + 1) 0 (cs s).toList = w2 := ⟨_, rfl⟩
  have D2 := below_all (w1.heap.size + 1) (by omega) (cs s).toList 0 (B2.trans (bb2.mono B2.size))
  rw [hw2] at h2 F2 W2 D2
  have c10 := (F2.c.cell 10).trans hcp
  have e10 := (F2.e.cell 10).trans hcp
  have g10 := F2.e.free 10
  have x3 := F2.x.cell 3
  clear hw2 F1 E1 X1 bb1 bb2 C1 R1 h0 hb1 B2 hL hcp
  go_wp2
  go_quiet ((go_at_call 27; exact quiet (imm_any i hi _)))
  have F3 := F2.set 10 (uv (m32 (s.pc + 4)))
  rw [cs_setP] at F3
  have W3 := W2.set hBl (w1.heap.size + 1) 10 (uv (m32 (s.pc + 4))) (by omega)
  have D3 := D2.setCell (p := ⟨w1.heap.size + 1, 10, none⟩) (by show w.heap.size ≤ w1.heap.size + 1; omega) (uv (m32 (s.pc + 4)))
  have bd := drew_below (w2.setCell ⟨w1.heap.size + 1, 10, none⟩ (uv (m32 (s.pc + 4)))).heap.size (w2.setCell ⟨w1.heap.size + 1, 10, none⟩ (uv (m32 (s.pc + 4)))) nq
  have F4 := F3.below bd
  have W4 := W3.below bd
  have D4 := D3.trans (bd.mono D3.size)
  obtain ⟨w4, hw4⟩ : ∃ w4, World.drewN (w2.setCell ⟨w1.heap.size + 1, 10, none⟩ (uv (m32 (s.pc + 4)))) nq = w4 := ⟨_, rfl⟩
  rw [hw4] at F4 W4 D4
  have hw4' : World.drewN (w2.setCell ⟨w1.heap.size + 1, 10, none⟩ (Value.int .u32 (((p : Int) + 4) % 4294967296))) nq = w4 := by rw [← hw4, hp]; rfl
  have hfar : ((((p : Int) + 4) % 4294967296 + 4 * m32 i % 4294967296) % 4294967296) = m32 (m32 (s.pc + 4) + m32 (4 * m32 i)) := by rw [hp]; rfl
  generalize hfr : m32 (m32 (s.pc + 4) + m32 (4 * m32 i)) = far at *
  have HFR := Lib.hid hfr
  have HFA := Lib.hid hfar
  have HW4 := Lib.hid hw4'
  clear hw4 hw4' F2 W2 F3 W3 bd c10 e10 g10 x3 h1 h2 hfr hfar D2 D3
  rw [HW4.out, HFA.out]
  have x0 := F4.x.cell 0
  have x1 := F4.x.cell 1
  have z1 := (F4.c.cell (8 + a)).trans haz
  have HSX : Hid (w4.drew.cell? ⟨w1.heap.size, 1, none⟩ = some (.int .i64 (a : Int))) := Lib.hid (by exact (F4.below ((Below.refl _ _).drew)).x.cell 1)
  have HSY : Hid (((w4.setCell ⟨w1.heap.size + 1, 8 + a, none⟩ (zc z')).drew).cell? ⟨w1.heap.size, 1, none⟩ = some (.int .i64 (a : Int))) := Lib.hid (by exact ((F4.set (8 + a) (zc z')).below ((Below.refl _ _).drew)).x.cell 1)
  have y1 := F4.e.cell (8 + a)
  rw [cs_z _ ha2] at y1
  have f1 := F4.e.free (8 + a)
  have h0 : (store ⟨w1.heap.size + 1, 8 + a, none⟩ (zc z')).run Tryd.prog w4.drew = .ok () ((w4.setCell ⟨w1.heap.size + 1, 8 + a, none⟩ (zc z')).drew) := by
    rw [run_store _ _ _ _ _ rfl, show w4.drew.cell? ⟨w1.heap.size + 1, 8 + a, none⟩ = _ from y1]
    simp only [show w4.drew.frozen? ⟨w1.heap.size + 1, 8 + a, none⟩ = false from f1, Bool.false_eq_true, if_false]
    rfl
  have F5 := (F4.set (8 + a) (zc z')).below ((Below.refl _ _).drew)
  rw [cs_setZ _ _ ha2] at F5
  have W5 := (W4.set hBl (w1.heap.size + 1) (8 + a) (zc z') (by omega)).below ((Below.refl _ _).drew)
  clear F4 W4 D4
  go_wp2_with (first | (go_at_call 37; (with_reducible refine (HCP.out _).mono ?_); rintro e' w5 ⟨rfl, rfl⟩))
  go_region_held (fun wx => wx.cell? ⟨w1.heap.size, 1, none⟩ = some (.int .i64 (a : Int))) (first | exact HSY.out | exact HSX.out | go_keep) ((go_at_call 38; (with_reducible refine (HC.out _).mono ?_); rintro e' w5 ⟨rfl, rfl⟩))
  obtain ⟨w6, hw6⟩ : ∃ w6, (w4.setCell ⟨w1.heap.size + 1, 8 + a, none⟩ (zc z')).drew = w6 := ⟨_, rfl⟩
  rw [hw6] at F5 W5
  have hw6' := hw6
  rw [hw6']
  clear hw6 hw6' h0 y1 f1 x1 z1
  have h3 := run_ldC F5.e (cs_size _)
  have h5 := run_stC F5.r rfl (cs_size (setZ (setP s (m32 (s.pc + 4))) a z')) (cs_one _)
  have HR := Lib.hid (CoC.Blk.setAll F5.r (ds := cs (setZ (setP s (m32 (s.pc + 4))) a z')) rfl)
  have HS := Lib.hid (cs_size (setZ (setP s (m32 (s.pc + 4))) a z'))
  have HW := Lib.hid (Wrote.sets hBl (w.heap.size + 1) (by omega) (cs (setZ (setP s (m32 (s.pc + 4))) a z')).toList 0 W5)
  clear F5 W5
  generalize hD : cs (setZ (setP s (m32 (s.pc + 4))) a z') = D at *
  have HE := Lib.hid hD
  clear hD
  go_wp2
  refine bodyPost_ret (v := .tuple #[.agg D, .int .i64 0]) ?_ rfl ⟨by rw [← HE.out]; rfl, HW.out⟩
  exact results_cell_row2 rfl _ _ (w.heap.size + 1) 30 D (0, 0) _ _ rfl rfl HR.out Tryd.underlying30 rfl (by rw [infoC, HS.out])

set_option maxRecDepth 100000 in
set_option maxHeartbeats 2000000 in
theorem rs_reg (w : World) (B : Nat) (ad : Option Addr) (cap : Nat) (bs : CoM.Bs) (hL : Lies w B ad cap bs) (s : St) (hs : s.Ok) (p n : Nat) (hp : s.pc = (p : Int)) (h4 : ((p : Int) % 4 != 0) = false) (k : Nat) (a b : Nat) (i : Int) (hi : -32768 ≤ i ∧ i ≤ 32767) (ha : a < 8) (hb : b < 8) (hk : 0 < k) (hk2 : k < 15)
    (HWd : Hid (∀ wx, Below w.heap.size w wx → Calls Tryd.prog 25 #[sl ad bs cap, uv (p : Int)] wx fun e' w' => e' = .returned (.tuple #[uv (n : Int), .bool true]) ∧ wx = w'))
    (HDc : Hid (∀ wx, Calls Tryd.prog 26 #[uv (n : Int)] wx fun e' w' => e' = .returned (.tuple #[.agg #[.int .i64 (k : Int), .int .i64 (a : Int), .int .i64 (b : Int), .int .i64 i], .int .i64 0]) ∧ Below wx.heap.size wx w')) :
    Calls Tryd.prog 13 #[cv s, sl ad bs cap] w fun e' w' => e' = .returned (.tuple #[cv (setP (setR s a (res k (s.r a) (s.r b) i s.pc)) (m32 (s.pc + 4))), .int .i64 0]) ∧ Wrote w B ad cap bs w' := by
  have hca := cs_r s ha
  have hai : (a : Int) < 8 := by omega
  have hai0 : (0 : Int) ≤ (a : Int) := by omega
  have e24 : ((k : Int) == 24) = false := by simp; omega
  have e19 : ((k : Int) == 19) = false := by simp; omega
  have e20 : ((k : Int) == 20) = false := by simp; omega
  have e21 : ((k : Int) == 21) = false := by simp; omega
  have e22 : ((k : Int) == 22) = false := by simp; omega
  have e23 : ((k : Int) == 23) = false := by simp; omega
  have e25 : ((k : Int) == 25) = false := by simp; omega
  have e26 : ((k : Int) == 26) = false := by simp; omega
  have e27 : ((k : Int) == 27) = false := by simp; omega
  have e28 : ((k : Int) == 28) = false := by simp; omega
  have e29 : ((k : Int) == 29) = false := by simp; omega
  have e15 : decide ((15 : Int) ≤ (k : Int)) = false := decide_eq_false (by omega)
  have e0 : decide ((0 : Int) < (k : Int)) = true := decide_eq_true (by omega)
  have hcb := cs_r s hb
  have hbi : (b : Int) < 8 := by omega
  have hbi0 : (0 : Int) ≤ (b : Int) := by omega
  have HCA := Lib.hid hca
  have HCB := Lib.hid hcb
  obtain ⟨v, hv⟩ : ∃ v, res k (s.r a) (s.r b) i s.pc = v := ⟨_, rfl⟩
  have HC : Hid (∀ wx, Calls Tryd.prog 39 #[.agg #[.int .i64 (k : Int), .int .i64 (a : Int), .int .i64 (b : Int), .int .i64 i], uv (s.r a), uv (s.r b)] wx fun e w' => e = .returned (uv v) ∧ Below wx.heap.size wx w') := Lib.hid (fun wx => by have := count_any wx k a b i (by omega) hi (s.r a) (s.r b) s.pc (hs.r0 a) (hs.r1 a) (hs.r0 b) (hs.r1 b); rw [hv] at this; exact this)
  rw [hv]
  clear hv hk2
  have hBl := CoY.Lies.lt hL
  have hcp := cs_pc s
  rw [hp] at hcp
  have B2 := ((Below.refl w.heap.size w).alloc (Nat.le_refl _) (.cells (cs s) 30)).alloc (by simp) (.cells zcs 30)
  have C1 := (Blk.new w (cs s) 30).below ((Below.refl _ _).alloc (Nat.le_refl _) (.cells zcs 30))
  have R1 := Blk.new (w.alloc (.cells (cs s) 30)) zcs 30
  rw [World.size_alloc] at R1
  have h0 := run_ldC C1 (cs_size s)
  go_enter Tryd.func13, Tryd.ntmps13
  go_wp2_with (first | (go_at_call 25; (with_reducible refine (HWd.out _ B2).mono ?_); rintro e' w0 ⟨rfl, rfl⟩) | (go_at_call 26; (with_reducible refine (HDc.out _).mono ?_); rintro e' w1 ⟨rfl, hb1⟩; refine Hid.out ?_))
  refine Lib.hid ?_
  have bb1 := hb1.trans (((Below.refl w1.heap.size w1).alloc (Nat.le_refl _) (.cells #[.int .i64 (k : Int), .int .i64 (a : Int), .int .i64 (b : Int), .int .i64 i] 61)).mono hb1.size)
  have bb2 := bb1.trans (((Below.refl (w1.alloc (.cells #[.int .i64 (k : Int), .int .i64 (a : Int), .int .i64 (b : Int), .int .i64 i] 61)).heap.size (w1.alloc (.cells #[.int .i64 (k : Int), .int .i64 (a : Int), .int .i64 (b : Int), .int .i64 i] 61))).alloc (Nat.le_refl _) (.cells zcs 30)).mono bb1.size)
  have h1 := run_ldC (C1.below bb1) (cs_size s)
  have E1 := Blk.new (w1.alloc (.cells #[.int .i64 (k : Int), .int .i64 (a : Int), .int .i64 (b : Int), .int .i64 i] 61)) zcs 30
  have X1 := (Blk.new w1 #[.int .i64 (k : Int), .int .i64 (a : Int), .int .i64 (b : Int), .int .i64 i] 61).below ((Below.refl _ _).alloc (Nat.le_refl _) (.cells zcs 30))
  rw [World.size_alloc] at E1
  have hnX : w.heap.size + 1 < w1.heap.size := by have := hb1.size; simp at this; omega
  have F1 : Four w w.heap.size w1.heap.size s (k : Int) a b i zcs ((w1.alloc (.cells #[.int .i64 (k : Int), .int .i64 (a : Int), .int .i64 (b : Int), .int .i64 i] 61)).alloc (.cells zcs 30)) := ⟨C1.below bb2, R1.below bb2, X1, E1, hnX⟩
  have h2 := run_stC E1 rfl (cs_size s) (cs_one s)
  have F2 := F1.all (cs s) rfl
  have W2 := Wrote.sets hBl (w1.heap.size + 1) (by omega) (cs s).toList 0 (Wrote.of_below hL (B2.trans (bb2.mono B2.size)))
  obtain ⟨w2, hw2⟩ : ∃ w2, World.setCells ((w1.alloc (.cells #[.int .i64 (k : Int), .int .i64 (a : Int), .int .i64 (b : Int), .int .i64 i] 61)).alloc (.cells zcs 30)) (w1.heap.size + 1) 0 (cs s).toList = w2 := ⟨_, rfl⟩
  have D2 := below_all (w1.heap.size + 1) (by omega) (cs s).toList 0 (B2.trans (bb2.mono B2.size))
  rw [hw2] at h2 F2 W2 D2
  have c10 := (F2.c.cell 10).trans hcp
  have e10 := (F2.e.cell 10).trans hcp
  have g10 := F2.e.free 10
  have x3 := F2.x.cell 3
  clear hw2 F1 E1 X1 bb1 bb2 C1 R1 h0 hb1 B2 hL hcp
  go_wp2
  go_quiet ((go_at_call 27; exact quiet (imm_any i hi _)))
  have F3 := F2.set 10 (uv (m32 (s.pc + 4)))
  rw [cs_setP] at F3
  have W3 := W2.set hBl (w1.heap.size + 1) 10 (uv (m32 (s.pc + 4))) (by omega)
  have D3 := D2.setCell (p := ⟨w1.heap.size + 1, 10, none⟩) (by show w.heap.size ≤ w1.heap.size + 1; omega) (uv (m32 (s.pc + 4)))
  have bd := drew_below (w2.setCell ⟨w1.heap.size + 1, 10, none⟩ (uv (m32 (s.pc + 4)))).heap.size (w2.setCell ⟨w1.heap.size + 1, 10, none⟩ (uv (m32 (s.pc + 4)))) nq
  have F4 := F3.below bd
  have W4 := W3.below bd
  have D4 := D3.trans (bd.mono D3.size)
  obtain ⟨w4, hw4⟩ : ∃ w4, World.drewN (w2.setCell ⟨w1.heap.size + 1, 10, none⟩ (uv (m32 (s.pc + 4)))) nq = w4 := ⟨_, rfl⟩
  rw [hw4] at F4 W4 D4
  have hw4' : World.drewN (w2.setCell ⟨w1.heap.size + 1, 10, none⟩ (Value.int .u32 (((p : Int) + 4) % 4294967296))) nq = w4 := by rw [← hw4, hp]; rfl
  have hfar : ((((p : Int) + 4) % 4294967296 + 4 * m32 i % 4294967296) % 4294967296) = m32 (m32 (s.pc + 4) + m32 (4 * m32 i)) := by rw [hp]; rfl
  generalize hfr : m32 (m32 (s.pc + 4) + m32 (4 * m32 i)) = far at *
  have HFR := Lib.hid hfr
  have HFA := Lib.hid hfar
  have HW4 := Lib.hid hw4'
  clear hw4 hw4' F2 W2 F3 W3 bd c10 e10 g10 x3 h1 h2 hfr hfar D2 D3
  rw [HW4.out, HFA.out]
  have x0 := F4.x.cell 0
  have HS0 := Lib.hid (fun wx (F : Four w w.heap.size w1.heap.size s (k : Int) a b i (cs (setP s (m32 (s.pc + 4)))) wx) => (show wx.cell? ⟨w1.heap.size, 0, none⟩ = some (.int .i64 (k : Int)) ∧ wx.cell? ⟨w1.heap.size, 1, none⟩ = some (.int .i64 (a : Int)) ∧ wx.cell? ⟨w1.heap.size, 2, none⟩ = some (.int .i64 (b : Int)) ∧ wx.cell? ⟨w1.heap.size, 3, none⟩ = some (.int .i64 i) ∧ wx.cell? ⟨w.heap.size, a, none⟩ = some (uv (s.r a)) ∧ wx.cell? ⟨w.heap.size, b, none⟩ = some (uv (s.r b)) from ⟨F.x.cell 0, F.x.cell 1, F.x.cell 2, F.x.cell 3, (F.c.cell a).trans HCA.out, (F.c.cell b).trans HCB.out⟩))
  have HS1 := Lib.hid (fun wx (F : Four w w.heap.size w1.heap.size s (k : Int) a b i ((cs (setP s (m32 (s.pc + 4)))).setIfInBounds a (uv v)) wx) => (show wx.cell? ⟨w1.heap.size, 0, none⟩ = some (.int .i64 (k : Int)) ∧ wx.cell? ⟨w1.heap.size, 1, none⟩ = some (.int .i64 (a : Int)) ∧ wx.cell? ⟨w1.heap.size, 2, none⟩ = some (.int .i64 (b : Int)) ∧ wx.cell? ⟨w1.heap.size, 3, none⟩ = some (.int .i64 i) ∧ wx.cell? ⟨w.heap.size, a, none⟩ = some (uv (s.r a)) ∧ wx.cell? ⟨w.heap.size, b, none⟩ = some (uv (s.r b)) from ⟨F.x.cell 0, F.x.cell 1, F.x.cell 2, F.x.cell 3, (F.c.cell a).trans HCA.out, (F.c.cell b).trans HCB.out⟩))
  have HF4 := Lib.hid F4
  have HW5 := Lib.hid W4
  have HRA := Lib.hid (cs_r (setP s (m32 (s.pc + 4))) ha)
  have B0 := (Below.refl w4.heap.size w4).drew
  clear F4 W4 D4
  go_wp2
  go_region_held (fun wx => wx.cell? ⟨w1.heap.size, 0, none⟩ = some (.int .i64 (k : Int)) ∧ wx.cell? ⟨w1.heap.size, 1, none⟩ = some (.int .i64 (a : Int)) ∧ wx.cell? ⟨w1.heap.size, 2, none⟩ = some (.int .i64 (b : Int)) ∧ wx.cell? ⟨w1.heap.size, 3, none⟩ = some (.int .i64 i) ∧ wx.cell? ⟨w.heap.size, a, none⟩ = some (uv (s.r a)) ∧ wx.cell? ⟨w.heap.size, b, none⟩ = some (uv (s.r b))) (first | exact HS1.out _ ((HF4.out.below B3).set a (uv v)) | exact HS0.out _ (HF4.out.below B3) | exact HS0.out _ (HF4.out.below B0) | go_keep) ((go_at_call 39; (with_reducible refine (HC.out _).mono ?_); rintro e' w5 ⟨rfl, hb5⟩; have B3 := B0.trans hb5; have y1 := (HF4.out.e.below B3).cell a; rw [HRA.out] at y1; have f1 := (HF4.out.e.below B3).free a))
  have F5 := (HF4.out.below B3).set a (uv v)
  rw [cs_setR _ _ ha] at F5
  have W5 := (HW5.out.below B3).set hBl (w1.heap.size + 1) a (uv v) (by omega)
  obtain ⟨w6, hw6⟩ : ∃ w6, w5.setCell ⟨w1.heap.size + 1, a, none⟩ (uv v) = w6 := ⟨_, rfl⟩
  rw [hw6] at F5 W5
  have hw6' : w5.setCell ⟨w1.heap.size + 1, a, none⟩ (Value.int .u32 v) = w6 := hw6
  rw [hw6']
  clear hw6 hw6' y1 f1 B3 B0 hb5 x0
  have h3 := run_ldC F5.e (cs_size _)
  have h5 := run_stC F5.r rfl (cs_size (setR (setP s (m32 (s.pc + 4))) a v)) (cs_one _)
  have HR := Lib.hid (CoC.Blk.setAll F5.r (ds := cs (setR (setP s (m32 (s.pc + 4))) a v)) rfl)
  have HS := Lib.hid (cs_size (setR (setP s (m32 (s.pc + 4))) a v))
  have HW := Lib.hid (Wrote.sets hBl (w.heap.size + 1) (by omega) (cs (setR (setP s (m32 (s.pc + 4))) a v)).toList 0 W5)
  clear F5 W5
  generalize hD : cs (setR (setP s (m32 (s.pc + 4))) a v) = D at *
  have HE := Lib.hid hD
  clear hD
  go_wp2
  refine bodyPost_ret (v := .tuple #[.agg D, .int .i64 0]) ?_ rfl ⟨by rw [← HE.out]; rfl, HW.out⟩
  exact results_cell_row2 rfl _ _ (w.heap.size + 1) 30 D (0, 0) _ _ rfl rfl HR.out Tryd.underlying30 rfl (by rw [infoC, HS.out])

set_option maxRecDepth 100000 in
set_option maxHeartbeats 2000000 in
theorem rs_0 (w : World) (B : Nat) (ad : Option Addr) (cap : Nat) (bs : CoM.Bs) (hL : Lies w B ad cap bs) (s : St) (hs : s.Ok) (p n : Nat) (hp : s.pc = (p : Int)) (h4 : ((p : Int) % 4 != 0) = false) (a b : Nat) (i : Int) (hi : -32768 ≤ i ∧ i ≤ 32767) (ha : a < 8) (hb : b < 8)
    (HWd : Hid (∀ wx, Below w.heap.size w wx → Calls Tryd.prog 25 #[sl ad bs cap, uv (p : Int)] wx fun e' w' => e' = .returned (.tuple #[uv (n : Int), .bool true]) ∧ wx = w'))
    (HDc : Hid (∀ wx, Calls Tryd.prog 26 #[uv (n : Int)] wx fun e' w' => e' = .returned (.tuple #[.agg #[.int .i64 0, .int .i64 (a : Int), .int .i64 (b : Int), .int .i64 i], .int .i64 0]) ∧ Below wx.heap.size wx w')) :
    Calls Tryd.prog 13 #[cv s, sl ad bs cap] w fun e' w' => e' = .returned (.tuple #[cv (setP s (m32 (s.pc + 4))), .int .i64 0]) ∧ Wrote w B ad cap bs w' := by
  have hBl := CoY.Lies.lt hL
  have hcp := cs_pc s
  rw [hp] at hcp
  have B2 := ((Below.refl w.heap.size w).alloc (Nat.le_refl _) (.cells (cs s) 30)).alloc (by simp) (.cells zcs 30)
  have C1 := (Blk.new w (cs s) 30).below ((Below.refl _ _).alloc (Nat.le_refl _) (.cells zcs 30))
  have R1 := Blk.new (w.alloc (.cells (cs s) 30)) zcs 30
  rw [World.size_alloc] at R1
  have h0 := run_ldC C1 (cs_size s)
  go_enter Tryd.func13, Tryd.ntmps13
  go_wp2_with (first | (go_at_call 25; (with_reducible refine (HWd.out _ B2).mono ?_); rintro e' w0 ⟨rfl, rfl⟩) | (go_at_call 26; (with_reducible refine (HDc.out _).mono ?_); rintro e' w1 ⟨rfl, hb1⟩; refine Hid.out ?_))
  refine Lib.hid ?_
  have bb1 := hb1.trans (((Below.refl w1.heap.size w1).alloc (Nat.le_refl _) (.cells #[.int .i64 0, .int .i64 (a : Int), .int .i64 (b : Int), .int .i64 i] 61)).mono hb1.size)
  have bb2 := bb1.trans (((Below.refl (w1.alloc (.cells #[.int .i64 0, .int .i64 (a : Int), .int .i64 (b : Int), .int .i64 i] 61)).heap.size (w1.alloc (.cells #[.int .i64 0, .int .i64 (a : Int), .int .i64 (b : Int), .int .i64 i] 61))).alloc (Nat.le_refl _) (.cells zcs 30)).mono bb1.size)
  have h1 := run_ldC (C1.below bb1) (cs_size s)
  have E1 := Blk.new (w1.alloc (.cells #[.int .i64 0, .int .i64 (a : Int), .int .i64 (b : Int), .int .i64 i] 61)) zcs 30
  have X1 := (Blk.new w1 #[.int .i64 0, .int .i64 (a : Int), .int .i64 (b : Int), .int .i64 i] 61).below ((Below.refl _ _).alloc (Nat.le_refl _) (.cells zcs 30))
  rw [World.size_alloc] at E1
  have hnX : w.heap.size + 1 < w1.heap.size := by have := hb1.size; simp at this; omega
  have F1 : Four w w.heap.size w1.heap.size s 0 a b i zcs ((w1.alloc (.cells #[.int .i64 0, .int .i64 (a : Int), .int .i64 (b : Int), .int .i64 i] 61)).alloc (.cells zcs 30)) := ⟨C1.below bb2, R1.below bb2, X1, E1, hnX⟩
  have h2 := run_stC E1 rfl (cs_size s) (cs_one s)
  have F2 := F1.all (cs s) rfl
  have W2 := Wrote.sets hBl (w1.heap.size + 1) (by omega) (cs s).toList 0 (Wrote.of_below hL (B2.trans (bb2.mono B2.size)))
  obtain ⟨w2, hw2⟩ : ∃ w2, World.setCells ((w1.alloc (.cells #[.int .i64 0, .int .i64 (a : Int), .int .i64 (b : Int), .int .i64 i] 61)).alloc (.cells zcs 30)) (w1.heap.size + 1) 0 (cs s).toList = w2 := ⟨_, rfl⟩
  have D2 := below_all (w1.heap.size + 1) (by omega) (cs s).toList 0 (B2.trans (bb2.mono B2.size))
  rw [hw2] at h2 F2 W2 D2
  have c10 := (F2.c.cell 10).trans hcp
  have e10 := (F2.e.cell 10).trans hcp
  have g10 := F2.e.free 10
  have x3 := F2.x.cell 3
  clear hw2 F1 E1 X1 bb1 bb2 C1 R1 h0 hb1 B2 hL hcp
  go_wp2
  go_quiet ((go_at_call 27; exact quiet (imm_any i hi _)))
  have F3 := F2.set 10 (uv (m32 (s.pc + 4)))
  rw [cs_setP] at F3
  have W3 := W2.set hBl (w1.heap.size + 1) 10 (uv (m32 (s.pc + 4))) (by omega)
  have D3 := D2.setCell (p := ⟨w1.heap.size + 1, 10, none⟩) (by show w.heap.size ≤ w1.heap.size + 1; omega) (uv (m32 (s.pc + 4)))
  have bd := drew_below (w2.setCell ⟨w1.heap.size + 1, 10, none⟩ (uv (m32 (s.pc + 4)))).heap.size (w2.setCell ⟨w1.heap.size + 1, 10, none⟩ (uv (m32 (s.pc + 4)))) nq
  have F4 := F3.below bd
  have W4 := W3.below bd
  have D4 := D3.trans (bd.mono D3.size)
  obtain ⟨w4, hw4⟩ : ∃ w4, World.drewN (w2.setCell ⟨w1.heap.size + 1, 10, none⟩ (uv (m32 (s.pc + 4)))) nq = w4 := ⟨_, rfl⟩
  rw [hw4] at F4 W4 D4
  have hw4' : World.drewN (w2.setCell ⟨w1.heap.size + 1, 10, none⟩ (Value.int .u32 (((p : Int) + 4) % 4294967296))) nq = w4 := by rw [← hw4, hp]; rfl
  have hfar : ((((p : Int) + 4) % 4294967296 + 4 * m32 i % 4294967296) % 4294967296) = m32 (m32 (s.pc + 4) + m32 (4 * m32 i)) := by rw [hp]; rfl
  generalize hfr : m32 (m32 (s.pc + 4) + m32 (4 * m32 i)) = far at *
  have HFR := Lib.hid hfr
  have HFA := Lib.hid hfar
  have HW4 := Lib.hid hw4'
  clear hw4 hw4' F2 W2 F3 W3 bd c10 e10 g10 x3 h1 h2 hfr hfar D2 D3
  rw [HW4.out, HFA.out]
  have x0 := F4.x.cell 0
  have h3 := run_ldC F4.e (cs_size _)
  have h5 := run_stC F4.r rfl (cs_size (setP s (m32 (s.pc + 4)))) (cs_one _)
  have HR := Lib.hid (CoC.Blk.setAll F4.r (ds := cs (setP s (m32 (s.pc + 4)))) rfl)
  have HS := Lib.hid (cs_size (setP s (m32 (s.pc + 4))))
  have HW := Lib.hid (Wrote.sets hBl (w.heap.size + 1) (by omega) (cs (setP s (m32 (s.pc + 4)))).toList 0 W4)
  clear F4 W4
  generalize hD : cs (setP s (m32 (s.pc + 4))) = D at *
  have HE := Lib.hid hD
  clear hD
  go_wp2
  refine bodyPost_ret (v := .tuple #[.agg D, .int .i64 0]) ?_ rfl ⟨by rw [← HE.out], HW.out⟩
  exact results_cell_row2 rfl _ _ (w.heap.size + 1) 30 D (0, 0) _ _ rfl rfl HR.out Tryd.underlying30 rfl (by rw [infoC, HS.out])
end Go.Proofs.YtgnpbedhpkmkfaaDoor.RfI

/-
  The document's Step, whole; Same of one Cpu with itself.
-/
namespace Go.Proofs.YtgnpbedhpkmkfaaDoor.RfJ
open Go Go.RowKit Kit Bk CoM CoR CoB CoW CoI CoF CoT CoU CoV CoC CoX CoY CoE IsaM IsaT IsaL IsaC IsaE IsaN RfA Rc RfD RfE RfF RfC RfG RfH RfI
set_option linter.unusedVariables false

theorem rmemory_any (w : World) (B : Nat) (ad : Option Addr) (cap : Nat) (bs : CoM.Bs) (hL : Lies w B ad cap bs) (s : St) (hs : s.Ok) (k a b : Nat) (i : Int) (hf : fetchP s.pc bs = .inr (k, a, b, i)) (hk : isMem k = true) :
    Calls Tryd.prog 32 #[.agg #[.int .i64 (k : Int), .int .i64 (a : Int), .int .i64 (b : Int), .int .i64 i], cv s, sl ad bs cap] w fun e w' => e = .returned (.tuple #[.agg (cs (execP k a b i s bs).1), .int .i64 (execP k a b i s bs).2.1]) ∧ Wrote w B ad cap (execP k a b i s bs).2.2 w' := by
  have hfit := fetch_fits hf
  have hbd := hfit.bd
  have ha : a < 8 := by omega
  obtain ⟨at0, hat⟩ := Int.eq_ofNat_of_zero_le (m32_bd (s.r b + m32 i)).1
  have hat1 := (m32_bd (s.r b + m32 i)).2
  have hat2 : memAt k b i s = (at0 : Int) := hat
  rw [hat] at hat1
  have hlt : at0 < 4294967296 := by omega
  obtain ⟨v, hv⟩ := Int.eq_ofNat_of_zero_le (hs.r0 a)
  have hv1 : v < 4294967296 := by have := hs.r1 a; omega
  have hT := fun wx (hb : Below w.heap.size w wx) => rtouches_any wx B ad cap bs (Lies.below hL hb) s hs
  unfold touchP at hT
  rw [hf] at hT
  simp only [hk, if_true, hat2] at hT
  have hc : k = 15 ∨ k = 16 ∨ k = 17 ∨ k = 18 := by
    unfold isMem at hk
    simp at hk
    omega
  have e24 : ¬ k = 24 := by omega
  unfold execP
  rw [if_neg e24, if_pos hk, hat2]
  cases hr : rch bs (at0 : Int) (lng k) with
  | true =>
    simp only [if_true]
    unfold rch at hr
    simp only [Bool.and_eq_true, decide_eq_true_eq, Bool.not_eq_true', Bool.and_eq_false_iff, decide_eq_false_iff_not] at hr
    obtain ⟨h1, h2⟩ := hr
    rcases hc with rfl | rfl | rfl | rfl
    · have h3 : (at0 : Int) + 4 ≤ bs.length := h1
      have h4 : (at0 : Int) % 4 = 0 := by rcases h2 with h | h <;> first | exact absurd rfl h | omega
      exact rm_r4 w B ad cap bs hL s hs 15 a b i ha at0 hlt (by omega) (by simp [h4]) (Lib.hid hT)
    · have h3 : (at0 : Int) + 4 ≤ bs.length := h1
      have h4 : (at0 : Int) % 4 = 0 := by rcases h2 with h | h <;> first | exact absurd rfl h | omega
      have := rm_w4 w B ad cap bs hL s hs 16 a b i ha at0 hlt (by omega) (by simp [h4]) v hv hv1 (Lib.hid hT)
      rw [show memV 16 (at0 : Int) (s.r a) bs = s.r a from rfl, show memP 16 (at0 : Int) (s.r a) bs = put4 bs (at0 : Int).toNat (s.r a).toNat from rfl, setR_same, hv, Int.toNat_natCast, Int.toNat_natCast]
      exact this
    · have h3 : (at0 : Int) + 1 ≤ bs.length := h1
      exact rm_r1 w B ad cap bs hL s hs 17 a b i ha at0 hlt (by omega) (Lib.hid hT)
    · have h3 : (at0 : Int) + 1 ≤ bs.length := h1
      have := rm_w1 w B ad cap bs hL s hs 18 a b i ha at0 hlt (by omega) v hv hv1 (Lib.hid hT)
      rw [show memV 18 (at0 : Int) (s.r a) bs = s.r a from rfl, show memP 18 (at0 : Int) (s.r a) bs = put1 bs (at0 : Int).toNat (s.r a).toNat from rfl, setR_same, hv, Int.toNat_natCast, Int.toNat_natCast]
      exact this
  | false =>
    simp only [Bool.false_eq_true, if_false]
    unfold rch at hr
    simp only [Bool.and_eq_false_iff, decide_eq_false_iff_not, Bool.not_eq_false', Bool.and_eq_true, decide_eq_true_eq] at hr
    rcases hc with rfl | rfl | rfl | rfl
    · by_cases h3 : at0 + 4 ≤ bs.length
      · exact rm_al4 w B ad cap bs hL s hs 15 a b i ha at0 hlt _ h3 (by rcases hr with h | h; exact absurd (show (at0 : Int) + 4 ≤ bs.length by omega) h; simp [h.2]) (Lib.hid hT)
      · exact rm_no4 w B ad cap bs hL s hs 15 a b i ha at0 hlt _ h3 (Lib.hid hT)
    · by_cases h3 : at0 + 4 ≤ bs.length
      · exact rm_al4 w B ad cap bs hL s hs 16 a b i ha at0 hlt _ h3 (by rcases hr with h | h; exact absurd (show (at0 : Int) + 4 ≤ bs.length by omega) h; simp [h.2]) (Lib.hid hT)
      · exact rm_no4 w B ad cap bs hL s hs 16 a b i ha at0 hlt _ h3 (Lib.hid hT)
    · have h3 : ¬ (at0 : Int) + 1 ≤ bs.length := by rcases hr with h | h; exact h; exact absurd h.1 (by decide)
      exact rm_no1 w B ad cap bs hL s hs 17 a b i ha at0 hlt _ (by omega) (Lib.hid hT)
    · have h3 : ¬ (at0 : Int) + 1 ≤ bs.length := by rcases hr with h | h; exact h; exact absurd h.1 (by decide)
      exact rm_no1 w B ad cap bs hL s hs 18 a b i ha at0 hlt _ (by omega) (Lib.hid hT)

theorem rstep_any (w : World) (B : Nat) (ad : Option Addr) (cap : Nat) (bs : CoM.Bs) (hL : Lies w B ad cap bs) (hB0 : B < w.heap.size) (s : St) (hs : s.Ok) :
    Calls Tryd.prog 13 #[cv s, sl ad bs cap] w fun e w' => e = .returned (.tuple #[cv (stepP s bs).1, .int .i64 (stepP s bs).2.1]) ∧ Wrote w B ad cap (stepP s bs).2.2 w' := by
  obtain ⟨p, hp⟩ := Int.eq_ofNat_of_zero_le hs.p0
  have p1 := hs.p1
  rw [hp] at p1
  have hW := fun wx (hb : Below w.heap.size w wx) => rword_any wx B ad cap bs (Lies.below hL hb) p (by omega)
  have hD := fun wx => rdec_any _ (word0_lt hL.small p) wx
  by_cases h4 : (p : Int) % 4 = 0
  · have h4' : ((p : Int) % 4 != 0) = false := by simp [h4]
    by_cases h5 : p + 4 ≤ bs.length
    · rw [decide_eq_true h5] at hW
      rw [if_pos h5] at hW hD
      have hfw : fetchW s.pc bs = some (wordAt bs p) := by unfold fetchW; rw [hp, if_pos ⟨by omega, by omega⟩]; rfl
      unfold decV at hD
      cases hm : mayB (dOp (wordAt bs p)) (dA (wordAt bs p)) (dB (wordAt bs p)) (dI (wordAt bs p)) with
      | false =>
        simp only [hm, Bool.false_eq_true, if_false] at hD
        have hst : stepP s bs = (s, 3, bs) := by unfold stepP fetchP; rw [hfw]; simp only [hm, Bool.false_eq_true, if_false]
        rw [hst]
        exact rs_e w B ad cap bs hL s hs p _ hp h4' 0 0 0 0 30 rfl (Lib.hid hW) (Lib.hid hD)
      | true =>
        simp only [hm, if_true] at hD
        have hm2 : May _ _ _ _ := of_decide_eq_true hm
        have hb0 := hm2.2.bd
        obtain ⟨k, hk⟩ := Int.eq_ofNat_of_zero_le hm2.1
        obtain ⟨a, hac⟩ := Int.eq_ofNat_of_zero_le (show 0 ≤ dA (wordAt bs p) by omega)
        obtain ⟨b, hbc⟩ := Int.eq_ofNat_of_zero_le (show 0 ≤ dB (wordAt bs p) by omega)
        obtain ⟨i, hic⟩ : ∃ i, dI (wordAt bs p) = i := ⟨_, rfl⟩
        have hf : fetchP s.pc bs = .inr (k, a, b, i) := by
          unfold fetchP
          rw [hfw]
          rw [hk, hac, hbc, hic] at hm
          simp only [hk, hac, hbc, hic, hm, if_true, Int.toNat_natCast]
        have hst : stepP s bs = execP k a b i s bs := by unfold stepP; rw [hf]
        rw [hk, hac, hbc, hic] at hD
        have hfit := fetch_fits hf
        have hbd := hfit.bd
        have h30 := hfit.k30
        have hi : -32768 ≤ i ∧ i ≤ 32767 := ⟨by omega, by omega⟩
        have ha : a < 8 := by omega
        have hb : b < 8 := by omega
        rw [hst]
        have HW := Lib.hid hW
        have HD := Lib.hid hD
        have fa := hfit.a1
        have fb := hfit.b1
        by_cases hmem : isMem k = true
        · have HM : ∀ wx, Wrote w B ad cap bs wx → _ := fun wx hw => rmemory_any wx B ad cap bs hw.lies s hs k a b i hf hmem
          have hc : k = 15 ∨ k = 16 ∨ k = 17 ∨ k = 18 := by
            unfold isMem at hmem
            simp at hmem
            omega
          rcases hc with rfl | rfl | rfl | rfl
          · exact rs_m15 w B ad cap bs hL s hs p _ hp h4' a b i hi ha hb _ _ _ hB0 (Lib.hid HM) HW HD
          · exact rs_m16 w B ad cap bs hL s hs p _ hp h4' a b i hi ha hb _ _ _ hB0 (Lib.hid HM) HW HD
          · exact rs_m17 w B ad cap bs hL s hs p _ hp h4' a b i hi ha hb _ _ _ hB0 (Lib.hid HM) HW HD
          · exact rs_m18 w B ad cap bs hL s hs p _ hp h4' a b i hi ha hb _ _ _ hB0 (Lib.hid HM) HW HD
        · have hex : ∀ h24 : ¬ k = 24, execP k a b i s bs = if 25 ≤ k then (setP (zst k a b s) (m32 (s.pc + 4)), 0, bs) else (setP (setR s a (res k (s.r a) (s.r b) i s.pc)) (nxt k (s.r a) i s.pc), 0, bs) := fun h24 => by
            unfold execP
            rw [if_neg h24, if_neg hmem]
          have hcases : k = 24 ∨ k = 25 ∨ k = 26 ∨ k = 27 ∨ k = 28 ∨ k = 29 ∨ k = 19 ∨ k = 20 ∨ k = 21 ∨ k = 22 ∨ k = 23 ∨ k = 0 ∨ (0 < k ∧ k < 15) := by
            unfold isMem at hmem
            simp at hmem
            omega
          rcases hcases with rfl | rfl | rfl | rfl | rfl | rfl | rfl | rfl | rfl | rfl | rfl | rfl | ⟨hk1, hk2⟩
          · exact rs_sys w B ad cap bs hL s hs p _ hp h4' a b i hi ha hb HW HD
          · exact rs_25 w B ad cap bs hL s hs p _ hp h4' a b i hi ha hb (by simp [mA, sigT] at fa; omega) (by simp [mB, sigT] at fb; omega) HW HD
          · exact rs_26 w B ad cap bs hL s hs p _ hp h4' a b i hi ha hb (by simp [mA, sigT] at fa; omega) (by simp [mB, sigT] at fb; omega) HW HD
          · exact rs_27 w B ad cap bs hL s hs p _ hp h4' a b i hi ha hb (by simp [mA, sigT] at fa; omega) (by simp [mB, sigT] at fb; omega) HW HD
          · exact rs_28 w B ad cap bs hL s hs p _ hp h4' a b i hi ha hb (by simp [mA, sigT] at fa; omega) (by simp [mB, sigT] at fb; omega) HW HD
          · exact rs_29 w B ad cap bs hL s hs p _ hp h4' a b i hi ha hb (by simp [mA, sigT] at fa; omega) HW HD
          · rw [hex (by decide), show (if 25 ≤ 19 then (setP (zst 19 a b s) (m32 (s.pc + 4)), (0 : Int), bs) else (setP (setR s a (res 19 (s.r a) (s.r b) i s.pc)) (nxt 19 (s.r a) i s.pc), 0, bs)) = (setP (setR s a (s.r a)) (m32 (m32 (s.pc + 4) + m32 (4 * m32 i))), 0, bs) from rfl, setR_same]
            exact rs_19 w B ad cap bs hL s hs p _ hp h4' a b i hi ha hb HW HD
          · rw [hex (by decide), show (if 25 ≤ 20 then (setP (zst 20 a b s) (m32 (s.pc + 4)), (0 : Int), bs) else (setP (setR s a (res 20 (s.r a) (s.r b) i s.pc)) (nxt 20 (s.r a) i s.pc), 0, bs)) = (setP (setR s a (s.r a)) (nxt 20 (s.r a) i s.pc), 0, bs) from rfl, setR_same]
            cases hz : s.r a == 0 with
            | true =>
              rw [show nxt 20 (s.r a) i s.pc = m32 (m32 (s.pc + 4) + m32 (4 * m32 i)) from (jmp_eq (k := 20) (by decide) (by have : s.r a = 0 := by simpa using hz
                                                                                                                             rw [this]; rfl)).symm]
              exact rs_20_yes w B ad cap bs hL s hs p _ hp h4' a b i hi ha hb hz HW HD
            | false =>
              rw [no_eq (k := 20) (by decide) (by unfold jumps; rw [hz]; rfl)]
              exact rs_20_no w B ad cap bs hL s hs p _ hp h4' a b i hi ha hb hz HW HD
          · rw [hex (by decide), show (if 25 ≤ 21 then (setP (zst 21 a b s) (m32 (s.pc + 4)), (0 : Int), bs) else (setP (setR s a (res 21 (s.r a) (s.r b) i s.pc)) (nxt 21 (s.r a) i s.pc), 0, bs)) = (setP (setR s a (s.r a)) (nxt 21 (s.r a) i s.pc), 0, bs) from rfl, setR_same]
            cases hz : s.r a == 0 with
            | false =>
              have hz2 : (s.r a != 0) = true := by simpa using hz
              rw [show nxt 21 (s.r a) i s.pc = m32 (m32 (s.pc + 4) + m32 (4 * m32 i)) from (jmp_eq (k := 21) (by decide) (by unfold jumps; rw [hz2, hz]; rfl)).symm]
              exact rs_21_yes w B ad cap bs hL s hs p _ hp h4' a b i hi ha hb hz HW HD
            | true =>
              have hz2 : (s.r a != 0) = false := by simpa using hz
              rw [no_eq (k := 21) (by decide) (by unfold jumps; rw [hz2]; simp)]
              exact rs_21_no w B ad cap bs hL s hs p _ hp h4' a b i hi ha hb hz HW HD
          · exact rs_22 w B ad cap bs hL s hs p _ hp h4' a b i hi ha hb HW HD
          · rw [hex (by decide), show (if 25 ≤ 23 then (setP (zst 23 a b s) (m32 (s.pc + 4)), (0 : Int), bs) else (setP (setR s a (res 23 (s.r a) (s.r b) i s.pc)) (nxt 23 (s.r a) i s.pc), 0, bs)) = (setP (setR s a (s.r a)) (s.r a), 0, bs) from rfl, setR_same]
            exact rs_23 w B ad cap bs hL s hs p _ hp h4' a b i hi ha hb HW HD
          · rw [hex (by decide), show (if 25 ≤ 0 then (setP (zst 0 a b s) (m32 (s.pc + 4)), (0 : Int), bs) else (setP (setR s a (res 0 (s.r a) (s.r b) i s.pc)) (nxt 0 (s.r a) i s.pc), 0, bs)) = (setP (setR s a (s.r a)) (m32 (s.pc + 4)), 0, bs) from rfl, setR_same]
            exact rs_0 w B ad cap bs hL s hs p _ hp h4' a b i hi ha hb HW HD
          · rw [hex (by omega), if_neg (by omega), no_eq (k := k) (by omega) (by unfold jumps; simp; omega)]
            exact rs_reg w B ad cap bs hL s hs p _ hp h4' k a b i hi ha hb hk1 hk2 HW HD
    · rw [decide_eq_false h5] at hW
      rw [if_neg h5] at hW
      have hfw : fetchW s.pc bs = none := by unfold fetchW; rw [hp, if_neg (by omega)]
      have hst : stepP s bs = (s, 2, bs) := by unfold stepP fetchP; rw [hfw]
      rw [hst]
      exact rs_is w B ad cap bs hL s hs p _ hp false h4' (Lib.hid hW)
  · have h4' : ((p : Int) % 4 != 0) = true := by simp [h4]
    have hfw : fetchW s.pc bs = none := by unfold fetchW; rw [hp, if_neg (by omega)]
    have hst : stepP s bs = (s, 2, bs) := by unfold stepP fetchP; rw [hfw]
    rw [hst]
    exact rs_un w B ad cap bs hL s hs p _ hp _ h4' (Lib.hid hW)
end Go.Proofs.YtgnpbedhpkmkfaaDoor.RfJ
