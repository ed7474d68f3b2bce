/-
  The document's own: Step: what traps; into an instruction.
-/
import Derived.Test.YtgnpbedhpkmkfaaDoorZRfF
import Derived.Test.YtgnpbedhpkmkfaaDoorZRfa
import Derived.Test.YtgnpbedhpkmkfaaDoorZCx
namespace Go.Proofs.YtgnpbedhpkmkfaaDoor.RfG
open Go Go.RowKit Kit Bk CoM CoR CoB CoW CoI CoF CoT CoU CoV CoC CoX CoY CoE IsaM IsaT IsaL IsaC IsaE IsaN RfA Rc RfD RfE RfF RfC
set_option linter.unusedVariables false
attribute [local go_sem ↓] ldc_wrap stc_wrap

set_option maxRecDepth 100000 in
set_option maxHeartbeats 2000000 in
theorem rs_un (w : World) (B : Nat) (ad : Option Addr) (cap : Nat) (bs : CoM.Bs) (hL : Lies w B ad cap bs) (s : St) (hs : s.Ok) (p n : Nat) (hp : s.pc = (p : Int)) (is : Bool) (h4 : ((p : Int) % 4 != 0) = true)
    (HWd : Hid (∀ wx, Below w.heap.size w wx → Calls Tryd.prog 25 #[sl ad bs cap, uv (p : Int)] wx fun e' w' => e' = .returned (.tuple #[uv (n : Int), .bool is]) ∧ wx = w')) :
    Calls Tryd.prog 13 #[cv s, sl ad bs cap] w fun e' w' => e' = .returned (.tuple #[cv s, .int .i64 2]) ∧ Wrote w B ad cap bs w' := by
  have hBl := CoY.Lies.lt hL
  have hcp := cs_pc s
  rw [hp] at hcp
  have B2 := ((Below.refl w.heap.size w).alloc (Nat.le_refl _) (.cells (cs s) 30)).alloc (by simp) (.cells zcs 30)
  have C1 := (Blk.new w (cs s) 30).below ((Below.refl _ _).alloc (Nat.le_refl _) (.cells zcs 30))
  have R1 := Blk.new (w.alloc (.cells (cs s) 30)) zcs 30
  rw [World.size_alloc] at R1
  have h0 := run_ldC C1 (cs_size s)
  have h2 := run_stC R1 rfl (cs_size s) (cs_one s)
  have HR := Lib.hid (CoC.Blk.setAll R1 (ds := cs s) rfl)
  have HS := Lib.hid (cs_size s)
  have HW := Lib.hid (Wrote.sets hBl (w.heap.size + 1) (by omega) (cs s).toList 0 (Wrote.of_below hL B2))
  clear C1 R1 hL
  go_enter Tryd.func13, Tryd.ntmps13
  go_wp2_with (first | (go_at_call 25; (with_reducible refine (HWd.out _ B2).mono ?_); rintro e' w0 ⟨rfl, rfl⟩))
  refine bodyPost_ret (v := .tuple #[.agg (cs s), .int .i64 2]) ?_ rfl ⟨rfl, HW.out⟩
  exact results_cell_row2 rfl _ _ (w.heap.size + 1) 30 (cs s) (0, 0) _ _ rfl rfl HR.out Tryd.underlying30 rfl (by rw [infoC, HS.out])

set_option maxRecDepth 100000 in
set_option maxHeartbeats 2000000 in
theorem rs_is (w : World) (B : Nat) (ad : Option Addr) (cap : Nat) (bs : CoM.Bs) (hL : Lies w B ad cap bs) (s : St) (hs : s.Ok) (p n : Nat) (hp : s.pc = (p : Int)) (is : Bool) (h4 : ((p : Int) % 4 != 0) = false)
    (HWd : Hid (∀ wx, Below w.heap.size w wx → Calls Tryd.prog 25 #[sl ad bs cap, uv (p : Int)] wx fun e' w' => e' = .returned (.tuple #[uv (n : Int), .bool false]) ∧ wx = w')) :
    Calls Tryd.prog 13 #[cv s, sl ad bs cap] w fun e' w' => e' = .returned (.tuple #[cv s, .int .i64 2]) ∧ Wrote w B ad cap bs w' := by
  have hBl := CoY.Lies.lt hL
  have hcp := cs_pc s
  rw [hp] at hcp
  have B2 := ((Below.refl w.heap.size w).alloc (Nat.le_refl _) (.cells (cs s) 30)).alloc (by simp) (.cells zcs 30)
  have C1 := (Blk.new w (cs s) 30).below ((Below.refl _ _).alloc (Nat.le_refl _) (.cells zcs 30))
  have R1 := Blk.new (w.alloc (.cells (cs s) 30)) zcs 30
  rw [World.size_alloc] at R1
  have h0 := run_ldC C1 (cs_size s)
  have h2 := run_stC R1 rfl (cs_size s) (cs_one s)
  have HR := Lib.hid (CoC.Blk.setAll R1 (ds := cs s) rfl)
  have HS := Lib.hid (cs_size s)
  have HW := Lib.hid (Wrote.sets hBl (w.heap.size + 1) (by omega) (cs s).toList 0 (Wrote.of_below hL B2))
  clear C1 R1 hL
  go_enter Tryd.func13, Tryd.ntmps13
  go_wp2_with (first | (go_at_call 25; (with_reducible refine (HWd.out _ B2).mono ?_); rintro e' w0 ⟨rfl, rfl⟩))
  refine bodyPost_ret (v := .tuple #[.agg (cs s), .int .i64 2]) ?_ rfl ⟨rfl, HW.out⟩
  exact results_cell_row2 rfl _ _ (w.heap.size + 1) 30 (cs s) (0, 0) _ _ rfl rfl HR.out Tryd.underlying30 rfl (by rw [infoC, HS.out])

set_option maxRecDepth 100000 in
set_option maxHeartbeats 2000000 in
theorem rs_e (w : World) (B : Nat) (ad : Option Addr) (cap : Nat) (bs : CoM.Bs) (hL : Lies w B ad cap bs) (s : St) (hs : s.Ok) (p n : Nat) (hp : s.pc = (p : Int)) (h4 : ((p : Int) % 4 != 0) = false) (o a c i e : Int) (he : (e != 0) = true)
    (HWd : Hid (∀ wx, Below w.heap.size w wx → Calls Tryd.prog 25 #[sl ad bs cap, uv (p : Int)] wx fun e' w' => e' = .returned (.tuple #[uv (n : Int), .bool true]) ∧ wx = w'))
    (HDc : Hid (∀ wx, Calls Tryd.prog 26 #[uv (n : Int)] wx fun e' w' => e' = .returned (.tuple #[.agg #[.int .i64 o, .int .i64 a, .int .i64 c, .int .i64 i], .int .i64 e]) ∧ Below wx.heap.size wx w')) :
    Calls Tryd.prog 13 #[cv s, sl ad bs cap] w fun e' w' => e' = .returned (.tuple #[cv s, .int .i64 3]) ∧ Wrote w B ad cap bs w' := by
  have hBl := CoY.Lies.lt hL
  have hcp := cs_pc s
  rw [hp] at hcp
  have B2 := ((Below.refl w.heap.size w).alloc (Nat.le_refl _) (.cells (cs s) 30)).alloc (by simp) (.cells zcs 30)
  have C1 := (Blk.new w (cs s) 30).below ((Below.refl _ _).alloc (Nat.le_refl _) (.cells zcs 30))
  have R1 := Blk.new (w.alloc (.cells (cs s) 30)) zcs 30
  rw [World.size_alloc] at R1
  have h0 := run_ldC C1 (cs_size s)
  go_enter Tryd.func13, Tryd.ntmps13
  go_wp2_with (first | (go_at_call 25; (with_reducible refine (HWd.out _ B2).mono ?_); rintro e' w0 ⟨rfl, rfl⟩) | (go_at_call 26; (with_reducible refine (HDc.out _).mono ?_); rintro e' w1 ⟨rfl, hb1⟩; refine Hid.out ?_))
  refine Lib.hid ?_
  have bb := hb1.trans (((Below.refl w1.heap.size w1).alloc (Nat.le_refl _) (.cells #[.int .i64 o, .int .i64 a, .int .i64 c, .int .i64 i] 61)).mono hb1.size)
  have C2 := C1.below bb
  have R2 := R1.below bb
  have W2 := Wrote.of_below hL (B2.trans (bb.mono B2.size))
  have h1 := run_ldC C2 (cs_size s)
  have h2 := run_stC R2 rfl (cs_size s) (cs_one s)
  have HR := Lib.hid (CoC.Blk.setAll R2 (ds := cs s) rfl)
  have HS := Lib.hid (cs_size s)
  have HW := Lib.hid (Wrote.sets hBl (w.heap.size + 1) (by omega) (cs s).toList 0 W2)
  clear C1 R1 C2 R2 W2 bb hb1 B2 h0 hL hcp
  generalize hD : cs s = D at *
  have HE := Lib.hid hD
  clear hD
  go_wp2
  refine bodyPost_ret (v := .tuple #[.agg D, .int .i64 3]) ?_ rfl ⟨by rw [← HE.out], HW.out⟩
  exact results_cell_row2 rfl _ _ (w.heap.size + 1) 30 D (0, 0) _ _ rfl rfl HR.out Tryd.underlying30 rfl (by rw [infoC, HS.out])

set_option maxRecDepth 100000 in
set_option maxHeartbeats 2000000 in
theorem rs_sys (w : World) (B : Nat) (ad : Option Addr) (cap : Nat) (bs : CoM.Bs) (hL : Lies w B ad cap bs) (s : St) (hs : s.Ok) (p n : Nat) (hp : s.pc = (p : Int)) (h4 : ((p : Int) % 4 != 0) = false) (a b : Nat) (i : Int) (hi : -32768 ≤ i ∧ i ≤ 32767) (ha : a < 8) (hb : b < 8)
    (HWd : Hid (∀ wx, Below w.heap.size w wx → Calls Tryd.prog 25 #[sl ad bs cap, uv (p : Int)] wx fun e' w' => e' = .returned (.tuple #[uv (n : Int), .bool true]) ∧ wx = w'))
    (HDc : Hid (∀ wx, Calls Tryd.prog 26 #[uv (n : Int)] wx fun e' w' => e' = .returned (.tuple #[.agg #[.int .i64 24, .int .i64 (a : Int), .int .i64 (b : Int), .int .i64 i], .int .i64 0]) ∧ Below wx.heap.size wx w')) :
    Calls Tryd.prog 13 #[cv s, sl ad bs cap] w fun e' w' => e' = .returned (.tuple #[cv s, .int .i64 1]) ∧ Wrote w B ad cap bs w' := by
  have hBl := CoY.Lies.lt hL
  have hcp := cs_pc s
  rw [hp] at hcp
  have B2 := ((Below.refl w.heap.size w).alloc (Nat.le_refl _) (.cells (cs s) 30)).alloc (by simp) (.cells zcs 30)
  have C1 := (Blk.new w (cs s) 30).below ((Below.refl _ _).alloc (Nat.le_refl _) (.cells zcs 30))
  have R1 := Blk.new (w.alloc (.cells (cs s) 30)) zcs 30
  rw [World.size_alloc] at R1
  have h0 := run_ldC C1 (cs_size s)
  go_enter Tryd.func13, Tryd.ntmps13
  go_wp2_with (first | (go_at_call 25; (with_reducible refine (HWd.out _ B2).mono ?_); rintro e' w0 ⟨rfl, rfl⟩) | (go_at_call 26; (with_reducible refine (HDc.out _).mono ?_); rintro e' w1 ⟨rfl, hb1⟩; refine Hid.out ?_))
  refine Lib.hid ?_
  have bb1 := hb1.trans (((Below.refl w1.heap.size w1).alloc (Nat.le_refl _) (.cells #[.int .i64 24, .int .i64 (a : Int), .int .i64 (b : Int), .int .i64 i] 61)).mono hb1.size)
  have bb2 := bb1.trans (((Below.refl (w1.alloc (.cells #[.int .i64 24, .int .i64 (a : Int), .int .i64 (b : Int), .int .i64 i] 61)).heap.size (w1.alloc (.cells #[.int .i64 24, .int .i64 (a : Int), .int .i64 (b : Int), .int .i64 i] 61))).alloc (Nat.le_refl _) (.cells zcs 30)).mono bb1.size)
  have h1 := run_ldC (C1.below bb1) (cs_size s)
  have E1 := Blk.new (w1.alloc (.cells #[.int .i64 24, .int .i64 (a : Int), .int .i64 (b : Int), .int .i64 i] 61)) zcs 30
  have X1 := (Blk.new w1 #[.int .i64 24, .int .i64 (a : Int), .int .i64 (b : Int), .int .i64 i] 61).below ((Below.refl _ _).alloc (Nat.le_refl _) (.cells zcs 30))
  rw [World.size_alloc] at E1
  have hnX : w.heap.size + 1 < w1.heap.size := by have := hb1.size; simp at this; omega
  have F1 : Four w w.heap.size w1.heap.size s 24 a b i zcs ((w1.alloc (.cells #[.int .i64 24, .int .i64 (a : Int), .int .i64 (b : Int), .int .i64 i] 61)).alloc (.cells zcs 30)) := ⟨C1.below bb2, R1.below bb2, X1, E1, hnX⟩
  have h2 := run_stC E1 rfl (cs_size s) (cs_one s)
  have F2 := F1.all (cs s) rfl
  have W2 := Wrote.sets hBl (w1.heap.size + 1) (by omega) (cs s).toList 0 (Wrote.of_below hL (B2.trans (bb2.mono B2.size)))
  obtain ⟨w2, hw2⟩ : ∃ w2, World.setCells ((w1.alloc (.cells #[.int .i64 24, .int .i64 (a : Int), .int .i64 (b : Int), .int .i64 i] 61)).alloc (.cells zcs 30)) (w1.heap.size + 1) 0 (cs s).toList = w2 := ⟨_, rfl⟩
  have D2 := below_all (w1.heap.size + 1) (by omega) (cs s).toList 0 (B2.trans (bb2.mono B2.size))
  rw [hw2] at h2 F2 W2 D2
  have c10 := (F2.c.cell 10).trans hcp
  have e10 := (F2.e.cell 10).trans hcp
  have g10 := F2.e.free 10
  have x3 := F2.x.cell 3
  clear hw2 F1 E1 X1 bb1 bb2 C1 R1 h0 hb1 B2 hL hcp
  go_wp2
  go_quiet ((go_at_call 27; exact quiet (imm_any i hi _)))
  have F3 := F2.set 10 (uv (m32 (s.pc + 4)))
  rw [cs_setP] at F3
  have W3 := W2.set hBl (w1.heap.size + 1) 10 (uv (m32 (s.pc + 4))) (by omega)
  have D3 := D2.setCell (p := ⟨w1.heap.size + 1, 10, none⟩) (by show w.heap.size ≤ w1.heap.size + 1; omega) (uv (m32 (s.pc + 4)))
  have bd := drew_below (w2.setCell ⟨w1.heap.size + 1, 10, none⟩ (uv (m32 (s.pc + 4)))).heap.size (w2.setCell ⟨w1.heap.size + 1, 10, none⟩ (uv (m32 (s.pc + 4)))) nq
  have F4 := F3.below bd
  have W4 := W3.below bd
  have D4 := D3.trans (bd.mono D3.size)
  obtain ⟨w4, hw4⟩ : ∃ w4, World.drewN (w2.setCell ⟨w1.heap.size + 1, 10, none⟩ (uv (m32 (s.pc + 4)))) nq = w4 := ⟨_, rfl⟩
  rw [hw4] at F4 W4 D4
  have hw4' : World.drewN (w2.setCell ⟨w1.heap.size + 1, 10, none⟩ (Value.int .u32 (((p : Int) + 4) % 4294967296))) nq = w4 := by rw [← hw4, hp]; rfl
  have hfar : ((((p : Int) + 4) % 4294967296 + 4 * m32 i % 4294967296) % 4294967296) = m32 (m32 (s.pc + 4) + m32 (4 * m32 i)) := by rw [hp]; rfl
  generalize hfr : m32 (m32 (s.pc + 4) + m32 (4 * m32 i)) = far at *
  have HFR := Lib.hid hfr
  have HFA := Lib.hid hfar
  have HW4 := Lib.hid hw4'
  clear hw4 hw4' F2 W2 F3 W3 bd c10 e10 g10 x3 h1 h2 hfr hfar D2 D3
  rw [HW4.out, HFA.out]
  have x0 := F4.x.cell 0
  have h3 := run_ldC F4.c (cs_size s)
  have h5 := run_stC F4.r rfl (cs_size s) (cs_one s)
  have HR := Lib.hid (CoC.Blk.setAll F4.r (ds := cs s) rfl)
  have HS := Lib.hid (cs_size s)
  have HW := Lib.hid (Wrote.sets hBl (w.heap.size + 1) (by omega) (cs s).toList 0 W4)
  clear F4 W4 D4
  generalize hD : cs s = D at *
  have HE := Lib.hid hD
  clear hD
  go_wp2
  refine bodyPost_ret (v := .tuple #[.agg D, .int .i64 1]) ?_ rfl ⟨by rw [← HE.out], HW.out⟩
  exact results_cell_row2 rfl _ _ (w.heap.size + 1) 30 D (0, 0) _ _ rfl rfl HR.out Tryd.underlying30 rfl (by rw [infoC, HS.out])

set_option maxRecDepth 100000 in
set_option maxHeartbeats 2000000 in
theorem rs_m15 (w : World) (B : Nat) (ad : Option Addr) (cap : Nat) (bs : CoM.Bs) (hL : Lies w B ad cap bs) (s : St) (hs : s.Ok) (p n : Nat) (hp : s.pc = (p : Int)) (h4 : ((p : Int) % 4 != 0) = false) (a b : Nat) (i : Int) (hi : -32768 ≤ i ∧ i ≤ 32767) (ha : a < 8) (hb : b < 8) (s1 : St) (t : Int) (b1 : CoM.Bs) (hB0 : B < w.heap.size)
    (HM : Hid (∀ wx, Wrote w B ad cap bs wx → Calls Tryd.prog 32 #[.agg #[.int .i64 15, .int .i64 (a : Int), .int .i64 (b : Int), .int .i64 i], cv s, sl ad bs cap] wx fun e' w' => e' = .returned (.tuple #[.agg (cs s1), .int .i64 t]) ∧ Wrote wx B ad cap b1 w'))
    (HWd : Hid (∀ wx, Below w.heap.size w wx → Calls Tryd.prog 25 #[sl ad bs cap, uv (p : Int)] wx fun e' w' => e' = .returned (.tuple #[uv (n : Int), .bool true]) ∧ wx = w'))
    (HDc : Hid (∀ wx, Calls Tryd.prog 26 #[uv (n : Int)] wx fun e' w' => e' = .returned (.tuple #[.agg #[.int .i64 15, .int .i64 (a : Int), .int .i64 (b : Int), .int .i64 i], .int .i64 0]) ∧ Below wx.heap.size wx w')) :
    Calls Tryd.prog 13 #[cv s, sl ad bs cap] w fun e' w' => e' = .returned (.tuple #[cv s1, .int .i64 t]) ∧ Wrote w B ad cap b1 w' := by
  have hBl := CoY.Lies.lt hL
  have hcp := cs_pc s
  rw [hp] at hcp
  have B2 := ((Below.refl w.heap.size w).alloc (Nat.le_refl _) (.cells (cs s) 30)).alloc (by simp) (.cells zcs 30)
  have C1 := (Blk.new w (cs s) 30).below ((Below.refl _ _).alloc (Nat.le_refl _) (.cells zcs 30))
  have R1 := Blk.new (w.alloc (.cells (cs s) 30)) zcs 30
  rw [World.size_alloc] at R1
  have h0 := run_ldC C1 (cs_size s)
  go_enter Tryd.func13, Tryd.ntmps13
  go_wp2_with (first | (go_at_call 25; (with_reducible refine (HWd.out _ B2).mono ?_); rintro e' w0 ⟨rfl, rfl⟩) | (go_at_call 26; (with_reducible refine (HDc.out _).mono ?_); rintro e' w1 ⟨rfl, hb1⟩; refine Hid.out ?_))
  refine Lib.hid ?_
  have bb1 := hb1.trans (((Below.refl w1.heap.size w1).alloc (Nat.le_refl _) (.cells #[.int .i64 15, .int .i64 (a : Int), .int .i64 (b : Int), .int .i64 i] 61)).mono hb1.size)
  have bb2 := bb1.trans (((Below.refl (w1.alloc (.cells #[.int .i64 15, .int .i64 (a : Int), .int .i64 (b : Int), .int .i64 i] 61)).heap.size (w1.alloc (.cells #[.int .i64 15, .int .i64 (a : Int), .int .i64 (b : Int), .int .i64 i] 61))).alloc (Nat.le_refl _) (.cells zcs 30)).mono bb1.size)
  have h1 := run_ldC (C1.below bb1) (cs_size s)
  have E1 := Blk.new (w1.alloc (.cells #[.int .i64 15, .int .i64 (a : Int), .int .i64 (b : Int), .int .i64 i] 61)) zcs 30
  have X1 := (Blk.new w1 #[.int .i64 15, .int .i64 (a : Int), .int .i64 (b : Int), .int .i64 i] 61).below ((Below.refl _ _).alloc (Nat.le_refl _) (.cells zcs 30))
  rw [World.size_alloc] at E1
  have hnX : w.heap.size + 1 < w1.heap.size := by have := hb1.size; simp at this; omega
  have F1 : Four w w.heap.size w1.heap.size s 15 a b i zcs ((w1.alloc (.cells #[.int .i64 15, .int .i64 (a : Int), .int .i64 (b : Int), .int .i64 i] 61)).alloc (.cells zcs 30)) := ⟨C1.below bb2, R1.below bb2, X1, E1, hnX⟩
  have h2 := run_stC E1 rfl (cs_size s) (cs_one s)
  have F2 := F1.all (cs s) rfl
  have W2 := Wrote.sets hBl (w1.heap.size + 1) (by omega) (cs s).toList 0 (Wrote.of_below hL (B2.trans (bb2.mono B2.size)))
  obtain ⟨w2, hw2⟩ : ∃ w2, World.setCells ((w1.alloc (.cells #[.int .i64 15, .int .i64 (a : Int), .int .i64 (b : Int), .int .i64 i] 61)).alloc (.cells zcs 30)) (w1.heap.size + 1) 0 (cs s).toList = w2 := ⟨_, rfl⟩
  have D2 := below_all (w1.heap.size + 1) (by omega) (cs s).toList 0 (B2.trans (bb2.mono B2.size))
  rw [hw2] at h2 F2 W2 D2
  have c10 := (F2.c.cell 10).trans hcp
  have e10 := (F2.e.cell 10).trans hcp
  have g10 := F2.e.free 10
  have x3 := F2.x.cell 3
  clear hw2 F1 E1 X1 bb1 bb2 C1 R1 h0 hb1 B2 hL hcp
  go_wp2
  go_quiet ((go_at_call 27; exact quiet (imm_any i hi _)))
  have F3 := F2.set 10 (uv (m32 (s.pc + 4)))
  rw [cs_setP] at F3
  have W3 := W2.set hBl (w1.heap.size + 1) 10 (uv (m32 (s.pc + 4))) (by omega)
  have D3 := D2.setCell (p := ⟨w1.heap.size + 1, 10, none⟩) (by show w.heap.size ≤ w1.heap.size + 1; omega) (uv (m32 (s.pc + 4)))
  have bd := drew_below (w2.setCell ⟨w1.heap.size + 1, 10, none⟩ (uv (m32 (s.pc + 4)))).heap.size (w2.setCell ⟨w1.heap.size + 1, 10, none⟩ (uv (m32 (s.pc + 4)))) nq
  have F4 := F3.below bd
  have W4 := W3.below bd
  have D4 := D3.trans (bd.mono D3.size)
  obtain ⟨w4, hw4⟩ : ∃ w4, World.drewN (w2.setCell ⟨w1.heap.size + 1, 10, none⟩ (uv (m32 (s.pc + 4)))) nq = w4 := ⟨_, rfl⟩
  rw [hw4] at F4 W4 D4
  have hw4' : World.drewN (w2.setCell ⟨w1.heap.size + 1, 10, none⟩ (Value.int .u32 (((p : Int) + 4) % 4294967296))) nq = w4 := by rw [← hw4, hp]; rfl
  have hfar : ((((p : Int) + 4) % 4294967296 + 4 * m32 i % 4294967296) % 4294967296) = m32 (m32 (s.pc + 4) + m32 (4 * m32 i)) := by rw [hp]; rfl
  generalize hfr : m32 (m32 (s.pc + 4) + m32 (4 * m32 i)) = far at *
  have HFR := Lib.hid hfr
  have HFA := Lib.hid hfar
  have HW4 := Lib.hid hw4'
  clear hw4 hw4' F2 W2 F3 W3 bd c10 e10 g10 x3 h1 h2 hfr hfar D2 D3
  rw [HW4.out, HFA.out]
  have x0 := F4.x.cell 0
  have x1 := F4.x.cell 1
  have x2 := F4.x.cell 2
  have x3 := F4.x.cell 3
  have h3 := run_ldC F4.c (cs_size s)
  go_wp2_with (first | (go_at_call 32; (with_reducible refine (HM.out _ W4).mono ?_); rintro e' w5 ⟨rfl, hb5⟩; refine Hid.out ?_))
  refine Lib.hid ?_
  have W5 := W4.trans hb5
  have R5 : Blk w5 (w.heap.size + 1) zcs 30 := F4.r.kept hb5.kp (by omega)
  have hBl : b1 = [] ∨ B < w.heap.size := .inr hB0
  have h5 := run_stC R5 rfl (cs_size s1) (cs_one s1)
  have HR := Lib.hid (CoC.Blk.setAll R5 (ds := cs s1) rfl)
  have HS := Lib.hid (cs_size s1)
  have HW := Lib.hid (Wrote.sets hBl (w.heap.size + 1) (by omega) (cs s1).toList 0 W5)
  clear F4 W4 D4 R5 W5 hb5 x0 x1 x2 x3 h3
  generalize hD : cs s1 = D at *
  have HE := Lib.hid hD
  clear hD
  go_wp2
  refine bodyPost_ret (v := .tuple #[.agg D, .int .i64 t]) ?_ rfl ⟨by rw [← HE.out], HW.out⟩
  exact results_cell_row2 rfl _ _ (w.heap.size + 1) 30 D (0, 0) _ _ rfl rfl HR.out Tryd.underlying30 rfl (by rw [infoC, HS.out])

set_option maxRecDepth 100000 in
set_option maxHeartbeats 2000000 in
theorem rs_m16 (w : World) (B : Nat) (ad : Option Addr) (cap : Nat) (bs : CoM.Bs) (hL : Lies w B ad cap bs) (s : St) (hs : s.Ok) (p n : Nat) (hp : s.pc = (p : Int)) (h4 : ((p : Int) % 4 != 0) = false) (a b : Nat) (i : Int) (hi : -32768 ≤ i ∧ i ≤ 32767) (ha : a < 8) (hb : b < 8) (s1 : St) (t : Int) (b1 : CoM.Bs) (hB0 : B < w.heap.size)
    (HM : Hid (∀ wx, Wrote w B ad cap bs wx → Calls Tryd.prog 32 #[.agg #[.int .i64 16, .int .i64 (a : Int), .int .i64 (b : Int), .int .i64 i], cv s, sl ad bs cap] wx fun e' w' => e' = .returned (.tuple #[.agg (cs s1), .int .i64 t]) ∧ Wrote wx B ad cap b1 w'))
    (HWd : Hid (∀ wx, Below w.heap.size w wx → Calls Tryd.prog 25 #[sl ad bs cap, uv (p : Int)] wx fun e' w' => e' = .returned (.tuple #[uv (n : Int), .bool true]) ∧ wx = w'))
    (HDc : Hid (∀ wx, Calls Tryd.prog 26 #[uv (n : Int)] wx fun e' w' => e' = .returned (.tuple #[.agg #[.int .i64 16, .int .i64 (a : Int), .int .i64 (b : Int), .int .i64 i], .int .i64 0]) ∧ Below wx.heap.size wx w')) :
    Calls Tryd.prog 13 #[cv s, sl ad bs cap] w fun e' w' => e' = .returned (.tuple #[cv s1, .int .i64 t]) ∧ Wrote w B ad cap b1 w' := by
  have hBl := CoY.Lies.lt hL
  have hcp := cs_pc s
  rw [hp] at hcp
  have B2 := ((Below.refl w.heap.size w).alloc (Nat.le_refl _) (.cells (cs s) 30)).alloc (by simp) (.cells zcs 30)
  have C1 := (Blk.new w (cs s) 30).below ((Below.refl _ _).alloc (Nat.le_refl _) (.cells zcs 30))
  have R1 := Blk.new (w.alloc (.cells (cs s) 30)) zcs 30
  rw [World.size_alloc] at R1
  have h0 := run_ldC C1 (cs_size s)
  go_enter Tryd.func13, Tryd.ntmps13
  go_wp2_with (first | (go_at_call 25; (with_reducible refine (HWd.out _ B2).mono ?_); rintro e' w0 ⟨rfl, rfl⟩) | (go_at_call 26; (with_reducible refine (HDc.out _).mono ?_); rintro e' w1 ⟨rfl, hb1⟩; refine Hid.out ?_))
  refine Lib.hid ?_
  have bb1 := hb1.trans (((Below.refl w1.heap.size w1).alloc (Nat.le_refl _) (.cells #[.int .i64 16, .int .i64 (a : Int), .int .i64 (b : Int), .int .i64 i] 61)).mono hb1.size)
  have bb2 := bb1.trans (((Below.refl (w1.alloc (.cells #[.int .i64 16, .int .i64 (a : Int), .int .i64 (b : Int), .int .i64 i] 61)).heap.size (w1.alloc (.cells #[.int .i64 16, .int .i64 (a : Int), .int .i64 (b : Int), .int .i64 i] 61))).alloc (Nat.le_refl _) (.cells zcs 30)).mono bb1.size)
  have h1 := run_ldC (C1.below bb1) (cs_size s)
  have E1 := Blk.new (w1.alloc (.cells #[.int .i64 16, .int .i64 (a : Int), .int .i64 (b : Int), .int .i64 i] 61)) zcs 30
  have X1 := (Blk.new w1 #[.int .i64 16, .int .i64 (a : Int), .int .i64 (b : Int), .int .i64 i] 61).below ((Below.refl _ _).alloc (Nat.le_refl _) (.cells zcs 30))
  rw [World.size_alloc] at E1
  have hnX : w.heap.size + 1 < w1.heap.size := by have := hb1.size; simp at this; omega
  have F1 : Four w w.heap.size w1.heap.size s 16 a b i zcs ((w1.alloc (.cells #[.int .i64 16, .int .i64 (a : Int), .int .i64 (b : Int), .int .i64 i] 61)).alloc (.cells zcs 30)) := ⟨C1.below bb2, R1.below bb2, X1, E1, hnX⟩
  have h2 := run_stC E1 rfl (cs_size s) (cs_one s)
  have F2 := F1.all (cs s) rfl
  have W2 := Wrote.sets hBl (w1.heap.size + 1) (by omega) (cs s).toList 0 (Wrote.of_below hL (B2.trans (bb2.mono B2.size)))
  obtain ⟨w2, hw2⟩ : ∃ w2, World.setCells ((w1.alloc (.cells #[.int .i64 16, .int .i64 (a : Int), .int .i64 (b : Int), .int .i64 i] 61)).alloc (.cells zcs 30)) (w1.heap.size + 1) 0 (cs s).toList = w2 := ⟨_, rfl⟩
  have D2 := below_all (w1.heap.size + 1) (by omega) (cs s).toList 0 (B2.trans (bb2.mono B2.size))
  rw [hw2] at h2 F2 W2 D2
  have c10 := (F2.c.cell 10).trans hcp
  have e10 := (F2.e.cell 10).trans hcp
  have g10 := F2.e.free 10
  have x3 := F2.x.cell 3
  clear hw2 F1 E1 X1 bb1 bb2 C1 R1 h0 hb1 B2 hL hcp
  go_wp2
  go_quiet ((go_at_call 27; exact quiet (imm_any i hi _)))
  have F3 := F2.set 10 (uv (m32 (s.pc + 4)))
  rw [cs_setP] at F3
  have W3 := W2.set hBl (w1.heap.size + 1) 10 (uv (m32 (s.pc + 4))) (by omega)
  have D3 := D2.setCell (p := ⟨w1.heap.size + 1, 10, none⟩) (by show w.heap.size ≤ w1.heap.size + 1; omega) (uv (m32 (s.pc + 4)))
  have bd := drew_below (w2.setCell ⟨w1.heap.size + 1, 10, none⟩ (uv (m32 (s.pc + 4)))).heap.size (w2.setCell ⟨w1.heap.size + 1, 10, none⟩ (uv (m32 (s.pc + 4)))) nq
  have F4 := F3.below bd
  have W4 := W3.below bd
  have D4 := D3.trans (bd.mono D3.size)
  obtain ⟨w4, hw4⟩ : ∃ w4, World.drewN (w2.setCell ⟨w1.heap.size + 1, 10, none⟩ (uv (m32 (s.pc + 4)))) nq = w4 := ⟨_, rfl⟩
  rw [hw4] at F4 W4 D4
  have hw4' : World.drewN (w2.setCell ⟨w1.heap.size + 1, 10, none⟩ (Value.int .u32 (((p : Int) + 4) % 4294967296))) nq = w4 := by rw [← hw4, hp]; rfl
  have hfar : ((((p : Int) + 4) % 4294967296 + 4 * m32 i % 4294967296) % 4294967296) = m32 (m32 (s.pc + 4) + m32 (4 * m32 i)) := by rw [hp]; rfl
  generalize hfr : m32 (m32 (s.pc + 4) + m32 (4 * m32 i)) = far at *
  have HFR := Lib.hid hfr
  have HFA := Lib.hid hfar
  have HW4 := Lib.hid hw4'
  clear hw4 hw4' F2 W2 F3 W3 bd c10 e10 g10 x3 h1 h2 hfr hfar D2 D3
  rw [HW4.out, HFA.out]
  have x0 := F4.x.cell 0
  have x1 := F4.x.cell 1
  have x2 := F4.x.cell 2
  have x3 := F4.x.cell 3
  have h3 := run_ldC F4.c (cs_size s)
  go_wp2_with (first | (go_at_call 32; (with_reducible refine (HM.out _ W4).mono ?_); rintro e' w5 ⟨rfl, hb5⟩; refine Hid.out ?_))
  refine Lib.hid ?_
  have W5 := W4.trans hb5
  have R5 : Blk w5 (w.heap.size + 1) zcs 30 := F4.r.kept hb5.kp (by omega)
  have hBl : b1 = [] ∨ B < w.heap.size := .inr hB0
  have h5 := run_stC R5 rfl (cs_size s1) (cs_one s1)
  have HR := Lib.hid (CoC.Blk.setAll R5 (ds := cs s1) rfl)
  have HS := Lib.hid (cs_size s1)
  have HW := Lib.hid (Wrote.sets hBl (w.heap.size + 1) (by omega) (cs s1).toList 0 W5)
  clear F4 W4 D4 R5 W5 hb5 x0 x1 x2 x3 h3
  generalize hD : cs s1 = D at *
  have HE := Lib.hid hD
  clear hD
  go_wp2
  refine bodyPost_ret (v := .tuple #[.agg D, .int .i64 t]) ?_ rfl ⟨by rw [← HE.out], HW.out⟩
  exact results_cell_row2 rfl _ _ (w.heap.size + 1) 30 D (0, 0) _ _ rfl rfl HR.out Tryd.underlying30 rfl (by rw [infoC, HS.out])

set_option maxRecDepth 100000 in
set_option maxHeartbeats 2000000 in
theorem rs_m17 (w : World) (B : Nat) (ad : Option Addr) (cap : Nat) (bs : CoM.Bs) (hL : Lies w B ad cap bs) (s : St) (hs : s.Ok) (p n : Nat) (hp : s.pc = (p : Int)) (h4 : ((p : Int) % 4 != 0) = false) (a b : Nat) (i : Int) (hi : -32768 ≤ i ∧ i ≤ 32767) (ha : a < 8) (hb : b < 8) (s1 : St) (t : Int) (b1 : CoM.Bs) (hB0 : B < w.heap.size)
    (HM : Hid (∀ wx, Wrote w B ad cap bs wx → Calls Tryd.prog 32 #[.agg #[.int .i64 17, .int .i64 (a : Int), .int .i64 (b : Int), .int .i64 i], cv s, sl ad bs cap] wx fun e' w' => e' = .returned (.tuple #[.agg (cs s1), .int .i64 t]) ∧ Wrote wx B ad cap b1 w'))
    (HWd : Hid (∀ wx, Below w.heap.size w wx → Calls Tryd.prog 25 #[sl ad bs cap, uv (p : Int)] wx fun e' w' => e' = .returned (.tuple #[uv (n : Int), .bool true]) ∧ wx = w'))
    (HDc : Hid (∀ wx, Calls Tryd.prog 26 #[uv (n : Int)] wx fun e' w' => e' = .returned (.tuple #[.agg #[.int .i64 17, .int .i64 (a : Int), .int .i64 (b : Int), .int .i64 i], .int .i64 0]) ∧ Below wx.heap.size wx w')) :
    Calls Tryd.prog 13 #[cv s, sl ad bs cap] w fun e' w' => e' = .returned (.tuple #[cv s1, .int .i64 t]) ∧ Wrote w B ad cap b1 w' := by
  have hBl := CoY.Lies.lt hL
  have hcp := cs_pc s
  rw [hp] at hcp
  have B2 := ((Below.refl w.heap.size w).alloc (Nat.le_refl _) (.cells (cs s) 30)).alloc (by simp) (.cells zcs 30)
  have C1 := (Blk.new w (cs s) 30).below ((Below.refl _ _).alloc (Nat.le_refl _) (.cells zcs 30))
  have R1 := Blk.new (w.alloc (.cells (cs s) 30)) zcs 30
  rw [World.size_alloc] at R1
  have h0 := run_ldC C1 (cs_size s)
  go_enter Tryd.func13, Tryd.ntmps13
  go_wp2_with (first | (go_at_call 25; (with_reducible refine (HWd.out _ B2).mono ?_); rintro e' w0 ⟨rfl, rfl⟩) | (go_at_call 26; (with_reducible refine (HDc.out _).mono ?_); rintro e' w1 ⟨rfl, hb1⟩; refine Hid.out ?_))
  refine Lib.hid ?_
  have bb1 := hb1.trans (((Below.refl w1.heap.size w1).alloc (Nat.le_refl _) (.cells #[.int .i64 17, .int .i64 (a : Int), .int .i64 (b : Int), .int .i64 i] 61)).mono hb1.size)
  have bb2 := bb1.trans (((Below.refl (w1.alloc (.cells #[.int .i64 17, .int .i64 (a : Int), .int .i64 (b : Int), .int .i64 i] 61)).heap.size (w1.alloc (.cells #[.int .i64 17, .int .i64 (a : Int), .int .i64 (b : Int), .int .i64 i] 61))).alloc (Nat.le_refl _) (.cells zcs 30)).mono bb1.size)
  have h1 := run_ldC (C1.below bb1) (cs_size s)
  have E1 := Blk.new (w1.alloc (.cells #[.int .i64 17, .int .i64 (a : Int), .int .i64 (b : Int), .int .i64 i] 61)) zcs 30
  have X1 := (Blk.new w1 #[.int .i64 17, .int .i64 (a : Int), .int .i64 (b : Int), .int .i64 i] 61).below ((Below.refl _ _).alloc (Nat.le_refl _) (.cells zcs 30))
  rw [World.size_alloc] at E1
  have hnX : w.heap.size + 1 < w1.heap.size := by have := hb1.size; simp at this; omega
  have F1 : Four w w.heap.size w1.heap.size s 17 a b i zcs ((w1.alloc (.cells #[.int .i64 17, .int .i64 (a : Int), .int .i64 (b : Int), .int .i64 i] 61)).alloc (.cells zcs 30)) := ⟨C1.below bb2, R1.below bb2, X1, E1, hnX⟩
  have h2 := run_stC E1 rfl (cs_size s) (cs_one s)
  have F2 := F1.all (cs s) rfl
  have W2 := Wrote.sets hBl (w1.heap.size + 1) (by omega) (cs s).toList 0 (Wrote.of_below hL (B2.trans (bb2.mono B2.size)))
  obtain ⟨w2, hw2⟩ : ∃ w2, World.setCells ((w1.alloc (.cells #[.int .i64 17, .int .i64 (a : Int), .int .i64 (b : Int), .int .i64 i] 61)).alloc (.cells zcs 30)) (w1.heap.size + 1) 0 (cs s).toList = w2 := ⟨_, rfl⟩
  have D2 := below_all (w1.heap.size + 1) (by omega) (cs s).toList 0 (B2.trans (bb2.mono B2.size))
  rw [hw2] at h2 F2 W2 D2
  have c10 := (F2.c.cell 10).trans hcp
  have e10 := (F2.e.cell 10).trans hcp
  have g10 := F2.e.free 10
  have x3 := F2.x.cell 3
  clear hw2 F1 E1 X1 bb1 bb2 C1 R1 h0 hb1 B2 hL hcp
  go_wp2
  go_quiet ((go_at_call 27; exact quiet (imm_any i hi _)))
  have F3 := F2.set 10 (uv (m32 (s.pc + 4)))
  rw [cs_setP] at F3
  have W3 := W2.set hBl (w1.heap.size + 1) 10 (uv (m32 (s.pc + 4))) (by omega)
  have D3 := D2.setCell (p := ⟨w1.heap.size + 1, 10, none⟩) (by show w.heap.size ≤ w1.heap.size + 1; omega) (uv (m32 (s.pc + 4)))
  have bd := drew_below (w2.setCell ⟨w1.heap.size + 1, 10, none⟩ (uv (m32 (s.pc + 4)))).heap.size (w2.setCell ⟨w1.heap.size + 1, 10, none⟩ (uv (m32 (s.pc + 4)))) nq
  have F4 := F3.below bd
  have W4 := W3.below bd
  have D4 := D3.trans (bd.mono D3.size)
  obtain ⟨w4, hw4⟩ : ∃ w4, World.drewN (w2.setCell ⟨w1.heap.size + 1, 10, none⟩ (uv (m32 (s.pc + 4)))) nq = w4 := ⟨_, rfl⟩
  rw [hw4] at F4 W4 D4
  have hw4' : World.drewN (w2.setCell ⟨w1.heap.size + 1, 10, none⟩ (Value.int .u32 (((p : Int) + 4) % 4294967296))) nq = w4 := by rw [← hw4, hp]; rfl
  have hfar : ((((p : Int) + 4) % 4294967296 + 4 * m32 i % 4294967296) % 4294967296) = m32 (m32 (s.pc + 4) + m32 (4 * m32 i)) := by rw [hp]; rfl
  generalize hfr : m32 (m32 (s.pc + 4) + m32 (4 * m32 i)) = far at *
  have HFR := Lib.hid hfr
  have HFA := Lib.hid hfar
  have HW4 := Lib.hid hw4'
  clear hw4 hw4' F2 W2 F3 W3 bd c10 e10 g10 x3 h1 h2 hfr hfar D2 D3
  rw [HW4.out, HFA.out]
  have x0 := F4.x.cell 0
  have x1 := F4.x.cell 1
  have x2 := F4.x.cell 2
  have x3 := F4.x.cell 3
  have h3 := run_ldC F4.c (cs_size s)
  go_wp2_with (first | (go_at_call 32; (with_reducible refine (HM.out _ W4).mono ?_); rintro e' w5 ⟨rfl, hb5⟩; refine Hid.out ?_))
  refine Lib.hid ?_
  have W5 := W4.trans hb5
  have R5 : Blk w5 (w.heap.size + 1) zcs 30 := F4.r.kept hb5.kp (by omega)
  have hBl : b1 = [] ∨ B < w.heap.size := .inr hB0
  have h5 := run_stC R5 rfl (cs_size s1) (cs_one s1)
  have HR := Lib.hid (CoC.Blk.setAll R5 (ds := cs s1) rfl)
  have HS := Lib.hid (cs_size s1)
  have HW := Lib.hid (Wrote.sets hBl (w.heap.size + 1) (by omega) (cs s1).toList 0 W5)
  clear F4 W4 D4 R5 W5 hb5 x0 x1 x2 x3 h3
  generalize hD : cs s1 = D at *
  have HE := Lib.hid hD
  clear hD
  go_wp2
  refine bodyPost_ret (v := .tuple #[.agg D, .int .i64 t]) ?_ rfl ⟨by rw [← HE.out], HW.out⟩
  exact results_cell_row2 rfl _ _ (w.heap.size + 1) 30 D (0, 0) _ _ rfl rfl HR.out Tryd.underlying30 rfl (by rw [infoC, HS.out])

set_option maxRecDepth 100000 in
set_option maxHeartbeats 2000000 in
theorem rs_m18 (w : World) (B : Nat) (ad : Option Addr) (cap : Nat) (bs : CoM.Bs) (hL : Lies w B ad cap bs) (s : St) (hs : s.Ok) (p n : Nat) (hp : s.pc = (p : Int)) (h4 : ((p : Int) % 4 != 0) = false) (a b : Nat) (i : Int) (hi : -32768 ≤ i ∧ i ≤ 32767) (ha : a < 8) (hb : b < 8) (s1 : St) (t : Int) (b1 : CoM.Bs) (hB0 : B < w.heap.size)
    (HM : Hid (∀ wx, Wrote w B ad cap bs wx → Calls Tryd.prog 32 #[.agg #[.int .i64 18, .int .i64 (a : Int), .int .i64 (b : Int), .int .i64 i], cv s, sl ad bs cap] wx fun e' w' => e' = .returned (.tuple #[.agg (cs s1), .int .i64 t]) ∧ Wrote wx B ad cap b1 w'))
    (HWd : Hid (∀ wx, Below w.heap.size w wx → Calls Tryd.prog 25 #[sl ad bs cap, uv (p : Int)] wx fun e' w' => e' = .returned (.tuple #[uv (n : Int), .bool true]) ∧ wx = w'))
    (HDc : Hid (∀ wx, Calls Tryd.prog 26 #[uv (n : Int)] wx fun e' w' => e' = .returned (.tuple #[.agg #[.int .i64 18, .int .i64 (a : Int), .int .i64 (b : Int), .int .i64 i], .int .i64 0]) ∧ Below wx.heap.size wx w')) :
    Calls Tryd.prog 13 #[cv s, sl ad bs cap] w fun e' w' => e' = .returned (.tuple #[cv s1, .int .i64 t]) ∧ Wrote w B ad cap b1 w' := by
  have hBl := CoY.Lies.lt hL
  have hcp := cs_pc s
  rw [hp] at hcp
  have B2 := ((Below.refl w.heap.size w).alloc (Nat.le_refl _) (.cells (cs s) 30)).alloc (by simp) (.cells zcs 30)
  have C1 := (Blk.new w (cs s) 30).below ((Below.refl _ _).alloc (Nat.le_refl _) (.cells zcs 30))
  have R1 := Blk.new (w.alloc (.cells (cs s) 30)) zcs 30
  rw [World.size_alloc] at R1
  have h0 := run_ldC C1 (cs_size s)
  go_enter Tryd.func13, Tryd.ntmps13
  go_wp2_with (first | (go_at_call 25; (with_reducible refine (HWd.out _ B2).mono ?_); rintro e' w0 ⟨rfl, rfl⟩) | (go_at_call 26; (with_reducible refine (HDc.out _).mono ?_); rintro e' w1 ⟨rfl, hb1⟩; refine Hid.out ?_))
  refine Lib.hid ?_
  have bb1 := hb1.trans (((Below.refl w1.heap.size w1).alloc (Nat.le_refl _) (.cells #[.int .i64 18, .int .i64 (a : Int), .int .i64 (b : Int), .int .i64 i] 61)).mono hb1.size)
  have bb2 := bb1.trans (((Below.refl (w1.alloc (.cells #[.int .i64 18, .int .i64 (a : Int), .int .i64 (b : Int), .int .i64 i] 61)).heap.size (w1.alloc (.cells #[.int .i64 18, .int .i64 (a : Int), .int .i64 (b : Int), .int .i64 i] 61))).alloc (Nat.le_refl _) (.cells zcs 30)).mono bb1.size)
  have h1 := run_ldC (C1.below bb1) (cs_size s)
  have E1 := Blk.new (w1.alloc (.cells #[.int .i64 18, .int .i64 (a : Int), .int .i64 (b : Int), .int .i64 i] 61)) zcs 30
  have X1 := (Blk.new w1 #[.int .i64 18, .int .i64 (a : Int), .int .i64 (b : Int), .int .i64 i] 61).below ((Below.refl _ _).alloc (Nat.le_refl _) (.cells zcs 30))
  rw [World.size_alloc] at E1
  have hnX : w.heap.size + 1 < w1.heap.size := by have := hb1.size; simp at this; omega
  have F1 : Four w w.heap.size w1.heap.size s 18 a b i zcs ((w1.alloc (.cells #[.int .i64 18, .int .i64 (a : Int), .int .i64 (b : Int), .int .i64 i] 61)).alloc (.cells zcs 30)) := ⟨C1.below bb2, R1.below bb2, X1, E1, hnX⟩
  have h2 := run_stC E1 rfl (cs_size s) (cs_one s)
  have F2 := F1.all (cs s) rfl
  have W2 := Wrote.sets hBl (w1.heap.size + 1) (by omega) (cs s).toList 0 (Wrote.of_below hL (B2.trans (bb2.mono B2.size)))
  obtain ⟨w2, hw2⟩ : ∃ w2, World.setCells ((w1.alloc (.cells #[.int .i64 18, .int .i64 (a : Int), .int .i64 (b : Int), .int .i64 i] 61)).alloc (.cells zcs 30)) (w1.heap.size + 1) 0 (cs s).toList = w2 := ⟨_, rfl⟩
  have D2 := below_all (w1.heap.size + 1) (by omega) (cs s).toList 0 (B2.trans (bb2.mono B2.size))
  rw [hw2] at h2 F2 W2 D2
  have c10 := (F2.c.cell 10).trans hcp
  have e10 := (F2.e.cell 10).trans hcp
  have g10 := F2.e.free 10
  have x3 := F2.x.cell 3
  clear hw2 F1 E1 X1 bb1 bb2 C1 R1 h0 hb1 B2 hL hcp
  go_wp2
  go_quiet ((go_at_call 27; exact quiet (imm_any i hi _)))
  have F3 := F2.set 10 (uv (m32 (s.pc + 4)))
  rw [cs_setP] at F3
  have W3 := W2.set hBl (w1.heap.size + 1) 10 (uv (m32 (s.pc + 4))) (by omega)
  have D3 := D2.setCell (p := ⟨w1.heap.size + 1, 10, none⟩) (by show w.heap.size ≤ w1.heap.size + 1; omega) (uv (m32 (s.pc + 4)))
  have bd := drew_below (w2.setCell ⟨w1.heap.size + 1, 10, none⟩ (uv (m32 (s.pc + 4)))).heap.size (w2.setCell ⟨w1.heap.size + 1, 10, none⟩ (uv (m32 (s.pc + 4)))) nq
  have F4 := F3.below bd
  have W4 := W3.below bd
  have D4 := D3.trans (bd.mono D3.size)
  obtain ⟨w4, hw4⟩ : ∃ w4, World.drewN (w2.setCell ⟨w1.heap.size + 1, 10, none⟩ (uv (m32 (s.pc + 4)))) nq = w4 := ⟨_, rfl⟩
  rw [hw4] at F4 W4 D4
  have hw4' : World.drewN (w2.setCell ⟨w1.heap.size + 1, 10, none⟩ (Value.int .u32 (((p : Int) + 4) % 4294967296))) nq = w4 := by rw [← hw4, hp]; rfl
  have hfar : ((((p : Int) + 4) % 4294967296 + 4 * m32 i % 4294967296) % 4294967296) = m32 (m32 (s.pc + 4) + m32 (4 * m32 i)) := by rw [hp]; rfl
  generalize hfr : m32 (m32 (s.pc + 4) + m32 (4 * m32 i)) = far at *
  have HFR := Lib.hid hfr
  have HFA := Lib.hid hfar
  have HW4 := Lib.hid hw4'
  clear hw4 hw4' F2 W2 F3 W3 bd c10 e10 g10 x3 h1 h2 hfr hfar D2 D3
  rw [HW4.out, HFA.out]
  have x0 := F4.x.cell 0
  have x1 := F4.x.cell 1
  have x2 := F4.x.cell 2
  have x3 := F4.x.cell 3
  have h3 := run_ldC F4.c (cs_size s)
  go_wp2_with (first | (go_at_call 32; (with_reducible refine (HM.out _ W4).mono ?_); rintro e' w5 ⟨rfl, hb5⟩; refine Hid.out ?_))
  refine Lib.hid ?_
  have W5 := W4.trans hb5
  have R5 : Blk w5 (w.heap.size + 1) zcs 30 := F4.r.kept hb5.kp (by omega)
  have hBl : b1 = [] ∨ B < w.heap.size := .inr hB0
  have h5 := run_stC R5 rfl (cs_size s1) (cs_one s1)
  have HR := Lib.hid (CoC.Blk.setAll R5 (ds := cs s1) rfl)
  have HS := Lib.hid (cs_size s1)
  have HW := Lib.hid (Wrote.sets hBl (w.heap.size + 1) (by omega) (cs s1).toList 0 W5)
  clear F4 W4 D4 R5 W5 hb5 x0 x1 x2 x3 h3
  generalize hD : cs s1 = D at *
  have HE := Lib.hid hD
  clear hD
  go_wp2
  refine bodyPost_ret (v := .tuple #[.agg D, .int .i64 t]) ?_ rfl ⟨by rw [← HE.out], HW.out⟩
  exact results_cell_row2 rfl _ _ (w.heap.size + 1) 30 D (0, 0) _ _ rfl rfl HR.out Tryd.underlying30 rfl (by rw [infoC, HS.out])

set_option maxRecDepth 100000 in
set_option maxHeartbeats 2000000 in
theorem rs_19 (w : World) (B : Nat) (ad : Option Addr) (cap : Nat) (bs : CoM.Bs) (hL : Lies w B ad cap bs) (s : St) (hs : s.Ok) (p n : Nat) (hp : s.pc = (p : Int)) (h4 : ((p : Int) % 4 != 0) = false) (a b : Nat) (i : Int) (hi : -32768 ≤ i ∧ i ≤ 32767) (ha : a < 8) (hb : b < 8)
    (HWd : Hid (∀ wx, Below w.heap.size w wx → Calls Tryd.prog 25 #[sl ad bs cap, uv (p : Int)] wx fun e' w' => e' = .returned (.tuple #[uv (n : Int), .bool true]) ∧ wx = w'))
    (HDc : Hid (∀ wx, Calls Tryd.prog 26 #[uv (n : Int)] wx fun e' w' => e' = .returned (.tuple #[.agg #[.int .i64 19, .int .i64 (a : Int), .int .i64 (b : Int), .int .i64 i], .int .i64 0]) ∧ Below wx.heap.size wx w')) :
    Calls Tryd.prog 13 #[cv s, sl ad bs cap] w fun e' w' => e' = .returned (.tuple #[cv (setP s (m32 (m32 (s.pc + 4) + m32 (4 * m32 i)))), .int .i64 0]) ∧ Wrote w B ad cap bs w' := by
  have hBl := CoY.Lies.lt hL
  have hcp := cs_pc s
  rw [hp] at hcp
  have B2 := ((Below.refl w.heap.size w).alloc (Nat.le_refl _) (.cells (cs s) 30)).alloc (by simp) (.cells zcs 30)
  have C1 := (Blk.new w (cs s) 30).below ((Below.refl _ _).alloc (Nat.le_refl _) (.cells zcs 30))
  have R1 := Blk.new (w.alloc (.cells (cs s) 30)) zcs 30
  rw [World.size_alloc] at R1
  have h0 := run_ldC C1 (cs_size s)
  go_enter Tryd.func13, Tryd.ntmps13
  go_wp2_with (first | (go_at_call 25; (with_reducible refine (HWd.out _ B2).mono ?_); rintro e' w0 ⟨rfl, rfl⟩) | (go_at_call 26; (with_reducible refine (HDc.out _).mono ?_); rintro e' w1 ⟨rfl, hb1⟩; refine Hid.out ?_))
  refine Lib.hid ?_
  have bb1 := hb1.trans (((Below.refl w1.heap.size w1).alloc (Nat.le_refl _) (.cells #[.int .i64 19, .int .i64 (a : Int), .int .i64 (b : Int), .int .i64 i] 61)).mono hb1.size)
  have bb2 := bb1.trans (((Below.refl (w1.alloc (.cells #[.int .i64 19, .int .i64 (a : Int), .int .i64 (b : Int), .int .i64 i] 61)).heap.size (w1.alloc (.cells #[.int .i64 19, .int .i64 (a : Int), .int .i64 (b : Int), .int .i64 i] 61))).alloc (Nat.le_refl _) (.cells zcs 30)).mono bb1.size)
  have h1 := run_ldC (C1.below bb1) (cs_size s)
  have E1 := Blk.new (w1.alloc (.cells #[.int .i64 19, .int .i64 (a : Int), .int .i64 (b : Int), .int .i64 i] 61)) zcs 30
  have X1 := (Blk.new w1 #[.int .i64 19, .int .i64 (a : Int), .int .i64 (b : Int), .int .i64 i] 61).below ((Below.refl _ _).alloc (Nat.le_refl _) (.cells zcs 30))
  rw [World.size_alloc] at E1
  have hnX : w.heap.size + 1 < w1.heap.size := by have := hb1.size; simp at this; omega
  have F1 : Four w w.heap.size w1.heap.size s 19 a b i zcs ((w1.alloc (.cells #[.int .i64 19, .int .i64 (a : Int), .int .i64 (b : Int), .int .i64 i] 61)).alloc (.cells zcs 30)) := ⟨C1.below bb2, R1.below bb2, X1, E1, hnX⟩
  have h2 := run_stC E1 rfl (cs_size s) (cs_one s)
  have F2 := F1.all (cs s) rfl
  have W2 := Wrote.sets hBl (w1.heap.size + 1) (by omega) (cs s).toList 0 (Wrote.of_below hL (B2.trans (bb2.mono B2.size)))
  obtain ⟨w2, hw2⟩ : ∃ w2, World.setCells ((w1.alloc (.cells #[.int .i64 19, .int .i64 (a : Int), .int .i64 (b : Int), .int .i64 i] 61)).alloc (.cells zcs 30)) (w1.heap.size + 1) 0 (cs s).toList = w2 := ⟨_, rfl⟩
  have D2 := below_all (w1.heap.size + 1) (by omega) (cs s).toList 0 (B2.trans (bb2.mono B2.size))
  rw [hw2] at h2 F2 W2 D2
  have c10 := (F2.c.cell 10).trans hcp
  have e10 := (F2.e.cell 10).trans hcp
  have g10 := F2.e.free 10
  have x3 := F2.x.cell 3
  clear hw2 F1 E1 X1 bb1 bb2 C1 R1 h0 hb1 B2 hL hcp
  go_wp2
  go_quiet ((go_at_call 27; exact quiet (imm_any i hi _)))
  have F3 := F2.set 10 (uv (m32 (s.pc + 4)))
  rw [cs_setP] at F3
  have W3 := W2.set hBl (w1.heap.size + 1) 10 (uv (m32 (s.pc + 4))) (by omega)
  have D3 := D2.setCell (p := ⟨w1.heap.size + 1, 10, none⟩) (by show w.heap.size ≤ w1.heap.size + 1; omega) (uv (m32 (s.pc + 4)))
  have bd := drew_below (w2.setCell ⟨w1.heap.size + 1, 10, none⟩ (uv (m32 (s.pc + 4)))).heap.size (w2.setCell ⟨w1.heap.size + 1, 10, none⟩ (uv (m32 (s.pc + 4)))) nq
  have F4 := F3.below bd
  have W4 := W3.below bd
  have D4 := D3.trans (bd.mono D3.size)
  obtain ⟨w4, hw4⟩ : ∃ w4, World.drewN (w2.setCell ⟨w1.heap.size + 1, 10, none⟩ (uv (m32 (s.pc + 4)))) nq = w4 := ⟨_, rfl⟩
  rw [hw4] at F4 W4 D4
  have hw4' : World.drewN (w2.setCell ⟨w1.heap.size + 1, 10, none⟩ (Value.int .u32 (((p : Int) + 4) % 4294967296))) nq = w4 := by rw [← hw4, hp]; rfl
  have hfar : ((((p : Int) + 4) % 4294967296 + 4 * m32 i % 4294967296) % 4294967296) = m32 (m32 (s.pc + 4) + m32 (4 * m32 i)) := by rw [hp]; rfl
  generalize hfr : m32 (m32 (s.pc + 4) + m32 (4 * m32 i)) = far at *
  have HFR := Lib.hid hfr
  have HFA := Lib.hid hfar
  have HW4 := Lib.hid hw4'
  clear hw4 hw4' F2 W2 F3 W3 bd c10 e10 g10 x3 h1 h2 hfr hfar D2 D3
  rw [HW4.out, HFA.out]
  have x0 := F4.x.cell 0
  have e10 := F4.e.cell 10
  have g10 := F4.e.free 10
  rw [cs_pc] at e10
  have F5 := F4.set 10 (uv far)
  rw [cs_setP] at F5
  have W5 := W4.set hBl (w1.heap.size + 1) 10 (uv far) (by omega)
  clear F4 W4 D4
  have h3 := run_ldC F5.e (cs_size _)
  have h5 := run_stC F5.r rfl (cs_size (setP (setP s (m32 (s.pc + 4))) far)) (cs_one _)
  have HR := Lib.hid (CoC.Blk.setAll F5.r (ds := cs (setP (setP s (m32 (s.pc + 4))) far)) rfl)
  have HS := Lib.hid (cs_size (setP (setP s (m32 (s.pc + 4))) far))
  have HW := Lib.hid (Wrote.sets hBl (w.heap.size + 1) (by omega) (cs (setP (setP s (m32 (s.pc + 4))) far)).toList 0 W5)
  clear F5 W5
  generalize hD : cs (setP (setP s (m32 (s.pc + 4))) far) = D at *
  have HE := Lib.hid hD
  clear hD
  go_wp2
  refine bodyPost_ret (v := .tuple #[.agg D, .int .i64 0]) ?_ rfl ⟨by rw [← HE.out, HFR.out]; rfl, HW.out⟩
  exact results_cell_row2 rfl _ _ (w.heap.size + 1) 30 D (0, 0) _ _ rfl rfl HR.out Tryd.underlying30 rfl (by rw [infoC, HS.out])

set_option maxRecDepth 100000 in
set_option maxHeartbeats 2000000 in
theorem rs_20_yes (w : World) (B : Nat) (ad : Option Addr) (cap : Nat) (bs : CoM.Bs) (hL : Lies w B ad cap bs) (s : St) (hs : s.Ok) (p n : Nat) (hp : s.pc = (p : Int)) (h4 : ((p : Int) % 4 != 0) = false) (a b : Nat) (i : Int) (hi : -32768 ≤ i ∧ i ≤ 32767) (ha : a < 8) (hb : b < 8) (hz : (s.r a == 0) = true)
    (HWd : Hid (∀ wx, Below w.heap.size w wx → Calls Tryd.prog 25 #[sl ad bs cap, uv (p : Int)] wx fun e' w' => e' = .returned (.tuple #[uv (n : Int), .bool true]) ∧ wx = w'))
    (HDc : Hid (∀ wx, Calls Tryd.prog 26 #[uv (n : Int)] wx fun e' w' => e' = .returned (.tuple #[.agg #[.int .i64 20, .int .i64 (a : Int), .int .i64 (b : Int), .int .i64 i], .int .i64 0]) ∧ Below wx.heap.size wx w')) :
    Calls Tryd.prog 13 #[cv s, sl ad bs cap] w fun e' w' => e' = .returned (.tuple #[cv (setP s (m32 (m32 (s.pc + 4) + m32 (4 * m32 i)))), .int .i64 0]) ∧ Wrote w B ad cap bs w' := by
  have hca := cs_r s ha
  have hai : (a : Int) < 8 := by omega
  have hai0 : (0 : Int) ≤ (a : Int) := by omega
  have hz' : (s.r a != 0) = false := by simpa using hz
  have hBl := CoY.Lies.lt hL
  have hcp := cs_pc s
  rw [hp] at hcp
  have B2 := ((Below.refl w.heap.size w).alloc (Nat.le_refl _) (.cells (cs s) 30)).alloc (by simp) (.cells zcs 30)
  have C1 := (Blk.new w (cs s) 30).below ((Below.refl _ _).alloc (Nat.le_refl _) (.cells zcs 30))
  have R1 := Blk.new (w.alloc (.cells (cs s) 30)) zcs 30
  rw [World.size_alloc] at R1
  have h0 := run_ldC C1 (cs_size s)
  go_enter Tryd.func13, Tryd.ntmps13
  go_wp2_with (first | (go_at_call 25; (with_reducible refine (HWd.out _ B2).mono ?_); rintro e' w0 ⟨rfl, rfl⟩) | (go_at_call 26; (with_reducible refine (HDc.out _).mono ?_); rintro e' w1 ⟨rfl, hb1⟩; refine Hid.out ?_))
  refine Lib.hid ?_
  have bb1 := hb1.trans (((Below.refl w1.heap.size w1).alloc (Nat.le_refl _) (.cells #[.int .i64 20, .int .i64 (a : Int), .int .i64 (b : Int), .int .i64 i] 61)).mono hb1.size)
  have bb2 := bb1.trans (((Below.refl (w1.alloc (.cells #[.int .i64 20, .int .i64 (a : Int), .int .i64 (b : Int), .int .i64 i] 61)).heap.size (w1.alloc (.cells #[.int .i64 20, .int .i64 (a : Int), .int .i64 (b : Int), .int .i64 i] 61))).alloc (Nat.le_refl _) (.cells zcs 30)).mono bb1.size)
  have h1 := run_ldC (C1.below bb1) (cs_size s)
  have E1 := Blk.new (w1.alloc (.cells #[.int .i64 20, .int .i64 (a : Int), .int .i64 (b : Int), .int .i64 i] 61)) zcs 30
  have X1 := (Blk.new w1 #[.int .i64 20, .int .i64 (a : Int), .int .i64 (b : Int), .int .i64 i] 61).below ((Below.refl _ _).alloc (Nat.le_refl _) (.cells zcs 30))
  rw [World.size_alloc] at E1
  have hnX : w.heap.size + 1 < w1.heap.size := by have := hb1.size; simp at this; omega
  have F1 : Four w w.heap.size w1.heap.size s 20 a b i zcs ((w1.alloc (.cells #[.int .i64 20, .int .i64 (a : Int), .int .i64 (b : Int), .int .i64 i] 61)).alloc (.cells zcs 30)) := ⟨C1.below bb2, R1.below bb2, X1, E1, hnX⟩
  have h2 := run_stC E1 rfl (cs_size s) (cs_one s)
  have F2 := F1.all (cs s) rfl
  have W2 := Wrote.sets hBl (w1.heap.size + 1) (by omega) (cs s).toList 0 (Wrote.of_below hL (B2.trans (bb2.mono B2.size)))
  obtain ⟨w2, hw2⟩ : ∃ w2, World.setCells ((w1.alloc (.cells #[.int .i64 20, .int .i64 (a : Int), .int .i64 (b : Int), .int .i64 i] 61)).alloc (.cells zcs 30)) (w1.heap.size + 1) 0 (cs s).toList = w2 := ⟨_, rfl⟩
  have D2 := below_all (w1.heap.size + 1) (by omega) (cs s).toList 0 (B2.trans (bb2.mono B2.size))
  rw [hw2] at h2 F2 W2 D2
  have c10 := (F2.c.cell 10).trans hcp
  have e10 := (F2.e.cell 10).trans hcp
  have g10 := F2.e.free 10
  have x3 := F2.x.cell 3
  clear hw2 F1 E1 X1 bb1 bb2 C1 R1 h0 hb1 B2 hL hcp
  go_wp2
  go_quiet ((go_at_call 27; exact quiet (imm_any i hi _)))
  have F3 := F2.set 10 (uv (m32 (s.pc + 4)))
  rw [cs_setP] at F3
  have W3 := W2.set hBl (w1.heap.size + 1) 10 (uv (m32 (s.pc + 4))) (by omega)
  have D3 := D2.setCell (p := ⟨w1.heap.size + 1, 10, none⟩) (by show w.heap.size ≤ w1.heap.size + 1; omega) (uv (m32 (s.pc + 4)))
  have bd := drew_below (w2.setCell ⟨w1.heap.size + 1, 10, none⟩ (uv (m32 (s.pc + 4)))).heap.size (w2.setCell ⟨w1.heap.size + 1, 10, none⟩ (uv (m32 (s.pc + 4)))) nq
  have F4 := F3.below bd
  have W4 := W3.below bd
  have D4 := D3.trans (bd.mono D3.size)
  obtain ⟨w4, hw4⟩ : ∃ w4, World.drewN (w2.setCell ⟨w1.heap.size + 1, 10, none⟩ (uv (m32 (s.pc + 4)))) nq = w4 := ⟨_, rfl⟩
  rw [hw4] at F4 W4 D4
  have hw4' : World.drewN (w2.setCell ⟨w1.heap.size + 1, 10, none⟩ (Value.int .u32 (((p : Int) + 4) % 4294967296))) nq = w4 := by rw [← hw4, hp]; rfl
  have hfar : ((((p : Int) + 4) % 4294967296 + 4 * m32 i % 4294967296) % 4294967296) = m32 (m32 (s.pc + 4) + m32 (4 * m32 i)) := by rw [hp]; rfl
  generalize hfr : m32 (m32 (s.pc + 4) + m32 (4 * m32 i)) = far at *
  have HFR := Lib.hid hfr
  have HFA := Lib.hid hfar
  have HW4 := Lib.hid hw4'
  clear hw4 hw4' F2 W2 F3 W3 bd c10 e10 g10 x3 h1 h2 hfr hfar D2 D3
  rw [HW4.out, HFA.out]
  have x0 := F4.x.cell 0
  have x1 := F4.x.cell 1
  have z1 := (F4.c.cell a).trans hca
  have e10 := F4.e.cell 10
  have g10 := F4.e.free 10
  rw [cs_pc] at e10
  have F5 := F4.set 10 (uv far)
  rw [cs_setP] at F5
  have W5 := W4.set hBl (w1.heap.size + 1) 10 (uv far) (by omega)
  clear F4 W4 D4
  have h3 := run_ldC F5.e (cs_size _)
  have h5 := run_stC F5.r rfl (cs_size (setP (setP s (m32 (s.pc + 4))) far)) (cs_one _)
  have HR := Lib.hid (CoC.Blk.setAll F5.r (ds := cs (setP (setP s (m32 (s.pc + 4))) far)) rfl)
  have HS := Lib.hid (cs_size (setP (setP s (m32 (s.pc + 4))) far))
  have HW := Lib.hid (Wrote.sets hBl (w.heap.size + 1) (by omega) (cs (setP (setP s (m32 (s.pc + 4))) far)).toList 0 W5)
  clear F5 W5
  generalize hD : cs (setP (setP s (m32 (s.pc + 4))) far) = D at *
  have HE := Lib.hid hD
  clear hD
  go_wp2
  refine bodyPost_ret (v := .tuple #[.agg D, .int .i64 0]) ?_ rfl ⟨by rw [← HE.out, HFR.out]; rfl, HW.out⟩
  exact results_cell_row2 rfl _ _ (w.heap.size + 1) 30 D (0, 0) _ _ rfl rfl HR.out Tryd.underlying30 rfl (by rw [infoC, HS.out])

set_option maxRecDepth 100000 in
set_option maxHeartbeats 2000000 in
theorem rs_20_no (w : World) (B : Nat) (ad : Option Addr) (cap : Nat) (bs : CoM.Bs) (hL : Lies w B ad cap bs) (s : St) (hs : s.Ok) (p n : Nat) (hp : s.pc = (p : Int)) (h4 : ((p : Int) % 4 != 0) = false) (a b : Nat) (i : Int) (hi : -32768 ≤ i ∧ i ≤ 32767) (ha : a < 8) (hb : b < 8) (hz : (s.r a == 0) = false)
    (HWd : Hid (∀ wx, Below w.heap.size w wx → Calls Tryd.prog 25 #[sl ad bs cap, uv (p : Int)] wx fun e' w' => e' = .returned (.tuple #[uv (n : Int), .bool true]) ∧ wx = w'))
    (HDc : Hid (∀ wx, Calls Tryd.prog 26 #[uv (n : Int)] wx fun e' w' => e' = .returned (.tuple #[.agg #[.int .i64 20, .int .i64 (a : Int), .int .i64 (b : Int), .int .i64 i], .int .i64 0]) ∧ Below wx.heap.size wx w')) :
    Calls Tryd.prog 13 #[cv s, sl ad bs cap] w fun e' w' => e' = .returned (.tuple #[cv (setP s (m32 (s.pc + 4))), .int .i64 0]) ∧ Wrote w B ad cap bs w' := by
  have hca := cs_r s ha
  have hai : (a : Int) < 8 := by omega
  have hai0 : (0 : Int) ≤ (a : Int) := by omega
  have hz' : (s.r a != 0) = true := by simpa using hz
  have hBl := CoY.Lies.lt hL
  have hcp := cs_pc s
  rw [hp] at hcp
  have B2 := ((Below.refl w.heap.size w).alloc (Nat.le_refl _) (.cells (cs s) 30)).alloc (by simp) (.cells zcs 30)
  have C1 := (Blk.new w (cs s) 30).below ((Below.refl _ _).alloc (Nat.le_refl _) (.cells zcs 30))
  have R1 := Blk.new (w.alloc (.cells (cs s) 30)) zcs 30
  rw [World.size_alloc] at R1
  have h0 := run_ldC C1 (cs_size s)
  go_enter Tryd.func13, Tryd.ntmps13
  go_wp2_with (first | (go_at_call 25; (with_reducible refine (HWd.out _ B2).mono ?_); rintro e' w0 ⟨rfl, rfl⟩) | (go_at_call 26; (with_reducible refine (HDc.out _).mono ?_); rintro e' w1 ⟨rfl, hb1⟩; refine Hid.out ?_))
  refine Lib.hid ?_
  have bb1 := hb1.trans (((Below.refl w1.heap.size w1).alloc (Nat.le_refl _) (.cells #[.int .i64 20, .int .i64 (a : Int), .int .i64 (b : Int), .int .i64 i] 61)).mono hb1.size)
  have bb2 := bb1.trans (((Below.refl (w1.alloc (.cells #[.int .i64 20, .int .i64 (a : Int), .int .i64 (b : Int), .int .i64 i] 61)).heap.size (w1.alloc (.cells #[.int .i64 20, .int .i64 (a : Int), .int .i64 (b : Int), .int .i64 i] 61))).alloc (Nat.le_refl _) (.cells zcs 30)).mono bb1.size)
  have h1 := run_ldC (C1.below bb1) (cs_size s)
  have E1 := Blk.new (w1.alloc (.cells #[.int .i64 20, .int .i64 (a : Int), .int .i64 (b : Int), .int .i64 i] 61)) zcs 30
  have X1 := (Blk.new w1 #[.int .i64 20, .int .i64 (a : Int), .int .i64 (b : Int), .int .i64 i] 61).below ((Below.refl _ _).alloc (Nat.le_refl _) (.cells zcs 30))
  rw [World.size_alloc] at E1
  have hnX : w.heap.size + 1 < w1.heap.size := by have := hb1.size; simp at this; omega
  have F1 : Four w w.heap.size w1.heap.size s 20 a b i zcs ((w1.alloc (.cells #[.int .i64 20, .int .i64 (a : Int), .int .i64 (b : Int), .int .i64 i] 61)).alloc (.cells zcs 30)) := ⟨C1.below bb2, R1.below bb2, X1, E1, hnX⟩
  have h2 := run_stC E1 rfl (cs_size s) (cs_one s)
  have F2 := F1.all (cs s) rfl
  have W2 := Wrote.sets hBl (w1.heap.size + 1) (by omega) (cs s).toList 0 (Wrote.of_below hL (B2.trans (bb2.mono B2.size)))
  obtain ⟨w2, hw2⟩ : ∃ w2, World.setCells ((w1.alloc (.cells #[.int .i64 20, .int .i64 (a : Int), .int .i64 (b : Int), .int .i64 i] 61)).alloc (.cells zcs 30)) (w1.heap.size + 1) 0 (cs s).toList = w2 := ⟨_, rfl⟩
  have D2 := below_all (w1.heap.size + 1) (by omega) (cs s).toList 0 (B2.trans (bb2.mono B2.size))
  rw [hw2] at h2 F2 W2 D2
  have c10 := (F2.c.cell 10).trans hcp
  have e10 := (F2.e.cell 10).trans hcp
  have g10 := F2.e.free 10
  have x3 := F2.x.cell 3
  clear hw2 F1 E1 X1 bb1 bb2 C1 R1 h0 hb1 B2 hL hcp
  go_wp2
  go_quiet ((go_at_call 27; exact quiet (imm_any i hi _)))
  have F3 := F2.set 10 (uv (m32 (s.pc + 4)))
  rw [cs_setP] at F3
  have W3 := W2.set hBl (w1.heap.size + 1) 10 (uv (m32 (s.pc + 4))) (by omega)
  have D3 := D2.setCell (p := ⟨w1.heap.size + 1, 10, none⟩) (by show w.heap.size ≤ w1.heap.size + 1; omega) (uv (m32 (s.pc + 4)))
  have bd := drew_below (w2.setCell ⟨w1.heap.size + 1, 10, none⟩ (uv (m32 (s.pc + 4)))).heap.size (w2.setCell ⟨w1.heap.size + 1, 10, none⟩ (uv (m32 (s.pc + 4)))) nq
  have F4 := F3.below bd
  have W4 := W3.below bd
  have D4 := D3.trans (bd.mono D3.size)
  obtain ⟨w4, hw4⟩ : ∃ w4, World.drewN (w2.setCell ⟨w1.heap.size + 1, 10, none⟩ (uv (m32 (s.pc + 4)))) nq = w4 := ⟨_, rfl⟩
  rw [hw4] at F4 W4 D4
  have hw4' : World.drewN (w2.setCell ⟨w1.heap.size + 1, 10, none⟩ (Value.int .u32 (((p : Int) + 4) % 4294967296))) nq = w4 := by rw [← hw4, hp]; rfl
  have hfar : ((((p : Int) + 4) % 4294967296 + 4 * m32 i % 4294967296) % 4294967296) = m32 (m32 (s.pc + 4) + m32 (4 * m32 i)) := by rw [hp]; rfl
  generalize hfr : m32 (m32 (s.pc + 4) + m32 (4 * m32 i)) = far at *
  have HFR := Lib.hid hfr
  have HFA := Lib.hid hfar
  have HW4 := Lib.hid hw4'
  clear hw4 hw4' F2 W2 F3 W3 bd c10 e10 g10 x3 h1 h2 hfr hfar D2 D3
  rw [HW4.out, HFA.out]
  have x0 := F4.x.cell 0
  have x1 := F4.x.cell 1
  have z1 := (F4.c.cell a).trans hca
  have h3 := run_ldC F4.e (cs_size _)
  have h5 := run_stC F4.r rfl (cs_size (setP s (m32 (s.pc + 4)))) (cs_one _)
  have HR := Lib.hid (CoC.Blk.setAll F4.r (ds := cs (setP s (m32 (s.pc + 4)))) rfl)
  have HS := Lib.hid (cs_size (setP s (m32 (s.pc + 4))))
  have HW := Lib.hid (Wrote.sets hBl (w.heap.size + 1) (by omega) (cs (setP s (m32 (s.pc + 4)))).toList 0 W4)
  clear F4 W4
  generalize hD : cs (setP s (m32 (s.pc + 4))) = D at *
  have HE := Lib.hid hD
  clear hD
  go_wp2
  refine bodyPost_ret (v := .tuple #[.agg D, .int .i64 0]) ?_ rfl ⟨by rw [← HE.out], HW.out⟩
  exact results_cell_row2 rfl _ _ (w.heap.size + 1) 30 D (0, 0) _ _ rfl rfl HR.out Tryd.underlying30 rfl (by rw [infoC, HS.out])

set_option maxRecDepth 100000 in
set_option maxHeartbeats 2000000 in
theorem rs_21_yes (w : World) (B : Nat) (ad : Option Addr) (cap : Nat) (bs : CoM.Bs) (hL : Lies w B ad cap bs) (s : St) (hs : s.Ok) (p n : Nat) (hp : s.pc = (p : Int)) (h4 : ((p : Int) % 4 != 0) = false) (a b : Nat) (i : Int) (hi : -32768 ≤ i ∧ i ≤ 32767) (ha : a < 8) (hb : b < 8) (hz : (s.r a == 0) = false)
    (HWd : Hid (∀ wx, Below w.heap.size w wx → Calls Tryd.prog 25 #[sl ad bs cap, uv (p : Int)] wx fun e' w' => e' = .returned (.tuple #[uv (n : Int), .bool true]) ∧ wx = w'))
    (HDc : Hid (∀ wx, Calls Tryd.prog 26 #[uv (n : Int)] wx fun e' w' => e' = .returned (.tuple #[.agg #[.int .i64 21, .int .i64 (a : Int), .int .i64 (b : Int), .int .i64 i], .int .i64 0]) ∧ Below wx.heap.size wx w')) :
    Calls Tryd.prog 13 #[cv s, sl ad bs cap] w fun e' w' => e' = .returned (.tuple #[cv (setP s (m32 (m32 (s.pc + 4) + m32 (4 * m32 i)))), .int .i64 0]) ∧ Wrote w B ad cap bs w' := by
  have hca := cs_r s ha
  have hai : (a : Int) < 8 := by omega
  have hai0 : (0 : Int) ≤ (a : Int) := by omega
  have hz' : (s.r a != 0) = true := by simpa using hz
  have hBl := CoY.Lies.lt hL
  have hcp := cs_pc s
  rw [hp] at hcp
  have B2 := ((Below.refl w.heap.size w).alloc (Nat.le_refl _) (.cells (cs s) 30)).alloc (by simp) (.cells zcs 30)
  have C1 := (Blk.new w (cs s) 30).below ((Below.refl _ _).alloc (Nat.le_refl _) (.cells zcs 30))
  have R1 := Blk.new (w.alloc (.cells (cs s) 30)) zcs 30
  rw [World.size_alloc] at R1
  have h0 := run_ldC C1 (cs_size s)
  go_enter Tryd.func13, Tryd.ntmps13
  go_wp2_with (first | (go_at_call 25; (with_reducible refine (HWd.out _ B2).mono ?_); rintro e' w0 ⟨rfl, rfl⟩) | (go_at_call 26; (with_reducible refine (HDc.out _).mono ?_); rintro e' w1 ⟨rfl, hb1⟩; refine Hid.out ?_))
  refine Lib.hid ?_
  have bb1 := hb1.trans (((Below.refl w1.heap.size w1).alloc (Nat.le_refl _) (.cells #[.int .i64 21, .int .i64 (a : Int), .int .i64 (b : Int), .int .i64 i] 61)).mono hb1.size)
  have bb2 := bb1.trans (((Below.refl (w1.alloc (.cells #[.int .i64 21, .int .i64 (a : Int), .int .i64 (b : Int), .int .i64 i] 61)).heap.size (w1.alloc (.cells #[.int .i64 21, .int .i64 (a : Int), .int .i64 (b : Int), .int .i64 i] 61))).alloc (Nat.le_refl _) (.cells zcs 30)).mono bb1.size)
  have h1 := run_ldC (C1.below bb1) (cs_size s)
  have E1 := Blk.new (w1.alloc (.cells #[.int .i64 21, .int .i64 (a : Int), .int .i64 (b : Int), .int .i64 i] 61)) zcs 30
  have X1 := (Blk.new w1 #[.int .i64 21, .int .i64 (a : Int), .int .i64 (b : Int), .int .i64 i] 61).below ((Below.refl _ _).alloc (Nat.le_refl _) (.cells zcs 30))
  rw [World.size_alloc] at E1
  have hnX : w.heap.size + 1 < w1.heap.size := by have := hb1.size; simp at this; omega
  have F1 : Four w w.heap.size w1.heap.size s 21 a b i zcs ((w1.alloc (.cells #[.int .i64 21, .int .i64 (a : Int), .int .i64 (b : Int), .int .i64 i] 61)).alloc (.cells zcs 30)) := ⟨C1.below bb2, R1.below bb2, X1, E1, hnX⟩
  have h2 := run_stC E1 rfl (cs_size s) (cs_one s)
  have F2 := F1.all (cs s) rfl
  have W2 := Wrote.sets hBl (w1.heap.size + 1) (by omega) (cs s).toList 0 (Wrote.of_below hL (B2.trans (bb2.mono B2.size)))
  obtain ⟨w2, hw2⟩ : ∃ w2, World.setCells ((w1.alloc (.cells #[.int .i64 21, .int .i64 (a : Int), .int .i64 (b : Int), .int .i64 i] 61)).alloc (.cells zcs 30)) (w1.heap.size + 1) 0 (cs s).toList = w2 := ⟨_, rfl⟩
  have D2 := below_all (w1.heap.size + 1) (by omega) (cs s).toList 0 (B2.trans (bb2.mono B2.size))
  rw [hw2] at h2 F2 W2 D2
  have c10 := (F2.c.cell 10).trans hcp
  have e10 := (F2.e.cell 10).trans hcp
  have g10 := F2.e.free 10
  have x3 := F2.x.cell 3
  clear hw2 F1 E1 X1 bb1 bb2 C1 R1 h0 hb1 B2 hL hcp
  go_wp2
  go_quiet ((go_at_call 27; exact quiet (imm_any i hi _)))
  have F3 := F2.set 10 (uv (m32 (s.pc + 4)))
  rw [cs_setP] at F3
  have W3 := W2.set hBl (w1.heap.size + 1) 10 (uv (m32 (s.pc + 4))) (by omega)
  have D3 := D2.setCell (p := ⟨w1.heap.size + 1, 10, none⟩) (by show w.heap.size ≤ w1.heap.size + 1; omega) (uv (m32 (s.pc + 4)))
  have bd := drew_below (w2.setCell ⟨w1.heap.size + 1, 10, none⟩ (uv (m32 (s.pc + 4)))).heap.size (w2.setCell ⟨w1.heap.size + 1, 10, none⟩ (uv (m32 (s.pc + 4)))) nq
  have F4 := F3.below bd
  have W4 := W3.below bd
  have D4 := D3.trans (bd.mono D3.size)
  obtain ⟨w4, hw4⟩ : ∃ w4, World.drewN (w2.setCell ⟨w1.heap.size + 1, 10, none⟩ (uv (m32 (s.pc + 4)))) nq = w4 := ⟨_, rfl⟩
  rw [hw4] at F4 W4 D4
  have hw4' : World.drewN (w2.setCell ⟨w1.heap.size + 1, 10, none⟩ (Value.int .u32 (((p : Int) + 4) % 4294967296))) nq = w4 := by rw [← hw4, hp]; rfl
  have hfar : ((((p : Int) + 4) % 4294967296 + 4 * m32 i % 4294967296) % 4294967296) = m32 (m32 (s.pc + 4) + m32 (4 * m32 i)) := by rw [hp]; rfl
  generalize hfr : m32 (m32 (s.pc + 4) + m32 (4 * m32 i)) = far at *
  have HFR := Lib.hid hfr
  have HFA := Lib.hid hfar
  have HW4 := Lib.hid hw4'
  clear hw4 hw4' F2 W2 F3 W3 bd c10 e10 g10 x3 h1 h2 hfr hfar D2 D3
  rw [HW4.out, HFA.out]
  have x0 := F4.x.cell 0
  have x1 := F4.x.cell 1
  have z1 := (F4.c.cell a).trans hca
  have e10 := F4.e.cell 10
  have g10 := F4.e.free 10
  rw [cs_pc] at e10
  have F5 := F4.set 10 (uv far)
  rw [cs_setP] at F5
  have W5 := W4.set hBl (w1.heap.size + 1) 10 (uv far) (by omega)
  clear F4 W4 D4
  have h3 := run_ldC F5.e (cs_size _)
  have h5 := run_stC F5.r rfl (cs_size (setP (setP s (m32 (s.pc + 4))) far)) (cs_one _)
  have HR := Lib.hid (CoC.Blk.setAll F5.r (ds := cs (setP (setP s (m32 (s.pc + 4))) far)) rfl)
  have HS := Lib.hid (cs_size (setP (setP s (m32 (s.pc + 4))) far))
  have HW := Lib.hid (Wrote.sets hBl (w.heap.size + 1) (by omega) (cs (setP (setP s (m32 (s.pc + 4))) far)).toList 0 W5)
  clear F5 W5
  generalize hD : cs (setP (setP s (m32 (s.pc + 4))) far) = D at *
  have HE := Lib.hid hD
  clear hD
  go_wp2
  refine bodyPost_ret (v := .tuple #[.agg D, .int .i64 0]) ?_ rfl ⟨by rw [← HE.out, HFR.out]; rfl, HW.out⟩
  exact results_cell_row2 rfl _ _ (w.heap.size + 1) 30 D (0, 0) _ _ rfl rfl HR.out Tryd.underlying30 rfl (by rw [infoC, HS.out])

set_option maxRecDepth 100000 in
set_option maxHeartbeats 2000000 in
theorem rs_21_no (w : World) (B : Nat) (ad : Option Addr) (cap : Nat) (bs : CoM.Bs) (hL : Lies w B ad cap bs) (s : St) (hs : s.Ok) (p n : Nat) (hp : s.pc = (p : Int)) (h4 : ((p : Int) % 4 != 0) = false) (a b : Nat) (i : Int) (hi : -32768 ≤ i ∧ i ≤ 32767) (ha : a < 8) (hb : b < 8) (hz : (s.r a == 0) = true)
    (HWd : Hid (∀ wx, Below w.heap.size w wx → Calls Tryd.prog 25 #[sl ad bs cap, uv (p : Int)] wx fun e' w' => e' = .returned (.tuple #[uv (n : Int), .bool true]) ∧ wx = w'))
    (HDc : Hid (∀ wx, Calls Tryd.prog 26 #[uv (n : Int)] wx fun e' w' => e' = .returned (.tuple #[.agg #[.int .i64 21, .int .i64 (a : Int), .int .i64 (b : Int), .int .i64 i], .int .i64 0]) ∧ Below wx.heap.size wx w')) :
    Calls Tryd.prog 13 #[cv s, sl ad bs cap] w fun e' w' => e' = .returned (.tuple #[cv (setP s (m32 (s.pc + 4))), .int .i64 0]) ∧ Wrote w B ad cap bs w' := by
  have hca := cs_r s ha
  have hai : (a : Int) < 8 := by omega
  have hai0 : (0 : Int) ≤ (a : Int) := by omega
  have hz' : (s.r a != 0) = false := by simpa using hz
  have hBl := CoY.Lies.lt hL
  have hcp := cs_pc s
  rw [hp] at hcp
  have B2 := ((Below.refl w.heap.size w).alloc (Nat.le_refl _) (.cells (cs s) 30)).alloc (by simp) (.cells zcs 30)
  have C1 := (Blk.new w (cs s) 30).below ((Below.refl _ _).alloc (Nat.le_refl _) (.cells zcs 30))
  have R1 := Blk.new (w.alloc (.cells (cs s) 30)) zcs 30
  rw [World.size_alloc] at R1
  have h0 := run_ldC C1 (cs_size s)
  go_enter Tryd.func13, Tryd.ntmps13
  go_wp2_with (first | (go_at_call 25; (with_reducible refine (HWd.out _ B2).mono ?_); rintro e' w0 ⟨rfl, rfl⟩) | (go_at_call 26; (with_reducible refine (HDc.out _).mono ?_); rintro e' w1 ⟨rfl, hb1⟩; refine Hid.out ?_))
  refine Lib.hid ?_
  have bb1 := hb1.trans (((Below.refl w1.heap.size w1).alloc (Nat.le_refl _) (.cells #[.int .i64 21, .int .i64 (a : Int), .int .i64 (b : Int), .int .i64 i] 61)).mono hb1.size)
  have bb2 := bb1.trans (((Below.refl (w1.alloc (.cells #[.int .i64 21, .int .i64 (a : Int), .int .i64 (b : Int), .int .i64 i] 61)).heap.size (w1.alloc (.cells #[.int .i64 21, .int .i64 (a : Int), .int .i64 (b : Int), .int .i64 i] 61))).alloc (Nat.le_refl _) (.cells zcs 30)).mono bb1.size)
  have h1 := run_ldC (C1.below bb1) (cs_size s)
  have E1 := Blk.new (w1.alloc (.cells #[.int .i64 21, .int .i64 (a : Int), .int .i64 (b : Int), .int .i64 i] 61)) zcs 30
  have X1 := (Blk.new w1 #[.int .i64 21, .int .i64 (a : Int), .int .i64 (b : Int), .int .i64 i] 61).below ((Below.refl _ _).alloc (Nat.le_refl _) (.cells zcs 30))
  rw [World.size_alloc] at E1
  have hnX : w.heap.size + 1 < w1.heap.size := by have := hb1.size; simp at this; omega
  have F1 : Four w w.heap.size w1.heap.size s 21 a b i zcs ((w1.alloc (.cells #[.int .i64 21, .int .i64 (a : Int), .int .i64 (b : Int), .int .i64 i] 61)).alloc (.cells zcs 30)) := ⟨C1.below bb2, R1.below bb2, X1, E1, hnX⟩
  have h2 := run_stC E1 rfl (cs_size s) (cs_one s)
  have F2 := F1.all (cs s) rfl
  have W2 := Wrote.sets hBl (w1.heap.size + 1) (by omega) (cs s).toList 0 (Wrote.of_below hL (B2.trans (bb2.mono B2.size)))
  obtain ⟨w2, hw2⟩ : ∃ w2, World.setCells ((w1.alloc (.cells #[.int .i64 21, .int .i64 (a : Int), .int .i64 (b : Int), .int .i64 i] 61)).alloc (.cells zcs 30)) (w1.heap.size + 1) 0 (cs s).toList = w2 := ⟨_, rfl⟩
  have D2 := below_all (w1.heap.size + 1) (by omega) (cs s).toList 0 (B2.trans (bb2.mono B2.size))
  rw [hw2] at h2 F2 W2 D2
  have c10 := (F2.c.cell 10).trans hcp
  have e10 := (F2.e.cell 10).trans hcp
  have g10 := F2.e.free 10
  have x3 := F2.x.cell 3
  clear hw2 F1 E1 X1 bb1 bb2 C1 R1 h0 hb1 B2 hL hcp
  go_wp2
  go_quiet ((go_at_call 27; exact quiet (imm_any i hi _)))
  have F3 := F2.set 10 (uv (m32 (s.pc + 4)))
  rw [cs_setP] at F3
  have W3 := W2.set hBl (w1.heap.size + 1) 10 (uv (m32 (s.pc + 4))) (by omega)
  have D3 := D2.setCell (p := ⟨w1.heap.size + 1, 10, none⟩) (by show w.heap.size ≤ w1.heap.size + 1; omega) (uv (m32 (s.pc + 4)))
  have bd := drew_below (w2.setCell ⟨w1.heap.size + 1, 10, none⟩ (uv (m32 (s.pc + 4)))).heap.size (w2.setCell ⟨w1.heap.size + 1, 10, none⟩ (uv (m32 (s.pc + 4)))) nq
  have F4 := F3.below bd
  have W4 := W3.below bd
  have D4 := D3.trans (bd.mono D3.size)
  obtain ⟨w4, hw4⟩ : ∃ w4, World.drewN (w2.setCell ⟨w1.heap.size + 1, 10, none⟩ (uv (m32 (s.pc + 4)))) nq = w4 := ⟨_, rfl⟩
  rw [hw4] at F4 W4 D4
  have hw4' : World.drewN (w2.setCell ⟨w1.heap.size + 1, 10, none⟩ (Value.int .u32 (((p : Int) + 4) % 4294967296))) nq = w4 := by rw [← hw4, hp]; rfl
  have hfar : ((((p : Int) + 4) % 4294967296 + 4 * m32 i % 4294967296) % 4294967296) = m32 (m32 (s.pc + 4) + m32 (4 * m32 i)) := by rw [hp]; rfl
  generalize hfr : m32 (m32 (s.pc + 4) + m32 (4 * m32 i)) = far at *
  have HFR := Lib.hid hfr
  have HFA := Lib.hid hfar
  have HW4 := Lib.hid hw4'
  clear hw4 hw4' F2 W2 F3 W3 bd c10 e10 g10 x3 h1 h2 hfr hfar D2 D3
  rw [HW4.out, HFA.out]
  have x0 := F4.x.cell 0
  have x1 := F4.x.cell 1
  have z1 := (F4.c.cell a).trans hca
  have h3 := run_ldC F4.e (cs_size _)
  have h5 := run_stC F4.r rfl (cs_size (setP s (m32 (s.pc + 4)))) (cs_one _)
  have HR := Lib.hid (CoC.Blk.setAll F4.r (ds := cs (setP s (m32 (s.pc + 4)))) rfl)
  have HS := Lib.hid (cs_size (setP s (m32 (s.pc + 4))))
  have HW := Lib.hid (Wrote.sets hBl (w.heap.size + 1) (by omega) (cs (setP s (m32 (s.pc + 4)))).toList 0 W4)
  clear F4 W4
  generalize hD : cs (setP s (m32 (s.pc + 4))) = D at *
  have HE := Lib.hid hD
  clear hD
  go_wp2
  refine bodyPost_ret (v := .tuple #[.agg D, .int .i64 0]) ?_ rfl ⟨by rw [← HE.out], HW.out⟩
  exact results_cell_row2 rfl _ _ (w.heap.size + 1) 30 D (0, 0) _ _ rfl rfl HR.out Tryd.underlying30 rfl (by rw [infoC, HS.out])

set_option maxRecDepth 100000 in
set_option maxHeartbeats 2000000 in
theorem rs_23 (w : World) (B : Nat) (ad : Option Addr) (cap : Nat) (bs : CoM.Bs) (hL : Lies w B ad cap bs) (s : St) (hs : s.Ok) (p n : Nat) (hp : s.pc = (p : Int)) (h4 : ((p : Int) % 4 != 0) = false) (a b : Nat) (i : Int) (hi : -32768 ≤ i ∧ i ≤ 32767) (ha : a < 8) (hb : b < 8)
    (HWd : Hid (∀ wx, Below w.heap.size w wx → Calls Tryd.prog 25 #[sl ad bs cap, uv (p : Int)] wx fun e' w' => e' = .returned (.tuple #[uv (n : Int), .bool true]) ∧ wx = w'))
    (HDc : Hid (∀ wx, Calls Tryd.prog 26 #[uv (n : Int)] wx fun e' w' => e' = .returned (.tuple #[.agg #[.int .i64 23, .int .i64 (a : Int), .int .i64 (b : Int), .int .i64 i], .int .i64 0]) ∧ Below wx.heap.size wx w')) :
    Calls Tryd.prog 13 #[cv s, sl ad bs cap] w fun e' w' => e' = .returned (.tuple #[cv (setP s (s.r a)), .int .i64 0]) ∧ Wrote w B ad cap bs w' := by
  have hca := cs_r s ha
  have hai : (a : Int) < 8 := by omega
  have hai0 : (0 : Int) ≤ (a : Int) := by omega
  have hBl := CoY.Lies.lt hL
  have hcp := cs_pc s
  rw [hp] at hcp
  have B2 := ((Below.refl w.heap.size w).alloc (Nat.le_refl _) (.cells (cs s) 30)).alloc (by simp) (.cells zcs 30)
  have C1 := (Blk.new w (cs s) 30).below ((Below.refl _ _).alloc (Nat.le_refl _) (.cells zcs 30))
  have R1 := Blk.new (w.alloc (.cells (cs s) 30)) zcs 30
  rw [World.size_alloc] at R1
  have h0 := run_ldC C1 (cs_size s)
  go_enter Tryd.func13, Tryd.ntmps13
  go_wp2_with (first | (go_at_call 25; (with_reducible refine (HWd.out _ B2).mono ?_); rintro e' w0 ⟨rfl, rfl⟩) | (go_at_call 26; (with_reducible refine (HDc.out _).mono ?_); rintro e' w1 ⟨rfl, hb1⟩; refine Hid.out ?_))
  refine Lib.hid ?_
  have bb1 := hb1.trans (((Below.refl w1.heap.size w1).alloc (Nat.le_refl _) (.cells #[.int .i64 23, .int .i64 (a : Int), .int .i64 (b : Int), .int .i64 i] 61)).mono hb1.size)
  have bb2 := bb1.trans (((Below.refl (w1.alloc (.cells #[.int .i64 23, .int .i64 (a : Int), .int .i64 (b : Int), .int .i64 i] 61)).heap.size (w1.alloc (.cells #[.int .i64 23, .int .i64 (a : Int), .int .i64 (b : Int), .int .i64 i] 61))).alloc (Nat.le_refl _) (.cells zcs 30)).mono bb1.size)
  have h1 := run_ldC (C1.below bb1) (cs_size s)
  have E1 := Blk.new (w1.alloc (.cells #[.int .i64 23, .int .i64 (a : Int), .int .i64 (b : Int), .int .i64 i] 61)) zcs 30
  have X1 := (Blk.new w1 #[.int .i64 23, .int .i64 (a : Int), .int .i64 (b : Int), .int .i64 i] 61).below ((Below.refl _ _).alloc (Nat.le_refl _) (.cells zcs 30))
  rw [World.size_alloc] at E1
  have hnX : w.heap.size + 1 < w1.heap.size := by have := hb1.size; simp at this; omega
  have F1 : Four w w.heap.size w1.heap.size s 23 a b i zcs ((w1.alloc (.cells #[.int .i64 23, .int .i64 (a : Int), .int .i64 (b : Int), .int .i64 i] 61)).alloc (.cells zcs 30)) := ⟨C1.below bb2, R1.below bb2, X1, E1, hnX⟩
  have h2 := run_stC E1 rfl (cs_size s) (cs_one s)
  have F2 := F1.all (cs s) rfl
  have W2 := Wrote.sets hBl (w1.heap.size + 1) (by omega) (cs s).toList 0 (Wrote.of_below hL (B2.trans (bb2.mono B2.size)))
  obtain ⟨w2, hw2⟩ : ∃ w2, World.setCells ((w1.alloc (.cells #[.int .i64 23, .int .i64 (a : Int), .int .i64 (b : Int), .int .i64 i] 61)).alloc (.cells zcs 30)) (w1.heap.size + 1) 0 (cs s).toList = w2 := ⟨_, rfl⟩
  have D2 := below_all (w1.heap.size + 1) (by omega) (cs s).toList 0 (B2.trans (bb2.mono B2.size))
  rw [hw2] at h2 F2 W2 D2
  have c10 := (F2.c.cell 10).trans hcp
  have e10 := (F2.e.cell 10).trans hcp
  have g10 := F2.e.free 10
  have x3 := F2.x.cell 3
  clear hw2 F1 E1 X1 bb1 bb2 C1 R1 h0 hb1 B2 hL hcp
  go_wp2
  go_quiet ((go_at_call 27; exact quiet (imm_any i hi _)))
  have F3 := F2.set 10 (uv (m32 (s.pc + 4)))
  rw [cs_setP] at F3
  have W3 := W2.set hBl (w1.heap.size + 1) 10 (uv (m32 (s.pc + 4))) (by omega)
  have D3 := D2.setCell (p := ⟨w1.heap.size + 1, 10, none⟩) (by show w.heap.size ≤ w1.heap.size + 1; omega) (uv (m32 (s.pc + 4)))
  have bd := drew_below (w2.setCell ⟨w1.heap.size + 1, 10, none⟩ (uv (m32 (s.pc + 4)))).heap.size (w2.setCell ⟨w1.heap.size + 1, 10, none⟩ (uv (m32 (s.pc + 4)))) nq
  have F4 := F3.below bd
  have W4 := W3.below bd
  have D4 := D3.trans (bd.mono D3.size)
  obtain ⟨w4, hw4⟩ : ∃ w4, World.drewN (w2.setCell ⟨w1.heap.size + 1, 10, none⟩ (uv (m32 (s.pc + 4)))) nq = w4 := ⟨_, rfl⟩
  rw [hw4] at F4 W4 D4
  have hw4' : World.drewN (w2.setCell ⟨w1.heap.size + 1, 10, none⟩ (Value.int .u32 (((p : Int) + 4) % 4294967296))) nq = w4 := by rw [← hw4, hp]; rfl
  have hfar : ((((p : Int) + 4) % 4294967296 + 4 * m32 i % 4294967296) % 4294967296) = m32 (m32 (s.pc + 4) + m32 (4 * m32 i)) := by rw [hp]; rfl
  generalize hfr : m32 (m32 (s.pc + 4) + m32 (4 * m32 i)) = far at *
  have HFR := Lib.hid hfr
  have HFA := Lib.hid hfar
  have HW4 := Lib.hid hw4'
  clear hw4 hw4' F2 W2 F3 W3 bd c10 e10 g10 x3 h1 h2 hfr hfar D2 D3
  rw [HW4.out, HFA.out]
  have x0 := F4.x.cell 0
  have x1 := F4.x.cell 1
  have z1 := (F4.c.cell a).trans hca
  have e10 := F4.e.cell 10
  have g10 := F4.e.free 10
  rw [cs_pc] at e10
  have F5 := F4.set 10 (uv (s.r a))
  rw [cs_setP] at F5
  have W5 := W4.set hBl (w1.heap.size + 1) 10 (uv (s.r a)) (by omega)
  clear F4 W4 D4
  have h3 := run_ldC F5.e (cs_size _)
  have h5 := run_stC F5.r rfl (cs_size (setP (setP s (m32 (s.pc + 4))) (s.r a))) (cs_one _)
  have HR := Lib.hid (CoC.Blk.setAll F5.r (ds := cs (setP (setP s (m32 (s.pc + 4))) (s.r a))) rfl)
  have HS := Lib.hid (cs_size (setP (setP s (m32 (s.pc + 4))) (s.r a)))
  have HW := Lib.hid (Wrote.sets hBl (w.heap.size + 1) (by omega) (cs (setP (setP s (m32 (s.pc + 4))) (s.r a))).toList 0 W5)
  clear F5 W5
  generalize hD : cs (setP (setP s (m32 (s.pc + 4))) (s.r a)) = D at *
  have HE := Lib.hid hD
  clear hD
  go_wp2
  refine bodyPost_ret (v := .tuple #[.agg D, .int .i64 0]) ?_ rfl ⟨by rw [← HE.out]; rfl, HW.out⟩
  exact results_cell_row2 rfl _ _ (w.heap.size + 1) 30 D (0, 0) _ _ rfl rfl HR.out Tryd.underlying30 rfl (by rw [infoC, HS.out])

set_option maxRecDepth 100000 in
set_option maxHeartbeats 2000000 in
theorem rs_22 (w : World) (B : Nat) (ad : Option Addr) (cap : Nat) (bs : CoM.Bs) (hL : Lies w B ad cap bs) (s : St) (hs : s.Ok) (p n : Nat) (hp : s.pc = (p : Int)) (h4 : ((p : Int) % 4 != 0) = false) (a b : Nat) (i : Int) (hi : -32768 ≤ i ∧ i ≤ 32767) (ha : a < 8) (hb : b < 8)
    (HWd : Hid (∀ wx, Below w.heap.size w wx → Calls Tryd.prog 25 #[sl ad bs cap, uv (p : Int)] wx fun e' w' => e' = .returned (.tuple #[uv (n : Int), .bool true]) ∧ wx = w'))
    (HDc : Hid (∀ wx, Calls Tryd.prog 26 #[uv (n : Int)] wx fun e' w' => e' = .returned (.tuple #[.agg #[.int .i64 22, .int .i64 (a : Int), .int .i64 (b : Int), .int .i64 i], .int .i64 0]) ∧ Below wx.heap.size wx w')) :
    Calls Tryd.prog 13 #[cv s, sl ad bs cap] w fun e' w' => e' = .returned (.tuple #[cv (setP (setR s a (m32 (s.pc + 4))) (m32 (m32 (s.pc + 4) + m32 (4 * m32 i)))), .int .i64 0]) ∧ Wrote w B ad cap bs w' := by
  have hca := cs_r s ha
  have hai : (a : Int) < 8 := by omega
  have hai0 : (0 : Int) ≤ (a : Int) := by omega
  have hBl := CoY.Lies.lt hL
  have hcp := cs_pc s
  rw [hp] at hcp
  have B2 := ((Below.refl w.heap.size w).alloc (Nat.le_refl _) (.cells (cs s) 30)).alloc (by simp) (.cells zcs 30)
  have C1 := (Blk.new w (cs s) 30).below ((Below.refl _ _).alloc (Nat.le_refl _) (.cells zcs 30))
  have R1 := Blk.new (w.alloc (.cells (cs s) 30)) zcs 30
  rw [World.size_alloc] at R1
  have h0 := run_ldC C1 (cs_size s)
  go_enter Tryd.func13, Tryd.ntmps13
  go_wp2_with (first | (go_at_call 25; (with_reducible refine (HWd.out _ B2).mono ?_); rintro e' w0 ⟨rfl, rfl⟩) | (go_at_call 26; (with_reducible refine (HDc.out _).mono ?_); rintro e' w1 ⟨rfl, hb1⟩; refine Hid.out ?_))
  refine Lib.hid ?_
  have bb1 := hb1.trans (((Below.refl w1.heap.size w1).alloc (Nat.le_refl _) (.cells #[.int .i64 22, .int .i64 (a : Int), .int .i64 (b : Int), .int .i64 i] 61)).mono hb1.size)
  have bb2 := bb1.trans (((Below.refl (w1.alloc (.cells #[.int .i64 22, .int .i64 (a : Int), .int .i64 (b : Int), .int .i64 i] 61)).heap.size (w1.alloc (.cells #[.int .i64 22, .int .i64 (a : Int), .int .i64 (b : Int), .int .i64 i] 61))).alloc (Nat.le_refl _) (.cells zcs 30)).mono bb1.size)
  have h1 := run_ldC (C1.below bb1) (cs_size s)
  have E1 := Blk.new (w1.alloc (.cells #[.int .i64 22, .int .i64 (a : Int), .int .i64 (b : Int), .int .i64 i] 61)) zcs 30
  have X1 := (Blk.new w1 #[.int .i64 22, .int .i64 (a : Int), .int .i64 (b : Int), .int .i64 i] 61).below ((Below.refl _ _).alloc (Nat.le_refl _) (.cells zcs 30))
  rw [World.size_alloc] at E1
  have hnX : w.heap.size + 1 < w1.heap.size := by have := hb1.size; simp at this; omega
  have F1 : Four w w.heap.size w1.heap.size s 22 a b i zcs ((w1.alloc (.cells #[.int .i64 22, .int .i64 (a : Int), .int .i64 (b : Int), .int .i64 i] 61)).alloc (.cells zcs 30)) := ⟨C1.below bb2, R1.below bb2, X1, E1, hnX⟩
  have h2 := run_stC E1 rfl (cs_size s) (cs_one s)
  have F2 := F1.all (cs s) rfl
  have W2 := Wrote.sets hBl (w1.heap.size + 1) (by omega) (cs s).toList 0 (Wrote.of_below hL (B2.trans (bb2.mono B2.size)))
  obtain ⟨w2, hw2⟩ : ∃ w2, World.setCells ((w1.alloc (.cells #[.int .i64 22, .int .i64 (a : Int), .int .i64 (b : Int), .int .i64 i] 61)).alloc (.cells zcs 30)) (w1.heap.size + 1) 0 (cs s).toList = w2 := ⟨_, rfl⟩
  have D2 := below_all (w1.heap.size + 1) (by omega) (cs s).toList 0 (B2.trans (bb2.mono B2.size))
  rw [hw2] at h2 F2 W2 D2
  have c10 := (F2.c.cell 10).trans hcp
  have e10 := (F2.e.cell 10).trans hcp
  have g10 := F2.e.free 10
  have x3 := F2.x.cell 3
  clear hw2 F1 E1 X1 bb1 bb2 C1 R1 h0 hb1 B2 hL hcp
  go_wp2
  go_quiet ((go_at_call 27; exact quiet (imm_any i hi _)))
  have F3 := F2.set 10 (uv (m32 (s.pc + 4)))
  rw [cs_setP] at F3
  have W3 := W2.set hBl (w1.heap.size + 1) 10 (uv (m32 (s.pc + 4))) (by omega)
  have D3 := D2.setCell (p := ⟨w1.heap.size + 1, 10, none⟩) (by show w.heap.size ≤ w1.heap.size + 1; omega) (uv (m32 (s.pc + 4)))
  have bd := drew_below (w2.setCell ⟨w1.heap.size + 1, 10, none⟩ (uv (m32 (s.pc + 4)))).heap.size (w2.setCell ⟨w1.heap.size + 1, 10, none⟩ (uv (m32 (s.pc + 4)))) nq
  have F4 := F3.below bd
  have W4 := W3.below bd
  have D4 := D3.trans (bd.mono D3.size)
  obtain ⟨w4, hw4⟩ : ∃ w4, World.drewN (w2.setCell ⟨w1.heap.size + 1, 10, none⟩ (uv (m32 (s.pc + 4)))) nq = w4 := ⟨_, rfl⟩
  rw [hw4] at F4 W4 D4
  have hw4' : World.drewN (w2.setCell ⟨w1.heap.size + 1, 10, none⟩ (Value.int .u32 (((p : Int) + 4) % 4294967296))) nq = w4 := by rw [← hw4, hp]; rfl
  have hfar : ((((p : Int) + 4) % 4294967296 + 4 * m32 i % 4294967296) % 4294967296) = m32 (m32 (s.pc + 4) + m32 (4 * m32 i)) := by rw [hp]; rfl
  generalize hfr : m32 (m32 (s.pc + 4) + m32 (4 * m32 i)) = far at *
  have HFR := Lib.hid hfr
  have HFA := Lib.hid hfar
  have HW4 := Lib.hid hw4'
  clear hw4 hw4' F2 W2 F3 W3 bd c10 e10 g10 x3 h1 h2 hfr hfar D2 D3
  rw [HW4.out, HFA.out]
  have x0 := F4.x.cell 0
  have x1 := F4.x.cell 1
  have e10 := F4.e.cell 10
  rw [cs_pc] at e10
  obtain ⟨nx, hnx⟩ : ∃ nx, m32 (s.pc + 4) = nx := ⟨_, rfl⟩
  rw [hnx] at F4 e10
  have e10' : w4.cell? ⟨w1.heap.size + 1, 10, none⟩ = some (uv nx) := e10
  have g10' := F4.e.free 10
  clear e10
  have HNX := Lib.hid hnx
  have ya := F4.e.cell a
  rw [cs_r _ ha] at ya
  have fa := F4.e.free a
  have F5 := F4.set a (uv nx)
  rw [cs_setR _ _ ha] at F5
  have W5 := W4.set hBl (w1.heap.size + 1) a (uv nx) (by omega)
  have u10 := F5.e.cell 10
  rw [cs_pc] at u10
  have g10 := F5.e.free 10
  have F6 := F5.set 10 (uv far)
  rw [cs_setP] at F6
  have W6 := W5.set hBl (w1.heap.size + 1) 10 (uv far) (by omega)
  clear F4 W4 D4 F5 W5 hnx
  have h3 := run_ldC F6.e (cs_size _)
  have h5 := run_stC F6.r rfl (cs_size (setP (setR (setP s nx) a nx) far)) (cs_one _)
  have HR := Lib.hid (CoC.Blk.setAll F6.r (ds := cs (setP (setR (setP s nx) a nx) far)) rfl)
  have HS := Lib.hid (cs_size (setP (setR (setP s nx) a nx) far))
  have HW := Lib.hid (Wrote.sets hBl (w.heap.size + 1) (by omega) (cs (setP (setR (setP s nx) a nx) far)).toList 0 W6)
  clear F6 W6
  generalize hD : cs (setP (setR (setP s nx) a nx) far) = D at *
  have HE := Lib.hid hD
  clear hD
  go_wp2
  refine bodyPost_ret (v := .tuple #[.agg D, .int .i64 0]) ?_ rfl ⟨by rw [← HE.out, HFR.out, HNX.out]; rfl, HW.out⟩
  exact results_cell_row2 rfl _ _ (w.heap.size + 1) 30 D (0, 0) _ _ rfl rfl HR.out Tryd.underlying30 rfl (by rw [infoC, HS.out])
end Go.Proofs.YtgnpbedhpkmkfaaDoor.RfG
