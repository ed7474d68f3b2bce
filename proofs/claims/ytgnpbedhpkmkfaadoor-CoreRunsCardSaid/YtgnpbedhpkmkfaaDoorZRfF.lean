/-
  The document's own: memory.
-/
import Derived.Test.YtgnpbedhpkmkfaaDoorZRfd
import Derived.StillTailTactics
namespace Go.Proofs.YtgnpbedhpkmkfaaDoor.RfF
open Go Go.RowKit Kit Bk CoM CoR CoB CoW CoI CoF CoT CoU CoV CoC CoE IsaM IsaT IsaL IsaC IsaE IsaN RfA Rc RfD RfE
set_option linter.unusedVariables false
attribute [local go_sem ↓] ldc_wrap stc_wrap
theorem lies_setI {w : World} {B : Nat} {ad : Option Addr} {cap : Nat} {b : CoM.Bs} (h : Lies w B ad cap b) (a v : Nat) (x : Int) (ha : a < b.length) (hv : v < 256) (hx : x = (v : Int)) : Lies (w.setCell ⟨B, a, none⟩ (.int .u8 x)) B ad cap (b.set a v) := by
  subst hx
  exact lies_set h a v ha hv

set_option maxRecDepth 100000 in
set_option maxHeartbeats 2000000 in
theorem rm_no4 (w : World) (B : Nat) (ad : Option Addr) (cap : Nat) (bs : CoM.Bs) (hL : Lies w B ad cap bs) (s : St) (hs : s.Ok) (k a b : Nat) (i : Int) (ha : a < 8) (at0 : Nat) (hat : at0 < 4294967296) (wr : Bool) (h : ¬ at0 + 4 ≤ bs.length)
    (HT : Hid (∀ wx, Below w.heap.size w wx → Calls Tryd.prog 11 #[cv s, sl ad bs cap] wx fun e w' => e = .returned (.tuple #[uv (at0 : Int), .int .i64 4, .bool wr]) ∧ Below wx.heap.size wx w')) :
    Calls Tryd.prog 32 #[.agg #[.int .i64 (k : Int), .int .i64 (a : Int), .int .i64 (b : Int), .int .i64 i], cv s, sl ad bs cap] w fun e w' => e = .returned (.tuple #[cv s, .int .i64 2]) ∧ Wrote w B ad cap bs w' := by
  have hle := hL.le
  have hBl := CoY.Lies.lt hL
  have hca := cs_r s ha
  have hai : (a : Int) < 8 := by omega
  have hai0 : (0 : Int) ≤ (a : Int) := by omega
  have B3 := (((Below.refl w.heap.size w).alloc (Nat.le_refl _) (.cells #[.int .i64 (k : Int), .int .i64 (a : Int), .int .i64 (b : Int), .int .i64 i] 61)).alloc (by simp) (.cells (cs s) 30)).alloc (by simp <;> omega) (.cells zcs 30)
  have X1 := ((Blk.new w #[.int .i64 (k : Int), .int .i64 (a : Int), .int .i64 (b : Int), .int .i64 i] 61).below ((Below.refl _ _).alloc (Nat.le_refl _) (.cells (cs s) 30))).below ((Below.refl _ _).alloc (Nat.le_refl _) (.cells zcs 30))
  have C1 := (Blk.new (w.alloc (.cells #[.int .i64 (k : Int), .int .i64 (a : Int), .int .i64 (b : Int), .int .i64 i] 61)) (cs s) 30).below ((Below.refl _ _).alloc (Nat.le_refl _) (.cells zcs 30))
  have R1 := Blk.new ((w.alloc (.cells #[.int .i64 (k : Int), .int .i64 (a : Int), .int .i64 (b : Int), .int .i64 i] 61)).alloc (.cells (cs s) 30)) zcs 30
  simp only [World.size_alloc] at C1 R1
  have h0 := run_ldC C1 (cs_size s)
  clear hs
  go_enter Tryd.func32, Tryd.ntmps32
  go_wp2_with (first | (go_at_call 11; (with_reducible refine (HT.out _ B3).mono ?_); rintro e w1 ⟨rfl, hb1⟩; refine Hid.out ?_))
  refine Lib.hid ?_
  have C2 := C1.below hb1
  have R2 := R1.below hb1
  have W2 := Wrote.of_below hL (B3.trans (hb1.mono B3.size))
  have h1 := run_ldC C2 (cs_size s)
  have h2 := run_stC R2 rfl (cs_size s) (cs_one s)
  have HR := Lib.hid (CoC.Blk.setAll R2 (ds := cs s) rfl)
  have HS := Lib.hid (cs_size s)
  have HW := Lib.hid (Wrote.sets hBl (w.heap.size + 1 + 1) (by omega) (cs s).toList 0 W2)
  clear X1 C1 R1 C2 R2 W2 hb1 B3 h0 hL hca
  generalize hD : cs s = D at *
  have HE := Lib.hid hD
  clear hD
  go_wp2
  refine bodyPost_ret (v := .tuple #[.agg D, .int .i64 2]) ?_ rfl ⟨by rw [← HE.out], HW.out⟩
  exact results_cell_row2 rfl _ _ (w.heap.size + 1 + 1) 30 D (0, 0) _ _ rfl rfl HR.out Tryd.underlying30 rfl (by rw [infoC, HS.out])

set_option maxRecDepth 100000 in
set_option maxHeartbeats 2000000 in
theorem rm_al4 (w : World) (B : Nat) (ad : Option Addr) (cap : Nat) (bs : CoM.Bs) (hL : Lies w B ad cap bs) (s : St) (hs : s.Ok) (k a b : Nat) (i : Int) (ha : a < 8) (at0 : Nat) (hat : at0 < 4294967296) (wr : Bool) (h : at0 + 4 ≤ bs.length) (h4 : ((at0 : Int) % 4 != 0) = true)
    (HT : Hid (∀ wx, Below w.heap.size w wx → Calls Tryd.prog 11 #[cv s, sl ad bs cap] wx fun e w' => e = .returned (.tuple #[uv (at0 : Int), .int .i64 4, .bool wr]) ∧ Below wx.heap.size wx w')) :
    Calls Tryd.prog 32 #[.agg #[.int .i64 (k : Int), .int .i64 (a : Int), .int .i64 (b : Int), .int .i64 i], cv s, sl ad bs cap] w fun e w' => e = .returned (.tuple #[cv s, .int .i64 2]) ∧ Wrote w B ad cap bs w' := by
  have hle := hL.le
  have hBl := CoY.Lies.lt hL
  have hca := cs_r s ha
  have hai : (a : Int) < 8 := by omega
  have hai0 : (0 : Int) ≤ (a : Int) := by omega
  have B3 := (((Below.refl w.heap.size w).alloc (Nat.le_refl _) (.cells #[.int .i64 (k : Int), .int .i64 (a : Int), .int .i64 (b : Int), .int .i64 i] 61)).alloc (by simp) (.cells (cs s) 30)).alloc (by simp <;> omega) (.cells zcs 30)
  have X1 := ((Blk.new w #[.int .i64 (k : Int), .int .i64 (a : Int), .int .i64 (b : Int), .int .i64 i] 61).below ((Below.refl _ _).alloc (Nat.le_refl _) (.cells (cs s) 30))).below ((Below.refl _ _).alloc (Nat.le_refl _) (.cells zcs 30))
  have C1 := (Blk.new (w.alloc (.cells #[.int .i64 (k : Int), .int .i64 (a : Int), .int .i64 (b : Int), .int .i64 i] 61)) (cs s) 30).below ((Below.refl _ _).alloc (Nat.le_refl _) (.cells zcs 30))
  have R1 := Blk.new ((w.alloc (.cells #[.int .i64 (k : Int), .int .i64 (a : Int), .int .i64 (b : Int), .int .i64 i] 61)).alloc (.cells (cs s) 30)) zcs 30
  simp only [World.size_alloc] at C1 R1
  have h0 := run_ldC C1 (cs_size s)
  clear hs
  go_enter Tryd.func32, Tryd.ntmps32
  go_wp2_with (first | (go_at_call 11; (with_reducible refine (HT.out _ B3).mono ?_); rintro e w1 ⟨rfl, hb1⟩; refine Hid.out ?_))
  refine Lib.hid ?_
  have C2 := C1.below hb1
  have R2 := R1.below hb1
  have W2 := Wrote.of_below hL (B3.trans (hb1.mono B3.size))
  have h1 := run_ldC C2 (cs_size s)
  have h2 := run_stC R2 rfl (cs_size s) (cs_one s)
  have HR := Lib.hid (CoC.Blk.setAll R2 (ds := cs s) rfl)
  have HS := Lib.hid (cs_size s)
  have HW := Lib.hid (Wrote.sets hBl (w.heap.size + 1 + 1) (by omega) (cs s).toList 0 W2)
  clear X1 C1 R1 C2 R2 W2 hb1 B3 h0 hL hca
  generalize hD : cs s = D at *
  have HE := Lib.hid hD
  clear hD
  go_wp2
  refine bodyPost_ret (v := .tuple #[.agg D, .int .i64 2]) ?_ rfl ⟨by rw [← HE.out], HW.out⟩
  exact results_cell_row2 rfl _ _ (w.heap.size + 1 + 1) 30 D (0, 0) _ _ rfl rfl HR.out Tryd.underlying30 rfl (by rw [infoC, HS.out])

set_option maxRecDepth 100000 in
set_option maxHeartbeats 2000000 in
theorem rm_no1 (w : World) (B : Nat) (ad : Option Addr) (cap : Nat) (bs : CoM.Bs) (hL : Lies w B ad cap bs) (s : St) (hs : s.Ok) (k a b : Nat) (i : Int) (ha : a < 8) (at0 : Nat) (hat : at0 < 4294967296) (wr : Bool) (h : ¬ at0 + 1 ≤ bs.length)
    (HT : Hid (∀ wx, Below w.heap.size w wx → Calls Tryd.prog 11 #[cv s, sl ad bs cap] wx fun e w' => e = .returned (.tuple #[uv (at0 : Int), .int .i64 1, .bool wr]) ∧ Below wx.heap.size wx w')) :
    Calls Tryd.prog 32 #[.agg #[.int .i64 (k : Int), .int .i64 (a : Int), .int .i64 (b : Int), .int .i64 i], cv s, sl ad bs cap] w fun e w' => e = .returned (.tuple #[cv s, .int .i64 2]) ∧ Wrote w B ad cap bs w' := by
  have hle := hL.le
  have hBl := CoY.Lies.lt hL
  have hca := cs_r s ha
  have hai : (a : Int) < 8 := by omega
  have hai0 : (0 : Int) ≤ (a : Int) := by omega
  have B3 := (((Below.refl w.heap.size w).alloc (Nat.le_refl _) (.cells #[.int .i64 (k : Int), .int .i64 (a : Int), .int .i64 (b : Int), .int .i64 i] 61)).alloc (by simp) (.cells (cs s) 30)).alloc (by simp <;> omega) (.cells zcs 30)
  have X1 := ((Blk.new w #[.int .i64 (k : Int), .int .i64 (a : Int), .int .i64 (b : Int), .int .i64 i] 61).below ((Below.refl _ _).alloc (Nat.le_refl _) (.cells (cs s) 30))).below ((Below.refl _ _).alloc (Nat.le_refl _) (.cells zcs 30))
  have C1 := (Blk.new (w.alloc (.cells #[.int .i64 (k : Int), .int .i64 (a : Int), .int .i64 (b : Int), .int .i64 i] 61)) (cs s) 30).below ((Below.refl _ _).alloc (Nat.le_refl _) (.cells zcs 30))
  have R1 := Blk.new ((w.alloc (.cells #[.int .i64 (k : Int), .int .i64 (a : Int), .int .i64 (b : Int), .int .i64 i] 61)).alloc (.cells (cs s) 30)) zcs 30
  simp only [World.size_alloc] at C1 R1
  have h0 := run_ldC C1 (cs_size s)
  clear hs
  go_enter Tryd.func32, Tryd.ntmps32
  go_wp2_with (first | (go_at_call 11; (with_reducible refine (HT.out _ B3).mono ?_); rintro e w1 ⟨rfl, hb1⟩; refine Hid.out ?_))
  refine Lib.hid ?_
  have C2 := C1.below hb1
  have R2 := R1.below hb1
  have W2 := Wrote.of_below hL (B3.trans (hb1.mono B3.size))
  have h1 := run_ldC C2 (cs_size s)
  have h2 := run_stC R2 rfl (cs_size s) (cs_one s)
  have HR := Lib.hid (CoC.Blk.setAll R2 (ds := cs s) rfl)
  have HS := Lib.hid (cs_size s)
  have HW := Lib.hid (Wrote.sets hBl (w.heap.size + 1 + 1) (by omega) (cs s).toList 0 W2)
  clear X1 C1 R1 C2 R2 W2 hb1 B3 h0 hL hca
  generalize hD : cs s = D at *
  have HE := Lib.hid hD
  clear hD
  go_wp2
  refine bodyPost_ret (v := .tuple #[.agg D, .int .i64 2]) ?_ rfl ⟨by rw [← HE.out], HW.out⟩
  exact results_cell_row2 rfl _ _ (w.heap.size + 1 + 1) 30 D (0, 0) _ _ rfl rfl HR.out Tryd.underlying30 rfl (by rw [infoC, HS.out])

set_option maxRecDepth 100000 in
set_option maxHeartbeats 2000000 in
theorem rm_w4 (w : World) (B : Nat) (ad : Option Addr) (cap : Nat) (bs : CoM.Bs) (hL : Lies w B ad cap bs) (s : St) (hs : s.Ok) (k a b : Nat) (i : Int) (ha : a < 8) (at0 : Nat) (hat : at0 < 4294967296) (h : at0 + 4 ≤ bs.length) (h4 : ((at0 : Int) % 4 != 0) = false) (v : Nat) (hv : s.r a = (v : Int)) (hv1 : v < 4294967296)
    (HT : Hid (∀ wx, Below w.heap.size w wx → Calls Tryd.prog 11 #[cv s, sl ad bs cap] wx fun e w' => e = .returned (.tuple #[uv (at0 : Int), .int .i64 4, .bool true]) ∧ Below wx.heap.size wx w')) :
    Calls Tryd.prog 32 #[.agg #[.int .i64 (k : Int), .int .i64 (a : Int), .int .i64 (b : Int), .int .i64 i], cv s, sl ad bs cap] w fun e w' => e = .returned (.tuple #[cv (setP s (m32 (s.pc + 4))), .int .i64 0]) ∧ Wrote w B ad cap (put4 bs at0 v) w' := by
  have hle := hL.le
  have hBl := CoY.Lies.lt hL
  have hca := cs_r s ha
  have hai : (a : Int) < 8 := by omega
  have hai0 : (0 : Int) ≤ (a : Int) := by omega
  have B3 := (((Below.refl w.heap.size w).alloc (Nat.le_refl _) (.cells #[.int .i64 (k : Int), .int .i64 (a : Int), .int .i64 (b : Int), .int .i64 i] 61)).alloc (by simp) (.cells (cs s) 30)).alloc (by simp <;> omega) (.cells zcs 30)
  have X1 := ((Blk.new w #[.int .i64 (k : Int), .int .i64 (a : Int), .int .i64 (b : Int), .int .i64 i] 61).below ((Below.refl _ _).alloc (Nat.le_refl _) (.cells (cs s) 30))).below ((Below.refl _ _).alloc (Nat.le_refl _) (.cells zcs 30))
  have C1 := (Blk.new (w.alloc (.cells #[.int .i64 (k : Int), .int .i64 (a : Int), .int .i64 (b : Int), .int .i64 i] 61)) (cs s) 30).below ((Below.refl _ _).alloc (Nat.le_refl _) (.cells zcs 30))
  have R1 := Blk.new ((w.alloc (.cells #[.int .i64 (k : Int), .int .i64 (a : Int), .int .i64 (b : Int), .int .i64 i] 61)).alloc (.cells (cs s) 30)) zcs 30
  simp only [World.size_alloc] at C1 R1
  have h0 := run_ldC C1 (cs_size s)
  have hB0 : B < w.heap.size := by
    rcases hBl with e | e
    · rw [e] at h; simp at h
    · exact e
  rw [hv] at hca
  go_enter Tryd.func32, Tryd.ntmps32
  go_wp2_with (first | (go_at_call 11; (with_reducible refine (HT.out _ B3).mono ?_); rintro e w1 ⟨rfl, hb1⟩; refine Hid.out ?_))
  refine Lib.hid ?_
  have hnX : w.heap.size + 1 + 1 < w1.heap.size := by have := hb1.size; simp at this; omega
  have C2 := C1.below hb1
  have h1 := run_ldC C2 (cs_size s)
  have aa := (Below.refl w1.heap.size w1).alloc (Nat.le_refl _) (.cells zcs 30)
  have E1 := Blk.new w1 zcs 30
  have F1 : Mfr w.heap.size w1.heap.size s k a b i zcs (w1.alloc (.cells zcs 30)) := ⟨(X1.below hb1).below aa, C2.below aa, (R1.below hb1).below aa, E1, hnX⟩
  have h2 := run_stC E1 rfl (cs_size s) (cs_one s)
  have F2 := F1.all (cs s) rfl
  have W2 := Wrote.sets hBl w1.heap.size (by omega) (cs s).toList 0 (Wrote.of_below hL ((B3.trans (hb1.mono B3.size)).trans (aa.mono (by have := hb1.size; simp at this; omega))))
  obtain ⟨w2, hw2⟩ : ∃ w2, World.setCells (w1.alloc (.cells zcs 30)) w1.heap.size 0 (cs s).toList = w2 := ⟨_, rfl⟩
  rw [hw2] at h2 F2 W2
  have x1 := F2.x.cell 1
  have z1 := (F2.c.cell a).trans hca
  clear hw2 F1 E1 X1 aa C1 R1 C2 h0 hb1 B3
  have hL2 := W2.lies
  obtain ⟨_, _, c0, f0, _⟩ := CoB.Lies.at_cell hL2 (i := at0) (by omega)
  obtain ⟨_, _, c1, f1, _⟩ := CoB.Lies.at_cell hL2 (i := at0 + 1) (by omega)
  obtain ⟨_, _, c2, f2, _⟩ := CoB.Lies.at_cell hL2 (i := at0 + 2) (by omega)
  obtain ⟨_, _, c3, f3, _⟩ := CoB.Lies.at_cell hL2 (i := at0 + 3) (by omega)
  obtain ⟨rfl, hcap, _, _, _⟩ := CoB.Lies.at_cell hL2 (i := at0) (by omega)
  have L0 := lies_setI hL2 at0 (v % 256) ((v : Int) % 256) (by first | omega | (simp; omega)) (by omega) (by omega)
  have K0 := Kp.set (S := fun j => j = B) w2 B at0 (.int .u8 ((v : Int) % 256)) rfl
  have L1 := lies_setI L0 (at0 + 1) (v / 256 % 256) ((v : Int) / 256 % 256) (by first | omega | (simp; omega)) (by omega) (by omega)
  have K1 := Kp.set (S := fun j => j = B) (w2.setCell ⟨B, at0, none⟩ (.int .u8 ((v : Int) % 256))) B (at0 + 1) (.int .u8 ((v : Int) / 256 % 256)) rfl
  have L2 := lies_setI L1 (at0 + 2) (v / 65536 % 256) ((v : Int) / 256 / 256 % 256) (by first | omega | (simp; omega)) (by omega) (by omega)
  have K2 := Kp.set (S := fun j => j = B) ((w2.setCell ⟨B, at0, none⟩ (.int .u8 ((v : Int) % 256))).setCell ⟨B, (at0 + 1), none⟩ (.int .u8 ((v : Int) / 256 % 256))) B (at0 + 2) (.int .u8 ((v : Int) / 256 / 256 % 256)) rfl
  have L3 := lies_setI L2 (at0 + 3) (v / 16777216) ((v : Int) / 256 / 256 / 256 % 256) (by first | omega | (simp; omega)) (by omega) (by omega)
  have K3 := Kp.set (S := fun j => j = B) (((w2.setCell ⟨B, at0, none⟩ (.int .u8 ((v : Int) % 256))).setCell ⟨B, (at0 + 1), none⟩ (.int .u8 ((v : Int) / 256 % 256))).setCell ⟨B, (at0 + 2), none⟩ (.int .u8 ((v : Int) / 256 / 256 % 256))) B (at0 + 3) (.int .u8 ((v : Int) / 256 / 256 / 256 % 256)) rfl
  have F3 := F2.kept (((K0.trans K1 (fun _ h => .inl h)).trans K2 (fun _ h => .inl h)).trans K3 (fun _ h => .inl h)) hB0
  have W3 : Wrote w B _ cap (put4 bs at0 v) _ := ⟨L3, W2.kp.trans (((K0.trans K1 (fun _ h => .inl h)).trans K2 (fun _ h => .inl h)).trans K3 (fun _ h => .inl h)) (fun _ h => .inl h)⟩
  obtain ⟨w3, hw3⟩ : ∃ w3, ((((w2.setCell ⟨B, at0, none⟩ (.int .u8 ((v : Int) % 256))).setCell ⟨B, (at0 + 1), none⟩ (.int .u8 ((v : Int) / 256 % 256))).setCell ⟨B, (at0 + 2), none⟩ (.int .u8 ((v : Int) / 256 / 256 % 256))).setCell ⟨B, (at0 + 3), none⟩ (.int .u8 ((v : Int) / 256 / 256 / 256 % 256))) = w3 := ⟨_, rfl⟩
  rw [hw3] at F3 W3
  clear L0 K0 L1 K1 L2 K2 L3 K3 F2 W2 hL2 hL
  have HW3 := Lib.hid hw3
  clear hw3
  go_wp2
  refine wp_loop_rounds 5 ?_
  rw [rounds_succ]
  go_wp2
  rw [rounds_succ]
  go_wp2_with (fail)
  rw [rounds_succ]
  go_wp2_with (fail)
  rw [rounds_succ]
  go_wp2_with (fail)
  rw [HW3.out]
  have hBl : (put4 bs at0 v) = [] ∨ B < w.heap.size := .inr hB0
  clear HW3 c0 f0 c1 f1 c2 f2 c3 f3
  have u10 := (F3.c.cell 10).trans (cs_pc s)
  have y10 := F3.e.cell 10
  rw [cs_pc] at y10
  have f10 := F3.e.free 10
  have F6 := F3.set 10 (uv (m32 (s.pc + 4)))
  rw [cs_setP] at F6
  have W6 := W3.set hBl w1.heap.size 10 (uv (m32 (s.pc + 4))) (by omega)
  have h3 := run_ldC F6.e (cs_size _)
  have h4 := run_stC F6.r rfl (cs_size (setP s (m32 (s.pc + 4)))) (cs_one _)
  have HR := Lib.hid (CoC.Blk.setAll F6.r (ds := cs (setP s (m32 (s.pc + 4)))) rfl)
  have HS := Lib.hid (cs_size (setP s (m32 (s.pc + 4))))
  have HW := Lib.hid (Wrote.sets hBl (w.heap.size + 1 + 1) (by omega) (cs (setP s (m32 (s.pc + 4)))).toList 0 W6)
  clear F6 W6
  generalize hD : cs (setP s (m32 (s.pc + 4))) = D at *
  have HE := Lib.hid hD
  clear hD
  unfold m32 at h3 h4 HR HW
  rw [rounds_succ]
  go_wp2
  refine bodyPost_ret (v := .tuple #[.agg D, .int .i64 0]) ?_ rfl ⟨by rw [← HE.out], HW.out⟩
  exact results_cell_row2 rfl _ _ (w.heap.size + 1 + 1) 30 D (0, 0) _ _ rfl rfl HR.out Tryd.underlying30 rfl (by rw [infoC, HS.out])

set_option maxRecDepth 100000 in
set_option maxHeartbeats 2000000 in
theorem rm_w1 (w : World) (B : Nat) (ad : Option Addr) (cap : Nat) (bs : CoM.Bs) (hL : Lies w B ad cap bs) (s : St) (hs : s.Ok) (k a b : Nat) (i : Int) (ha : a < 8) (at0 : Nat) (hat : at0 < 4294967296) (h : at0 + 1 ≤ bs.length) (v : Nat) (hv : s.r a = (v : Int)) (hv1 : v < 4294967296)
    (HT : Hid (∀ wx, Below w.heap.size w wx → Calls Tryd.prog 11 #[cv s, sl ad bs cap] wx fun e w' => e = .returned (.tuple #[uv (at0 : Int), .int .i64 1, .bool true]) ∧ Below wx.heap.size wx w')) :
    Calls Tryd.prog 32 #[.agg #[.int .i64 (k : Int), .int .i64 (a : Int), .int .i64 (b : Int), .int .i64 i], cv s, sl ad bs cap] w fun e w' => e = .returned (.tuple #[cv (setP s (m32 (s.pc + 4))), .int .i64 0]) ∧ Wrote w B ad cap (put1 bs at0 v) w' := by
  have hle := hL.le
  have hBl := CoY.Lies.lt hL
  have hca := cs_r s ha
  have hai : (a : Int) < 8 := by omega
  have hai0 : (0 : Int) ≤ (a : Int) := by omega
  have B3 := (((Below.refl w.heap.size w).alloc (Nat.le_refl _) (.cells #[.int .i64 (k : Int), .int .i64 (a : Int), .int .i64 (b : Int), .int .i64 i] 61)).alloc (by simp) (.cells (cs s) 30)).alloc (by simp <;> omega) (.cells zcs 30)
  have X1 := ((Blk.new w #[.int .i64 (k : Int), .int .i64 (a : Int), .int .i64 (b : Int), .int .i64 i] 61).below ((Below.refl _ _).alloc (Nat.le_refl _) (.cells (cs s) 30))).below ((Below.refl _ _).alloc (Nat.le_refl _) (.cells zcs 30))
  have C1 := (Blk.new (w.alloc (.cells #[.int .i64 (k : Int), .int .i64 (a : Int), .int .i64 (b : Int), .int .i64 i] 61)) (cs s) 30).below ((Below.refl _ _).alloc (Nat.le_refl _) (.cells zcs 30))
  have R1 := Blk.new ((w.alloc (.cells #[.int .i64 (k : Int), .int .i64 (a : Int), .int .i64 (b : Int), .int .i64 i] 61)).alloc (.cells (cs s) 30)) zcs 30
  simp only [World.size_alloc] at C1 R1
  have h0 := run_ldC C1 (cs_size s)
  have hB0 : B < w.heap.size := by
    rcases hBl with e | e
    · rw [e] at h; simp at h
    · exact e
  rw [hv] at hca
  go_enter Tryd.func32, Tryd.ntmps32
  go_wp2_with (first | (go_at_call 11; (with_reducible refine (HT.out _ B3).mono ?_); rintro e w1 ⟨rfl, hb1⟩; refine Hid.out ?_))
  refine Lib.hid ?_
  have hnX : w.heap.size + 1 + 1 < w1.heap.size := by have := hb1.size; simp at this; omega
  have C2 := C1.below hb1
  have h1 := run_ldC C2 (cs_size s)
  have aa := (Below.refl w1.heap.size w1).alloc (Nat.le_refl _) (.cells zcs 30)
  have E1 := Blk.new w1 zcs 30
  have F1 : Mfr w.heap.size w1.heap.size s k a b i zcs (w1.alloc (.cells zcs 30)) := ⟨(X1.below hb1).below aa, C2.below aa, (R1.below hb1).below aa, E1, hnX⟩
  have h2 := run_stC E1 rfl (cs_size s) (cs_one s)
  have F2 := F1.all (cs s) rfl
  have W2 := Wrote.sets hBl w1.heap.size (by omega) (cs s).toList 0 (Wrote.of_below hL ((B3.trans (hb1.mono B3.size)).trans (aa.mono (by have := hb1.size; simp at this; omega))))
  obtain ⟨w2, hw2⟩ : ∃ w2, World.setCells (w1.alloc (.cells zcs 30)) w1.heap.size 0 (cs s).toList = w2 := ⟨_, rfl⟩
  rw [hw2] at h2 F2 W2
  have x1 := F2.x.cell 1
  have z1 := (F2.c.cell a).trans hca
  clear hw2 F1 E1 X1 aa C1 R1 C2 h0 hb1 B3
  have hL2 := W2.lies
  obtain ⟨_, _, c0, f0, _⟩ := CoB.Lies.at_cell hL2 (i := at0) (by omega)
  obtain ⟨rfl, hcap, _, _, _⟩ := CoB.Lies.at_cell hL2 (i := at0) (by omega)
  have L0 := lies_setI hL2 at0 (v % 256) ((v : Int) % 256) (by first | omega | (simp; omega)) (by omega) (by omega)
  have K0 := Kp.set (S := fun j => j = B) w2 B at0 (.int .u8 ((v : Int) % 256)) rfl
  have F3 := F2.kept K0 hB0
  have W3 : Wrote w B _ cap (put1 bs at0 v) _ := ⟨L0, W2.kp.trans K0 (fun _ h => .inl h)⟩
  obtain ⟨w3, hw3⟩ : ∃ w3, (w2.setCell ⟨B, at0, none⟩ (.int .u8 ((v : Int) % 256))) = w3 := ⟨_, rfl⟩
  rw [hw3] at F3 W3
  clear L0 K0 F2 W2 hL2 hL
  have HW3 := Lib.hid hw3
  clear hw3
  go_wp2
  refine wp_loop_rounds 2 ?_
  rw [rounds_succ]
  go_wp2
  rw [HW3.out]
  have hBl : (put1 bs at0 v) = [] ∨ B < w.heap.size := .inr hB0
  clear HW3 c0 f0
  have u10 := (F3.c.cell 10).trans (cs_pc s)
  have y10 := F3.e.cell 10
  rw [cs_pc] at y10
  have f10 := F3.e.free 10
  have F6 := F3.set 10 (uv (m32 (s.pc + 4)))
  rw [cs_setP] at F6
  have W6 := W3.set hBl w1.heap.size 10 (uv (m32 (s.pc + 4))) (by omega)
  have h3 := run_ldC F6.e (cs_size _)
  have h4 := run_stC F6.r rfl (cs_size (setP s (m32 (s.pc + 4)))) (cs_one _)
  have HR := Lib.hid (CoC.Blk.setAll F6.r (ds := cs (setP s (m32 (s.pc + 4)))) rfl)
  have HS := Lib.hid (cs_size (setP s (m32 (s.pc + 4))))
  have HW := Lib.hid (Wrote.sets hBl (w.heap.size + 1 + 1) (by omega) (cs (setP s (m32 (s.pc + 4)))).toList 0 W6)
  clear F6 W6
  generalize hD : cs (setP s (m32 (s.pc + 4))) = D at *
  have HE := Lib.hid hD
  clear hD
  unfold m32 at h3 h4 HR HW
  rw [rounds_succ]
  go_wp2
  refine bodyPost_ret (v := .tuple #[.agg D, .int .i64 0]) ?_ rfl ⟨by rw [← HE.out], HW.out⟩
  exact results_cell_row2 rfl _ _ (w.heap.size + 1 + 1) 30 D (0, 0) _ _ rfl rfl HR.out Tryd.underlying30 rfl (by rw [infoC, HS.out])

set_option maxRecDepth 100000 in
set_option maxHeartbeats 2000000 in
theorem rm_r4 (w : World) (B : Nat) (ad : Option Addr) (cap : Nat) (bs : CoM.Bs) (hL : Lies w B ad cap bs) (s : St) (hs : s.Ok) (k a b : Nat) (i : Int) (ha : a < 8) (at0 : Nat) (hat : at0 < 4294967296) (h : at0 + 4 ≤ bs.length) (h4 : ((at0 : Int) % 4 != 0) = false)
    (HT : Hid (∀ wx, Below w.heap.size w wx → Calls Tryd.prog 11 #[cv s, sl ad bs cap] wx fun e w' => e = .returned (.tuple #[uv (at0 : Int), .int .i64 4, .bool false]) ∧ Below wx.heap.size wx w')) :
    Calls Tryd.prog 32 #[.agg #[.int .i64 (k : Int), .int .i64 (a : Int), .int .i64 (b : Int), .int .i64 i], cv s, sl ad bs cap] w fun e w' => e = .returned (.tuple #[cv (setP (setR s a ((wordAt bs at0 : Nat) : Int)) (m32 (s.pc + 4))), .int .i64 0]) ∧ Wrote w B ad cap bs w' := by
  have hle := hL.le
  have hBl := CoY.Lies.lt hL
  have hca := cs_r s ha
  have hai : (a : Int) < 8 := by omega
  have hai0 : (0 : Int) ≤ (a : Int) := by omega
  have B3 := (((Below.refl w.heap.size w).alloc (Nat.le_refl _) (.cells #[.int .i64 (k : Int), .int .i64 (a : Int), .int .i64 (b : Int), .int .i64 i] 61)).alloc (by simp) (.cells (cs s) 30)).alloc (by simp <;> omega) (.cells zcs 30)
  have X1 := ((Blk.new w #[.int .i64 (k : Int), .int .i64 (a : Int), .int .i64 (b : Int), .int .i64 i] 61).below ((Below.refl _ _).alloc (Nat.le_refl _) (.cells (cs s) 30))).below ((Below.refl _ _).alloc (Nat.le_refl _) (.cells zcs 30))
  have C1 := (Blk.new (w.alloc (.cells #[.int .i64 (k : Int), .int .i64 (a : Int), .int .i64 (b : Int), .int .i64 i] 61)) (cs s) 30).below ((Below.refl _ _).alloc (Nat.le_refl _) (.cells zcs 30))
  have R1 := Blk.new ((w.alloc (.cells #[.int .i64 (k : Int), .int .i64 (a : Int), .int .i64 (b : Int), .int .i64 i] 61)).alloc (.cells (cs s) 30)) zcs 30
  simp only [World.size_alloc] at C1 R1
  have h0 := run_ldC C1 (cs_size s)
  go_enter Tryd.func32, Tryd.ntmps32
  go_wp2_with (first | (go_at_call 11; (with_reducible refine (HT.out _ B3).mono ?_); rintro e w1 ⟨rfl, hb1⟩; refine Hid.out ?_))
  refine Lib.hid ?_
  have hnX : w.heap.size + 1 + 1 < w1.heap.size := by have := hb1.size; simp at this; omega
  have C2 := C1.below hb1
  have h1 := run_ldC C2 (cs_size s)
  have aa := (Below.refl w1.heap.size w1).alloc (Nat.le_refl _) (.cells zcs 30)
  have E1 := Blk.new w1 zcs 30
  have F1 : Mfr w.heap.size w1.heap.size s k a b i zcs (w1.alloc (.cells zcs 30)) := ⟨(X1.below hb1).below aa, C2.below aa, (R1.below hb1).below aa, E1, hnX⟩
  have h2 := run_stC E1 rfl (cs_size s) (cs_one s)
  have F2 := F1.all (cs s) rfl
  have W2 := Wrote.sets hBl w1.heap.size (by omega) (cs s).toList 0 (Wrote.of_below hL ((B3.trans (hb1.mono B3.size)).trans (aa.mono (by have := hb1.size; simp at this; omega))))
  obtain ⟨w2, hw2⟩ : ∃ w2, World.setCells (w1.alloc (.cells zcs 30)) w1.heap.size 0 (cs s).toList = w2 := ⟨_, rfl⟩
  rw [hw2] at h2 F2 W2
  have x1 := F2.x.cell 1
  have z1 := (F2.c.cell a).trans hca
  clear hw2 F1 E1 X1 aa C1 R1 C2 h0 hb1 B3
  have HSR := Lib.hid (cs_setR s (k := a) ((wordAt bs at0 : Nat) : Int) ha)
  have y1 := F2.e.cell a
  rw [hca] at y1
  have f1 := F2.e.free a
  have HWd := Lib.hid (fun wx (hb : Below w2.heap.size w2 wx) => rword_yes wx B ad cap bs (Lies.below W2.lies hb) at0 hat h)
  have B0 := (Below.refl w2.heap.size w2).drew
  have HX := Lib.hid x1
  have HX2 := Lib.hid ((F2.set a (uv (wordAt bs at0 : Nat))).x.cell 1)
  generalize hVV : wordAt bs at0 = V at *
  have HV := Lib.hid hVV
  clear hVV
  go_wp2
  go_region_held (fun wx => wx.cell? ⟨w.heap.size, 1, none⟩ = some (.int .i64 (a : Int))) (first | exact HX2.out | exact HX.out | go_keep) ((go_at_call 25; (with_reducible refine (HWd.out _ B0).mono ?_); rintro e w3 ⟨rfl, rfl⟩))
  have F3 := (F2.set a (uv ((V : Nat) : Int))).below ((Below.refl _ _).drew)
  rw [HSR.out] at F3
  have W3 := (W2.set hBl w1.heap.size a (uv ((V : Nat) : Int)) (by omega)).below ((Below.refl _ _).drew)
  obtain ⟨w3, hw3⟩ : ∃ w3, (w2.setCell ⟨w1.heap.size, a, none⟩ (uv ((V : Nat) : Int))).drew = w3 := ⟨_, rfl⟩
  have hw3' : (w2.setCell ⟨w1.heap.size, a, none⟩ (Value.int .u32 ((V : Nat) : Int))).drew = w3 := hw3
  rw [hw3] at F3 W3
  rw [hw3']
  clear hw3 hw3' F2 W2 y1 f1 x1 z1 h1 h2
  obtain ⟨s1, hs1⟩ : ∃ s1, setR s a ((V : Nat) : Int) = s1 := ⟨_, rfl⟩
  rw [hs1] at F3
  have HS1 := Lib.hid hs1
  clear hs1
  have u10 := (F3.c.cell 10).trans (cs_pc s)
  have y10 := F3.e.cell 10
  rw [cs_pc] at y10
  have f10 := F3.e.free 10
  have F6 := F3.set 10 (uv (m32 (s.pc + 4)))
  rw [cs_setP] at F6
  have W6 := W3.set hBl w1.heap.size 10 (uv (m32 (s.pc + 4))) (by omega)
  have h3 := run_ldC F6.e (cs_size _)
  have h4 := run_stC F6.r rfl (cs_size (setP s1 (m32 (s.pc + 4)))) (cs_one _)
  have HR := Lib.hid (CoC.Blk.setAll F6.r (ds := cs (setP s1 (m32 (s.pc + 4)))) rfl)
  have HS := Lib.hid (cs_size (setP s1 (m32 (s.pc + 4))))
  have HW := Lib.hid (Wrote.sets hBl (w.heap.size + 1 + 1) (by omega) (cs (setP s1 (m32 (s.pc + 4)))).toList 0 W6)
  clear F6 W6
  generalize hD : cs (setP s1 (m32 (s.pc + 4))) = D at *
  have HE := Lib.hid hD
  clear hD
  unfold m32 at h3 h4 HR HW
  go_wp2
  refine bodyPost_ret (v := .tuple #[.agg D, .int .i64 0]) ?_ rfl ⟨by rw [← HE.out, HV.out, HS1.out], HW.out⟩
  exact results_cell_row2 rfl _ _ (w.heap.size + 1 + 1) 30 D (0, 0) _ _ rfl rfl HR.out Tryd.underlying30 rfl (by rw [infoC, HS.out])

set_option maxRecDepth 100000 in
set_option maxHeartbeats 2000000 in
theorem rm_r1 (w : World) (B : Nat) (ad : Option Addr) (cap : Nat) (bs : CoM.Bs) (hL : Lies w B ad cap bs) (s : St) (hs : s.Ok) (k a b : Nat) (i : Int) (ha : a < 8) (at0 : Nat) (hat : at0 < 4294967296) (h : at0 + 1 ≤ bs.length)
    (HT : Hid (∀ wx, Below w.heap.size w wx → Calls Tryd.prog 11 #[cv s, sl ad bs cap] wx fun e w' => e = .returned (.tuple #[uv (at0 : Int), .int .i64 1, .bool false]) ∧ Below wx.heap.size wx w')) :
    Calls Tryd.prog 32 #[.agg #[.int .i64 (k : Int), .int .i64 (a : Int), .int .i64 (b : Int), .int .i64 i], cv s, sl ad bs cap] w fun e w' => e = .returned (.tuple #[cv (setP (setR s a ((at_ bs at0 : Nat) : Int)) (m32 (s.pc + 4))), .int .i64 0]) ∧ Wrote w B ad cap bs w' := by
  have hle := hL.le
  have hBl := CoY.Lies.lt hL
  have hca := cs_r s ha
  have hai : (a : Int) < 8 := by omega
  have hai0 : (0 : Int) ≤ (a : Int) := by omega
  have B3 := (((Below.refl w.heap.size w).alloc (Nat.le_refl _) (.cells #[.int .i64 (k : Int), .int .i64 (a : Int), .int .i64 (b : Int), .int .i64 i] 61)).alloc (by simp) (.cells (cs s) 30)).alloc (by simp <;> omega) (.cells zcs 30)
  have X1 := ((Blk.new w #[.int .i64 (k : Int), .int .i64 (a : Int), .int .i64 (b : Int), .int .i64 i] 61).below ((Below.refl _ _).alloc (Nat.le_refl _) (.cells (cs s) 30))).below ((Below.refl _ _).alloc (Nat.le_refl _) (.cells zcs 30))
  have C1 := (Blk.new (w.alloc (.cells #[.int .i64 (k : Int), .int .i64 (a : Int), .int .i64 (b : Int), .int .i64 i] 61)) (cs s) 30).below ((Below.refl _ _).alloc (Nat.le_refl _) (.cells zcs 30))
  have R1 := Blk.new ((w.alloc (.cells #[.int .i64 (k : Int), .int .i64 (a : Int), .int .i64 (b : Int), .int .i64 i] 61)).alloc (.cells (cs s) 30)) zcs 30
  simp only [World.size_alloc] at C1 R1
  have h0 := run_ldC C1 (cs_size s)
  go_enter Tryd.func32, Tryd.ntmps32
  go_wp2_with (first | (go_at_call 11; (with_reducible refine (HT.out _ B3).mono ?_); rintro e w1 ⟨rfl, hb1⟩; refine Hid.out ?_))
  refine Lib.hid ?_
  have hnX : w.heap.size + 1 + 1 < w1.heap.size := by have := hb1.size; simp at this; omega
  have C2 := C1.below hb1
  have h1 := run_ldC C2 (cs_size s)
  have aa := (Below.refl w1.heap.size w1).alloc (Nat.le_refl _) (.cells zcs 30)
  have E1 := Blk.new w1 zcs 30
  have F1 : Mfr w.heap.size w1.heap.size s k a b i zcs (w1.alloc (.cells zcs 30)) := ⟨(X1.below hb1).below aa, C2.below aa, (R1.below hb1).below aa, E1, hnX⟩
  have h2 := run_stC E1 rfl (cs_size s) (cs_one s)
  have F2 := F1.all (cs s) rfl
  have W2 := Wrote.sets hBl w1.heap.size (by omega) (cs s).toList 0 (Wrote.of_below hL ((B3.trans (hb1.mono B3.size)).trans (aa.mono (by have := hb1.size; simp at this; omega))))
  obtain ⟨w2, hw2⟩ : ∃ w2, World.setCells (w1.alloc (.cells zcs 30)) w1.heap.size 0 (cs s).toList = w2 := ⟨_, rfl⟩
  rw [hw2] at h2 F2 W2
  have x1 := F2.x.cell 1
  have z1 := (F2.c.cell a).trans hca
  clear hw2 F1 E1 X1 aa C1 R1 C2 h0 hb1 B3
  have HSR := Lib.hid (cs_setR s (k := a) ((at_ bs at0 : Nat) : Int) ha)
  have y1 := F2.e.cell a
  rw [hca] at y1
  have f1 := F2.e.free a
  obtain ⟨rfl, hcap, c0, f0, _⟩ := CoB.Lies.at_cell W2.lies (i := at0) (by omega)
  have hsm := hL.small at0
  generalize hVV : at_ bs at0 = V at *
  have HV := Lib.hid hVV
  clear hVV
  have hV : (V : Int) % 4294967296 = (V : Int) := by omega
  go_wp2
  go_region
  have F3 := (F2.set a (uv ((V : Nat) : Int))).below ((Below.refl _ _).drew)
  rw [HSR.out] at F3
  have W3 := (W2.set hBl w1.heap.size a (uv ((V : Nat) : Int)) (by omega)).below ((Below.refl _ _).drew)
  obtain ⟨w3, hw3⟩ : ∃ w3, (w2.setCell ⟨w1.heap.size, a, none⟩ (uv ((V : Nat) : Int))).drew = w3 := ⟨_, rfl⟩
  have hw3' : (w2.setCell ⟨w1.heap.size, a, none⟩ (Value.int .u32 ((V : Nat) : Int))).drew = w3 := hw3
  rw [hw3] at F3 W3
  rw [hw3']
  clear hw3 hw3' F2 W2 y1 f1 x1 z1 h1 h2
  obtain ⟨s1, hs1⟩ : ∃ s1, setR s a ((V : Nat) : Int) = s1 := ⟨_, rfl⟩
  rw [hs1] at F3
  have HS1 := Lib.hid hs1
  clear hs1
  have u10 := (F3.c.cell 10).trans (cs_pc s)
  have y10 := F3.e.cell 10
  rw [cs_pc] at y10
  have f10 := F3.e.free 10
  have F6 := F3.set 10 (uv (m32 (s.pc + 4)))
  rw [cs_setP] at F6
  have W6 := W3.set hBl w1.heap.size 10 (uv (m32 (s.pc + 4))) (by omega)
  have h3 := run_ldC F6.e (cs_size _)
  have h4 := run_stC F6.r rfl (cs_size (setP s1 (m32 (s.pc + 4)))) (cs_one _)
  have HR := Lib.hid (CoC.Blk.setAll F6.r (ds := cs (setP s1 (m32 (s.pc + 4)))) rfl)
  have HS := Lib.hid (cs_size (setP s1 (m32 (s.pc + 4))))
  have HW := Lib.hid (Wrote.sets hBl (w.heap.size + 1 + 1) (by omega) (cs (setP s1 (m32 (s.pc + 4)))).toList 0 W6)
  clear F6 W6
  generalize hD : cs (setP s1 (m32 (s.pc + 4))) = D at *
  have HE := Lib.hid hD
  clear hD
  unfold m32 at h3 h4 HR HW
  go_wp2
  refine bodyPost_ret (v := .tuple #[.agg D, .int .i64 0]) ?_ rfl ⟨by rw [← HE.out, HV.out, HS1.out], HW.out⟩
  exact results_cell_row2 rfl _ _ (w.heap.size + 1 + 1) 30 D (0, 0) _ _ rfl rfl HR.out Tryd.underlying30 rfl (by rw [infoC, HS.out])
end Go.Proofs.YtgnpbedhpkmkfaaDoor.RfF
