/-
  reach: what a memory is asked for, where it is a Ram.
-/
import Derived.Test.YtgnpbedhpkmkfaaDoorZCm
import Derived.Test.YtgnpbedhpkmkfaaDoorZIsaN
import Derived.Defers
import Derived.Recover
import Derived.Laws.Pointers
namespace Go.Proofs.YtgnpbedhpkmkfaaDoor.CoI
open Go Go.RowKit Kit Bk CoM CoR CoB CoW
set_option linter.unusedVariables false

theorem catch_idle (p q : Addr) (w : World) :
    CallsD Tryd.prog 50 #[.pointer (some p), .pointer (some q)] .returning w fun e u' w' => e = .returned (.tuple #[]) ∧ u' = .returning ∧ w' = w := by
  refine callsD_of_wpS Tryd.func50 rfl fun c₀ cs hu => ?_
  apply wpS_seq
  apply wpS_region
  simp [wpOpsS, go_sem, recoverD, hu, Tryd.ntmps50, Exit.thenS]
  refine wpS_cond (t := false) (by simp [Act.eval, Array.replicate]) ?_
  simp only [Bool.false_eq_true, if_false]
  refine wpS_of_wp (wp_skip ?_)
  cases c₀
  simp_all [bodyPostS, results, Tryd.results50]

abbrev mv (M : Nat) : Value := .iface 32 (pm M)
abbrev plc (a l : Int) (wr : Bool) : Value := .agg #[.int .u32 a, .int .i64 l, .bool wr]

theorem m_word (M : Nat) (w : World) : (method 299 32 (pm M) "Word").run Tryd.prog w = .ok (18, pm M) w := by kernel_rfl
theorem m_byte (M : Nat) (w : World) : (method 299 32 (pm M) "Byte").run Tryd.prog w = .ok (16, pm M) w := by kernel_rfl
theorem m_setWord (M : Nat) (w : World) : (method 299 32 (pm M) "SetWord").run Tryd.prog w = .ok (17, pm M) w := by kernel_rfl
theorem m_setByte (M : Nat) (w : World) : (method 299 32 (pm M) "SetByte").run Tryd.prog w = .ok (19, pm M) w := by kernel_rfl
theorem mkf (fn : Fn) (first cap : Array Value) (w : World) : (Instr.makeFunc fn first cap).run Tryd.prog w = .ok (.func fn first cap) w := rfl

set_option maxRecDepth 100000 in
set_option maxHeartbeats 1000000 in
theorem reach_rw (w : World) (M B : Nat) (ad : Option Addr) (cap : Nat) (b : CoM.Bs) (hM : RamAt w M ad cap b) (hL : Lies w B ad cap b) (a : Nat) (h1 : a < 4294967296) (h : a + 4 ≤ b.length) (h4 : ((a : Int) % 4 == 0) = true) (v : Int) :
    Calls Tryd.prog 28 #[plc a 4 false, mv M, .int .u32 v] w fun e w' => e = .returned (.tuple #[.int .u32 (wordAt b a : Nat), .bool true]) ∧ Below w.heap.size w w' := by
  have hmf := mkf
  have hm := m_word
  have HW := Lib.hid (fun (wx : World) (hb : Below w.heap.size w wx) => word_yes wx M B ad cap b (hM.below hb) (Lies.below hL hb) a h1 h)
  go_enter_defers Tryd.func28, Tryd.ntmps28
  go_wp2_with (go_at_call 18; (with_reducible refine (HW.out _ (by (repeat (first | (with_reducible exact Below.refl _ _) | (with_reducible refine IsaN.bdr ?_) | (with_reducible refine IsaN.bal ?_ _))))).mono ?_); rintro e w1 ⟨rfl, rfl⟩)
  refine leaves_cons (f := 50) (args := #[.pointer (some ⟨w.heap.size + 1, 0, none⟩), .pointer (some ⟨w.heap.size + 1 + 1, 0, none⟩)]) (by simp) (by simp [go_sem]) ?_
  refine (catch_idle _ _ _).mono ?_
  rintro e u' w2 ⟨rfl, rfl, rfl⟩
  simp [Leaves, settle, results, Tryd.results28, go_sem]
  exact (by (repeat (first | (with_reducible exact Below.refl _ _) | (with_reducible refine IsaN.bdr ?_) | (with_reducible refine IsaN.bal ?_ _))))

set_option maxRecDepth 100000 in
set_option maxHeartbeats 1000000 in
theorem reach_rw_no (w : World) (M B : Nat) (ad : Option Addr) (cap : Nat) (b : CoM.Bs) (hM : RamAt w M ad cap b) (hL : Lies w B ad cap b) (a : Nat) (h1 : a < 4294967296) (h : ¬ a + 4 ≤ b.length) (h4 : ((a : Int) % 4 == 0) = true) (v : Int) :
    Calls Tryd.prog 28 #[plc a 4 false, mv M, .int .u32 v] w fun e w' => e = .returned (.tuple #[.int .u32 0, .bool false]) ∧ Below w.heap.size w w' := by
  have hmf := mkf
  have hm := m_word
  have HW := Lib.hid (fun (wx : World) (hb : Below w.heap.size w wx) => word_no wx M B ad cap b (hM.below hb) (Lies.below hL hb) a (by omega) (by omega) (by omega))
  go_enter_defers Tryd.func28, Tryd.ntmps28
  go_wp2_with (go_at_call 18; (with_reducible refine (HW.out _ (by (repeat (first | (with_reducible exact Below.refl _ _) | (with_reducible refine IsaN.bdr ?_) | (with_reducible refine IsaN.bal ?_ _))))).mono ?_); rintro e w1 ⟨rfl, rfl⟩)
  refine leaves_cons (f := 50) (args := #[.pointer (some ⟨w.heap.size + 1, 0, none⟩), .pointer (some ⟨w.heap.size + 1 + 1, 0, none⟩)]) (by simp) (by simp [go_sem]) ?_
  refine (catch_idle _ _ _).mono ?_
  rintro e u' w2 ⟨rfl, rfl, rfl⟩
  simp [Leaves, settle, results, Tryd.results28, go_sem]
  exact (by (repeat (first | (with_reducible exact Below.refl _ _) | (with_reducible refine IsaN.bdr ?_) | (with_reducible refine IsaN.bal ?_ _))))

set_option maxRecDepth 100000 in
set_option maxHeartbeats 1000000 in
theorem reach_rb (w : World) (M B : Nat) (ad : Option Addr) (cap : Nat) (b : CoM.Bs) (hM : RamAt w M ad cap b) (hL : Lies w B ad cap b) (a : Nat) (h1 : a < 4294967296) (h : a + 1 ≤ b.length) (v : Int) :
    Calls Tryd.prog 28 #[plc a 1 false, mv M, .int .u32 v] w fun e w' => e = .returned (.tuple #[.int .u32 (at_ b a : Nat), .bool true]) ∧ Below w.heap.size w w' := by
  have hmf := mkf
  have hm := m_byte
  have HW := Lib.hid (fun (wx : World) (hb : Below w.heap.size w wx) => byte_yes wx M B ad cap b (hM.below hb) (Lies.below hL hb) a h1 h)
  go_enter_defers Tryd.func28, Tryd.ntmps28
  go_wp2_with (go_at_call 16; (with_reducible refine (HW.out _ (by (repeat (first | (with_reducible exact Below.refl _ _) | (with_reducible refine IsaN.bdr ?_) | (with_reducible refine IsaN.bal ?_ _))))).mono ?_); rintro e w1 ⟨rfl, rfl⟩)
  go_region
  go_wp2
  refine leaves_cons (f := 50) (args := #[.pointer (some ⟨w.heap.size + 1, 0, none⟩), .pointer (some ⟨w.heap.size + 1 + 1, 0, none⟩)]) (by simp) (by simp [go_sem]) ?_
  refine (catch_idle _ _ _).mono ?_
  rintro e u' w2 ⟨rfl, rfl, rfl⟩
  simp [Leaves, settle, results, Tryd.results28, go_sem]
  exact ⟨by have := hL.small a; omega, (by (repeat (first | (with_reducible exact Below.refl _ _) | (with_reducible refine IsaN.bdr ?_) | (with_reducible refine IsaN.bal ?_ _))))⟩

set_option maxRecDepth 100000 in
set_option maxHeartbeats 1000000 in
theorem reach_rb_no (w : World) (M B : Nat) (ad : Option Addr) (cap : Nat) (b : CoM.Bs) (hM : RamAt w M ad cap b) (hL : Lies w B ad cap b) (a : Nat) (h1 : a < 4294967296) (h : ¬ a + 1 ≤ b.length) (v : Int) :
    Calls Tryd.prog 28 #[plc a 1 false, mv M, .int .u32 v] w fun e w' => e = .returned (.tuple #[.int .u32 0, .bool false]) ∧ Below w.heap.size w w' := by
  have hmf := mkf
  have hm := m_byte
  have HW := Lib.hid (fun (wx : World) (hb : Below w.heap.size w wx) => byte_no wx M B ad cap b (hM.below hb) (Lies.below hL hb) a (by omega) (by omega) (by omega))
  go_enter_defers Tryd.func28, Tryd.ntmps28
  go_wp2_with (go_at_call 16; (with_reducible refine (HW.out _ (by (repeat (first | (with_reducible exact Below.refl _ _) | (with_reducible refine IsaN.bdr ?_) | (with_reducible refine IsaN.bal ?_ _))))).mono ?_); rintro e w1 ⟨rfl, rfl⟩)
  go_region
  go_wp2
  refine leaves_cons (f := 50) (args := #[.pointer (some ⟨w.heap.size + 1, 0, none⟩), .pointer (some ⟨w.heap.size + 1 + 1, 0, none⟩)]) (by simp) (by simp [go_sem]) ?_
  refine (catch_idle _ _ _).mono ?_
  rintro e u' w2 ⟨rfl, rfl, rfl⟩
  simp [Leaves, settle, results, Tryd.results28, go_sem]
  exact (by (repeat (first | (with_reducible exact Below.refl _ _) | (with_reducible refine IsaN.bdr ?_) | (with_reducible refine IsaN.bal ?_ _))))

set_option maxRecDepth 100000 in
set_option maxHeartbeats 1000000 in
theorem reach_al (w : World) (M B : Nat) (ad : Option Addr) (cap : Nat) (b : CoM.Bs) (hM : RamAt w M ad cap b) (hL : Lies w B ad cap b) (a : Nat) (wr : Bool) (h4 : ((a : Int) % 4 != 0) = true) (v : Int) :
    Calls Tryd.prog 28 #[plc a 4 wr, mv M, .int .u32 v] w fun e w' => e = .returned (.tuple #[.int .u32 0, .bool false]) ∧ Below w.heap.size w w' := by
  have hmf := mkf
  go_enter_defers Tryd.func28, Tryd.ntmps28
  go_wp2
  refine leaves_cons (f := 50) (args := #[.pointer (some ⟨w.heap.size + 1, 0, none⟩), .pointer (some ⟨w.heap.size + 1 + 1, 0, none⟩)]) (by simp) (by simp [go_sem]) ?_
  refine (catch_idle _ _ _).mono ?_
  rintro e u' w2 ⟨rfl, rfl, rfl⟩
  simp [Leaves, settle, results, Tryd.results28, go_sem]
  exact (by (repeat (first | (with_reducible exact Below.refl _ _) | (with_reducible refine IsaN.bdr ?_) | (with_reducible refine IsaN.bal ?_ _))))

set_option maxRecDepth 100000 in
set_option maxHeartbeats 1000000 in
theorem reach_ww (w : World) (M B : Nat) (ad : Option Addr) (cap : Nat) (b : CoM.Bs) (hM : RamAt w M ad cap b) (hL : Lies w B ad cap b) (a : Nat) (h1 : a < 4294967296) (h : a + 4 ≤ b.length) (h4 : ((a : Int) % 4 == 0) = true) (v : Nat) (hv : v < 4294967296) (hMB : M ≠ B) :
    Calls Tryd.prog 28 #[plc a 4 true, mv M, .int .u32 (v : Int)] w fun e w' => e = .returned (.tuple #[.int .u32 (v : Int), .bool true]) ∧ Wrote w B ad cap (put4 b a v) w' := by
  have hmf := mkf
  have hm := m_setWord
  have HW := Lib.hid (fun (wx : World) (hb : Below w.heap.size w wx) => setWord_yes wx M B ad cap b (hM.below hb) (Lies.below hL hb) a h1 v hv h)
  go_enter_defers Tryd.func28, Tryd.ntmps28
  go_wp2_with (go_at_call 17; (with_reducible refine (HW.out _ (by (repeat (first | (with_reducible exact Below.refl _ _) | (with_reducible refine IsaN.bdr ?_) | (with_reducible refine IsaN.bal ?_ _))))).mono ?_); rintro e w1 ⟨rfl, hb1⟩; refine Hid.out ?_)
  refine Lib.hid ?_
  have B3 := (((Below.refl w.heap.size w).alloc (Nat.le_refl _) (.cells #[.int .u32 (a : Int), .int .i64 4, .bool true] 71)).alloc (by simp) (.cells #[.int .u32 0] 22)).alloc (by simp <;> omega) (.cells #[.bool false] 4)
  have X1 := (Blk.new (w.alloc (.cells #[.int .u32 (a : Int), .int .i64 4, .bool true] 71)) #[.int .u32 0] 22).below ((Below.refl _ _).alloc (Nat.le_refl _) (.cells #[.bool false] 4))
  have X2 := Blk.new ((w.alloc (.cells #[.int .u32 (a : Int), .int .i64 4, .bool true] 71)).alloc (.cells #[.int .u32 0] 22)) #[.bool false] 4
  simp only [World.size_alloc] at X1 X2
  have hBl : B < w.heap.size := by
    rcases hL.row with e | ⟨k1, k2, k3, cells, T, k4, k5⟩
    · rw [e] at h; simp at h
    · exact k4.lt
  have X1 := X1.kept hb1.kp (by omega)
  have X2 := X2.kept hb1.kp (by omega)
  have KD := (Kp.of_below (S := fun j => j = B) B3).trans hb1.kp (fun _ h => .inl h)
  have x1 := X1.cell 0
  have x2 := X2.cell 0
  have f1 := X1.free 0
  have f2 := X2.free 0
  have c1 : (w1.setCell ⟨w.heap.size + 1, 0, none⟩ (.int .u32 (v : Int))).cell? ⟨w.heap.size + 1 + 1, 0, none⟩ = some (.bool false) := (X2.other (w.heap.size + 1) 0 (.int .u32 (v : Int)) (by omega)).cell 0
  clear B3 X1 X2
  go_wp2
  refine leaves_cons (f := 50) (args := #[.pointer (some ⟨w.heap.size + 1, 0, none⟩), .pointer (some ⟨w.heap.size + 1 + 1, 0, none⟩)]) (by simp) (by simp [go_sem]) ?_
  refine (catch_idle _ _ _).mono ?_
  rintro e u' w2 ⟨rfl, rfl, rfl⟩
  have g1 : ((w1.setCell ⟨w.heap.size + 1, 0, none⟩ (.int .u32 (v : Int))).setCell ⟨w.heap.size + 1 + 1, 0, none⟩ (.bool true)).cell? ⟨w.heap.size + 1, 0, none⟩ = some (.int .u32 (v : Int)) := by
    rw [World.cell?_setCell_other _ _ _ _ (fun e => by have := congrArg Addr.block e; simp at this)]
    exact World.cell?_setCell_same _ _ _ x1
  have g2 : ((w1.setCell ⟨w.heap.size + 1, 0, none⟩ (.int .u32 (v : Int))).setCell ⟨w.heap.size + 1 + 1, 0, none⟩ (.bool true)).cell? ⟨w.heap.size + 1 + 1, 0, none⟩ = some (.bool true) := World.cell?_setCell_same _ _ _ c1
  simp [Leaves, settle, results, Tryd.results28, go_sem, g1, g2]
  have K1 := (Kp.set (S := fun j => j = w.heap.size + 1 ∨ j = w.heap.size + 1 + 1) w1 (w.heap.size + 1) 0 (.int .u32 (v : Int)) (.inl rfl)).trans (Kp.set (S := fun j => j = w.heap.size + 1 ∨ j = w.heap.size + 1 + 1) _ (w.heap.size + 1 + 1) 0 (.bool true) (.inr rfl)) (fun _ h => .inl h)
  exact ⟨Lies.kept hb1.lies K1 (by omega), KD.trans K1 (fun j h => .inr (by omega))⟩

set_option maxRecDepth 100000 in
set_option maxHeartbeats 1000000 in
theorem reach_ww_no (w : World) (M B : Nat) (ad : Option Addr) (cap : Nat) (b : CoM.Bs) (hM : RamAt w M ad cap b) (hL : Lies w B ad cap b) (a : Nat) (h1 : a < 4294967296) (h : ¬ a + 4 ≤ b.length) (h4 : ((a : Int) % 4 == 0) = true) (v : Nat) (hv : v < 4294967296) :
    Calls Tryd.prog 28 #[plc a 4 true, mv M, .int .u32 (v : Int)] w fun e w' => e = .returned (.tuple #[.int .u32 (v : Int), .bool false]) ∧ Below w.heap.size w w' := by
  have hmf := mkf
  have hm := m_setWord
  have HW := Lib.hid (fun (wx : World) (hb : Below w.heap.size w wx) => setWord_no wx M B ad cap b (hM.below hb) (Lies.below hL hb) a (by omega) (by omega) v hv (by omega))
  go_enter_defers Tryd.func28, Tryd.ntmps28
  go_wp2_with (go_at_call 17; (with_reducible refine (HW.out _ (by (repeat (first | (with_reducible exact Below.refl _ _) | (with_reducible refine IsaN.bdr ?_) | (with_reducible refine IsaN.bal ?_ _))))).mono ?_); rintro e w1 ⟨rfl, hb1⟩; refine Hid.out ?_)
  refine Lib.hid ?_
  have B3 := (((Below.refl w.heap.size w).alloc (Nat.le_refl _) (.cells #[.int .u32 (a : Int), .int .i64 4, .bool true] 71)).alloc (by simp) (.cells #[.int .u32 0] 22)).alloc (by simp <;> omega) (.cells #[.bool false] 4)
  have X1 := (Blk.new (w.alloc (.cells #[.int .u32 (a : Int), .int .i64 4, .bool true] 71)) #[.int .u32 0] 22).below ((Below.refl _ _).alloc (Nat.le_refl _) (.cells #[.bool false] 4))
  have X2 := Blk.new ((w.alloc (.cells #[.int .u32 (a : Int), .int .i64 4, .bool true] 71)).alloc (.cells #[.int .u32 0] 22)) #[.bool false] 4
  simp only [World.size_alloc] at X1 X2
  have X1 := X1.below hb1
  have X2 := X2.below hb1
  have D := B3.trans (hb1.mono B3.size)
  have x1 := X1.cell 0
  have x2 := X2.cell 0
  have f1 := X1.free 0
  have f2 := X2.free 0
  have c1 : (w1.setCell ⟨w.heap.size + 1, 0, none⟩ (.int .u32 (v : Int))).cell? ⟨w.heap.size + 1 + 1, 0, none⟩ = some (.bool false) := (X2.other (w.heap.size + 1) 0 (.int .u32 (v : Int)) (by omega)).cell 0
  clear B3 X1 X2
  go_wp2
  refine leaves_cons (f := 50) (args := #[.pointer (some ⟨w.heap.size + 1, 0, none⟩), .pointer (some ⟨w.heap.size + 1 + 1, 0, none⟩)]) (by simp) (by simp [go_sem]) ?_
  refine (catch_idle _ _ _).mono ?_
  rintro e u' w2 ⟨rfl, rfl, rfl⟩
  have g1 : ((w1.setCell ⟨w.heap.size + 1, 0, none⟩ (.int .u32 (v : Int))).setCell ⟨w.heap.size + 1 + 1, 0, none⟩ (.bool false)).cell? ⟨w.heap.size + 1, 0, none⟩ = some (.int .u32 (v : Int)) := by
    rw [World.cell?_setCell_other _ _ _ _ (fun e => by have := congrArg Addr.block e; simp at this)]
    exact World.cell?_setCell_same _ _ _ x1
  have g2 : ((w1.setCell ⟨w.heap.size + 1, 0, none⟩ (.int .u32 (v : Int))).setCell ⟨w.heap.size + 1 + 1, 0, none⟩ (.bool false)).cell? ⟨w.heap.size + 1 + 1, 0, none⟩ = some (.bool false) := World.cell?_setCell_same _ _ _ c1
  simp [Leaves, settle, results, Tryd.results28, go_sem, g1, g2]
  exact (D.setCell (p := ⟨w.heap.size + 1, 0, none⟩) (by simp) _).setCell (p := ⟨w.heap.size + 1 + 1, 0, none⟩) (by simp; omega) _

set_option maxRecDepth 100000 in
set_option maxHeartbeats 1000000 in
theorem reach_wb (w : World) (M B : Nat) (ad : Option Addr) (cap : Nat) (b : CoM.Bs) (hM : RamAt w M ad cap b) (hL : Lies w B ad cap b) (a : Nat) (h1 : a < 4294967296) (h : a + 1 ≤ b.length) (v : Nat) (hv : v < 4294967296) (hMB : M ≠ B) :
    Calls Tryd.prog 28 #[plc a 1 true, mv M, .int .u32 (v : Int)] w fun e w' => e = .returned (.tuple #[.int .u32 (v : Int), .bool true]) ∧ Wrote w B ad cap (put1 b a v) w' := by
  have hmf := mkf
  have hm := m_setByte
  have HW := Lib.hid (fun (wx : World) (hb : Below w.heap.size w wx) => by have := setByte_yes wx M B ad cap b (hM.below hb) (Lies.below hL hb) a h1 v h; rwa [show ((v % 256 : Nat) : Int) = (v : Int) % 256 by omega] at this)
  go_enter_defers Tryd.func28, Tryd.ntmps28
  go_wp2_with (go_at_call 19; (with_reducible refine (HW.out _ (by (repeat (first | (with_reducible exact Below.refl _ _) | (with_reducible refine IsaN.bdr ?_) | (with_reducible refine IsaN.bal ?_ _))))).mono ?_); rintro e w1 ⟨rfl, hb1⟩; refine Hid.out ?_)
  refine Lib.hid ?_
  have B3 := (((Below.refl w.heap.size w).alloc (Nat.le_refl _) (.cells #[.int .u32 (a : Int), .int .i64 1, .bool true] 71)).alloc (by simp) (.cells #[.int .u32 0] 22)).alloc (by simp <;> omega) (.cells #[.bool false] 4)
  have X1 := (Blk.new (w.alloc (.cells #[.int .u32 (a : Int), .int .i64 1, .bool true] 71)) #[.int .u32 0] 22).below ((Below.refl _ _).alloc (Nat.le_refl _) (.cells #[.bool false] 4))
  have X2 := Blk.new ((w.alloc (.cells #[.int .u32 (a : Int), .int .i64 1, .bool true] 71)).alloc (.cells #[.int .u32 0] 22)) #[.bool false] 4
  simp only [World.size_alloc] at X1 X2
  have hBl : B < w.heap.size := by
    rcases hL.row with e | ⟨k1, k2, k3, cells, T, k4, k5⟩
    · rw [e] at h; simp at h
    · exact k4.lt
  have X1 := X1.kept hb1.kp (by omega)
  have X2 := X2.kept hb1.kp (by omega)
  have KD := (Kp.of_below (S := fun j => j = B) B3).trans hb1.kp (fun _ h => .inl h)
  have x1 := X1.cell 0
  have x2 := X2.cell 0
  have f1 := X1.free 0
  have f2 := X2.free 0
  have c1 : (w1.setCell ⟨w.heap.size + 1, 0, none⟩ (.int .u32 (v : Int))).cell? ⟨w.heap.size + 1 + 1, 0, none⟩ = some (.bool false) := (X2.other (w.heap.size + 1) 0 (.int .u32 (v : Int)) (by omega)).cell 0
  clear B3 X1 X2
  go_wp2
  refine leaves_cons (f := 50) (args := #[.pointer (some ⟨w.heap.size + 1, 0, none⟩), .pointer (some ⟨w.heap.size + 1 + 1, 0, none⟩)]) (by simp) (by simp [go_sem]) ?_
  refine (catch_idle _ _ _).mono ?_
  rintro e u' w2 ⟨rfl, rfl, rfl⟩
  have g1 : ((w1.setCell ⟨w.heap.size + 1, 0, none⟩ (.int .u32 (v : Int))).setCell ⟨w.heap.size + 1 + 1, 0, none⟩ (.bool true)).cell? ⟨w.heap.size + 1, 0, none⟩ = some (.int .u32 (v : Int)) := by
    rw [World.cell?_setCell_other _ _ _ _ (fun e => by have := congrArg Addr.block e; simp at this)]
    exact World.cell?_setCell_same _ _ _ x1
  have g2 : ((w1.setCell ⟨w.heap.size + 1, 0, none⟩ (.int .u32 (v : Int))).setCell ⟨w.heap.size + 1 + 1, 0, none⟩ (.bool true)).cell? ⟨w.heap.size + 1 + 1, 0, none⟩ = some (.bool true) := World.cell?_setCell_same _ _ _ c1
  simp [Leaves, settle, results, Tryd.results28, go_sem, g1, g2]
  have K1 := (Kp.set (S := fun j => j = w.heap.size + 1 ∨ j = w.heap.size + 1 + 1) w1 (w.heap.size + 1) 0 (.int .u32 (v : Int)) (.inl rfl)).trans (Kp.set (S := fun j => j = w.heap.size + 1 ∨ j = w.heap.size + 1 + 1) _ (w.heap.size + 1 + 1) 0 (.bool true) (.inr rfl)) (fun _ h => .inl h)
  exact ⟨Lies.kept hb1.lies K1 (by omega), KD.trans K1 (fun j h => .inr (by omega))⟩

set_option maxRecDepth 100000 in
set_option maxHeartbeats 1000000 in
theorem reach_wb_no (w : World) (M B : Nat) (ad : Option Addr) (cap : Nat) (b : CoM.Bs) (hM : RamAt w M ad cap b) (hL : Lies w B ad cap b) (a : Nat) (h1 : a < 4294967296) (h : ¬ a + 1 ≤ b.length) (v : Nat) (hv : v < 4294967296) :
    Calls Tryd.prog 28 #[plc a 1 true, mv M, .int .u32 (v : Int)] w fun e w' => e = .returned (.tuple #[.int .u32 (v : Int), .bool false]) ∧ Below w.heap.size w w' := by
  have hmf := mkf
  have hm := m_setByte
  have HW := Lib.hid (fun (wx : World) (hb : Below w.heap.size w wx) => by have := setByte_no wx M B ad cap b (hM.below hb) (Lies.below hL hb) a (by omega) (by omega) (v % 256) (by omega); rwa [show ((v % 256 : Nat) : Int) = (v : Int) % 256 by omega] at this)
  go_enter_defers Tryd.func28, Tryd.ntmps28
  go_wp2_with (go_at_call 19; (with_reducible refine (HW.out _ (by (repeat (first | (with_reducible exact Below.refl _ _) | (with_reducible refine IsaN.bdr ?_) | (with_reducible refine IsaN.bal ?_ _))))).mono ?_); rintro e w1 ⟨rfl, hb1⟩; refine Hid.out ?_)
  refine Lib.hid ?_
  have B3 := (((Below.refl w.heap.size w).alloc (Nat.le_refl _) (.cells #[.int .u32 (a : Int), .int .i64 1, .bool true] 71)).alloc (by simp) (.cells #[.int .u32 0] 22)).alloc (by simp <;> omega) (.cells #[.bool false] 4)
  have X1 := (Blk.new (w.alloc (.cells #[.int .u32 (a : Int), .int .i64 1, .bool true] 71)) #[.int .u32 0] 22).below ((Below.refl _ _).alloc (Nat.le_refl _) (.cells #[.bool false] 4))
  have X2 := Blk.new ((w.alloc (.cells #[.int .u32 (a : Int), .int .i64 1, .bool true] 71)).alloc (.cells #[.int .u32 0] 22)) #[.bool false] 4
  simp only [World.size_alloc] at X1 X2
  have X1 := X1.below hb1
  have X2 := X2.below hb1
  have D := B3.trans (hb1.mono B3.size)
  have x1 := X1.cell 0
  have x2 := X2.cell 0
  have f1 := X1.free 0
  have f2 := X2.free 0
  have c1 : (w1.setCell ⟨w.heap.size + 1, 0, none⟩ (.int .u32 (v : Int))).cell? ⟨w.heap.size + 1 + 1, 0, none⟩ = some (.bool false) := (X2.other (w.heap.size + 1) 0 (.int .u32 (v : Int)) (by omega)).cell 0
  clear B3 X1 X2
  go_wp2
  refine leaves_cons (f := 50) (args := #[.pointer (some ⟨w.heap.size + 1, 0, none⟩), .pointer (some ⟨w.heap.size + 1 + 1, 0, none⟩)]) (by simp) (by simp [go_sem]) ?_
  refine (catch_idle _ _ _).mono ?_
  rintro e u' w2 ⟨rfl, rfl, rfl⟩
  have g1 : ((w1.setCell ⟨w.heap.size + 1, 0, none⟩ (.int .u32 (v : Int))).setCell ⟨w.heap.size + 1 + 1, 0, none⟩ (.bool false)).cell? ⟨w.heap.size + 1, 0, none⟩ = some (.int .u32 (v : Int)) := by
    rw [World.cell?_setCell_other _ _ _ _ (fun e => by have := congrArg Addr.block e; simp at this)]
    exact World.cell?_setCell_same _ _ _ x1
  have g2 : ((w1.setCell ⟨w.heap.size + 1, 0, none⟩ (.int .u32 (v : Int))).setCell ⟨w.heap.size + 1 + 1, 0, none⟩ (.bool false)).cell? ⟨w.heap.size + 1 + 1, 0, none⟩ = some (.bool false) := World.cell?_setCell_same _ _ _ c1
  simp [Leaves, settle, results, Tryd.results28, go_sem, g1, g2]
  exact (D.setCell (p := ⟨w.heap.size + 1, 0, none⟩) (by simp) _).setCell (p := ⟨w.heap.size + 1 + 1, 0, none⟩) (by simp; omega) _

end Go.Proofs.YtgnpbedhpkmkfaaDoor.CoI

/-
  fetch: the instruction at Pc, where memory is a Ram.
-/
namespace Go.Proofs.YtgnpbedhpkmkfaaDoor.CoF
open Go Go.RowKit Kit Bk CoM CoR CoB CoW CoI IsaM IsaT IsaL IsaC IsaE IsaN
set_option linter.unusedVariables false

def fetchV : Int ⊕ (Nat × Nat × Nat × Int) → Value
  | .inl t => .tuple #[insV 0 0 0 0, .int .i64 t]
  | .inr (k, a, b, i) => .tuple #[insV (k : Nat) (a : Nat) (b : Nat) i, .int .i64 0]

theorem below4 {n : Nat} {w w1 : World} (D : Below n w w1) (g : Nat) (hg : n ≤ g) (x0 x1 x2 x3 : Value) :
    Below n w ((((w1.setCell ⟨g, 0, none⟩ x0).setCell ⟨g, 1, none⟩ x1).setCell ⟨g, 2, none⟩ x2).setCell ⟨g, 3, none⟩ x3) :=
  (((D.setCell (p := ⟨g, 0, none⟩) hg _).setCell (p := ⟨g, 1, none⟩) hg _).setCell (p := ⟨g, 2, none⟩) hg _).setCell (p := ⟨g, 3, none⟩) hg _

set_option maxRecDepth 100000 in
set_option maxHeartbeats 1000000 in
theorem fetch_no (w : World) (M B : Nat) (ad : Option Addr) (cap : Nat) (b : CoM.Bs) (hM : RamAt w M ad cap b) (hL : Lies w B ad cap b) (s : St) (hs : s.Ok) (h : fetchW s.pc b = none) :
    Calls Tryd.prog 23 #[cv s, mv M] w fun e w' => e = .returned (fetchV (.inl 2)) ∧ Below w.heap.size w w' := by
  obtain ⟨p, hp⟩ := Int.eq_ofNat_of_zero_le hs.p0
  have p1 := hs.p1
  have HR : Hid (∀ wx, Below w.heap.size w wx → Calls Tryd.prog 28 #[plc (p : Int) 4 false, mv M, .int .u32 0] wx fun e w' => e = .returned (.tuple #[.int .u32 0, .bool false]) ∧ Below wx.heap.size wx w') := Lib.hid (fun wx hb => by
    unfold fetchW at h
    by_cases h4 : (p : Int) % 4 = 0
    · by_cases h5 : p + 4 ≤ b.length
      · rw [if_pos ⟨by omega, by omega⟩] at h; cases h
      · exact reach_rw_no wx M B ad cap b (hM.below hb) (Lies.below hL hb) p (by omega) h5 (by simp [h4]) 0
    · exact reach_al wx M B ad cap b (hM.below hb) (Lies.below hL hb) p false (by simp [h4]) 0)
  have hcp := cs_pc s
  rw [hp] at hcp
  have B1 := (Below.refl w.heap.size w).alloc (Nat.le_refl _) (.cells (cs s) 30)
  have X1 := (Blk.new w (cs s) 30).below ((Below.refl _ _).alloc (Nat.le_refl _) (.cells #[.int .i64 0, .int .i64 0, .int .i64 0, .int .i64 0] 61))
  have x1 := (X1.cell 10).trans hcp
  unfold fetchV insV
  clear h hs
  go_enter Tryd.func23, Tryd.ntmps23
  go_wp2_with (first | (go_at_call 28; (with_reducible refine (HR.out _ (by first | exact B1 | (repeat (first | (with_reducible exact Below.refl _ _) | (with_reducible refine bdr ?_) | (with_reducible refine bal ?_ _))))).mono ?_); rintro e w1 ⟨rfl, hb1⟩; refine Hid.out ?_))
  refine Lib.hid ?_
  have R2 := (Blk.new (w.alloc (.cells (cs s) 30)) #[.int .i64 0, .int .i64 0, .int .i64 0, .int .i64 0] 61).below hb1
  have D := (B1.alloc (by simp) (.cells #[.int .i64 0, .int .i64 0, .int .i64 0, .int .i64 0] 61)).trans (hb1.mono (by simp <;> omega))
  rw [World.size_alloc] at R2
  have y0 := R2.cell 0
  have y1 := R2.cell 1
  have y2 := R2.cell 2
  have y3 := R2.cell 3
  have f0 := R2.free 0
  have f1 := R2.free 1
  have f2 := R2.free 2
  have f3 := R2.free 3
  obtain ⟨g0, g1, g2, g3⟩ := set4 w1 (w.heap.size + 1) (.int .i64 0) (.int .i64 0) (.int .i64 0) (.int .i64 0) (.int .i64 0) (.int .i64 0) (.int .i64 0) (.int .i64 0) y0 y1 y2 y3
  clear R2 B1 X1 x1 hb1
  go_wp2
  exact bodyPost_ret (v := .tuple #[.agg #[.int .i64 0, .int .i64 0, .int .i64 0, .int .i64 0], .int .i64 2]) (by simp [results, Tryd.results23, go_sem, g0, g1, g2, g3]) rfl ⟨rfl, below4 D _ (by omega) _ _ _ _⟩

set_option maxRecDepth 100000 in
set_option maxHeartbeats 1000000 in
theorem fetch_bad (w : World) (hT : Tabs w) (M B : Nat) (ad : Option Addr) (cap : Nat) (b : CoM.Bs) (hM : RamAt w M ad cap b) (hL : Lies w B ad cap b) (s : St) (hs : s.Ok) (n : Nat) (h : fetchW s.pc b = some n) (hn : n < 4294967296) (hm : mayB (dOp n) (dA n) (dB n) (dI n) = false) :
    Calls Tryd.prog 23 #[cv s, mv M] w fun e w' => e = .returned (fetchV (.inl 3)) ∧ Below w.heap.size w w' := by
  obtain ⟨p, hp⟩ := Int.eq_ofNat_of_zero_le hs.p0
  have p1 := hs.p1
  have HR : Hid (∀ wx, Below w.heap.size w wx → Calls Tryd.prog 28 #[plc (p : Int) 4 false, mv M, .int .u32 0] wx fun e w' => e = .returned (.tuple #[.int .u32 (n : Int), .bool true]) ∧ Below wx.heap.size wx w') := Lib.hid (fun wx hb => by
    unfold fetchW at h
    split at h
    · rename_i h4
      cases h
      have := reach_rw wx M B ad cap b (hM.below hb) (Lies.below hL hb) p (by omega) (by omega) (by simp; omega) 0
      rwa [hp, Int.toNat_natCast]
    · cases h)
  have HD : Hid (∀ wx, Below w.heap.size w wx → Calls Tryd.prog 48 #[.int .u32 (n : Int)] wx fun e w' => e = .returned (.tuple #[.agg #[.int .i64 0, .int .i64 0, .int .i64 0, .int .i64 0], .int .i64 30]) ∧ Below wx.heap.size wx w') := Lib.hid (fun wx hb => by
    have := decode_any n hn wx (hT.below hb)
    unfold decV at this
    rw [hm] at this
    exact this)
  have hcp := cs_pc s
  rw [hp] at hcp
  have B1 := (Below.refl w.heap.size w).alloc (Nat.le_refl _) (.cells (cs s) 30)
  have X1 := (Blk.new w (cs s) 30).below ((Below.refl _ _).alloc (Nat.le_refl _) (.cells #[.int .i64 0, .int .i64 0, .int .i64 0, .int .i64 0] 61))
  have x1 := (X1.cell 10).trans hcp
  unfold fetchV insV
  clear h hs hT hm
  go_enter Tryd.func23, Tryd.ntmps23
  go_wp2_with (first | (go_at_call 28; (with_reducible refine (HR.out _ (by first | exact B1 | (repeat (first | (with_reducible exact Below.refl _ _) | (with_reducible refine bdr ?_) | (with_reducible refine bal ?_ _))))).mono ?_); rintro e w1 ⟨rfl, hb1⟩; refine Hid.out ?_))
  refine Lib.hid ?_
  have R2 := (Blk.new (w.alloc (.cells (cs s) 30)) #[.int .i64 0, .int .i64 0, .int .i64 0, .int .i64 0] 61).below hb1
  have D := (B1.alloc (by simp) (.cells #[.int .i64 0, .int .i64 0, .int .i64 0, .int .i64 0] 61)).trans (hb1.mono (by simp <;> omega))
  rw [World.size_alloc] at R2
  clear B1 X1 x1 hb1
  go_wp2_with (first | (go_at_call 48; (with_reducible refine (HD.out _ D).mono ?_); rintro e w2 ⟨rfl, hb2⟩; refine Hid.out ?_))
  refine Lib.hid ?_
  have D2 := (D.trans (hb2.mono D.size))
  have R3 := (R2.below hb2).below ((Below.refl _ _).alloc (Nat.le_refl _) (.cells #[.int .i64 0, .int .i64 0, .int .i64 0, .int .i64 0] 61))
  have D3 := D2.alloc D2.size (.cells #[.int .i64 0, .int .i64 0, .int .i64 0, .int .i64 0] 61)
  have y0 := R3.cell 0
  have y1 := R3.cell 1
  have y2 := R3.cell 2
  have y3 := R3.cell 3
  have f0 := R3.free 0
  have f1 := R3.free 1
  have f2 := R3.free 2
  have f3 := R3.free 3
  obtain ⟨g0, g1, g2, g3⟩ := set4 (w2.alloc (.cells #[.int .i64 0, .int .i64 0, .int .i64 0, .int .i64 0] 61)) (w.heap.size + 1) (.int .i64 0) (.int .i64 0) (.int .i64 0) (.int .i64 0) (.int .i64 0) (.int .i64 0) (.int .i64 0) (.int .i64 0) y0 y1 y2 y3
  clear R2 R3 D D2 hb2
  go_wp2
  exact bodyPost_ret (v := .tuple #[.agg #[.int .i64 0, .int .i64 0, .int .i64 0, .int .i64 0], .int .i64 3]) (by simp [results, Tryd.results23, go_sem, g0, g1, g2, g3]) rfl ⟨rfl, below4 D3 _ (by omega) _ _ _ _⟩

set_option maxRecDepth 100000 in
set_option maxHeartbeats 1000000 in
theorem fetch_ok (w : World) (hT : Tabs w) (M B : Nat) (ad : Option Addr) (cap : Nat) (b : CoM.Bs) (hM : RamAt w M ad cap b) (hL : Lies w B ad cap b) (s : St) (hs : s.Ok) (n : Nat) (h : fetchW s.pc b = some n) (hn : n < 4294967296) (hm : mayB (dOp n) (dA n) (dB n) (dI n) = true) (op a c i : Int) (ho : dOp n = op) (ha : dA n = a) (hc : dB n = c) (hi : dI n = i) :
    Calls Tryd.prog 23 #[cv s, mv M] w fun e w' => e = .returned (.tuple #[.agg #[.int .i64 op, .int .i64 a, .int .i64 c, .int .i64 i], .int .i64 0]) ∧ Below w.heap.size w w' := by
  obtain ⟨p, hp⟩ := Int.eq_ofNat_of_zero_le hs.p0
  have p1 := hs.p1
  have HR : Hid (∀ wx, Below w.heap.size w wx → Calls Tryd.prog 28 #[plc (p : Int) 4 false, mv M, .int .u32 0] wx fun e w' => e = .returned (.tuple #[.int .u32 (n : Int), .bool true]) ∧ Below wx.heap.size wx w') := Lib.hid (fun wx hb => by
    unfold fetchW at h
    split at h
    · rename_i h4
      cases h
      have := reach_rw wx M B ad cap b (hM.below hb) (Lies.below hL hb) p (by omega) (by omega) (by simp; omega) 0
      rwa [hp, Int.toNat_natCast]
    · cases h)
  have HD : Hid (∀ wx, Below w.heap.size w wx → Calls Tryd.prog 48 #[.int .u32 (n : Int)] wx fun e w' => e = .returned (.tuple #[.agg #[.int .i64 op, .int .i64 a, .int .i64 c, .int .i64 i], .int .i64 0]) ∧ Below wx.heap.size wx w') := Lib.hid (fun wx hb => by
    have := decode_any n hn wx (hT.below hb)
    unfold decV at this
    rw [hm, ho, ha, hc, hi] at this
    exact this)
  have hcp := cs_pc s
  rw [hp] at hcp
  have B1 := (Below.refl w.heap.size w).alloc (Nat.le_refl _) (.cells (cs s) 30)
  have X1 := (Blk.new w (cs s) 30).below ((Below.refl _ _).alloc (Nat.le_refl _) (.cells #[.int .i64 0, .int .i64 0, .int .i64 0, .int .i64 0] 61))
  have x1 := (X1.cell 10).trans hcp
  clear h hs hT hm ho ha hc hi
  go_enter Tryd.func23, Tryd.ntmps23
  go_wp2_with (first | (go_at_call 28; (with_reducible refine (HR.out _ (by first | exact B1 | (repeat (first | (with_reducible exact Below.refl _ _) | (with_reducible refine bdr ?_) | (with_reducible refine bal ?_ _))))).mono ?_); rintro e w1 ⟨rfl, hb1⟩; refine Hid.out ?_))
  refine Lib.hid ?_
  have R2 := (Blk.new (w.alloc (.cells (cs s) 30)) #[.int .i64 0, .int .i64 0, .int .i64 0, .int .i64 0] 61).below hb1
  have D := (B1.alloc (by simp) (.cells #[.int .i64 0, .int .i64 0, .int .i64 0, .int .i64 0] 61)).trans (hb1.mono (by simp <;> omega))
  rw [World.size_alloc] at R2
  clear B1 X1 x1 hb1
  go_wp2_with (first | (go_at_call 48; (with_reducible refine (HD.out _ D).mono ?_); rintro e w2 ⟨rfl, hb2⟩; refine Hid.out ?_))
  refine Lib.hid ?_
  have D2 := (D.trans (hb2.mono D.size))
  have R3 := (R2.below hb2).below ((Below.refl _ _).alloc (Nat.le_refl _) (.cells #[.int .i64 op, .int .i64 a, .int .i64 c, .int .i64 i] 61))
  have D3 := D2.alloc D2.size (.cells #[.int .i64 op, .int .i64 a, .int .i64 c, .int .i64 i] 61)
  have y0 := R3.cell 0
  have y1 := R3.cell 1
  have y2 := R3.cell 2
  have y3 := R3.cell 3
  have f0 := R3.free 0
  have f1 := R3.free 1
  have f2 := R3.free 2
  have f3 := R3.free 3
  obtain ⟨g0, g1, g2, g3⟩ := set4 (w2.alloc (.cells #[.int .i64 op, .int .i64 a, .int .i64 c, .int .i64 i] 61)) (w.heap.size + 1) (.int .i64 0) (.int .i64 0) (.int .i64 0) (.int .i64 0) (.int .i64 op) (.int .i64 a) (.int .i64 c) (.int .i64 i) y0 y1 y2 y3
  clear R2 R3 D D2 hb2
  go_wp2
  exact bodyPost_ret (v := .tuple #[.agg #[.int .i64 op, .int .i64 a, .int .i64 c, .int .i64 i], .int .i64 0]) (by simp [results, Tryd.results23, go_sem, g0, g1, g2, g3]) rfl ⟨rfl, below4 D3 _ (by omega) _ _ _ _⟩

theorem wordAt_lt {b : CoM.Bs} (h : ∀ i, at_ b i < 256) (a : Nat) : wordAt b a < 4294967296 := by
  have := h a; have := h (a + 1); have := h (a + 2); have := h (a + 3)
  unfold wordAt
  omega
theorem fetchW_lt {pc : Int} {b : CoM.Bs} {n : Nat} (h : ∀ i, at_ b i < 256) (e : fetchW pc b = some n) : n < 4294967296 := by
  unfold fetchW at e
  split at e
  · cases e; exact wordAt_lt h _
  · cases e
theorem fetch_any (w : World) (hT : Tabs w) (M B : Nat) (ad : Option Addr) (cap : Nat) (b : CoM.Bs) (hM : RamAt w M ad cap b) (hL : Lies w B ad cap b) (s : St) (hs : s.Ok) :
    Calls Tryd.prog 23 #[cv s, mv M] w fun e w' => e = .returned (fetchV (fetchP s.pc b)) ∧ Below w.heap.size w w' := by
  unfold fetchP
  cases h : fetchW s.pc b with
  | none => exact fetch_no w M B ad cap b hM hL s hs h
  | some n =>
    have hn := fetchW_lt hL.small h
    cases hm : mayB (dOp n) (dA n) (dB n) (dI n) with
    | false =>
      simp only [hm, Bool.false_eq_true, if_false]
      exact fetch_bad w hT M B ad cap b hM hL s hs n h hn hm
    | true =>
      simp only [hm, if_true]
      have hb := (of_decide_eq_true hm : May _ _ _ _).2.bd
      have h0 := (of_decide_eq_true hm : May _ _ _ _).1
      exact fetch_ok w hT M B ad cap b hM hL s hs n h hn hm _ _ _ _ (Int.toNat_of_nonneg h0).symm (Int.toNat_of_nonneg (by omega)).symm (Int.toNat_of_nonneg (by omega)).symm rfl
end Go.Proofs.YtgnpbedhpkmkfaaDoor.CoF

/-
  touched: what an instruction reads, or writes.
-/
namespace Go.Proofs.YtgnpbedhpkmkfaaDoor.CoT
open Go Go.RowKit Kit Bk CoM CoR CoB CoW CoI CoF IsaM IsaT IsaL IsaC IsaE IsaN
set_option linter.unusedVariables false

theorem below3 {n : Nat} {w w1 : World} (D : Below n w w1) (g : Nat) (hg : n ≤ g) (x0 x1 x2 : Value) :
    Below n w (((w1.setCell ⟨g, 0, none⟩ x0).setCell ⟨g, 1, none⟩ x1).setCell ⟨g, 2, none⟩ x2) :=
  ((D.setCell (p := ⟨g, 0, none⟩) hg _).setCell (p := ⟨g, 1, none⟩) hg _).setCell (p := ⟨g, 2, none⟩) hg _

def tv (k b : Nat) (i : Int) (s : St) : Value := if isMem k then plc (memAt k b i s) (lng k) (wrt k) else plc 0 0 false

set_option maxRecDepth 100000 in
set_option maxHeartbeats 1000000 in
theorem touched_any (w : World) (k a b : Nat) (i : Int) (hb : b < 8) (s : St) (hs : s.Ok) :
    Calls Tryd.prog 24 #[insV (k : Nat) (a : Nat) (b : Nat) i, cv s] w fun e w' => e = .returned (tv k b i s) ∧ Below w.heap.size w w' := by
  have hr0 := hs.r0 b
  have hcr := cs_r s hb
  have hbi : (b : Int) < 8 := by omega
  have hbi0 : (0 : Int) ≤ (b : Int) := by omega
  have hr1 := hs.r1 b
  have X1 := (Blk.new w #[.int .i64 (k : Int), .int .i64 (a : Int), .int .i64 (b : Int), .int .i64 i] 61).below ((Below.refl _ _).alloc (Nat.le_refl _) (.cells (cs s) 30))
  have X2 := Blk.new (w.alloc (.cells #[.int .i64 (k : Int), .int .i64 (a : Int), .int .i64 (b : Int), .int .i64 i] 61)) (cs s) 30
  rw [World.size_alloc] at X2
  have x0 := X2.cell b
  rw [cs_r s hb] at x0
  unfold insV
  have B3 := (((Below.refl w.heap.size w).alloc (Nat.le_refl _) (.cells #[.int .i64 (k : Int), .int .i64 (a : Int), .int .i64 (b : Int), .int .i64 i] 61)).alloc (by simp) (.cells (cs s) 30)).alloc (by simp <;> omega) (.cells #[.int .u32 0, .int .i64 0, .bool false] 71)
  clear X1 X2 x0
  by_cases h15 : k = 15
  · subst h15
    go_enter Tryd.func24, Tryd.ntmps24
    go_wp2
    go_quiet (fail)
    go_wp2
    exact bodyPost_ret (v := plc ((s.r b + i) % 4294967296) 4 false) (by simp [results, Tryd.results24, go_sem]) rfl ⟨by unfold tv memAt m32; simp [isMem, lng, wrt], below3 (B3.trans (drew_below _ _ _)) _ (by omega) _ _ _⟩
  by_cases h16 : k = 16
  · subst h16
    go_enter Tryd.func24, Tryd.ntmps24
    go_wp2
    go_quiet (fail)
    go_wp2
    exact bodyPost_ret (v := plc ((s.r b + i) % 4294967296) 4 true) (by simp [results, Tryd.results24, go_sem]) rfl ⟨by unfold tv memAt m32; simp [isMem, lng, wrt], below3 (B3.trans (drew_below _ _ _)) _ (by omega) _ _ _⟩
  by_cases h17 : k = 17
  · subst h17
    go_enter Tryd.func24, Tryd.ntmps24
    go_wp2
    go_quiet (fail)
    go_wp2
    exact bodyPost_ret (v := plc ((s.r b + i) % 4294967296) 1 false) (by simp [results, Tryd.results24, go_sem]) rfl ⟨by unfold tv memAt m32; simp [isMem, lng, wrt], below3 (B3.trans (drew_below _ _ _)) _ (by omega) _ _ _⟩
  by_cases h18 : k = 18
  · subst h18
    go_enter Tryd.func24, Tryd.ntmps24
    go_wp2
    go_quiet (fail)
    go_wp2
    exact bodyPost_ret (v := plc ((s.r b + i) % 4294967296) 1 true) (by simp [results, Tryd.results24, go_sem]) rfl ⟨by unfold tv memAt m32; simp [isMem, lng, wrt], below3 (B3.trans (drew_below _ _ _)) _ (by omega) _ _ _⟩
  · have HT : Hid (Ending.returned (plc 0 0 false) = .returned (tv k b i s)) := Lib.hid (by unfold tv isMem; simp [h15, h16, h17, h18])
    have e15 : ((k : Int) == 15) = false := by simp; omega
    have e16 : ((k : Int) == 16) = false := by simp; omega
    have e17 : ((k : Int) == 17) = false := by simp; omega
    have e18 : ((k : Int) == 18) = false := by simp; omega
    clear h15 h16 h17 h18
    go_enter Tryd.func24, Tryd.ntmps24
    go_wp2
    go_quiet (fail)
    go_wp2
    exact bodyPost_ret (v := plc 0 0 false) (by simp [results, Tryd.results24, go_sem]) rfl ⟨HT.out, below3 (B3.trans (drew_below _ _ _)) _ (by omega) _ _ _⟩
end Go.Proofs.YtgnpbedhpkmkfaaDoor.CoT
