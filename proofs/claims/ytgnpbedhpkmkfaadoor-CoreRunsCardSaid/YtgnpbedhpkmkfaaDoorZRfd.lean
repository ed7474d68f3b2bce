/-
  The document's own: Touches.
-/
import Derived.Test.YtgnpbedhpkmkfaaDoorZRfa
import Derived.BigQuiet
namespace Go.Proofs.YtgnpbedhpkmkfaaDoor.RfD
open Go Go.RowKit Kit Bk CoM CoR CoB CoW CoI CoF CoT CoU CoV CoC CoE IsaM IsaT IsaL IsaC IsaE IsaN RfA Rc
set_option linter.unusedVariables false

set_option maxRecDepth 100000 in
set_option maxHeartbeats 1000000 in
theorem rt_un (w : World) (sv : Value) (s : St) (p n : Nat) (hp : s.pc = (p : Int)) (is : Bool) (o a c i e : Int)
    (HW : Hid (∀ wx, Below w.heap.size w wx → Calls Tryd.prog 25 #[sv, uv (p : Int)] wx fun e' w' => e' = .returned (.tuple #[uv (n : Int), .bool is]) ∧ wx = w'))
    (HD : Hid (∀ wx, Calls Tryd.prog 26 #[uv (n : Int)] wx fun e' w' => e' = .returned (.tuple #[.agg #[.int .i64 o, .int .i64 a, .int .i64 c, .int .i64 i], .int .i64 e]) ∧ Below wx.heap.size wx w')) (h4 : ((p : Int) % 4 != 0) = true) :
    Calls Tryd.prog 11 #[cv s, sv] w fun e' w' => e' = .returned (.tuple #[uv 0, .int .i64 0, .bool false]) ∧ Below w.heap.size w w' := by
  have hcp := cs_pc s
  rw [hp] at hcp
  have B1 := (Below.refl w.heap.size w).alloc (Nat.le_refl _) (.cells (cs s) 30)
  have C1 := Blk.new w (cs s) 30
  go_enter Tryd.func11, Tryd.ntmps11
  go_wp2_with (first | (go_at_call 25; (with_reducible refine (HW.out _ B1).mono ?_); rintro e' w1 ⟨rfl, rfl⟩) | (go_at_call 26; (with_reducible refine (HD.out _).mono ?_); rintro e' w1 ⟨rfl, hb1⟩; refine Hid.out ?_))
  refine Lib.hid ?_
  have D1 := B1.trans (hb1.mono B1.size)
  have D2 := D1.alloc D1.size (.cells #[.int .i64 o, .int .i64 a, .int .i64 c, .int .i64 i] 61)
  have C2 := (C1.below hb1).below ((Below.refl _ _).alloc (Nat.le_refl _) (.cells #[.int .i64 o, .int .i64 a, .int .i64 c, .int .i64 i] 61))
  have x10 := (C2.cell 10).trans hcp
  clear B1 C1 D1 C2 hb1
  go_wp2
  go_ret3
  exact ⟨rfl, D2⟩

set_option maxRecDepth 100000 in
set_option maxHeartbeats 1000000 in
theorem rt_is (w : World) (sv : Value) (s : St) (p n : Nat) (hp : s.pc = (p : Int)) (is : Bool) (o a c i e : Int)
    (HW : Hid (∀ wx, Below w.heap.size w wx → Calls Tryd.prog 25 #[sv, uv (p : Int)] wx fun e' w' => e' = .returned (.tuple #[uv (n : Int), .bool false]) ∧ wx = w'))
    (HD : Hid (∀ wx, Calls Tryd.prog 26 #[uv (n : Int)] wx fun e' w' => e' = .returned (.tuple #[.agg #[.int .i64 o, .int .i64 a, .int .i64 c, .int .i64 i], .int .i64 e]) ∧ Below wx.heap.size wx w')) (h4 : ((p : Int) % 4 != 0) = false) :
    Calls Tryd.prog 11 #[cv s, sv] w fun e' w' => e' = .returned (.tuple #[uv 0, .int .i64 0, .bool false]) ∧ Below w.heap.size w w' := by
  have hcp := cs_pc s
  rw [hp] at hcp
  have B1 := (Below.refl w.heap.size w).alloc (Nat.le_refl _) (.cells (cs s) 30)
  have C1 := Blk.new w (cs s) 30
  go_enter Tryd.func11, Tryd.ntmps11
  go_wp2_with (first | (go_at_call 25; (with_reducible refine (HW.out _ B1).mono ?_); rintro e' w1 ⟨rfl, rfl⟩) | (go_at_call 26; (with_reducible refine (HD.out _).mono ?_); rintro e' w1 ⟨rfl, hb1⟩; refine Hid.out ?_))
  refine Lib.hid ?_
  have D1 := B1.trans (hb1.mono B1.size)
  have D2 := D1.alloc D1.size (.cells #[.int .i64 o, .int .i64 a, .int .i64 c, .int .i64 i] 61)
  have C2 := (C1.below hb1).below ((Below.refl _ _).alloc (Nat.le_refl _) (.cells #[.int .i64 o, .int .i64 a, .int .i64 c, .int .i64 i] 61))
  have x10 := (C2.cell 10).trans hcp
  clear B1 C1 D1 C2 hb1
  go_wp2
  go_ret3
  exact ⟨rfl, D2⟩

set_option maxRecDepth 100000 in
set_option maxHeartbeats 1000000 in
theorem rt_e (w : World) (sv : Value) (s : St) (p n : Nat) (hp : s.pc = (p : Int)) (is : Bool) (o a c i e : Int)
    (HW : Hid (∀ wx, Below w.heap.size w wx → Calls Tryd.prog 25 #[sv, uv (p : Int)] wx fun e' w' => e' = .returned (.tuple #[uv (n : Int), .bool true]) ∧ wx = w'))
    (HD : Hid (∀ wx, Calls Tryd.prog 26 #[uv (n : Int)] wx fun e' w' => e' = .returned (.tuple #[.agg #[.int .i64 o, .int .i64 a, .int .i64 c, .int .i64 i], .int .i64 e]) ∧ Below wx.heap.size wx w')) (h4 : ((p : Int) % 4 != 0) = false) (he : (e != 0) = true) :
    Calls Tryd.prog 11 #[cv s, sv] w fun e' w' => e' = .returned (.tuple #[uv 0, .int .i64 0, .bool false]) ∧ Below w.heap.size w w' := by
  have hcp := cs_pc s
  rw [hp] at hcp
  have B1 := (Below.refl w.heap.size w).alloc (Nat.le_refl _) (.cells (cs s) 30)
  have C1 := Blk.new w (cs s) 30
  go_enter Tryd.func11, Tryd.ntmps11
  go_wp2_with (first | (go_at_call 25; (with_reducible refine (HW.out _ B1).mono ?_); rintro e' w1 ⟨rfl, rfl⟩) | (go_at_call 26; (with_reducible refine (HD.out _).mono ?_); rintro e' w1 ⟨rfl, hb1⟩; refine Hid.out ?_))
  refine Lib.hid ?_
  have D1 := B1.trans (hb1.mono B1.size)
  have D2 := D1.alloc D1.size (.cells #[.int .i64 o, .int .i64 a, .int .i64 c, .int .i64 i] 61)
  have C2 := (C1.below hb1).below ((Below.refl _ _).alloc (Nat.le_refl _) (.cells #[.int .i64 o, .int .i64 a, .int .i64 c, .int .i64 i] 61))
  have x10 := (C2.cell 10).trans hcp
  clear B1 C1 D1 C2 hb1
  go_wp2
  go_ret3
  exact ⟨rfl, D2⟩

set_option maxRecDepth 100000 in
set_option maxHeartbeats 1000000 in
theorem rt_lo (w : World) (sv : Value) (s : St) (p n : Nat) (hp : s.pc = (p : Int)) (is : Bool) (o a c i e : Int)
    (HW : Hid (∀ wx, Below w.heap.size w wx → Calls Tryd.prog 25 #[sv, uv (p : Int)] wx fun e' w' => e' = .returned (.tuple #[uv (n : Int), .bool true]) ∧ wx = w'))
    (HD : Hid (∀ wx, Calls Tryd.prog 26 #[uv (n : Int)] wx fun e' w' => e' = .returned (.tuple #[.agg #[.int .i64 o, .int .i64 a, .int .i64 c, .int .i64 i], .int .i64 0]) ∧ Below wx.heap.size wx w')) (h4 : ((p : Int) % 4 != 0) = false) (ho : decide (o < 15) = true) :
    Calls Tryd.prog 11 #[cv s, sv] w fun e' w' => e' = .returned (.tuple #[uv 0, .int .i64 0, .bool false]) ∧ Below w.heap.size w w' := by
  have hcp := cs_pc s
  rw [hp] at hcp
  have B1 := (Below.refl w.heap.size w).alloc (Nat.le_refl _) (.cells (cs s) 30)
  have C1 := Blk.new w (cs s) 30
  go_enter Tryd.func11, Tryd.ntmps11
  go_wp2_with (first | (go_at_call 25; (with_reducible refine (HW.out _ B1).mono ?_); rintro e' w1 ⟨rfl, rfl⟩) | (go_at_call 26; (with_reducible refine (HD.out _).mono ?_); rintro e' w1 ⟨rfl, hb1⟩; refine Hid.out ?_))
  refine Lib.hid ?_
  have D1 := B1.trans (hb1.mono B1.size)
  have D2 := D1.alloc D1.size (.cells #[.int .i64 o, .int .i64 a, .int .i64 c, .int .i64 i] 61)
  have C2 := (C1.below hb1).below ((Below.refl _ _).alloc (Nat.le_refl _) (.cells #[.int .i64 o, .int .i64 a, .int .i64 c, .int .i64 i] 61))
  have x10 := (C2.cell 10).trans hcp
  clear B1 C1 D1 C2 hb1
  go_wp2
  go_ret3
  exact ⟨rfl, D2⟩

set_option maxRecDepth 100000 in
set_option maxHeartbeats 1000000 in
theorem rt_hi (w : World) (sv : Value) (s : St) (p n : Nat) (hp : s.pc = (p : Int)) (is : Bool) (o a c i e : Int)
    (HW : Hid (∀ wx, Below w.heap.size w wx → Calls Tryd.prog 25 #[sv, uv (p : Int)] wx fun e' w' => e' = .returned (.tuple #[uv (n : Int), .bool true]) ∧ wx = w'))
    (HD : Hid (∀ wx, Calls Tryd.prog 26 #[uv (n : Int)] wx fun e' w' => e' = .returned (.tuple #[.agg #[.int .i64 o, .int .i64 a, .int .i64 c, .int .i64 i], .int .i64 0]) ∧ Below wx.heap.size wx w')) (h4 : ((p : Int) % 4 != 0) = false) (ho : decide (o < 15) = false) (ho2 : decide (18 < o) = true) :
    Calls Tryd.prog 11 #[cv s, sv] w fun e' w' => e' = .returned (.tuple #[uv 0, .int .i64 0, .bool false]) ∧ Below w.heap.size w w' := by
  have hcp := cs_pc s
  rw [hp] at hcp
  have B1 := (Below.refl w.heap.size w).alloc (Nat.le_refl _) (.cells (cs s) 30)
  have C1 := Blk.new w (cs s) 30
  go_enter Tryd.func11, Tryd.ntmps11
  go_wp2_with (first | (go_at_call 25; (with_reducible refine (HW.out _ B1).mono ?_); rintro e' w1 ⟨rfl, rfl⟩) | (go_at_call 26; (with_reducible refine (HD.out _).mono ?_); rintro e' w1 ⟨rfl, hb1⟩; refine Hid.out ?_))
  refine Lib.hid ?_
  have D1 := B1.trans (hb1.mono B1.size)
  have D2 := D1.alloc D1.size (.cells #[.int .i64 o, .int .i64 a, .int .i64 c, .int .i64 i] 61)
  have C2 := (C1.below hb1).below ((Below.refl _ _).alloc (Nat.le_refl _) (.cells #[.int .i64 o, .int .i64 a, .int .i64 c, .int .i64 i] 61))
  have x10 := (C2.cell 10).trans hcp
  clear B1 C1 D1 C2 hb1
  go_wp2
  go_ret3
  exact ⟨rfl, D2⟩

set_option maxRecDepth 100000 in
set_option maxHeartbeats 1000000 in
theorem rt_15 (w : World) (sv : Value) (s : St) (p n : Nat) (hp : s.pc = (p : Int)) (is : Bool) (a i : Int) (b : Nat)
    (HW : Hid (∀ wx, Below w.heap.size w wx → Calls Tryd.prog 25 #[sv, uv (p : Int)] wx fun e' w' => e' = .returned (.tuple #[uv (n : Int), .bool true]) ∧ wx = w'))
    (HD : Hid (∀ wx, Calls Tryd.prog 26 #[uv (n : Int)] wx fun e' w' => e' = .returned (.tuple #[.agg #[.int .i64 15, .int .i64 a, .int .i64 (b : Int), .int .i64 i], .int .i64 0]) ∧ Below wx.heap.size wx w')) (h4 : ((p : Int) % 4 != 0) = false) (hb : b < 8) (hi : -32768 ≤ i ∧ i ≤ 32767) :
    Calls Tryd.prog 11 #[cv s, sv] w fun e' w' => e' = .returned (.tuple #[uv (m32 (s.r b + m32 i)), .int .i64 4, .bool false]) ∧ Below w.heap.size w w' := by
  have hcp := cs_pc s
  rw [hp] at hcp
  have hcr := cs_r s hb
  have hbi : (b : Int) < 8 := by omega
  have hbi0 : (0 : Int) ≤ (b : Int) := by omega
  have B1 := (Below.refl w.heap.size w).alloc (Nat.le_refl _) (.cells (cs s) 30)
  have C1 := Blk.new w (cs s) 30
  go_enter Tryd.func11, Tryd.ntmps11
  go_wp2_with (first | (go_at_call 25; (with_reducible refine (HW.out _ B1).mono ?_); rintro e' w1 ⟨rfl, rfl⟩) | (go_at_call 26; (with_reducible refine (HD.out _).mono ?_); rintro e' w1 ⟨rfl, hb1⟩; refine Hid.out ?_))
  refine Lib.hid ?_
  have D1 := B1.trans (hb1.mono B1.size)
  have D2 := D1.alloc D1.size (.cells #[.int .i64 15, .int .i64 a, .int .i64 (b : Int), .int .i64 i] 61)
  have C2 := (C1.below hb1).below ((Below.refl _ _).alloc (Nat.le_refl _) (.cells #[.int .i64 15, .int .i64 a, .int .i64 (b : Int), .int .i64 i] 61))
  have x10 := (C2.cell 10).trans hcp
  have xc := (C2.cell b).trans hcr
  clear B1 C1 D1 C2 hb1
  go_wp2
  go_quiet ((go_at_call 27; exact quiet (imm_any i hi _)))
  go_wp2
  go_ret3
  refine ⟨?_, D2.trans (drew_below _ _ _)⟩
  exact rfl

set_option maxRecDepth 100000 in
set_option maxHeartbeats 1000000 in
theorem rt_16 (w : World) (sv : Value) (s : St) (p n : Nat) (hp : s.pc = (p : Int)) (is : Bool) (a i : Int) (b : Nat)
    (HW : Hid (∀ wx, Below w.heap.size w wx → Calls Tryd.prog 25 #[sv, uv (p : Int)] wx fun e' w' => e' = .returned (.tuple #[uv (n : Int), .bool true]) ∧ wx = w'))
    (HD : Hid (∀ wx, Calls Tryd.prog 26 #[uv (n : Int)] wx fun e' w' => e' = .returned (.tuple #[.agg #[.int .i64 16, .int .i64 a, .int .i64 (b : Int), .int .i64 i], .int .i64 0]) ∧ Below wx.heap.size wx w')) (h4 : ((p : Int) % 4 != 0) = false) (hb : b < 8) (hi : -32768 ≤ i ∧ i ≤ 32767) :
    Calls Tryd.prog 11 #[cv s, sv] w fun e' w' => e' = .returned (.tuple #[uv (m32 (s.r b + m32 i)), .int .i64 4, .bool true]) ∧ Below w.heap.size w w' := by
  have hcp := cs_pc s
  rw [hp] at hcp
  have hcr := cs_r s hb
  have hbi : (b : Int) < 8 := by omega
  have hbi0 : (0 : Int) ≤ (b : Int) := by omega
  have B1 := (Below.refl w.heap.size w).alloc (Nat.le_refl _) (.cells (cs s) 30)
  have C1 := Blk.new w (cs s) 30
  go_enter Tryd.func11, Tryd.ntmps11
  go_wp2_with (first | (go_at_call 25; (with_reducible refine (HW.out _ B1).mono ?_); rintro e' w1 ⟨rfl, rfl⟩) | (go_at_call 26; (with_reducible refine (HD.out _).mono ?_); rintro e' w1 ⟨rfl, hb1⟩; refine Hid.out ?_))
  refine Lib.hid ?_
  have D1 := B1.trans (hb1.mono B1.size)
  have D2 := D1.alloc D1.size (.cells #[.int .i64 16, .int .i64 a, .int .i64 (b : Int), .int .i64 i] 61)
  have C2 := (C1.below hb1).below ((Below.refl _ _).alloc (Nat.le_refl _) (.cells #[.int .i64 16, .int .i64 a, .int .i64 (b : Int), .int .i64 i] 61))
  have x10 := (C2.cell 10).trans hcp
  have xc := (C2.cell b).trans hcr
  clear B1 C1 D1 C2 hb1
  go_wp2
  go_quiet ((go_at_call 27; exact quiet (imm_any i hi _)))
  go_wp2
  go_ret3
  refine ⟨?_, D2.trans (drew_below _ _ _)⟩
  exact rfl

set_option maxRecDepth 100000 in
set_option maxHeartbeats 1000000 in
theorem rt_17 (w : World) (sv : Value) (s : St) (p n : Nat) (hp : s.pc = (p : Int)) (is : Bool) (a i : Int) (b : Nat)
    (HW : Hid (∀ wx, Below w.heap.size w wx → Calls Tryd.prog 25 #[sv, uv (p : Int)] wx fun e' w' => e' = .returned (.tuple #[uv (n : Int), .bool true]) ∧ wx = w'))
    (HD : Hid (∀ wx, Calls Tryd.prog 26 #[uv (n : Int)] wx fun e' w' => e' = .returned (.tuple #[.agg #[.int .i64 17, .int .i64 a, .int .i64 (b : Int), .int .i64 i], .int .i64 0]) ∧ Below wx.heap.size wx w')) (h4 : ((p : Int) % 4 != 0) = false) (hb : b < 8) (hi : -32768 ≤ i ∧ i ≤ 32767) :
    Calls Tryd.prog 11 #[cv s, sv] w fun e' w' => e' = .returned (.tuple #[uv (m32 (s.r b + m32 i)), .int .i64 1, .bool false]) ∧ Below w.heap.size w w' := by
  have hcp := cs_pc s
  rw [hp] at hcp
  have hcr := cs_r s hb
  have hbi : (b : Int) < 8 := by omega
  have hbi0 : (0 : Int) ≤ (b : Int) := by omega
  have B1 := (Below.refl w.heap.size w).alloc (Nat.le_refl _) (.cells (cs s) 30)
  have C1 := Blk.new w (cs s) 30
  go_enter Tryd.func11, Tryd.ntmps11
  go_wp2_with (first | (go_at_call 25; (with_reducible refine (HW.out _ B1).mono ?_); rintro e' w1 ⟨rfl, rfl⟩) | (go_at_call 26; (with_reducible refine (HD.out _).mono ?_); rintro e' w1 ⟨rfl, hb1⟩; refine Hid.out ?_))
  refine Lib.hid ?_
  have D1 := B1.trans (hb1.mono B1.size)
  have D2 := D1.alloc D1.size (.cells #[.int .i64 17, .int .i64 a, .int .i64 (b : Int), .int .i64 i] 61)
  have C2 := (C1.below hb1).below ((Below.refl _ _).alloc (Nat.le_refl _) (.cells #[.int .i64 17, .int .i64 a, .int .i64 (b : Int), .int .i64 i] 61))
  have x10 := (C2.cell 10).trans hcp
  have xc := (C2.cell b).trans hcr
  clear B1 C1 D1 C2 hb1
  go_wp2
  go_quiet ((go_at_call 27; exact quiet (imm_any i hi _)))
  go_wp2
  go_ret3
  refine ⟨?_, D2.trans (drew_below _ _ _)⟩
  exact rfl

set_option maxRecDepth 100000 in
set_option maxHeartbeats 1000000 in
theorem rt_18 (w : World) (sv : Value) (s : St) (p n : Nat) (hp : s.pc = (p : Int)) (is : Bool) (a i : Int) (b : Nat)
    (HW : Hid (∀ wx, Below w.heap.size w wx → Calls Tryd.prog 25 #[sv, uv (p : Int)] wx fun e' w' => e' = .returned (.tuple #[uv (n : Int), .bool true]) ∧ wx = w'))
    (HD : Hid (∀ wx, Calls Tryd.prog 26 #[uv (n : Int)] wx fun e' w' => e' = .returned (.tuple #[.agg #[.int .i64 18, .int .i64 a, .int .i64 (b : Int), .int .i64 i], .int .i64 0]) ∧ Below wx.heap.size wx w')) (h4 : ((p : Int) % 4 != 0) = false) (hb : b < 8) (hi : -32768 ≤ i ∧ i ≤ 32767) :
    Calls Tryd.prog 11 #[cv s, sv] w fun e' w' => e' = .returned (.tuple #[uv (m32 (s.r b + m32 i)), .int .i64 1, .bool true]) ∧ Below w.heap.size w w' := by
  have hcp := cs_pc s
  rw [hp] at hcp
  have hcr := cs_r s hb
  have hbi : (b : Int) < 8 := by omega
  have hbi0 : (0 : Int) ≤ (b : Int) := by omega
  have B1 := (Below.refl w.heap.size w).alloc (Nat.le_refl _) (.cells (cs s) 30)
  have C1 := Blk.new w (cs s) 30
  go_enter Tryd.func11, Tryd.ntmps11
  go_wp2_with (first | (go_at_call 25; (with_reducible refine (HW.out _ B1).mono ?_); rintro e' w1 ⟨rfl, rfl⟩) | (go_at_call 26; (with_reducible refine (HD.out _).mono ?_); rintro e' w1 ⟨rfl, hb1⟩; refine Hid.out ?_))
  refine Lib.hid ?_
  have D1 := B1.trans (hb1.mono B1.size)
  have D2 := D1.alloc D1.size (.cells #[.int .i64 18, .int .i64 a, .int .i64 (b : Int), .int .i64 i] 61)
  have C2 := (C1.below hb1).below ((Below.refl _ _).alloc (Nat.le_refl _) (.cells #[.int .i64 18, .int .i64 a, .int .i64 (b : Int), .int .i64 i] 61))
  have x10 := (C2.cell 10).trans hcp
  have xc := (C2.cell b).trans hcr
  clear B1 C1 D1 C2 hb1
  go_wp2
  go_quiet ((go_at_call 27; exact quiet (imm_any i hi _)))
  go_wp2
  go_ret3
  refine ⟨?_, D2.trans (drew_below _ _ _)⟩
  exact rfl
end Go.Proofs.YtgnpbedhpkmkfaaDoor.RfD

/-
  The document's Touches, whole; what its memory's worlds keep.
-/
namespace Go.Proofs.YtgnpbedhpkmkfaaDoor.RfE
open Go Go.RowKit Kit Bk CoM CoR CoB CoW CoI CoF CoT CoU CoV CoC CoE IsaM IsaT IsaL IsaC IsaE IsaN RfA Rc RfD
set_option linter.unusedVariables false

theorem rword_any (w : World) (B : Nat) (ad : Option Addr) (cap : Nat) (b : CoM.Bs) (hL : Lies w B ad cap b) (a : Nat) (h1 : a < 4294967296) :
    Calls Tryd.prog 25 #[sl ad b cap, uv (a : Int)] w fun e w' => e = .returned (.tuple #[uv ((if a + 4 ≤ b.length then wordAt b a else 0 : Nat) : Int), .bool (decide (a + 4 ≤ b.length))]) ∧ w = w' := by
  by_cases h : a + 4 ≤ b.length
  · rw [if_pos h, decide_eq_true h]
    exact rword_yes w B ad cap b hL a h1 h
  · rw [if_neg h, decide_eq_false h]
    exact rword_no w B ad cap b hL a h1 h
theorem word0_lt {b : CoM.Bs} (h : ∀ i, at_ b i < 256) (a : Nat) : (if a + 4 ≤ b.length then wordAt b a else 0 : Nat) < 4294967296 := by
  split
  · exact wordAt_lt h a
  · omega
theorem decV_form (n : Nat) : ∃ o a c i e, decV n = .tuple #[.agg #[.int .i64 o, .int .i64 a, .int .i64 c, .int .i64 i], .int .i64 e] := by
  unfold decV
  split
  · exact ⟨_, _, _, _, _, rfl⟩
  · exact ⟨_, _, _, _, _, rfl⟩

theorem rtouches_any (w : World) (B : Nat) (ad : Option Addr) (cap : Nat) (b : CoM.Bs) (hL : Lies w B ad cap b) (s : St) (hs : s.Ok) :
    Calls Tryd.prog 11 #[cv s, sl ad b cap] w fun e w' => e = .returned (.tuple #[uv (touchP s b).1, .int .i64 (touchP s b).2.1, .bool (touchP s b).2.2]) ∧ Below w.heap.size w w' := by
  obtain ⟨p, hp⟩ := Int.eq_ofNat_of_zero_le hs.p0
  have p1 := hs.p1
  rw [hp] at p1
  have hW := fun wx (hb : Below w.heap.size w wx) => rword_any wx B ad cap b (Lies.below hL hb) p (by omega)
  have hD := fun wx => rdec_any _ (word0_lt hL.small p) wx
  by_cases h4 : (p : Int) % 4 = 0
  · have h4' : ((p : Int) % 4 != 0) = false := by simp [h4]
    by_cases h5 : p + 4 ≤ b.length
    · rw [decide_eq_true h5] at hW
      rw [if_pos h5] at hW hD
      have hfw : fetchW s.pc b = some (wordAt b p) := by unfold fetchW; rw [hp, if_pos ⟨by omega, by omega⟩]; rfl
      unfold touchP fetchP
      rw [hfw]
      unfold decV at hD
      cases hm : mayB (dOp (wordAt b p)) (dA (wordAt b p)) (dB (wordAt b p)) (dI (wordAt b p)) with
      | false =>
        simp only [hm, Bool.false_eq_true, if_false] at hD ⊢
        exact rt_e w _ s p _ hp true 0 0 0 0 30 (Lib.hid hW) (Lib.hid hD) h4' rfl
      | true =>
        simp only [hm, if_true] at hD ⊢
        have hm2 : May _ _ _ _ := of_decide_eq_true hm
        have hb := hm2.2.bd
        have h0 := hm2.1
        obtain ⟨k, hk⟩ := Int.eq_ofNat_of_zero_le h0
        obtain ⟨c, hc⟩ := Int.eq_ofNat_of_zero_le (show 0 ≤ dB (wordAt b p) by omega)
        rw [hc] at hD
        have hc7 : c < 8 := by omega
        have hkt : (dOp (wordAt b p)).toNat = k := by omega
        have hct : (dB (wordAt b p)).toNat = c := by omega
        rw [hkt]
        by_cases hlo : k < 15
        · have hn : isMem k = false := by unfold isMem; simp; omega
          rw [hn]
          exact rt_lo w _ s p _ hp true _ _ _ _ 0 (Lib.hid hW) (Lib.hid hD) h4' (decide_eq_true (by omega))
        by_cases hhi : 18 < k
        · have hn : isMem k = false := by unfold isMem; simp; omega
          rw [hn]
          exact rt_hi w _ s p _ hp true _ _ _ _ 0 (Lib.hid hW) (Lib.hid hD) h4' (decide_eq_false (by omega)) (decide_eq_true (by omega))
        have hcs : k = 15 ∨ k = 16 ∨ k = 17 ∨ k = 18 := by omega
        rw [hk] at hD
        rw [hct]
        rcases hcs with rfl | rfl | rfl | rfl
        · exact rt_15 w _ s p _ hp true _ _ c (Lib.hid hW) (Lib.hid hD) h4' hc7 ⟨by omega, by omega⟩
        · exact rt_16 w _ s p _ hp true _ _ c (Lib.hid hW) (Lib.hid hD) h4' hc7 ⟨by omega, by omega⟩
        · exact rt_17 w _ s p _ hp true _ _ c (Lib.hid hW) (Lib.hid hD) h4' hc7 ⟨by omega, by omega⟩
        · exact rt_18 w _ s p _ hp true _ _ c (Lib.hid hW) (Lib.hid hD) h4' hc7 ⟨by omega, by omega⟩
    · rw [decide_eq_false h5] at hW
      rw [if_neg h5] at hW hD
      have hfw : fetchW s.pc b = none := by unfold fetchW; rw [hp, if_neg (by omega)]
      unfold touchP fetchP
      rw [hfw]
      have hd0 : decV 0 = .tuple #[.agg #[.int .i64 0, .int .i64 0, .int .i64 0, .int .i64 0], .int .i64 0] := by kernel_rfl
      rw [hd0] at hD
      exact rt_is w _ s p 0 hp false 0 0 0 0 0 (Lib.hid hW) (Lib.hid hD) h4'
  · have h4' : ((p : Int) % 4 != 0) = true := by simp [h4]
    have hfw : fetchW s.pc b = none := by unfold fetchW; rw [hp, if_neg (by omega)]
    unfold touchP fetchP
    rw [hfw]
    obtain ⟨o, a, c, i, e, hf⟩ := decV_form (if p + 4 ≤ b.length then wordAt b p else 0)
    rw [hf] at hD
    exact rt_un w _ s p _ hp _ o a c i e (Lib.hid hW) (Lib.hid hD) h4'

/-- What the worlds of the document's memory hold. -/
structure Mfr (n X : Nat) (s : St) (k a b i : Int) (d : Array Value) (w1 : World) : Prop where
  x : Blk w1 n #[.int .i64 k, .int .i64 a, .int .i64 b, .int .i64 i] 61
  c : Blk w1 (n + 1) (cs s) 30
  r : Blk w1 (n + 1 + 1) zcs 30
  e : Blk w1 X d 30
  nX : n + 1 + 1 < X
theorem Mfr.below {w1 w2 : World} {n X : Nat} {s : St} {k a b i : Int} {d : Array Value} (h : Mfr n X s k a b i d w1) (hb : Below w1.heap.size w1 w2) : Mfr n X s k a b i d w2 := ⟨h.x.below hb, h.c.below hb, h.r.below hb, h.e.below hb, h.nX⟩
theorem Mfr.kept {w1 w2 : World} {n X B : Nat} {s : St} {k a b i : Int} {d : Array Value} (h : Mfr n X s k a b i d w1) (hb : Kp (fun j => j = B) w1 w2) (hB : B < n) : Mfr n X s k a b i d w2 := ⟨h.x.kept hb (by omega), h.c.kept hb (by omega), h.r.kept hb (by omega), h.e.kept hb (by have := h.nX; omega), h.nX⟩
theorem Mfr.set {w1 : World} {n X : Nat} {s : St} {k a b i : Int} {d : Array Value} (h : Mfr n X s k a b i d w1) (o : Nat) (v : Value) : Mfr n X s k a b i (d.setIfInBounds o v) (w1.setCell ⟨X, o, none⟩ v) :=
  ⟨h.x.other _ _ _ (by have := h.nX; omega), h.c.other _ _ _ (by have := h.nX; omega), h.r.other _ _ _ (by have := h.nX; omega), h.e.set o v, h.nX⟩
theorem Mfr.all {w1 : World} {n X : Nat} {s : St} {k a b i : Int} {d : Array Value} (h : Mfr n X s k a b i d w1) (ds : Array Value) (hs : ds.size = d.size) : Mfr n X s k a b i ds (w1.setCells X 0 ds.toList) :=
  ⟨CoY.Blk.otherAll h.x (by have := h.nX; omega) _ _, CoY.Blk.otherAll h.c (by have := h.nX; omega) _ _, CoY.Blk.otherAll h.r (by have := h.nX; omega) _ _, CoC.Blk.setAll h.e hs, h.nX⟩
/-- A byte written. -/
theorem lies_set {w : World} {B : Nat} {ad : Option Addr} {cap : Nat} {b : CoM.Bs} (h : Lies w B ad cap b) (a v : Nat) (ha : a < b.length) (hv : v < 256) : Lies (w.setCell ⟨B, a, none⟩ (.int .u8 (v : Int))) B ad cap (b.set a v) := by
  refine ⟨by rw [List.length_set]; exact h.le, fun i => ?_, .inr ?_⟩
  · rw [at_set _ _ _ _ ha]
    split
    · exact hv
    · exact h.small i
  · rcases h.row with rfl | ⟨h1, h2, h3, cells, T, h4, h5⟩
    · simp at ha
    · have hsz := (Array.getElem?_eq_some_iff.1 (h5 a ha)).1
      refine ⟨h1, by rw [List.length_set]; exact h2, h3, _, T, h4.set a (.int .u8 (v : Int)), fun i hi => ?_⟩
      rw [List.length_set] at hi
      rw [at_set _ _ _ _ ha, Array.getElem?_setIfInBounds]
      by_cases e : a = i
      · subst e; rw [if_pos rfl, if_pos hsz, if_pos rfl]
      · rw [if_neg e, if_neg e]; exact h5 i hi
end Go.Proofs.YtgnpbedhpkmkfaaDoor.RfE
