/-
  The document's May, way by way (1).
-/
import Derived.Test.YtgnpbedhpkmkfaaDoorZRa
namespace Go.Proofs.YtgnpbedhpkmkfaaDoor.Rb1
open Go Go.RowKit Go.Shelf Kit IsaM IsaT IsaL IsaC IsaE IsaN IsaP Ra Rb0
set_option linter.unusedVariables false
set_option maxRecDepth 100000 in
set_option maxHeartbeats 1000000 in
theorem may_0 (k : Nat) (hk : k < 30) (a b i M M' : Int) (w : World) (HHa : Hid (∀ wx, Calls Tryd.prog 72 #[.string (st (nms k)), .int .u8 97] wx fun e w' => e = .returned (.bool true) ∧ wx = w')) (HMa : Hid (∀ wx, Calls Tryd.prog 73 #[.int .i64 (k : Int), .int .u8 97] wx fun e w' => e = .returned (.int .i64 M) ∧ wx = w')) (ha : a < 0) :
    Calls Tryd.prog 49 #[.agg #[.int .i64 (k : Int), .int .i64 a, .int .i64 b, .int .i64 i]] w fun e w' => e = .returned (.bool false) ∧ Below w.heap.size w w' := by
  have HN := Lib.hid (fun wx => rname_yes k hk wx)
  have HNs := Lib.hid (fun wx => names_in k hk wx)
  have hnl := nms_size k
  have hne := nm_ne k hk
  have B0 := (Below.refl w.heap.size w).alloc (Nat.le_refl _) (.cells #[.int .i64 (k : Int), .int .i64 a, .int .i64 b, .int .i64 i] 61)
  have KX0 := Blk.new w #[.int .i64 (k : Int), .int .i64 a, .int .i64 b, .int .i64 i] 61
  have ga1 : decide (a < 0) = true := decide_eq_true ha
  clear ha
  go_enter Tryd.func49, Tryd.ntmps49
  go_wp2_with (first | (go_at_call 70; ((with_reducible refine (HN.out _).mono ?_); rintro e w1 ⟨rfl, hb1⟩; refine Hid.out ?_)))
  refine Lib.hid ?_
  have D1 := B0.trans (hb1.mono B0.size)
  have KX1 := KX0.below hb1
  have x0 := KX1.cell 0
  have x1 := KX1.cell 1
  have x2 := KX1.cell 2
  have x3 := KX1.cell 3
  clear KX0
  go_wp2_with (first | (go_at_call 71; ((with_reducible refine (HNs.out _).mono ?_); rintro e w2 ⟨rfl, rfl⟩)))
  go_quiet ((first | (go_at_call 72; exact quiet (HHa.out _)) | (go_at_call 73; exact quiet (HMa.out _))))
  go_wp2
  go_ret
  exact ⟨rfl, D1.trans (drew_below _ _ _)⟩
set_option maxRecDepth 100000 in
set_option maxHeartbeats 1000000 in
theorem may_1 (k : Nat) (hk : k < 30) (a b i M M' : Int) (w : World) (HHa : Hid (∀ wx, Calls Tryd.prog 72 #[.string (st (nms k)), .int .u8 97] wx fun e w' => e = .returned (.bool true) ∧ wx = w')) (HMa : Hid (∀ wx, Calls Tryd.prog 73 #[.int .i64 (k : Int), .int .u8 97] wx fun e w' => e = .returned (.int .i64 M) ∧ wx = w')) (ha : 0 ≤ a) (ha2 : M < a) :
    Calls Tryd.prog 49 #[.agg #[.int .i64 (k : Int), .int .i64 a, .int .i64 b, .int .i64 i]] w fun e w' => e = .returned (.bool false) ∧ Below w.heap.size w w' := by
  have HN := Lib.hid (fun wx => rname_yes k hk wx)
  have HNs := Lib.hid (fun wx => names_in k hk wx)
  have hnl := nms_size k
  have hne := nm_ne k hk
  have B0 := (Below.refl w.heap.size w).alloc (Nat.le_refl _) (.cells #[.int .i64 (k : Int), .int .i64 a, .int .i64 b, .int .i64 i] 61)
  have KX0 := Blk.new w #[.int .i64 (k : Int), .int .i64 a, .int .i64 b, .int .i64 i] 61
  have ga1 : decide (a < 0) = false := decide_eq_false (by omega)
  have ga2 : decide (M < a) = true := decide_eq_true ha2
  clear ha ha2
  go_enter Tryd.func49, Tryd.ntmps49
  go_wp2_with (first | (go_at_call 70; ((with_reducible refine (HN.out _).mono ?_); rintro e w1 ⟨rfl, hb1⟩; refine Hid.out ?_)))
  refine Lib.hid ?_
  have D1 := B0.trans (hb1.mono B0.size)
  have KX1 := KX0.below hb1
  have x0 := KX1.cell 0
  have x1 := KX1.cell 1
  have x2 := KX1.cell 2
  have x3 := KX1.cell 3
  clear KX0
  go_wp2_with (first | (go_at_call 71; ((with_reducible refine (HNs.out _).mono ?_); rintro e w2 ⟨rfl, rfl⟩)))
  go_quiet ((first | (go_at_call 72; exact quiet (HHa.out _)) | (go_at_call 73; exact quiet (HMa.out _))))
  go_wp2
  go_ret
  exact ⟨rfl, D1.trans (drew_below _ _ _)⟩
set_option maxRecDepth 100000 in
set_option maxHeartbeats 1000000 in
theorem may_2 (k : Nat) (hk : k < 30) (a b i M M' : Int) (w : World) (HHa : Hid (∀ wx, Calls Tryd.prog 72 #[.string (st (nms k)), .int .u8 97] wx fun e w' => e = .returned (.bool false) ∧ wx = w')) (HMa : Hid (∀ wx, Calls Tryd.prog 73 #[.int .i64 (k : Int), .int .u8 97] wx fun e w' => e = .returned (.int .i64 M) ∧ wx = w')) (ha : a ≠ 0) :
    Calls Tryd.prog 49 #[.agg #[.int .i64 (k : Int), .int .i64 a, .int .i64 b, .int .i64 i]] w fun e w' => e = .returned (.bool false) ∧ Below w.heap.size w w' := by
  have HN := Lib.hid (fun wx => rname_yes k hk wx)
  have HNs := Lib.hid (fun wx => names_in k hk wx)
  have hnl := nms_size k
  have hne := nm_ne k hk
  have B0 := (Below.refl w.heap.size w).alloc (Nat.le_refl _) (.cells #[.int .i64 (k : Int), .int .i64 a, .int .i64 b, .int .i64 i] 61)
  have KX0 := Blk.new w #[.int .i64 (k : Int), .int .i64 a, .int .i64 b, .int .i64 i] 61
  have hqa : (a == 0) = false := by rw [beq_eq_false_iff_ne]; exact ha
  go_enter Tryd.func49, Tryd.ntmps49
  go_wp2_with (first | (go_at_call 70; ((with_reducible refine (HN.out _).mono ?_); rintro e w1 ⟨rfl, hb1⟩; refine Hid.out ?_)))
  refine Lib.hid ?_
  have D1 := B0.trans (hb1.mono B0.size)
  have KX1 := KX0.below hb1
  have x0 := KX1.cell 0
  have x1 := KX1.cell 1
  have x2 := KX1.cell 2
  have x3 := KX1.cell 3
  clear KX0
  go_wp2_with (first | (go_at_call 71; ((with_reducible refine (HNs.out _).mono ?_); rintro e w2 ⟨rfl, rfl⟩)))
  go_quiet ((first | (go_at_call 72; exact quiet (HHa.out _)) | (go_at_call 73; exact quiet (HMa.out _))))
  go_wp2
  go_ret
  exact ⟨rfl, D1.trans (drew_below _ _ _)⟩
set_option maxRecDepth 100000 in
set_option maxHeartbeats 1000000 in
theorem may_30 (k : Nat) (hk : k < 30) (a b i M M' : Int) (w : World) (HHa : Hid (∀ wx, Calls Tryd.prog 72 #[.string (st (nms k)), .int .u8 97] wx fun e w' => e = .returned (.bool true) ∧ wx = w')) (HMa : Hid (∀ wx, Calls Tryd.prog 73 #[.int .i64 (k : Int), .int .u8 97] wx fun e w' => e = .returned (.int .i64 M) ∧ wx = w')) (ha : 0 ≤ a) (ha2 : a ≤ M) (HHb : Hid (∀ wx, Calls Tryd.prog 72 #[.string (st (nms k)), .int .u8 98] wx fun e w' => e = .returned (.bool true) ∧ wx = w')) (HMb : Hid (∀ wx, Calls Tryd.prog 73 #[.int .i64 (k : Int), .int .u8 98] wx fun e w' => e = .returned (.int .i64 M') ∧ wx = w')) (hb : b < 0) :
    Calls Tryd.prog 49 #[.agg #[.int .i64 (k : Int), .int .i64 a, .int .i64 b, .int .i64 i]] w fun e w' => e = .returned (.bool false) ∧ Below w.heap.size w w' := by
  have HN := Lib.hid (fun wx => rname_yes k hk wx)
  have HNs := Lib.hid (fun wx => names_in k hk wx)
  have hnl := nms_size k
  have hne := nm_ne k hk
  have B0 := (Below.refl w.heap.size w).alloc (Nat.le_refl _) (.cells #[.int .i64 (k : Int), .int .i64 a, .int .i64 b, .int .i64 i] 61)
  have KX0 := Blk.new w #[.int .i64 (k : Int), .int .i64 a, .int .i64 b, .int .i64 i] 61
  have ga1 : decide (a < 0) = false := decide_eq_false (by omega)
  have ga2 : decide (M < a) = false := decide_eq_false (by omega)
  clear ha ha2
  have gb1 : decide (b < 0) = true := decide_eq_true hb
  clear hb
  go_enter Tryd.func49, Tryd.ntmps49
  go_wp2_with (first | (go_at_call 70; ((with_reducible refine (HN.out _).mono ?_); rintro e w1 ⟨rfl, hb1⟩; refine Hid.out ?_)))
  refine Lib.hid ?_
  have D1 := B0.trans (hb1.mono B0.size)
  have KX1 := KX0.below hb1
  have x0 := KX1.cell 0
  have x1 := KX1.cell 1
  have x2 := KX1.cell 2
  have x3 := KX1.cell 3
  clear KX0
  go_wp2_with (first | (go_at_call 71; ((with_reducible refine (HNs.out _).mono ?_); rintro e w2 ⟨rfl, rfl⟩)))
  go_quiet ((first | (go_at_call 72; exact quiet (HHa.out _)) | (go_at_call 73; exact quiet (HMa.out _))))
  have b2 : Below w1.heap.size w1 (w1.drewN nq) := drew_below _ _ _
  have D2 := D1.trans (b2.mono D1.size)
  have KX2 := KX1.below b2
  clear x0 x1 x2 x3 b2
  generalize w1.drewN nq = w2 at D2 KX2 ⊢
  have x0 := KX2.cell 0
  have x1 := KX2.cell 1
  have x2 := KX2.cell 2
  have x3 := KX2.cell 3
  go_wp2
  go_quiet ((first | (go_at_call 72; exact quiet (HHb.out _)) | (go_at_call 73; exact quiet (HMb.out _))))
  go_wp2
  go_ret
  exact ⟨rfl, D2.trans (drew_below _ _ _)⟩
set_option maxRecDepth 100000 in
set_option maxHeartbeats 1000000 in
theorem may_31 (k : Nat) (hk : k < 30) (a b i M M' : Int) (w : World) (HHa : Hid (∀ wx, Calls Tryd.prog 72 #[.string (st (nms k)), .int .u8 97] wx fun e w' => e = .returned (.bool true) ∧ wx = w')) (HMa : Hid (∀ wx, Calls Tryd.prog 73 #[.int .i64 (k : Int), .int .u8 97] wx fun e w' => e = .returned (.int .i64 M) ∧ wx = w')) (ha : 0 ≤ a) (ha2 : a ≤ M) (HHb : Hid (∀ wx, Calls Tryd.prog 72 #[.string (st (nms k)), .int .u8 98] wx fun e w' => e = .returned (.bool true) ∧ wx = w')) (HMb : Hid (∀ wx, Calls Tryd.prog 73 #[.int .i64 (k : Int), .int .u8 98] wx fun e w' => e = .returned (.int .i64 M') ∧ wx = w')) (hb : 0 ≤ b) (hb2 : M' < b) :
    Calls Tryd.prog 49 #[.agg #[.int .i64 (k : Int), .int .i64 a, .int .i64 b, .int .i64 i]] w fun e w' => e = .returned (.bool false) ∧ Below w.heap.size w w' := by
  have HN := Lib.hid (fun wx => rname_yes k hk wx)
  have HNs := Lib.hid (fun wx => names_in k hk wx)
  have hnl := nms_size k
  have hne := nm_ne k hk
  have B0 := (Below.refl w.heap.size w).alloc (Nat.le_refl _) (.cells #[.int .i64 (k : Int), .int .i64 a, .int .i64 b, .int .i64 i] 61)
  have KX0 := Blk.new w #[.int .i64 (k : Int), .int .i64 a, .int .i64 b, .int .i64 i] 61
  have ga1 : decide (a < 0) = false := decide_eq_false (by omega)
  have ga2 : decide (M < a) = false := decide_eq_false (by omega)
  clear ha ha2
  have gb1 : decide (b < 0) = false := decide_eq_false (by omega)
  have gb2 : decide (M' < b) = true := decide_eq_true hb2
  clear hb hb2
  go_enter Tryd.func49, Tryd.ntmps49
  go_wp2_with (first | (go_at_call 70; ((with_reducible refine (HN.out _).mono ?_); rintro e w1 ⟨rfl, hb1⟩; refine Hid.out ?_)))
  refine Lib.hid ?_
  have D1 := B0.trans (hb1.mono B0.size)
  have KX1 := KX0.below hb1
  have x0 := KX1.cell 0
  have x1 := KX1.cell 1
  have x2 := KX1.cell 2
  have x3 := KX1.cell 3
  clear KX0
  go_wp2_with (first | (go_at_call 71; ((with_reducible refine (HNs.out _).mono ?_); rintro e w2 ⟨rfl, rfl⟩)))
  go_quiet ((first | (go_at_call 72; exact quiet (HHa.out _)) | (go_at_call 73; exact quiet (HMa.out _))))
  have b2 : Below w1.heap.size w1 (w1.drewN nq) := drew_below _ _ _
  have D2 := D1.trans (b2.mono D1.size)
  have KX2 := KX1.below b2
  clear x0 x1 x2 x3 b2
  generalize w1.drewN nq = w2 at D2 KX2 ⊢
  have x0 := KX2.cell 0
  have x1 := KX2.cell 1
  have x2 := KX2.cell 2
  have x3 := KX2.cell 3
  go_wp2
  go_quiet ((first | (go_at_call 72; exact quiet (HHb.out _)) | (go_at_call 73; exact quiet (HMb.out _))))
  go_wp2
  go_ret
  exact ⟨rfl, D2.trans (drew_below _ _ _)⟩
set_option maxRecDepth 100000 in
set_option maxHeartbeats 1000000 in
theorem may_32 (k : Nat) (hk : k < 30) (a b i M M' : Int) (w : World) (HHa : Hid (∀ wx, Calls Tryd.prog 72 #[.string (st (nms k)), .int .u8 97] wx fun e w' => e = .returned (.bool true) ∧ wx = w')) (HMa : Hid (∀ wx, Calls Tryd.prog 73 #[.int .i64 (k : Int), .int .u8 97] wx fun e w' => e = .returned (.int .i64 M) ∧ wx = w')) (ha : 0 ≤ a) (ha2 : a ≤ M) (HHb : Hid (∀ wx, Calls Tryd.prog 72 #[.string (st (nms k)), .int .u8 98] wx fun e w' => e = .returned (.bool false) ∧ wx = w')) (HMb : Hid (∀ wx, Calls Tryd.prog 73 #[.int .i64 (k : Int), .int .u8 98] wx fun e w' => e = .returned (.int .i64 M') ∧ wx = w')) (hb : b ≠ 0) :
    Calls Tryd.prog 49 #[.agg #[.int .i64 (k : Int), .int .i64 a, .int .i64 b, .int .i64 i]] w fun e w' => e = .returned (.bool false) ∧ Below w.heap.size w w' := by
  have HN := Lib.hid (fun wx => rname_yes k hk wx)
  have HNs := Lib.hid (fun wx => names_in k hk wx)
  have hnl := nms_size k
  have hne := nm_ne k hk
  have B0 := (Below.refl w.heap.size w).alloc (Nat.le_refl _) (.cells #[.int .i64 (k : Int), .int .i64 a, .int .i64 b, .int .i64 i] 61)
  have KX0 := Blk.new w #[.int .i64 (k : Int), .int .i64 a, .int .i64 b, .int .i64 i] 61
  have ga1 : decide (a < 0) = false := decide_eq_false (by omega)
  have ga2 : decide (M < a) = false := decide_eq_false (by omega)
  clear ha ha2
  have hqb : (b == 0) = false := by rw [beq_eq_false_iff_ne]; exact hb
  go_enter Tryd.func49, Tryd.ntmps49
  go_wp2_with (first | (go_at_call 70; ((with_reducible refine (HN.out _).mono ?_); rintro e w1 ⟨rfl, hb1⟩; refine Hid.out ?_)))
  refine Lib.hid ?_
  have D1 := B0.trans (hb1.mono B0.size)
  have KX1 := KX0.below hb1
  have x0 := KX1.cell 0
  have x1 := KX1.cell 1
  have x2 := KX1.cell 2
  have x3 := KX1.cell 3
  clear KX0
  go_wp2_with (first | (go_at_call 71; ((with_reducible refine (HNs.out _).mono ?_); rintro e w2 ⟨rfl, rfl⟩)))
  go_quiet ((first | (go_at_call 72; exact quiet (HHa.out _)) | (go_at_call 73; exact quiet (HMa.out _))))
  have b2 : Below w1.heap.size w1 (w1.drewN nq) := drew_below _ _ _
  have D2 := D1.trans (b2.mono D1.size)
  have KX2 := KX1.below b2
  clear x0 x1 x2 x3 b2
  generalize w1.drewN nq = w2 at D2 KX2 ⊢
  have x0 := KX2.cell 0
  have x1 := KX2.cell 1
  have x2 := KX2.cell 2
  have x3 := KX2.cell 3
  go_wp2
  go_quiet ((first | (go_at_call 72; exact quiet (HHb.out _)) | (go_at_call 73; exact quiet (HMb.out _))))
  go_wp2
  go_ret
  exact ⟨rfl, D2.trans (drew_below _ _ _)⟩
set_option maxRecDepth 100000 in
set_option maxHeartbeats 1000000 in
theorem may_40 (k : Nat) (hk : k < 30) (a b i M M' : Int) (w : World) (HHa : Hid (∀ wx, Calls Tryd.prog 72 #[.string (st (nms k)), .int .u8 97] wx fun e w' => e = .returned (.bool false) ∧ wx = w')) (HMa : Hid (∀ wx, Calls Tryd.prog 73 #[.int .i64 (k : Int), .int .u8 97] wx fun e w' => e = .returned (.int .i64 M) ∧ wx = w'))  (HHb : Hid (∀ wx, Calls Tryd.prog 72 #[.string (st (nms k)), .int .u8 98] wx fun e w' => e = .returned (.bool true) ∧ wx = w')) (HMb : Hid (∀ wx, Calls Tryd.prog 73 #[.int .i64 (k : Int), .int .u8 98] wx fun e w' => e = .returned (.int .i64 M') ∧ wx = w')) (hb : b < 0) :
    Calls Tryd.prog 49 #[.agg #[.int .i64 (k : Int), .int .i64 0, .int .i64 b, .int .i64 i]] w fun e w' => e = .returned (.bool false) ∧ Below w.heap.size w w' := by
  have HN := Lib.hid (fun wx => rname_yes k hk wx)
  have HNs := Lib.hid (fun wx => names_in k hk wx)
  have hnl := nms_size k
  have hne := nm_ne k hk
  have B0 := (Below.refl w.heap.size w).alloc (Nat.le_refl _) (.cells #[.int .i64 (k : Int), .int .i64 0, .int .i64 b, .int .i64 i] 61)
  have KX0 := Blk.new w #[.int .i64 (k : Int), .int .i64 0, .int .i64 b, .int .i64 i] 61
  have gb1 : decide (b < 0) = true := decide_eq_true hb
  clear hb
  go_enter Tryd.func49, Tryd.ntmps49
  go_wp2_with (first | (go_at_call 70; ((with_reducible refine (HN.out _).mono ?_); rintro e w1 ⟨rfl, hb1⟩; refine Hid.out ?_)))
  refine Lib.hid ?_
  have D1 := B0.trans (hb1.mono B0.size)
  have KX1 := KX0.below hb1
  have x0 := KX1.cell 0
  have x1 := KX1.cell 1
  have x2 := KX1.cell 2
  have x3 := KX1.cell 3
  clear KX0
  go_wp2_with (first | (go_at_call 71; ((with_reducible refine (HNs.out _).mono ?_); rintro e w2 ⟨rfl, rfl⟩)))
  go_quiet ((first | (go_at_call 72; exact quiet (HHa.out _)) | (go_at_call 73; exact quiet (HMa.out _))))
  have b2 : Below w1.heap.size w1 (w1.drewN nq) := drew_below _ _ _
  have D2 := D1.trans (b2.mono D1.size)
  have KX2 := KX1.below b2
  clear x0 x1 x2 x3 b2
  generalize w1.drewN nq = w2 at D2 KX2 ⊢
  have x0 := KX2.cell 0
  have x1 := KX2.cell 1
  have x2 := KX2.cell 2
  have x3 := KX2.cell 3
  go_wp2
  go_quiet ((first | (go_at_call 72; exact quiet (HHb.out _)) | (go_at_call 73; exact quiet (HMb.out _))))
  go_wp2
  go_ret
  exact ⟨rfl, D2.trans (drew_below _ _ _)⟩
set_option maxRecDepth 100000 in
set_option maxHeartbeats 1000000 in
theorem may_41 (k : Nat) (hk : k < 30) (a b i M M' : Int) (w : World) (HHa : Hid (∀ wx, Calls Tryd.prog 72 #[.string (st (nms k)), .int .u8 97] wx fun e w' => e = .returned (.bool false) ∧ wx = w')) (HMa : Hid (∀ wx, Calls Tryd.prog 73 #[.int .i64 (k : Int), .int .u8 97] wx fun e w' => e = .returned (.int .i64 M) ∧ wx = w'))  (HHb : Hid (∀ wx, Calls Tryd.prog 72 #[.string (st (nms k)), .int .u8 98] wx fun e w' => e = .returned (.bool true) ∧ wx = w')) (HMb : Hid (∀ wx, Calls Tryd.prog 73 #[.int .i64 (k : Int), .int .u8 98] wx fun e w' => e = .returned (.int .i64 M') ∧ wx = w')) (hb : 0 ≤ b) (hb2 : M' < b) :
    Calls Tryd.prog 49 #[.agg #[.int .i64 (k : Int), .int .i64 0, .int .i64 b, .int .i64 i]] w fun e w' => e = .returned (.bool false) ∧ Below w.heap.size w w' := by
  have HN := Lib.hid (fun wx => rname_yes k hk wx)
  have HNs := Lib.hid (fun wx => names_in k hk wx)
  have hnl := nms_size k
  have hne := nm_ne k hk
  have B0 := (Below.refl w.heap.size w).alloc (Nat.le_refl _) (.cells #[.int .i64 (k : Int), .int .i64 0, .int .i64 b, .int .i64 i] 61)
  have KX0 := Blk.new w #[.int .i64 (k : Int), .int .i64 0, .int .i64 b, .int .i64 i] 61
  have gb1 : decide (b < 0) = false := decide_eq_false (by omega)
  have gb2 : decide (M' < b) = true := decide_eq_true hb2
  clear hb hb2
  go_enter Tryd.func49, Tryd.ntmps49
  go_wp2_with (first | (go_at_call 70; ((with_reducible refine (HN.out _).mono ?_); rintro e w1 ⟨rfl, hb1⟩; refine Hid.out ?_)))
  refine Lib.hid ?_
  have D1 := B0.trans (hb1.mono B0.size)
  have KX1 := KX0.below hb1
  have x0 := KX1.cell 0
  have x1 := KX1.cell 1
  have x2 := KX1.cell 2
  have x3 := KX1.cell 3
  clear KX0
  go_wp2_with (first | (go_at_call 71; ((with_reducible refine (HNs.out _).mono ?_); rintro e w2 ⟨rfl, rfl⟩)))
  go_quiet ((first | (go_at_call 72; exact quiet (HHa.out _)) | (go_at_call 73; exact quiet (HMa.out _))))
  have b2 : Below w1.heap.size w1 (w1.drewN nq) := drew_below _ _ _
  have D2 := D1.trans (b2.mono D1.size)
  have KX2 := KX1.below b2
  clear x0 x1 x2 x3 b2
  generalize w1.drewN nq = w2 at D2 KX2 ⊢
  have x0 := KX2.cell 0
  have x1 := KX2.cell 1
  have x2 := KX2.cell 2
  have x3 := KX2.cell 3
  go_wp2
  go_quiet ((first | (go_at_call 72; exact quiet (HHb.out _)) | (go_at_call 73; exact quiet (HMb.out _))))
  go_wp2
  go_ret
  exact ⟨rfl, D2.trans (drew_below _ _ _)⟩
set_option maxRecDepth 100000 in
set_option maxHeartbeats 1000000 in
theorem may_42 (k : Nat) (hk : k < 30) (a b i M M' : Int) (w : World) (HHa : Hid (∀ wx, Calls Tryd.prog 72 #[.string (st (nms k)), .int .u8 97] wx fun e w' => e = .returned (.bool false) ∧ wx = w')) (HMa : Hid (∀ wx, Calls Tryd.prog 73 #[.int .i64 (k : Int), .int .u8 97] wx fun e w' => e = .returned (.int .i64 M) ∧ wx = w'))  (HHb : Hid (∀ wx, Calls Tryd.prog 72 #[.string (st (nms k)), .int .u8 98] wx fun e w' => e = .returned (.bool false) ∧ wx = w')) (HMb : Hid (∀ wx, Calls Tryd.prog 73 #[.int .i64 (k : Int), .int .u8 98] wx fun e w' => e = .returned (.int .i64 M') ∧ wx = w')) (hb : b ≠ 0) :
    Calls Tryd.prog 49 #[.agg #[.int .i64 (k : Int), .int .i64 0, .int .i64 b, .int .i64 i]] w fun e w' => e = .returned (.bool false) ∧ Below w.heap.size w w' := by
  have HN := Lib.hid (fun wx => rname_yes k hk wx)
  have HNs := Lib.hid (fun wx => names_in k hk wx)
  have hnl := nms_size k
  have hne := nm_ne k hk
  have B0 := (Below.refl w.heap.size w).alloc (Nat.le_refl _) (.cells #[.int .i64 (k : Int), .int .i64 0, .int .i64 b, .int .i64 i] 61)
  have KX0 := Blk.new w #[.int .i64 (k : Int), .int .i64 0, .int .i64 b, .int .i64 i] 61
  have hqb : (b == 0) = false := by rw [beq_eq_false_iff_ne]; exact hb
  go_enter Tryd.func49, Tryd.ntmps49
  go_wp2_with (first | (go_at_call 70; ((with_reducible refine (HN.out _).mono ?_); rintro e w1 ⟨rfl, hb1⟩; refine Hid.out ?_)))
  refine Lib.hid ?_
  have D1 := B0.trans (hb1.mono B0.size)
  have KX1 := KX0.below hb1
  have x0 := KX1.cell 0
  have x1 := KX1.cell 1
  have x2 := KX1.cell 2
  have x3 := KX1.cell 3
  clear KX0
  go_wp2_with (first | (go_at_call 71; ((with_reducible refine (HNs.out _).mono ?_); rintro e w2 ⟨rfl, rfl⟩)))
  go_quiet ((first | (go_at_call 72; exact quiet (HHa.out _)) | (go_at_call 73; exact quiet (HMa.out _))))
  have b2 : Below w1.heap.size w1 (w1.drewN nq) := drew_below _ _ _
  have D2 := D1.trans (b2.mono D1.size)
  have KX2 := KX1.below b2
  clear x0 x1 x2 x3 b2
  generalize w1.drewN nq = w2 at D2 KX2 ⊢
  have x0 := KX2.cell 0
  have x1 := KX2.cell 1
  have x2 := KX2.cell 2
  have x3 := KX2.cell 3
  go_wp2
  go_quiet ((first | (go_at_call 72; exact quiet (HHb.out _)) | (go_at_call 73; exact quiet (HMb.out _))))
  go_wp2
  go_ret
  exact ⟨rfl, D2.trans (drew_below _ _ _)⟩
end Go.Proofs.YtgnpbedhpkmkfaaDoor.Rb1
