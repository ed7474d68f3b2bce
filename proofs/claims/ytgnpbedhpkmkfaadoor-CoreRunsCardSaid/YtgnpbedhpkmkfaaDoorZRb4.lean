/-
  The document's May, way by way (4).
-/
import Derived.Test.YtgnpbedhpkmkfaaDoorZRa
namespace Go.Proofs.YtgnpbedhpkmkfaaDoor.Rb4
open Go Go.RowKit Go.Shelf Kit IsaM IsaT IsaL IsaC IsaE IsaN IsaP Ra Rb0
set_option linter.unusedVariables false
set_option maxRecDepth 100000 in
set_option maxHeartbeats 1000000 in
theorem may_430 (k : Nat) (hk : k < 30) (a b i M M' : Int) (w : World) (HHa : Hid (∀ wx, Calls Tryd.prog 72 #[.string (st (nms k)), .int .u8 97] wx fun e w' => e = .returned (.bool false) ∧ wx = w')) (HMa : Hid (∀ wx, Calls Tryd.prog 73 #[.int .i64 (k : Int), .int .u8 97] wx fun e w' => e = .returned (.int .i64 M) ∧ wx = w'))  (HHb : Hid (∀ wx, Calls Tryd.prog 72 #[.string (st (nms k)), .int .u8 98] wx fun e w' => e = .returned (.bool true) ∧ wx = w')) (HMb : Hid (∀ wx, Calls Tryd.prog 73 #[.int .i64 (k : Int), .int .u8 98] wx fun e w' => e = .returned (.int .i64 M') ∧ wx = w')) (hb : 0 ≤ b) (hb2 : b ≤ M') (HHi : Hid (∀ wx, Calls Tryd.prog 72 #[.string (st (nms k)), .int .u8 105] wx fun e w' => e = .returned (.bool true) ∧ wx = w')) (hi : i < -32768) :
    Calls Tryd.prog 49 #[.agg #[.int .i64 (k : Int), .int .i64 0, .int .i64 b, .int .i64 i]] w fun e w' => e = .returned (.bool false) ∧ Below w.heap.size w w' := by
  have HN := Lib.hid (fun wx => rname_yes k hk wx)
  have HNs := Lib.hid (fun wx => names_in k hk wx)
  have hnl := nms_size k
  have hne := nm_ne k hk
  have B0 := (Below.refl w.heap.size w).alloc (Nat.le_refl _) (.cells #[.int .i64 (k : Int), .int .i64 0, .int .i64 b, .int .i64 i] 61)
  have KX0 := Blk.new w #[.int .i64 (k : Int), .int .i64 0, .int .i64 b, .int .i64 i] 61
  have gb1 : decide (b < 0) = false := decide_eq_false (by omega)
  have gb2 : decide (M' < b) = false := decide_eq_false (by omega)
  clear hb hb2
  have gi1 : decide (-32768 ≤ i) = false := decide_eq_false (by omega)
  have HI0 : Hid (i < -32768) := Lib.hid hi
  clear hi
  go_enter Tryd.func49, Tryd.ntmps49
  go_wp2_with (first | (go_at_call 70; ((with_reducible refine (HN.out _).mono ?_); rintro e w1 ⟨rfl, hb1⟩; refine Hid.out ?_)))
  refine Lib.hid ?_
  have D1 := B0.trans (hb1.mono B0.size)
  have KX1 := KX0.below hb1
  have x0 := KX1.cell 0
  have x1 := KX1.cell 1
  have x2 := KX1.cell 2
  have x3 := KX1.cell 3
  clear KX0
  go_wp2_with (first | (go_at_call 71; ((with_reducible refine (HNs.out _).mono ?_); rintro e w2 ⟨rfl, rfl⟩)))
  go_quiet ((first | (go_at_call 72; exact quiet (HHa.out _)) | (go_at_call 73; exact quiet (HMa.out _))))
  have b2 : Below w1.heap.size w1 (w1.drewN nq) := drew_below _ _ _
  have D2 := D1.trans (b2.mono D1.size)
  have KX2 := KX1.below b2
  clear x0 x1 x2 x3 b2
  generalize w1.drewN nq = w2 at D2 KX2 ⊢
  have x0 := KX2.cell 0
  have x1 := KX2.cell 1
  have x2 := KX2.cell 2
  have x3 := KX2.cell 3
  go_wp2
  go_quiet ((first | (go_at_call 72; exact quiet (HHb.out _)) | (go_at_call 73; exact quiet (HMb.out _))))
  have b3 : Below w2.heap.size w2 (w2.drewN nq) := drew_below _ _ _
  have D3 := D2.trans (b3.mono D2.size)
  have KX3 := KX2.below b3
  clear x0 x1 x2 x3 b3
  generalize w2.drewN nq = w3 at D3 KX3 ⊢
  have x0 := KX3.cell 0
  have x1 := KX3.cell 1
  have x2 := KX3.cell 2
  have x3 := KX3.cell 3
  go_wp2_with ((first | (go_at_call 72; ((with_reducible refine (HHi.out _).mono ?_); rintro e w9 ⟨rfl, rfl⟩))))
  go_ret
  first | exact ⟨rfl, D3⟩ | exact ⟨ret_bool (decide_eq_false (by omega)), D3⟩ | exact ⟨ret_bool (decide_eq_true (by omega)), D3⟩
set_option maxRecDepth 100000 in
set_option maxHeartbeats 1000000 in
theorem may_431 (k : Nat) (hk : k < 30) (a b i M M' : Int) (w : World) (HHa : Hid (∀ wx, Calls Tryd.prog 72 #[.string (st (nms k)), .int .u8 97] wx fun e w' => e = .returned (.bool false) ∧ wx = w')) (HMa : Hid (∀ wx, Calls Tryd.prog 73 #[.int .i64 (k : Int), .int .u8 97] wx fun e w' => e = .returned (.int .i64 M) ∧ wx = w'))  (HHb : Hid (∀ wx, Calls Tryd.prog 72 #[.string (st (nms k)), .int .u8 98] wx fun e w' => e = .returned (.bool true) ∧ wx = w')) (HMb : Hid (∀ wx, Calls Tryd.prog 73 #[.int .i64 (k : Int), .int .u8 98] wx fun e w' => e = .returned (.int .i64 M') ∧ wx = w')) (hb : 0 ≤ b) (hb2 : b ≤ M') (HHi : Hid (∀ wx, Calls Tryd.prog 72 #[.string (st (nms k)), .int .u8 105] wx fun e w' => e = .returned (.bool true) ∧ wx = w')) (hi : -32768 ≤ i) (hi2 : 32767 < i) :
    Calls Tryd.prog 49 #[.agg #[.int .i64 (k : Int), .int .i64 0, .int .i64 b, .int .i64 i]] w fun e w' => e = .returned (.bool false) ∧ Below w.heap.size w w' := by
  have HN := Lib.hid (fun wx => rname_yes k hk wx)
  have HNs := Lib.hid (fun wx => names_in k hk wx)
  have hnl := nms_size k
  have hne := nm_ne k hk
  have B0 := (Below.refl w.heap.size w).alloc (Nat.le_refl _) (.cells #[.int .i64 (k : Int), .int .i64 0, .int .i64 b, .int .i64 i] 61)
  have KX0 := Blk.new w #[.int .i64 (k : Int), .int .i64 0, .int .i64 b, .int .i64 i] 61
  have gb1 : decide (b < 0) = false := decide_eq_false (by omega)
  have gb2 : decide (M' < b) = false := decide_eq_false (by omega)
  clear hb hb2
  have gi1 : decide (-32768 ≤ i) = true := decide_eq_true hi
  have gi2 : decide (i ≤ 32767) = false := decide_eq_false (by omega)
  have HI0 : Hid (-32768 ≤ i) := Lib.hid hi
  have HI2 : Hid (32767 < i) := Lib.hid hi2
  clear hi hi2
  go_enter Tryd.func49, Tryd.ntmps49
  go_wp2_with (first | (go_at_call 70; ((with_reducible refine (HN.out _).mono ?_); rintro e w1 ⟨rfl, hb1⟩; refine Hid.out ?_)))
  refine Lib.hid ?_
  have D1 := B0.trans (hb1.mono B0.size)
  have KX1 := KX0.below hb1
  have x0 := KX1.cell 0
  have x1 := KX1.cell 1
  have x2 := KX1.cell 2
  have x3 := KX1.cell 3
  clear KX0
  go_wp2_with (first | (go_at_call 71; ((with_reducible refine (HNs.out _).mono ?_); rintro e w2 ⟨rfl, rfl⟩)))
  go_quiet ((first | (go_at_call 72; exact quiet (HHa.out _)) | (go_at_call 73; exact quiet (HMa.out _))))
  have b2 : Below w1.heap.size w1 (w1.drewN nq) := drew_below _ _ _
  have D2 := D1.trans (b2.mono D1.size)
  have KX2 := KX1.below b2
  clear x0 x1 x2 x3 b2
  generalize w1.drewN nq = w2 at D2 KX2 ⊢
  have x0 := KX2.cell 0
  have x1 := KX2.cell 1
  have x2 := KX2.cell 2
  have x3 := KX2.cell 3
  go_wp2
  go_quiet ((first | (go_at_call 72; exact quiet (HHb.out _)) | (go_at_call 73; exact quiet (HMb.out _))))
  have b3 : Below w2.heap.size w2 (w2.drewN nq) := drew_below _ _ _
  have D3 := D2.trans (b3.mono D2.size)
  have KX3 := KX2.below b3
  clear x0 x1 x2 x3 b3
  generalize w2.drewN nq = w3 at D3 KX3 ⊢
  have x0 := KX3.cell 0
  have x1 := KX3.cell 1
  have x2 := KX3.cell 2
  have x3 := KX3.cell 3
  go_wp2_with ((first | (go_at_call 72; ((with_reducible refine (HHi.out _).mono ?_); rintro e w9 ⟨rfl, rfl⟩))))
  go_ret
  first | exact ⟨rfl, D3⟩ | exact ⟨ret_bool (decide_eq_false (by omega)), D3⟩ | exact ⟨ret_bool (decide_eq_true (by omega)), D3⟩
set_option maxRecDepth 100000 in
set_option maxHeartbeats 1000000 in
theorem may_432 (k : Nat) (hk : k < 30) (a b i M M' : Int) (w : World) (HHa : Hid (∀ wx, Calls Tryd.prog 72 #[.string (st (nms k)), .int .u8 97] wx fun e w' => e = .returned (.bool false) ∧ wx = w')) (HMa : Hid (∀ wx, Calls Tryd.prog 73 #[.int .i64 (k : Int), .int .u8 97] wx fun e w' => e = .returned (.int .i64 M) ∧ wx = w'))  (HHb : Hid (∀ wx, Calls Tryd.prog 72 #[.string (st (nms k)), .int .u8 98] wx fun e w' => e = .returned (.bool true) ∧ wx = w')) (HMb : Hid (∀ wx, Calls Tryd.prog 73 #[.int .i64 (k : Int), .int .u8 98] wx fun e w' => e = .returned (.int .i64 M') ∧ wx = w')) (hb : 0 ≤ b) (hb2 : b ≤ M') (HHi : Hid (∀ wx, Calls Tryd.prog 72 #[.string (st (nms k)), .int .u8 105] wx fun e w' => e = .returned (.bool false) ∧ wx = w')) (hi : i ≠ 0) :
    Calls Tryd.prog 49 #[.agg #[.int .i64 (k : Int), .int .i64 0, .int .i64 b, .int .i64 i]] w fun e w' => e = .returned (.bool false) ∧ Below w.heap.size w w' := by
  have HN := Lib.hid (fun wx => rname_yes k hk wx)
  have HNs := Lib.hid (fun wx => names_in k hk wx)
  have hnl := nms_size k
  have hne := nm_ne k hk
  have B0 := (Below.refl w.heap.size w).alloc (Nat.le_refl _) (.cells #[.int .i64 (k : Int), .int .i64 0, .int .i64 b, .int .i64 i] 61)
  have KX0 := Blk.new w #[.int .i64 (k : Int), .int .i64 0, .int .i64 b, .int .i64 i] 61
  have gb1 : decide (b < 0) = false := decide_eq_false (by omega)
  have gb2 : decide (M' < b) = false := decide_eq_false (by omega)
  clear hb hb2
  have hqi : (i == 0) = false := by rw [beq_eq_false_iff_ne]; exact hi
  go_enter Tryd.func49, Tryd.ntmps49
  go_wp2_with (first | (go_at_call 70; ((with_reducible refine (HN.out _).mono ?_); rintro e w1 ⟨rfl, hb1⟩; refine Hid.out ?_)))
  refine Lib.hid ?_
  have D1 := B0.trans (hb1.mono B0.size)
  have KX1 := KX0.below hb1
  have x0 := KX1.cell 0
  have x1 := KX1.cell 1
  have x2 := KX1.cell 2
  have x3 := KX1.cell 3
  clear KX0
  go_wp2_with (first | (go_at_call 71; ((with_reducible refine (HNs.out _).mono ?_); rintro e w2 ⟨rfl, rfl⟩)))
  go_quiet ((first | (go_at_call 72; exact quiet (HHa.out _)) | (go_at_call 73; exact quiet (HMa.out _))))
  have b2 : Below w1.heap.size w1 (w1.drewN nq) := drew_below _ _ _
  have D2 := D1.trans (b2.mono D1.size)
  have KX2 := KX1.below b2
  clear x0 x1 x2 x3 b2
  generalize w1.drewN nq = w2 at D2 KX2 ⊢
  have x0 := KX2.cell 0
  have x1 := KX2.cell 1
  have x2 := KX2.cell 2
  have x3 := KX2.cell 3
  go_wp2
  go_quiet ((first | (go_at_call 72; exact quiet (HHb.out _)) | (go_at_call 73; exact quiet (HMb.out _))))
  have b3 : Below w2.heap.size w2 (w2.drewN nq) := drew_below _ _ _
  have D3 := D2.trans (b3.mono D2.size)
  have KX3 := KX2.below b3
  clear x0 x1 x2 x3 b3
  generalize w2.drewN nq = w3 at D3 KX3 ⊢
  have x0 := KX3.cell 0
  have x1 := KX3.cell 1
  have x2 := KX3.cell 2
  have x3 := KX3.cell 3
  go_wp2_with ((first | (go_at_call 72; ((with_reducible refine (HHi.out _).mono ?_); rintro e w9 ⟨rfl, rfl⟩))))
  go_ret
  first | exact ⟨rfl, D3⟩ | exact ⟨ret_bool (decide_eq_false (by omega)), D3⟩ | exact ⟨ret_bool (decide_eq_true (by omega)), D3⟩
set_option maxRecDepth 100000 in
set_option maxHeartbeats 1000000 in
theorem may_433 (k : Nat) (hk : k < 30) (a b i M M' : Int) (w : World) (HHa : Hid (∀ wx, Calls Tryd.prog 72 #[.string (st (nms k)), .int .u8 97] wx fun e w' => e = .returned (.bool false) ∧ wx = w')) (HMa : Hid (∀ wx, Calls Tryd.prog 73 #[.int .i64 (k : Int), .int .u8 97] wx fun e w' => e = .returned (.int .i64 M) ∧ wx = w'))  (HHb : Hid (∀ wx, Calls Tryd.prog 72 #[.string (st (nms k)), .int .u8 98] wx fun e w' => e = .returned (.bool true) ∧ wx = w')) (HMb : Hid (∀ wx, Calls Tryd.prog 73 #[.int .i64 (k : Int), .int .u8 98] wx fun e w' => e = .returned (.int .i64 M') ∧ wx = w')) (hb : 0 ≤ b) (hb2 : b ≤ M') (HHi : Hid (∀ wx, Calls Tryd.prog 72 #[.string (st (nms k)), .int .u8 105] wx fun e w' => e = .returned (.bool true) ∧ wx = w')) (hi : -32768 ≤ i) (hi2 : i ≤ 32767) :
    Calls Tryd.prog 49 #[.agg #[.int .i64 (k : Int), .int .i64 0, .int .i64 b, .int .i64 i]] w fun e w' => e = .returned (.bool true) ∧ Below w.heap.size w w' := by
  have HN := Lib.hid (fun wx => rname_yes k hk wx)
  have HNs := Lib.hid (fun wx => names_in k hk wx)
  have hnl := nms_size k
  have hne := nm_ne k hk
  have B0 := (Below.refl w.heap.size w).alloc (Nat.le_refl _) (.cells #[.int .i64 (k : Int), .int .i64 0, .int .i64 b, .int .i64 i] 61)
  have KX0 := Blk.new w #[.int .i64 (k : Int), .int .i64 0, .int .i64 b, .int .i64 i] 61
  have gb1 : decide (b < 0) = false := decide_eq_false (by omega)
  have gb2 : decide (M' < b) = false := decide_eq_false (by omega)
  clear hb hb2
  have gi1 : decide (-32768 ≤ i) = true := decide_eq_true hi
  have gi2 : decide (i ≤ 32767) = true := decide_eq_true hi2
  have HI0 : Hid (-32768 ≤ i) := Lib.hid hi
  have HI2 : Hid (i ≤ 32767) := Lib.hid hi2
  clear hi hi2
  go_enter Tryd.func49, Tryd.ntmps49
  go_wp2_with (first | (go_at_call 70; ((with_reducible refine (HN.out _).mono ?_); rintro e w1 ⟨rfl, hb1⟩; refine Hid.out ?_)))
  refine Lib.hid ?_
  have D1 := B0.trans (hb1.mono B0.size)
  have KX1 := KX0.below hb1
  have x0 := KX1.cell 0
  have x1 := KX1.cell 1
  have x2 := KX1.cell 2
  have x3 := KX1.cell 3
  clear KX0
  go_wp2_with (first | (go_at_call 71; ((with_reducible refine (HNs.out _).mono ?_); rintro e w2 ⟨rfl, rfl⟩)))
  go_quiet ((first | (go_at_call 72; exact quiet (HHa.out _)) | (go_at_call 73; exact quiet (HMa.out _))))
  have b2 : Below w1.heap.size w1 (w1.drewN nq) := drew_below _ _ _
  have D2 := D1.trans (b2.mono D1.size)
  have KX2 := KX1.below b2
  clear x0 x1 x2 x3 b2
  generalize w1.drewN nq = w2 at D2 KX2 ⊢
  have x0 := KX2.cell 0
  have x1 := KX2.cell 1
  have x2 := KX2.cell 2
  have x3 := KX2.cell 3
  go_wp2
  go_quiet ((first | (go_at_call 72; exact quiet (HHb.out _)) | (go_at_call 73; exact quiet (HMb.out _))))
  have b3 : Below w2.heap.size w2 (w2.drewN nq) := drew_below _ _ _
  have D3 := D2.trans (b3.mono D2.size)
  have KX3 := KX2.below b3
  clear x0 x1 x2 x3 b3
  generalize w2.drewN nq = w3 at D3 KX3 ⊢
  have x0 := KX3.cell 0
  have x1 := KX3.cell 1
  have x2 := KX3.cell 2
  have x3 := KX3.cell 3
  go_wp2_with ((first | (go_at_call 72; ((with_reducible refine (HHi.out _).mono ?_); rintro e w9 ⟨rfl, rfl⟩))))
  go_ret
  first | exact ⟨rfl, D3⟩ | exact ⟨ret_bool (decide_eq_false (by omega)), D3⟩ | exact ⟨ret_bool (decide_eq_true (by omega)), D3⟩
set_option maxRecDepth 100000 in
set_option maxHeartbeats 1000000 in
theorem may_434 (k : Nat) (hk : k < 30) (a b i M M' : Int) (w : World) (HHa : Hid (∀ wx, Calls Tryd.prog 72 #[.string (st (nms k)), .int .u8 97] wx fun e w' => e = .returned (.bool false) ∧ wx = w')) (HMa : Hid (∀ wx, Calls Tryd.prog 73 #[.int .i64 (k : Int), .int .u8 97] wx fun e w' => e = .returned (.int .i64 M) ∧ wx = w'))  (HHb : Hid (∀ wx, Calls Tryd.prog 72 #[.string (st (nms k)), .int .u8 98] wx fun e w' => e = .returned (.bool true) ∧ wx = w')) (HMb : Hid (∀ wx, Calls Tryd.prog 73 #[.int .i64 (k : Int), .int .u8 98] wx fun e w' => e = .returned (.int .i64 M') ∧ wx = w')) (hb : 0 ≤ b) (hb2 : b ≤ M') (HHi : Hid (∀ wx, Calls Tryd.prog 72 #[.string (st (nms k)), .int .u8 105] wx fun e w' => e = .returned (.bool false) ∧ wx = w'))  :
    Calls Tryd.prog 49 #[.agg #[.int .i64 (k : Int), .int .i64 0, .int .i64 b, .int .i64 0]] w fun e w' => e = .returned (.bool true) ∧ Below w.heap.size w w' := by
  have HN := Lib.hid (fun wx => rname_yes k hk wx)
  have HNs := Lib.hid (fun wx => names_in k hk wx)
  have hnl := nms_size k
  have hne := nm_ne k hk
  have B0 := (Below.refl w.heap.size w).alloc (Nat.le_refl _) (.cells #[.int .i64 (k : Int), .int .i64 0, .int .i64 b, .int .i64 0] 61)
  have KX0 := Blk.new w #[.int .i64 (k : Int), .int .i64 0, .int .i64 b, .int .i64 0] 61
  have gb1 : decide (b < 0) = false := decide_eq_false (by omega)
  have gb2 : decide (M' < b) = false := decide_eq_false (by omega)
  clear hb hb2
  go_enter Tryd.func49, Tryd.ntmps49
  go_wp2_with (first | (go_at_call 70; ((with_reducible refine (HN.out _).mono ?_); rintro e w1 ⟨rfl, hb1⟩; refine Hid.out ?_)))
  refine Lib.hid ?_
  have D1 := B0.trans (hb1.mono B0.size)
  have KX1 := KX0.below hb1
  have x0 := KX1.cell 0
  have x1 := KX1.cell 1
  have x2 := KX1.cell 2
  have x3 := KX1.cell 3
  clear KX0
  go_wp2_with (first | (go_at_call 71; ((with_reducible refine (HNs.out _).mono ?_); rintro e w2 ⟨rfl, rfl⟩)))
  go_quiet ((first | (go_at_call 72; exact quiet (HHa.out _)) | (go_at_call 73; exact quiet (HMa.out _))))
  have b2 : Below w1.heap.size w1 (w1.drewN nq) := drew_below _ _ _
  have D2 := D1.trans (b2.mono D1.size)
  have KX2 := KX1.below b2
  clear x0 x1 x2 x3 b2
  generalize w1.drewN nq = w2 at D2 KX2 ⊢
  have x0 := KX2.cell 0
  have x1 := KX2.cell 1
  have x2 := KX2.cell 2
  have x3 := KX2.cell 3
  go_wp2
  go_quiet ((first | (go_at_call 72; exact quiet (HHb.out _)) | (go_at_call 73; exact quiet (HMb.out _))))
  have b3 : Below w2.heap.size w2 (w2.drewN nq) := drew_below _ _ _
  have D3 := D2.trans (b3.mono D2.size)
  have KX3 := KX2.below b3
  clear x0 x1 x2 x3 b3
  generalize w2.drewN nq = w3 at D3 KX3 ⊢
  have x0 := KX3.cell 0
  have x1 := KX3.cell 1
  have x2 := KX3.cell 2
  have x3 := KX3.cell 3
  go_wp2_with ((first | (go_at_call 72; ((with_reducible refine (HHi.out _).mono ?_); rintro e w9 ⟨rfl, rfl⟩))))
  go_ret
  first | exact ⟨rfl, D3⟩ | exact ⟨ret_bool (decide_eq_false (by omega)), D3⟩ | exact ⟨ret_bool (decide_eq_true (by omega)), D3⟩
end Go.Proofs.YtgnpbedhpkmkfaaDoor.Rb4
namespace Go.Proofs.YtgnpbedhpkmkfaaDoor.Rb5
open Go Go.RowKit Go.Shelf Kit IsaM IsaT IsaL IsaC IsaE IsaN IsaP Ra Rb0
set_option linter.unusedVariables false
set_option maxRecDepth 100000 in
set_option maxHeartbeats 1000000 in
theorem may_440 (k : Nat) (hk : k < 30) (a b i M M' : Int) (w : World) (HHa : Hid (∀ wx, Calls Tryd.prog 72 #[.string (st (nms k)), .int .u8 97] wx fun e w' => e = .returned (.bool false) ∧ wx = w')) (HMa : Hid (∀ wx, Calls Tryd.prog 73 #[.int .i64 (k : Int), .int .u8 97] wx fun e w' => e = .returned (.int .i64 M) ∧ wx = w'))  (HHb : Hid (∀ wx, Calls Tryd.prog 72 #[.string (st (nms k)), .int .u8 98] wx fun e w' => e = .returned (.bool false) ∧ wx = w')) (HMb : Hid (∀ wx, Calls Tryd.prog 73 #[.int .i64 (k : Int), .int .u8 98] wx fun e w' => e = .returned (.int .i64 M') ∧ wx = w'))  (HHi : Hid (∀ wx, Calls Tryd.prog 72 #[.string (st (nms k)), .int .u8 105] wx fun e w' => e = .returned (.bool true) ∧ wx = w')) (hi : i < -32768) :
    Calls Tryd.prog 49 #[.agg #[.int .i64 (k : Int), .int .i64 0, .int .i64 0, .int .i64 i]] w fun e w' => e = .returned (.bool false) ∧ Below w.heap.size w w' := by
  have HN := Lib.hid (fun wx => rname_yes k hk wx)
  have HNs := Lib.hid (fun wx => names_in k hk wx)
  have hnl := nms_size k
  have hne := nm_ne k hk
  have B0 := (Below.refl w.heap.size w).alloc (Nat.le_refl _) (.cells #[.int .i64 (k : Int), .int .i64 0, .int .i64 0, .int .i64 i] 61)
  have KX0 := Blk.new w #[.int .i64 (k : Int), .int .i64 0, .int .i64 0, .int .i64 i] 61
  have gi1 : decide (-32768 ≤ i) = false := decide_eq_false (by omega)
  have HI0 : Hid (i < -32768) := Lib.hid hi
  clear hi
  go_enter Tryd.func49, Tryd.ntmps49
  go_wp2_with (first | (go_at_call 70; ((with_reducible refine (HN.out _).mono ?_); rintro e w1 ⟨rfl, hb1⟩; refine Hid.out ?_)))
  refine Lib.hid ?_
  have D1 := B0.trans (hb1.mono B0.size)
  have KX1 := KX0.below hb1
  have x0 := KX1.cell 0
  have x1 := KX1.cell 1
  have x2 := KX1.cell 2
  have x3 := KX1.cell 3
  clear KX0
  go_wp2_with (first | (go_at_call 71; ((with_reducible refine (HNs.out _).mono ?_); rintro e w2 ⟨rfl, rfl⟩)))
  go_quiet ((first | (go_at_call 72; exact quiet (HHa.out _)) | (go_at_call 73; exact quiet (HMa.out _))))
  have b2 : Below w1.heap.size w1 (w1.drewN nq) := drew_below _ _ _
  have D2 := D1.trans (b2.mono D1.size)
  have KX2 := KX1.below b2
  clear x0 x1 x2 x3 b2
  generalize w1.drewN nq = w2 at D2 KX2 ⊢
  have x0 := KX2.cell 0
  have x1 := KX2.cell 1
  have x2 := KX2.cell 2
  have x3 := KX2.cell 3
  go_wp2
  go_quiet ((first | (go_at_call 72; exact quiet (HHb.out _)) | (go_at_call 73; exact quiet (HMb.out _))))
  have b3 : Below w2.heap.size w2 (w2.drewN nq) := drew_below _ _ _
  have D3 := D2.trans (b3.mono D2.size)
  have KX3 := KX2.below b3
  clear x0 x1 x2 x3 b3
  generalize w2.drewN nq = w3 at D3 KX3 ⊢
  have x0 := KX3.cell 0
  have x1 := KX3.cell 1
  have x2 := KX3.cell 2
  have x3 := KX3.cell 3
  go_wp2_with ((first | (go_at_call 72; ((with_reducible refine (HHi.out _).mono ?_); rintro e w9 ⟨rfl, rfl⟩))))
  go_ret
  first | exact ⟨rfl, D3⟩ | exact ⟨ret_bool (decide_eq_false (by omega)), D3⟩ | exact ⟨ret_bool (decide_eq_true (by omega)), D3⟩
set_option maxRecDepth 100000 in
set_option maxHeartbeats 1000000 in
theorem may_441 (k : Nat) (hk : k < 30) (a b i M M' : Int) (w : World) (HHa : Hid (∀ wx, Calls Tryd.prog 72 #[.string (st (nms k)), .int .u8 97] wx fun e w' => e = .returned (.bool false) ∧ wx = w')) (HMa : Hid (∀ wx, Calls Tryd.prog 73 #[.int .i64 (k : Int), .int .u8 97] wx fun e w' => e = .returned (.int .i64 M) ∧ wx = w'))  (HHb : Hid (∀ wx, Calls Tryd.prog 72 #[.string (st (nms k)), .int .u8 98] wx fun e w' => e = .returned (.bool false) ∧ wx = w')) (HMb : Hid (∀ wx, Calls Tryd.prog 73 #[.int .i64 (k : Int), .int .u8 98] wx fun e w' => e = .returned (.int .i64 M') ∧ wx = w'))  (HHi : Hid (∀ wx, Calls Tryd.prog 72 #[.string (st (nms k)), .int .u8 105] wx fun e w' => e = .returned (.bool true) ∧ wx = w')) (hi : -32768 ≤ i) (hi2 : 32767 < i) :
    Calls Tryd.prog 49 #[.agg #[.int .i64 (k : Int), .int .i64 0, .int .i64 0, .int .i64 i]] w fun e w' => e = .returned (.bool false) ∧ Below w.heap.size w w' := by
  have HN := Lib.hid (fun wx => rname_yes k hk wx)
  have HNs := Lib.hid (fun wx => names_in k hk wx)
  have hnl := nms_size k
  have hne := nm_ne k hk
  have B0 := (Below.refl w.heap.size w).alloc (Nat.le_refl _) (.cells #[.int .i64 (k : Int), .int .i64 0, .int .i64 0, .int .i64 i] 61)
  have KX0 := Blk.new w #[.int .i64 (k : Int), .int .i64 0, .int .i64 0, .int .i64 i] 61
  have gi1 : decide (-32768 ≤ i) = true := decide_eq_true hi
  have gi2 : decide (i ≤ 32767) = false := decide_eq_false (by omega)
  have HI0 : Hid (-32768 ≤ i) := Lib.hid hi
  have HI2 : Hid (32767 < i) := Lib.hid hi2
  clear hi hi2
  go_enter Tryd.func49, Tryd.ntmps49
  go_wp2_with (first | (go_at_call 70; ((with_reducible refine (HN.out _).mono ?_); rintro e w1 ⟨rfl, hb1⟩; refine Hid.out ?_)))
  refine Lib.hid ?_
  have D1 := B0.trans (hb1.mono B0.size)
  have KX1 := KX0.below hb1
  have x0 := KX1.cell 0
  have x1 := KX1.cell 1
  have x2 := KX1.cell 2
  have x3 := KX1.cell 3
  clear KX0
  go_wp2_with (first | (go_at_call 71; ((with_reducible refine (HNs.out _).mono ?_); rintro e w2 ⟨rfl, rfl⟩)))
  go_quiet ((first | (go_at_call 72; exact quiet (HHa.out _)) | (go_at_call 73; exact quiet (HMa.out _))))
  have b2 : Below w1.heap.size w1 (w1.drewN nq) := drew_below _ _ _
  have D2 := D1.trans (b2.mono D1.size)
  have KX2 := KX1.below b2
  clear x0 x1 x2 x3 b2
  generalize w1.drewN nq = w2 at D2 KX2 ⊢
  have x0 := KX2.cell 0
  have x1 := KX2.cell 1
  have x2 := KX2.cell 2
  have x3 := KX2.cell 3
  go_wp2
  go_quiet ((first | (go_at_call 72; exact quiet (HHb.out _)) | (go_at_call 73; exact quiet (HMb.out _))))
  have b3 : Below w2.heap.size w2 (w2.drewN nq) := drew_below _ _ _
  have D3 := D2.trans (b3.mono D2.size)
  have KX3 := KX2.below b3
  clear x0 x1 x2 x3 b3
  generalize w2.drewN nq = w3 at D3 KX3 ⊢
  have x0 := KX3.cell 0
  have x1 := KX3.cell 1
  have x2 := KX3.cell 2
  have x3 := KX3.cell 3
  go_wp2_with ((first | (go_at_call 72; ((with_reducible refine (HHi.out _).mono ?_); rintro e w9 ⟨rfl, rfl⟩))))
  go_ret
  first | exact ⟨rfl, D3⟩ | exact ⟨ret_bool (decide_eq_false (by omega)), D3⟩ | exact ⟨ret_bool (decide_eq_true (by omega)), D3⟩
set_option maxRecDepth 100000 in
set_option maxHeartbeats 1000000 in
theorem may_442 (k : Nat) (hk : k < 30) (a b i M M' : Int) (w : World) (HHa : Hid (∀ wx, Calls Tryd.prog 72 #[.string (st (nms k)), .int .u8 97] wx fun e w' => e = .returned (.bool false) ∧ wx = w')) (HMa : Hid (∀ wx, Calls Tryd.prog 73 #[.int .i64 (k : Int), .int .u8 97] wx fun e w' => e = .returned (.int .i64 M) ∧ wx = w'))  (HHb : Hid (∀ wx, Calls Tryd.prog 72 #[.string (st (nms k)), .int .u8 98] wx fun e w' => e = .returned (.bool false) ∧ wx = w')) (HMb : Hid (∀ wx, Calls Tryd.prog 73 #[.int .i64 (k : Int), .int .u8 98] wx fun e w' => e = .returned (.int .i64 M') ∧ wx = w'))  (HHi : Hid (∀ wx, Calls Tryd.prog 72 #[.string (st (nms k)), .int .u8 105] wx fun e w' => e = .returned (.bool false) ∧ wx = w')) (hi : i ≠ 0) :
    Calls Tryd.prog 49 #[.agg #[.int .i64 (k : Int), .int .i64 0, .int .i64 0, .int .i64 i]] w fun e w' => e = .returned (.bool false) ∧ Below w.heap.size w w' := by
  have HN := Lib.hid (fun wx => rname_yes k hk wx)
  have HNs := Lib.hid (fun wx => names_in k hk wx)
  have hnl := nms_size k
  have hne := nm_ne k hk
  have B0 := (Below.refl w.heap.size w).alloc (Nat.le_refl _) (.cells #[.int .i64 (k : Int), .int .i64 0, .int .i64 0, .int .i64 i] 61)
  have KX0 := Blk.new w #[.int .i64 (k : Int), .int .i64 0, .int .i64 0, .int .i64 i] 61
  have hqi : (i == 0) = false := by rw [beq_eq_false_iff_ne]; exact hi
  go_enter Tryd.func49, Tryd.ntmps49
  go_wp2_with (first | (go_at_call 70; ((with_reducible refine (HN.out _).mono ?_); rintro e w1 ⟨rfl, hb1⟩; refine Hid.out ?_)))
  refine Lib.hid ?_
  have D1 := B0.trans (hb1.mono B0.size)
  have KX1 := KX0.below hb1
  have x0 := KX1.cell 0
  have x1 := KX1.cell 1
  have x2 := KX1.cell 2
  have x3 := KX1.cell 3
  clear KX0
  go_wp2_with (first | (go_at_call 71; ((with_reducible refine (HNs.out _).mono ?_); rintro e w2 ⟨rfl, rfl⟩)))
  go_quiet ((first | (go_at_call 72; exact quiet (HHa.out _)) | (go_at_call 73; exact quiet (HMa.out _))))
  have b2 : Below w1.heap.size w1 (w1.drewN nq) := drew_below _ _ _
  have D2 := D1.trans (b2.mono D1.size)
  have KX2 := KX1.below b2
  clear x0 x1 x2 x3 b2
  generalize w1.drewN nq = w2 at D2 KX2 ⊢
  have x0 := KX2.cell 0
  have x1 := KX2.cell 1
  have x2 := KX2.cell 2
  have x3 := KX2.cell 3
  go_wp2
  go_quiet ((first | (go_at_call 72; exact quiet (HHb.out _)) | (go_at_call 73; exact quiet (HMb.out _))))
  have b3 : Below w2.heap.size w2 (w2.drewN nq) := drew_below _ _ _
  have D3 := D2.trans (b3.mono D2.size)
  have KX3 := KX2.below b3
  clear x0 x1 x2 x3 b3
  generalize w2.drewN nq = w3 at D3 KX3 ⊢
  have x0 := KX3.cell 0
  have x1 := KX3.cell 1
  have x2 := KX3.cell 2
  have x3 := KX3.cell 3
  go_wp2_with ((first | (go_at_call 72; ((with_reducible refine (HHi.out _).mono ?_); rintro e w9 ⟨rfl, rfl⟩))))
  go_ret
  first | exact ⟨rfl, D3⟩ | exact ⟨ret_bool (decide_eq_false (by omega)), D3⟩ | exact ⟨ret_bool (decide_eq_true (by omega)), D3⟩
set_option maxRecDepth 100000 in
set_option maxHeartbeats 1000000 in
theorem may_443 (k : Nat) (hk : k < 30) (a b i M M' : Int) (w : World) (HHa : Hid (∀ wx, Calls Tryd.prog 72 #[.string (st (nms k)), .int .u8 97] wx fun e w' => e = .returned (.bool false) ∧ wx = w')) (HMa : Hid (∀ wx, Calls Tryd.prog 73 #[.int .i64 (k : Int), .int .u8 97] wx fun e w' => e = .returned (.int .i64 M) ∧ wx = w'))  (HHb : Hid (∀ wx, Calls Tryd.prog 72 #[.string (st (nms k)), .int .u8 98] wx fun e w' => e = .returned (.bool false) ∧ wx = w')) (HMb : Hid (∀ wx, Calls Tryd.prog 73 #[.int .i64 (k : Int), .int .u8 98] wx fun e w' => e = .returned (.int .i64 M') ∧ wx = w'))  (HHi : Hid (∀ wx, Calls Tryd.prog 72 #[.string (st (nms k)), .int .u8 105] wx fun e w' => e = .returned (.bool true) ∧ wx = w')) (hi : -32768 ≤ i) (hi2 : i ≤ 32767) :
    Calls Tryd.prog 49 #[.agg #[.int .i64 (k : Int), .int .i64 0, .int .i64 0, .int .i64 i]] w fun e w' => e = .returned (.bool true) ∧ Below w.heap.size w w' := by
  have HN := Lib.hid (fun wx => rname_yes k hk wx)
  have HNs := Lib.hid (fun wx => names_in k hk wx)
  have hnl := nms_size k
  have hne := nm_ne k hk
  have B0 := (Below.refl w.heap.size w).alloc (Nat.le_refl _) (.cells #[.int .i64 (k : Int), .int .i64 0, .int .i64 0, .int .i64 i] 61)
  have KX0 := Blk.new w #[.int .i64 (k : Int), .int .i64 0, .int .i64 0, .int .i64 i] 61
  have gi1 : decide (-32768 ≤ i) = true := decide_eq_true hi
  have gi2 : decide (i ≤ 32767) = true := decide_eq_true hi2
  have HI0 : Hid (-32768 ≤ i) := Lib.hid hi
  have HI2 : Hid (i ≤ 32767) := Lib.hid hi2
  clear hi hi2
  go_enter Tryd.func49, Tryd.ntmps49
  go_wp2_with (first | (go_at_call 70; ((with_reducible refine (HN.out _).mono ?_); rintro e w1 ⟨rfl, hb1⟩; refine Hid.out ?_)))
  refine Lib.hid ?_
  have D1 := B0.trans (hb1.mono B0.size)
  have KX1 := KX0.below hb1
  have x0 := KX1.cell 0
  have x1 := KX1.cell 1
  have x2 := KX1.cell 2
  have x3 := KX1.cell 3
  clear KX0
  go_wp2_with (first | (go_at_call 71; ((with_reducible refine (HNs.out _).mono ?_); rintro e w2 ⟨rfl, rfl⟩)))
  go_quiet ((first | (go_at_call 72; exact quiet (HHa.out _)) | (go_at_call 73; exact quiet (HMa.out _))))
  have b2 : Below w1.heap.size w1 (w1.drewN nq) := drew_below _ _ _
  have D2 := D1.trans (b2.mono D1.size)
  have KX2 := KX1.below b2
  clear x0 x1 x2 x3 b2
  generalize w1.drewN nq = w2 at D2 KX2 ⊢
  have x0 := KX2.cell 0
  have x1 := KX2.cell 1
  have x2 := KX2.cell 2
  have x3 := KX2.cell 3
  go_wp2
  go_quiet ((first | (go_at_call 72; exact quiet (HHb.out _)) | (go_at_call 73; exact quiet (HMb.out _))))
  have b3 : Below w2.heap.size w2 (w2.drewN nq) := drew_below _ _ _
  have D3 := D2.trans (b3.mono D2.size)
  have KX3 := KX2.below b3
  clear x0 x1 x2 x3 b3
  generalize w2.drewN nq = w3 at D3 KX3 ⊢
  have x0 := KX3.cell 0
  have x1 := KX3.cell 1
  have x2 := KX3.cell 2
  have x3 := KX3.cell 3
  go_wp2_with ((first | (go_at_call 72; ((with_reducible refine (HHi.out _).mono ?_); rintro e w9 ⟨rfl, rfl⟩))))
  go_ret
  first | exact ⟨rfl, D3⟩ | exact ⟨ret_bool (decide_eq_false (by omega)), D3⟩ | exact ⟨ret_bool (decide_eq_true (by omega)), D3⟩
set_option maxRecDepth 100000 in
set_option maxHeartbeats 1000000 in
theorem may_444 (k : Nat) (hk : k < 30) (a b i M M' : Int) (w : World) (HHa : Hid (∀ wx, Calls Tryd.prog 72 #[.string (st (nms k)), .int .u8 97] wx fun e w' => e = .returned (.bool false) ∧ wx = w')) (HMa : Hid (∀ wx, Calls Tryd.prog 73 #[.int .i64 (k : Int), .int .u8 97] wx fun e w' => e = .returned (.int .i64 M) ∧ wx = w'))  (HHb : Hid (∀ wx, Calls Tryd.prog 72 #[.string (st (nms k)), .int .u8 98] wx fun e w' => e = .returned (.bool false) ∧ wx = w')) (HMb : Hid (∀ wx, Calls Tryd.prog 73 #[.int .i64 (k : Int), .int .u8 98] wx fun e w' => e = .returned (.int .i64 M') ∧ wx = w'))  (HHi : Hid (∀ wx, Calls Tryd.prog 72 #[.string (st (nms k)), .int .u8 105] wx fun e w' => e = .returned (.bool false) ∧ wx = w'))  :
    Calls Tryd.prog 49 #[.agg #[.int .i64 (k : Int), .int .i64 0, .int .i64 0, .int .i64 0]] w fun e w' => e = .returned (.bool true) ∧ Below w.heap.size w w' := by
  have HN := Lib.hid (fun wx => rname_yes k hk wx)
  have HNs := Lib.hid (fun wx => names_in k hk wx)
  have hnl := nms_size k
  have hne := nm_ne k hk
  have B0 := (Below.refl w.heap.size w).alloc (Nat.le_refl _) (.cells #[.int .i64 (k : Int), .int .i64 0, .int .i64 0, .int .i64 0] 61)
  have KX0 := Blk.new w #[.int .i64 (k : Int), .int .i64 0, .int .i64 0, .int .i64 0] 61
  go_enter Tryd.func49, Tryd.ntmps49
  go_wp2_with (first | (go_at_call 70; ((with_reducible refine (HN.out _).mono ?_); rintro e w1 ⟨rfl, hb1⟩; refine Hid.out ?_)))
  refine Lib.hid ?_
  have D1 := B0.trans (hb1.mono B0.size)
  have KX1 := KX0.below hb1
  have x0 := KX1.cell 0
  have x1 := KX1.cell 1
  have x2 := KX1.cell 2
  have x3 := KX1.cell 3
  clear KX0
  go_wp2_with (first | (go_at_call 71; ((with_reducible refine (HNs.out _).mono ?_); rintro e w2 ⟨rfl, rfl⟩)))
  go_quiet ((first | (go_at_call 72; exact quiet (HHa.out _)) | (go_at_call 73; exact quiet (HMa.out _))))
  have b2 : Below w1.heap.size w1 (w1.drewN nq) := drew_below _ _ _
  have D2 := D1.trans (b2.mono D1.size)
  have KX2 := KX1.below b2
  clear x0 x1 x2 x3 b2
  generalize w1.drewN nq = w2 at D2 KX2 ⊢
  have x0 := KX2.cell 0
  have x1 := KX2.cell 1
  have x2 := KX2.cell 2
  have x3 := KX2.cell 3
  go_wp2
  go_quiet ((first | (go_at_call 72; exact quiet (HHb.out _)) | (go_at_call 73; exact quiet (HMb.out _))))
  have b3 : Below w2.heap.size w2 (w2.drewN nq) := drew_below _ _ _
  have D3 := D2.trans (b3.mono D2.size)
  have KX3 := KX2.below b3
  clear x0 x1 x2 x3 b3
  generalize w2.drewN nq = w3 at D3 KX3 ⊢
  have x0 := KX3.cell 0
  have x1 := KX3.cell 1
  have x2 := KX3.cell 2
  have x3 := KX3.cell 3
  go_wp2_with ((first | (go_at_call 72; ((with_reducible refine (HHi.out _).mono ?_); rintro e w9 ⟨rfl, rfl⟩))))
  go_ret
  first | exact ⟨rfl, D3⟩ | exact ⟨ret_bool (decide_eq_false (by omega)), D3⟩ | exact ⟨ret_bool (decide_eq_true (by omega)), D3⟩
end Go.Proofs.YtgnpbedhpkmkfaaDoor.Rb5
