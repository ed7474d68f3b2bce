/-
  The document's own: imm, word, signed, shifted.
-/
import Derived.Test.YtgnpbedhpkmkfaaDoorZCa
import Derived.Test.YtgnpbedhpkmkfaaDoorZRc
import Derived.Test.YtgnpbedhpkmkfaaDoorNums
namespace Go.Proofs.YtgnpbedhpkmkfaaDoor.RfA
open Go Go.RowKit Kit Bk CoM CoR CoB CoW CoI CoF CoT CoU CoV CoC CoE IsaM IsaT IsaL IsaC IsaE IsaN
set_option linter.unusedVariables false

theorem imm_any (i : Int) (h : -32768 ≤ i ∧ i ≤ 32767) (w : World) :
    Calls Tryd.prog 27 #[.int .i64 i] w fun e w' => e = .returned (uv (m32 i)) ∧ w = w' := by
  obtain ⟨h0, h1⟩ := h
  have ht : (i + 4294967296).tmod 4294967296 = m32 i := by unfold m32; rw [Int.tmod_eq_emod_of_nonneg (by omega)]; omega
  have hm := m32_bd i
  have hw : m32 i % 4294967296 = m32 i := by unfold m32; omega
  go_enter Tryd.func27, Tryd.ntmps27
  go_wp2
  go_ret
  exact ⟨ret_int (by first | rfl | omega | (rw [ht]; omega)), rfl⟩

set_option maxRecDepth 100000 in
theorem rword_no (w : World) (B : Nat) (ad : Option Addr) (cap : Nat) (b : CoM.Bs) (hL : Lies w B ad cap b) (a : Nat) (h1 : a < 4294967296) (h : ¬ a + 4 ≤ b.length) :
    Calls Tryd.prog 25 #[sl ad b cap, .int .u32 (a : Int)] w fun e w' => e = .returned (.tuple #[.int .u32 0, .bool false]) ∧ w = w' := by
  have hb := hL.le
  go_enter Tryd.func25, Tryd.ntmps25
  go_wp2
  go_ret2
  exact ⟨rfl, rfl⟩

set_option maxRecDepth 100000 in
set_option maxHeartbeats 1000000 in
theorem rword_yes (w : World) (B : Nat) (ad : Option Addr) (cap : Nat) (b : CoM.Bs) (hL : Lies w B ad cap b) (a : Nat) (h1 : a < 4294967296) (h : a + 4 ≤ b.length) :
    Calls Tryd.prog 25 #[sl ad b cap, .int .u32 (a : Int)] w fun e w' => e = .returned (.tuple #[.int .u32 (wordAt b a : Nat), .bool true]) ∧ w = w' := by
  have hb := hL.le
  obtain ⟨rfl, hc, c0, f0, lt⟩ := Lies.at_cell hL (i := a) (by omega)
  obtain ⟨_, _, c1, _, _⟩ := Lies.at_cell hL (i := a + 1) (by omega)
  obtain ⟨_, _, c2, _, _⟩ := Lies.at_cell hL (i := a + 2) (by omega)
  obtain ⟨_, _, c3, _, _⟩ := Lies.at_cell hL (i := a + 3) (by omega)
  have s0 := hL.small a
  have s1 := hL.small (a + 1)
  have s2 := hL.small (a + 2)
  have s3 := hL.small (a + 3)
  go_enter Tryd.func25, Tryd.ntmps25
  go_wp2
  refine wp_loop_rounds 5 ?_
  rw [rounds_succ]
  go_wp2
  rw [rounds_succ]
  go_wp2
  rw [rounds_succ]
  go_wp2
  rw [rounds_succ]
  go_wp2
  rw [rounds_succ]
  go_wp2
  go_ret2
  refine ⟨ret_ib ?_ rfl, rfl⟩
  unfold wordAt
  omega

theorem signed_any (v : Int) (h : 0 ≤ v ∧ v < 4294967296) (w : World) :
    Calls Tryd.prog 60 #[uv v] w fun e w' => e = .returned (.int .i64 (CoM.sgn v)) ∧ w = w' := by
  obtain ⟨h0, h1⟩ := h
  unfold CoM.sgn
  by_cases hv : 2147483648 ≤ v
  · rw [if_pos hv]
    go_enter Tryd.func60, Tryd.ntmps60
    go_wp2
    go_ret
    exact ⟨ret_int (by first | rfl | omega), rfl⟩
  · rw [if_neg hv]
    go_enter Tryd.func60, Tryd.ntmps60
    go_wp2
    go_ret
    exact ⟨ret_int (by first | rfl | omega), rfl⟩
end Go.Proofs.YtgnpbedhpkmkfaaDoor.RfA

/-
  The document's own: shifted.
-/
namespace Go.Proofs.YtgnpbedhpkmkfaaDoor.RfB
open Go Go.RowKit Kit Bk CoM CoR CoB CoW CoI CoF CoT CoU CoV CoC CoE IsaM IsaT IsaL IsaC IsaE IsaN RfA
set_option linter.unusedVariables false

set_option maxRecDepth 100000 in
set_option maxHeartbeats 1000000 in
theorem shifted_walk (a by_ : Int) (left : Bool) (f : Nat → Int) (n : Nat) (hn : n < 32) (hb0 : 0 ≤ by_) (hb1 : by_ < 4294967296) (hby : by_ % 32 = (n : Int)) (h0 : f 0 = a)
    (hb : Hid (∀ k, 0 ≤ f k ∧ f k < 4294967296)) (hs : Hid (∀ k, (if left then f k * 2 % 4294967296 else f k / 2) = f (k + 1))) (w : World) :
    Calls Tryd.prog 59 #[uv a, uv by_, .bool left] w fun e w' => e = .returned (uv (f n)) ∧ w = w' := by
  subst h0
  go_enter Tryd.func59, Tryd.ntmps59
  go_wp2
  go_loopw [0, 7] (fun x i wr => ∃ k : Nat, k ≤ n ∧ x = uv (f k) ∧ i = .int .u32 (k : Int) ∧ wr = w) (fun _ i _ => n - (intOf i).toNat)
  case atStart => exact ⟨0, Nat.zero_le _, rfl, rfl, rfl⟩
  case round =>
    obtain ⟨k, hk, rfl, rfl, rfl⟩ := hrel
    have hbk := hb.out k
    obtain ⟨hbk0, hbk1⟩ := hbk
    have hsk := hs.out k
    by_cases hlt : k < n
    · have d : decide ((k : Int) < (n : Int)) = true := decide_eq_true (by omega)
      cases left with
      | true =>
        simp only [if_true] at hsk
        have HS := Lib.hid hsk
        clear hsk
        go_wp2
        go_roundw
        case rel => exact ⟨k + 1, by omega, by rw [← HS.out], by go_num, trivial⟩
        case measure => simp [intOf]; omega
      | false =>
        simp only [Bool.false_eq_true, if_false] at hsk
        have HS := Lib.hid hsk
        clear hsk
        go_wp2
        go_roundw
        case rel => exact ⟨k + 1, by omega, by rw [← HS.out], by go_num, trivial⟩
        case measure => simp [intOf]; omega
    · obtain rfl : k = n := by omega
      have d : decide ((k : Int) < (k : Int)) = false := decide_eq_false (by omega)
      clear hsk
      go_wp2
      go_ret
      exact ⟨rfl, rfl⟩

theorem shl_any (a b : Int) (ha : 0 ≤ a ∧ a < 4294967296) (hb : 0 ≤ b ∧ b < 4294967296) (w : World) :
    Calls Tryd.prog 59 #[uv a, uv b, .bool true] w fun e w' => e = .returned (uv (m32 (a * 2 ^ (b % 32).toNat))) ∧ w = w' := by
  refine shifted_walk a b true (fun k => m32 (a * 2 ^ k)) (b % 32).toNat (by omega) hb.1 hb.2 (by omega) (by show m32 (a * 2 ^ 0) = a; rw [Int.pow_zero, Int.mul_one]; unfold m32; omega) (Lib.hid fun k => m32_bd _) (Lib.hid fun k => ?_) w
  show m32 (a * 2 ^ k) * 2 % 4294967296 = m32 (a * 2 ^ (k + 1))
  unfold m32
  rw [Int.pow_succ, ← Int.mul_assoc]
  omega
theorem shr_any (a b : Int) (ha : 0 ≤ a ∧ a < 4294967296) (hb : 0 ≤ b ∧ b < 4294967296) (w : World) :
    Calls Tryd.prog 59 #[uv a, uv b, .bool false] w fun e w' => e = .returned (uv (a / 2 ^ (b % 32).toNat)) ∧ w = w' := by
  have hp : ∀ k : Nat, (0 : Int) < 2 ^ k := fun k => Int.pow_pos (by omega)
  refine shifted_walk a b false (fun k => a / 2 ^ k) (b % 32).toNat (by omega) hb.1 hb.2 (by omega) (by show a / 2 ^ 0 = a; rw [Int.pow_zero, Int.ediv_one]) (Lib.hid fun k => ⟨Int.ediv_nonneg ha.1 (Int.le_of_lt (hp k)), Int.lt_of_le_of_lt (Int.ediv_le_self _ ha.1) ha.2⟩) (Lib.hid fun k => ?_) w
  show a / 2 ^ k / 2 = a / 2 ^ (k + 1)
  rw [Int.pow_succ, ← Int.ediv_ediv_of_nonneg (Int.le_of_lt (hp k))]
end Go.Proofs.YtgnpbedhpkmkfaaDoor.RfB

/-
  The document's own: count.
-/
namespace Go.Proofs.YtgnpbedhpkmkfaaDoor.RfC
open Go Go.RowKit Kit Bk CoM CoR CoB CoW CoI CoF CoT CoU CoV CoC CoE IsaM IsaT IsaL IsaC IsaE IsaN RfA RfB Nums
set_option linter.unusedVariables false
theorem rslt_yes {X Y i P : Int} (h : CoM.sgn X < CoM.sgn Y) : 1 = res 13 X Y i P := by simp [res, h]
theorem rslt_no {X Y i P : Int} (h : ¬ CoM.sgn X < CoM.sgn Y) : 0 = res 13 X Y i P := by simp [res, h]

set_option maxRecDepth 100000 in
set_option maxHeartbeats 1000000 in
theorem count_1 (w : World) (a b : Nat) (i : Int) (hi : -32768 ≤ i ∧ i ≤ 32767) (X Y P : Int) (hra : 0 ≤ X) (hrA : X < 4294967296) (hrb : 0 ≤ Y) (hrB : Y < 4294967296) :
    Calls Tryd.prog 39 #[.agg #[.int .i64 1, .int .i64 (a : Int), .int .i64 (b : Int), .int .i64 i], uv X, uv Y] w fun e w' => e = .returned (uv (res 1 X Y i P)) ∧ Below w.heap.size w w' := by
  have B1 := (Below.refl w.heap.size w).alloc (Nat.le_refl _) (.cells #[.int .i64 1, .int .i64 (a : Int), .int .i64 (b : Int), .int .i64 i] 61)
  have hm := m32_bd i
  go_enter Tryd.func39, Tryd.ntmps39
  go_wp2_with (first | (go_at_call 27; (with_reducible refine (imm_any i hi _).mono ?_); rintro e w1 ⟨rfl, rfl⟩) | (go_at_call 60; (with_reducible refine (signed_any _ (by first | exact ⟨hra, hrA⟩ | exact ⟨hrb, hrB⟩) _).mono ?_); rintro e w1 ⟨rfl, rfl⟩) | (go_at_call 59; first | ((with_reducible refine (shl_any X Y ⟨hra, hrA⟩ ⟨hrb, hrB⟩ _).mono ?_); rintro e w1 ⟨rfl, rfl⟩) | ((with_reducible refine (shr_any X Y ⟨hra, hrA⟩ ⟨hrb, hrB⟩ _).mono ?_); rintro e w1 ⟨rfl, rfl⟩)))
  all_goals go_ret
  all_goals (refine ⟨ret_int ?_, B1⟩; rfl)

set_option maxRecDepth 100000 in
set_option maxHeartbeats 1000000 in
theorem count_2 (w : World) (a b : Nat) (i : Int) (hi : -32768 ≤ i ∧ i ≤ 32767) (X Y P : Int) (hra : 0 ≤ X) (hrA : X < 4294967296) (hrb : 0 ≤ Y) (hrB : Y < 4294967296) :
    Calls Tryd.prog 39 #[.agg #[.int .i64 2, .int .i64 (a : Int), .int .i64 (b : Int), .int .i64 i], uv X, uv Y] w fun e w' => e = .returned (uv (res 2 X Y i P)) ∧ Below w.heap.size w w' := by
  have B1 := (Below.refl w.heap.size w).alloc (Nat.le_refl _) (.cells #[.int .i64 2, .int .i64 (a : Int), .int .i64 (b : Int), .int .i64 i] 61)
  have hm := m32_bd i
  go_enter Tryd.func39, Tryd.ntmps39
  go_wp2_with (first | (go_at_call 27; (with_reducible refine (imm_any i hi _).mono ?_); rintro e w1 ⟨rfl, rfl⟩) | (go_at_call 60; (with_reducible refine (signed_any _ (by first | exact ⟨hra, hrA⟩ | exact ⟨hrb, hrB⟩) _).mono ?_); rintro e w1 ⟨rfl, rfl⟩) | (go_at_call 59; first | ((with_reducible refine (shl_any X Y ⟨hra, hrA⟩ ⟨hrb, hrB⟩ _).mono ?_); rintro e w1 ⟨rfl, rfl⟩) | ((with_reducible refine (shr_any X Y ⟨hra, hrA⟩ ⟨hrb, hrB⟩ _).mono ?_); rintro e w1 ⟨rfl, rfl⟩)))
  all_goals go_ret
  all_goals (refine ⟨ret_int ?_, B1⟩; rfl)

set_option maxRecDepth 100000 in
set_option maxHeartbeats 1000000 in
theorem count_3 (w : World) (a b : Nat) (i : Int) (hi : -32768 ≤ i ∧ i ≤ 32767) (X Y P : Int) (hra : 0 ≤ X) (hrA : X < 4294967296) (hrb : 0 ≤ Y) (hrB : Y < 4294967296) :
    Calls Tryd.prog 39 #[.agg #[.int .i64 3, .int .i64 (a : Int), .int .i64 (b : Int), .int .i64 i], uv X, uv Y] w fun e w' => e = .returned (uv (res 3 X Y i P)) ∧ Below w.heap.size w w' := by
  have B1 := (Below.refl w.heap.size w).alloc (Nat.le_refl _) (.cells #[.int .i64 3, .int .i64 (a : Int), .int .i64 (b : Int), .int .i64 i] 61)
  have hm := m32_bd i
  go_enter Tryd.func39, Tryd.ntmps39
  go_wp2_with (first | (go_at_call 27; (with_reducible refine (imm_any i hi _).mono ?_); rintro e w1 ⟨rfl, rfl⟩) | (go_at_call 60; (with_reducible refine (signed_any _ (by first | exact ⟨hra, hrA⟩ | exact ⟨hrb, hrB⟩) _).mono ?_); rintro e w1 ⟨rfl, rfl⟩) | (go_at_call 59; first | ((with_reducible refine (shl_any X Y ⟨hra, hrA⟩ ⟨hrb, hrB⟩ _).mono ?_); rintro e w1 ⟨rfl, rfl⟩) | ((with_reducible refine (shr_any X Y ⟨hra, hrA⟩ ⟨hrb, hrB⟩ _).mono ?_); rintro e w1 ⟨rfl, rfl⟩)))
  all_goals go_ret
  all_goals (refine ⟨ret_int ?_, B1⟩; rfl)

set_option maxRecDepth 100000 in
set_option maxHeartbeats 1000000 in
theorem count_4 (w : World) (a b : Nat) (i : Int) (hi : -32768 ≤ i ∧ i ≤ 32767) (X Y P : Int) (hra : 0 ≤ X) (hrA : X < 4294967296) (hrb : 0 ≤ Y) (hrB : Y < 4294967296) :
    Calls Tryd.prog 39 #[.agg #[.int .i64 4, .int .i64 (a : Int), .int .i64 (b : Int), .int .i64 i], uv X, uv Y] w fun e w' => e = .returned (uv (res 4 X Y i P)) ∧ Below w.heap.size w w' := by
  have B1 := (Below.refl w.heap.size w).alloc (Nat.le_refl _) (.cells #[.int .i64 4, .int .i64 (a : Int), .int .i64 (b : Int), .int .i64 i] 61)
  have hm := m32_bd i
  go_enter Tryd.func39, Tryd.ntmps39
  go_wp2_with (first | (go_at_call 27; (with_reducible refine (imm_any i hi _).mono ?_); rintro e w1 ⟨rfl, rfl⟩) | (go_at_call 60; (with_reducible refine (signed_any _ (by first | exact ⟨hra, hrA⟩ | exact ⟨hrb, hrB⟩) _).mono ?_); rintro e w1 ⟨rfl, rfl⟩) | (go_at_call 59; first | ((with_reducible refine (shl_any X Y ⟨hra, hrA⟩ ⟨hrb, hrB⟩ _).mono ?_); rintro e w1 ⟨rfl, rfl⟩) | ((with_reducible refine (shr_any X Y ⟨hra, hrA⟩ ⟨hrb, hrB⟩ _).mono ?_); rintro e w1 ⟨rfl, rfl⟩)))
  all_goals go_ret
  all_goals (refine ⟨ret_int ?_, B1⟩; rfl)

set_option maxRecDepth 100000 in
set_option maxHeartbeats 1000000 in
theorem count_5 (w : World) (a b : Nat) (i : Int) (hi : -32768 ≤ i ∧ i ≤ 32767) (X Y P : Int) (hra : 0 ≤ X) (hrA : X < 4294967296) (hrb : 0 ≤ Y) (hrB : Y < 4294967296) :
    Calls Tryd.prog 39 #[.agg #[.int .i64 5, .int .i64 (a : Int), .int .i64 (b : Int), .int .i64 i], uv X, uv Y] w fun e w' => e = .returned (uv (res 5 X Y i P)) ∧ Below w.heap.size w w' := by
  have B1 := (Below.refl w.heap.size w).alloc (Nat.le_refl _) (.cells #[.int .i64 5, .int .i64 (a : Int), .int .i64 (b : Int), .int .i64 i] 61)
  have hm := m32_bd i
  go_enter Tryd.func39, Tryd.ntmps39
  go_wp2_with (first | (go_at_call 27; (with_reducible refine (imm_any i hi _).mono ?_); rintro e w1 ⟨rfl, rfl⟩) | (go_at_call 60; (with_reducible refine (signed_any _ (by first | exact ⟨hra, hrA⟩ | exact ⟨hrb, hrB⟩) _).mono ?_); rintro e w1 ⟨rfl, rfl⟩) | (go_at_call 59; first | ((with_reducible refine (shl_any X Y ⟨hra, hrA⟩ ⟨hrb, hrB⟩ _).mono ?_); rintro e w1 ⟨rfl, rfl⟩) | ((with_reducible refine (shr_any X Y ⟨hra, hrA⟩ ⟨hrb, hrB⟩ _).mono ?_); rintro e w1 ⟨rfl, rfl⟩)))
  all_goals go_ret
  all_goals (refine ⟨ret_int ?_, B1⟩; rfl)

set_option maxRecDepth 100000 in
set_option maxHeartbeats 1000000 in
theorem count_6 (w : World) (a b : Nat) (i : Int) (hi : -32768 ≤ i ∧ i ≤ 32767) (X Y P : Int) (hra : 0 ≤ X) (hrA : X < 4294967296) (hrb : 0 ≤ Y) (hrB : Y < 4294967296) :
    Calls Tryd.prog 39 #[.agg #[.int .i64 6, .int .i64 (a : Int), .int .i64 (b : Int), .int .i64 i], uv X, uv Y] w fun e w' => e = .returned (uv (res 6 X Y i P)) ∧ Below w.heap.size w w' := by
  have B1 := (Below.refl w.heap.size w).alloc (Nat.le_refl _) (.cells #[.int .i64 6, .int .i64 (a : Int), .int .i64 (b : Int), .int .i64 i] 61)
  have hm := m32_bd i
  go_enter Tryd.func39, Tryd.ntmps39
  go_wp2_with (first | (go_at_call 27; (with_reducible refine (imm_any i hi _).mono ?_); rintro e w1 ⟨rfl, rfl⟩) | (go_at_call 60; (with_reducible refine (signed_any _ (by first | exact ⟨hra, hrA⟩ | exact ⟨hrb, hrB⟩) _).mono ?_); rintro e w1 ⟨rfl, rfl⟩) | (go_at_call 59; first | ((with_reducible refine (shl_any X Y ⟨hra, hrA⟩ ⟨hrb, hrB⟩ _).mono ?_); rintro e w1 ⟨rfl, rfl⟩) | ((with_reducible refine (shr_any X Y ⟨hra, hrA⟩ ⟨hrb, hrB⟩ _).mono ?_); rintro e w1 ⟨rfl, rfl⟩)))
  all_goals go_ret
  all_goals (refine ⟨ret_int ?_, B1⟩; rfl)

set_option maxRecDepth 100000 in
set_option maxHeartbeats 1000000 in
theorem count_7 (w : World) (a b : Nat) (i : Int) (hi : -32768 ≤ i ∧ i ≤ 32767) (X Y P : Int) (hra : 0 ≤ X) (hrA : X < 4294967296) (hrb : 0 ≤ Y) (hrB : Y < 4294967296) :
    Calls Tryd.prog 39 #[.agg #[.int .i64 7, .int .i64 (a : Int), .int .i64 (b : Int), .int .i64 i], uv X, uv Y] w fun e w' => e = .returned (uv (res 7 X Y i P)) ∧ Below w.heap.size w w' := by
  have B1 := (Below.refl w.heap.size w).alloc (Nat.le_refl _) (.cells #[.int .i64 7, .int .i64 (a : Int), .int .i64 (b : Int), .int .i64 i] 61)
  have hm := m32_bd i
  go_enter Tryd.func39, Tryd.ntmps39
  go_wp2_with (first | (go_at_call 27; (with_reducible refine (imm_any i hi _).mono ?_); rintro e w1 ⟨rfl, rfl⟩) | (go_at_call 60; (with_reducible refine (signed_any _ (by first | exact ⟨hra, hrA⟩ | exact ⟨hrb, hrB⟩) _).mono ?_); rintro e w1 ⟨rfl, rfl⟩) | (go_at_call 59; first | ((with_reducible refine (shl_any X Y ⟨hra, hrA⟩ ⟨hrb, hrB⟩ _).mono ?_); rintro e w1 ⟨rfl, rfl⟩) | ((with_reducible refine (shr_any X Y ⟨hra, hrA⟩ ⟨hrb, hrB⟩ _).mono ?_); rintro e w1 ⟨rfl, rfl⟩)))
  all_goals go_ret
  all_goals (refine ⟨ret_int ?_, B1⟩; rfl)

set_option maxRecDepth 100000 in
set_option maxHeartbeats 1000000 in
theorem count_8 (w : World) (a b : Nat) (i : Int) (hi : -32768 ≤ i ∧ i ≤ 32767) (X Y P : Int) (hra : 0 ≤ X) (hrA : X < 4294967296) (hrb : 0 ≤ Y) (hrB : Y < 4294967296) :
    Calls Tryd.prog 39 #[.agg #[.int .i64 8, .int .i64 (a : Int), .int .i64 (b : Int), .int .i64 i], uv X, uv Y] w fun e w' => e = .returned (uv (res 8 X Y i P)) ∧ Below w.heap.size w w' := by
  have B1 := (Below.refl w.heap.size w).alloc (Nat.le_refl _) (.cells #[.int .i64 8, .int .i64 (a : Int), .int .i64 (b : Int), .int .i64 i] 61)
  have hm := m32_bd i
  go_enter Tryd.func39, Tryd.ntmps39
  go_wp2_with (first | (go_at_call 27; (with_reducible refine (imm_any i hi _).mono ?_); rintro e w1 ⟨rfl, rfl⟩) | (go_at_call 60; (with_reducible refine (signed_any _ (by first | exact ⟨hra, hrA⟩ | exact ⟨hrb, hrB⟩) _).mono ?_); rintro e w1 ⟨rfl, rfl⟩) | (go_at_call 59; first | ((with_reducible refine (shl_any X Y ⟨hra, hrA⟩ ⟨hrb, hrB⟩ _).mono ?_); rintro e w1 ⟨rfl, rfl⟩) | ((with_reducible refine (shr_any X Y ⟨hra, hrA⟩ ⟨hrb, hrB⟩ _).mono ?_); rintro e w1 ⟨rfl, rfl⟩)))
  all_goals go_ret
  all_goals (refine ⟨ret_int ?_, B1⟩; rfl)

set_option maxRecDepth 100000 in
set_option maxHeartbeats 1000000 in
theorem count_9 (w : World) (a b : Nat) (i : Int) (hi : -32768 ≤ i ∧ i ≤ 32767) (X Y P : Int) (hra : 0 ≤ X) (hrA : X < 4294967296) (hrb : 0 ≤ Y) (hrB : Y < 4294967296) :
    Calls Tryd.prog 39 #[.agg #[.int .i64 9, .int .i64 (a : Int), .int .i64 (b : Int), .int .i64 i], uv X, uv Y] w fun e w' => e = .returned (uv (res 9 X Y i P)) ∧ Below w.heap.size w w' := by
  have B1 := (Below.refl w.heap.size w).alloc (Nat.le_refl _) (.cells #[.int .i64 9, .int .i64 (a : Int), .int .i64 (b : Int), .int .i64 i] 61)
  have hm := m32_bd i
  go_enter Tryd.func39, Tryd.ntmps39
  go_wp2_with (first | (go_at_call 27; (with_reducible refine (imm_any i hi _).mono ?_); rintro e w1 ⟨rfl, rfl⟩) | (go_at_call 60; (with_reducible refine (signed_any _ (by first | exact ⟨hra, hrA⟩ | exact ⟨hrb, hrB⟩) _).mono ?_); rintro e w1 ⟨rfl, rfl⟩) | (go_at_call 59; first | ((with_reducible refine (shl_any X Y ⟨hra, hrA⟩ ⟨hrb, hrB⟩ _).mono ?_); rintro e w1 ⟨rfl, rfl⟩) | ((with_reducible refine (shr_any X Y ⟨hra, hrA⟩ ⟨hrb, hrB⟩ _).mono ?_); rintro e w1 ⟨rfl, rfl⟩)))
  all_goals go_ret
  all_goals (refine ⟨ret_int ?_, B1⟩; rfl)

set_option maxRecDepth 100000 in
set_option maxHeartbeats 1000000 in
theorem count_10 (w : World) (a b : Nat) (i : Int) (hi : -32768 ≤ i ∧ i ≤ 32767) (X Y P : Int) (hra : 0 ≤ X) (hrA : X < 4294967296) (hrb : 0 ≤ Y) (hrB : Y < 4294967296) :
    Calls Tryd.prog 39 #[.agg #[.int .i64 10, .int .i64 (a : Int), .int .i64 (b : Int), .int .i64 i], uv X, uv Y] w fun e w' => e = .returned (uv (res 10 X Y i P)) ∧ Below w.heap.size w w' := by
  have B1 := (Below.refl w.heap.size w).alloc (Nat.le_refl _) (.cells #[.int .i64 10, .int .i64 (a : Int), .int .i64 (b : Int), .int .i64 i] 61)
  have hm := m32_bd i
  go_enter Tryd.func39, Tryd.ntmps39
  go_wp2_with (first | (go_at_call 27; (with_reducible refine (imm_any i hi _).mono ?_); rintro e w1 ⟨rfl, rfl⟩) | (go_at_call 60; (with_reducible refine (signed_any _ (by first | exact ⟨hra, hrA⟩ | exact ⟨hrb, hrB⟩) _).mono ?_); rintro e w1 ⟨rfl, rfl⟩) | (go_at_call 59; first | ((with_reducible refine (shl_any X Y ⟨hra, hrA⟩ ⟨hrb, hrB⟩ _).mono ?_); rintro e w1 ⟨rfl, rfl⟩) | ((with_reducible refine (shr_any X Y ⟨hra, hrA⟩ ⟨hrb, hrB⟩ _).mono ?_); rintro e w1 ⟨rfl, rfl⟩)))
  all_goals go_ret
  all_goals (refine ⟨ret_int ?_, B1⟩; rfl)

set_option maxRecDepth 100000 in
set_option maxHeartbeats 1000000 in
theorem count_11 (w : World) (a b : Nat) (i : Int) (hi : -32768 ≤ i ∧ i ≤ 32767) (X Y P : Int) (hra : 0 ≤ X) (hrA : X < 4294967296) (hrb : 0 ≤ Y) (hrB : Y < 4294967296) :
    Calls Tryd.prog 39 #[.agg #[.int .i64 11, .int .i64 (a : Int), .int .i64 (b : Int), .int .i64 i], uv X, uv Y] w fun e w' => e = .returned (uv (res 11 X Y i P)) ∧ Below w.heap.size w w' := by
  have B1 := (Below.refl w.heap.size w).alloc (Nat.le_refl _) (.cells #[.int .i64 11, .int .i64 (a : Int), .int .i64 (b : Int), .int .i64 i] 61)
  have hm := m32_bd i
  go_enter Tryd.func39, Tryd.ntmps39
  go_wp2_with (first | (go_at_call 27; (with_reducible refine (imm_any i hi _).mono ?_); rintro e w1 ⟨rfl, rfl⟩) | (go_at_call 60; (with_reducible refine (signed_any _ (by first | exact ⟨hra, hrA⟩ | exact ⟨hrb, hrB⟩) _).mono ?_); rintro e w1 ⟨rfl, rfl⟩) | (go_at_call 59; first | ((with_reducible refine (shl_any X Y ⟨hra, hrA⟩ ⟨hrb, hrB⟩ _).mono ?_); rintro e w1 ⟨rfl, rfl⟩) | ((with_reducible refine (shr_any X Y ⟨hra, hrA⟩ ⟨hrb, hrB⟩ _).mono ?_); rintro e w1 ⟨rfl, rfl⟩)))
  all_goals go_ret
  all_goals (refine ⟨ret_int ?_, B1⟩; rfl)

set_option maxRecDepth 100000 in
set_option maxHeartbeats 1000000 in
theorem count_12 (w : World) (a b : Nat) (i : Int) (hi : -32768 ≤ i ∧ i ≤ 32767) (X Y P : Int) (hra : 0 ≤ X) (hrA : X < 4294967296) (hrb : 0 ≤ Y) (hrB : Y < 4294967296) :
    Calls Tryd.prog 39 #[.agg #[.int .i64 12, .int .i64 (a : Int), .int .i64 (b : Int), .int .i64 i], uv X, uv Y] w fun e w' => e = .returned (uv (res 12 X Y i P)) ∧ Below w.heap.size w w' := by
  have B1 := (Below.refl w.heap.size w).alloc (Nat.le_refl _) (.cells #[.int .i64 12, .int .i64 (a : Int), .int .i64 (b : Int), .int .i64 i] 61)
  have hm := m32_bd i
  go_enter Tryd.func39, Tryd.ntmps39
  go_wp2_with (first | (go_at_call 27; (with_reducible refine (imm_any i hi _).mono ?_); rintro e w1 ⟨rfl, rfl⟩) | (go_at_call 60; (with_reducible refine (signed_any _ (by first | exact ⟨hra, hrA⟩ | exact ⟨hrb, hrB⟩) _).mono ?_); rintro e w1 ⟨rfl, rfl⟩) | (go_at_call 59; first | ((with_reducible refine (shl_any X Y ⟨hra, hrA⟩ ⟨hrb, hrB⟩ _).mono ?_); rintro e w1 ⟨rfl, rfl⟩) | ((with_reducible refine (shr_any X Y ⟨hra, hrA⟩ ⟨hrb, hrB⟩ _).mono ?_); rintro e w1 ⟨rfl, rfl⟩)))
  all_goals go_ret
  all_goals (refine ⟨ret_int ?_, B1⟩; rfl)

set_option maxRecDepth 100000 in
set_option maxHeartbeats 1000000 in
theorem count_13 (w : World) (a b : Nat) (i : Int) (hi : -32768 ≤ i ∧ i ≤ 32767) (X Y P : Int) (hra : 0 ≤ X) (hrA : X < 4294967296) (hrb : 0 ≤ Y) (hrB : Y < 4294967296) :
    Calls Tryd.prog 39 #[.agg #[.int .i64 13, .int .i64 (a : Int), .int .i64 (b : Int), .int .i64 i], uv X, uv Y] w fun e w' => e = .returned (uv (res 13 X Y i P)) ∧ Below w.heap.size w w' := by
  have B1 := (Below.refl w.heap.size w).alloc (Nat.le_refl _) (.cells #[.int .i64 13, .int .i64 (a : Int), .int .i64 (b : Int), .int .i64 i] 61)
  have hm := m32_bd i
  go_enter Tryd.func39, Tryd.ntmps39
  go_wp2_with (first | (go_at_call 27; (with_reducible refine (imm_any i hi _).mono ?_); rintro e w1 ⟨rfl, rfl⟩) | (go_at_call 60; (with_reducible refine (signed_any _ (by first | exact ⟨hra, hrA⟩ | exact ⟨hrb, hrB⟩) _).mono ?_); rintro e w1 ⟨rfl, rfl⟩) | (go_at_call 59; first | ((with_reducible refine (shl_any X Y ⟨hra, hrA⟩ ⟨hrb, hrB⟩ _).mono ?_); rintro e w1 ⟨rfl, rfl⟩) | ((with_reducible refine (shr_any X Y ⟨hra, hrA⟩ ⟨hrb, hrB⟩ _).mono ?_); rintro e w1 ⟨rfl, rfl⟩)))
  all_goals go_ret
  all_goals (refine ⟨ret_int ?_, B1⟩; first | exact rslt_yes (by assumption) | exact rslt_no (by omega))

set_option maxRecDepth 100000 in
set_option maxHeartbeats 1000000 in
theorem count_14 (w : World) (a b : Nat) (i : Int) (hi : -32768 ≤ i ∧ i ≤ 32767) (X Y P : Int) (hra : 0 ≤ X) (hrA : X < 4294967296) (hrb : 0 ≤ Y) (hrB : Y < 4294967296) :
    Calls Tryd.prog 39 #[.agg #[.int .i64 14, .int .i64 (a : Int), .int .i64 (b : Int), .int .i64 i], uv X, uv Y] w fun e w' => e = .returned (uv (res 14 X Y i P)) ∧ Below w.heap.size w w' := by
  have B1 := (Below.refl w.heap.size w).alloc (Nat.le_refl _) (.cells #[.int .i64 14, .int .i64 (a : Int), .int .i64 (b : Int), .int .i64 i] 61)
  have hm := m32_bd i
  go_enter Tryd.func39, Tryd.ntmps39
  go_wp2_with (first | (go_at_call 27; (with_reducible refine (imm_any i hi _).mono ?_); rintro e w1 ⟨rfl, rfl⟩) | (go_at_call 60; (with_reducible refine (signed_any _ (by first | exact ⟨hra, hrA⟩ | exact ⟨hrb, hrB⟩) _).mono ?_); rintro e w1 ⟨rfl, rfl⟩) | (go_at_call 59; first | ((with_reducible refine (shl_any X Y ⟨hra, hrA⟩ ⟨hrb, hrB⟩ _).mono ?_); rintro e w1 ⟨rfl, rfl⟩) | ((with_reducible refine (shr_any X Y ⟨hra, hrA⟩ ⟨hrb, hrB⟩ _).mono ?_); rintro e w1 ⟨rfl, rfl⟩)))
  all_goals go_ret
  all_goals (refine ⟨ret_int ?_, B1⟩; simp_all [res])

set_option maxRecDepth 100000 in
set_option maxHeartbeats 1000000 in
theorem count_else (w : World) (k : Nat) (a b : Nat) (i : Int) (hk : (k < 1 ∨ 14 < k) ∧ k ≠ 22) (hi : -32768 ≤ i ∧ i ≤ 32767) (X Y P : Int) (hra : 0 ≤ X) (hrA : X < 4294967296) (hrb : 0 ≤ Y) (hrB : Y < 4294967296) :
    Calls Tryd.prog 39 #[.agg #[.int .i64 (k : Int), .int .i64 (a : Int), .int .i64 (b : Int), .int .i64 i], uv X, uv Y] w fun e w' => e = .returned (uv (res k X Y i P)) ∧ Below w.heap.size w w' := by
  have B1 := (Below.refl w.heap.size w).alloc (Nat.le_refl _) (.cells #[.int .i64 (k : Int), .int .i64 (a : Int), .int .i64 (b : Int), .int .i64 i] 61)
  have hm := m32_bd i
  have hr : res k X Y i P = X := by
    unfold res
    rw [if_neg (by omega), if_neg (by omega), if_neg (by omega), if_neg (by omega), if_neg (by omega), if_neg (by omega), if_neg (by omega), if_neg (by omega), if_neg (by omega), if_neg (by omega), if_neg (by omega), if_neg (by omega), if_neg (by omega), if_neg (by omega), if_neg (by omega)]
  rw [hr]
  have e1 : ((k : Int) == 1) = false := by simp; omega
  have e2 : ((k : Int) == 2) = false := by simp; omega
  have e3 : ((k : Int) == 3) = false := by simp; omega
  have e4 : ((k : Int) == 4) = false := by simp; omega
  have e5 : ((k : Int) == 5) = false := by simp; omega
  have e6 : ((k : Int) == 6) = false := by simp; omega
  have e7 : ((k : Int) == 7) = false := by simp; omega
  have e8 : ((k : Int) == 8) = false := by simp; omega
  have e9 : ((k : Int) == 9) = false := by simp; omega
  have e10 : ((k : Int) == 10) = false := by simp; omega
  have e11 : ((k : Int) == 11) = false := by simp; omega
  have e12 : ((k : Int) == 12) = false := by simp; omega
  have e13 : ((k : Int) == 13) = false := by simp; omega
  have e14 : ((k : Int) == 14) = false := by simp; omega
  clear hr hk
  go_enter Tryd.func39, Tryd.ntmps39
  go_wp2_with (first | (go_at_call 27; (with_reducible refine (imm_any i hi _).mono ?_); rintro e w1 ⟨rfl, rfl⟩) | (go_at_call 60; (with_reducible refine (signed_any _ (by first | exact ⟨hra, hrA⟩ | exact ⟨hrb, hrB⟩) _).mono ?_); rintro e w1 ⟨rfl, rfl⟩) | (go_at_call 59; first | ((with_reducible refine (shl_any X Y ⟨hra, hrA⟩ ⟨hrb, hrB⟩ _).mono ?_); rintro e w1 ⟨rfl, rfl⟩) | ((with_reducible refine (shr_any X Y ⟨hra, hrA⟩ ⟨hrb, hrB⟩ _).mono ?_); rintro e w1 ⟨rfl, rfl⟩)))
  all_goals go_ret
  all_goals (refine ⟨ret_int ?_, B1⟩; rfl)

theorem count_any (w : World) (k a b : Nat) (i : Int) (hk : k ≠ 22) (hi : -32768 ≤ i ∧ i ≤ 32767) (X Y P : Int) (hra : 0 ≤ X) (hrA : X < 4294967296) (hrb : 0 ≤ Y) (hrB : Y < 4294967296) :
    Calls Tryd.prog 39 #[.agg #[.int .i64 (k : Int), .int .i64 (a : Int), .int .i64 (b : Int), .int .i64 i], uv X, uv Y] w fun e w' => e = .returned (uv (res k X Y i P)) ∧ Below w.heap.size w w' := by
  by_cases h1 : k = 1
  · subst h1; exact count_1 w a b i hi X Y P hra hrA hrb hrB
  by_cases h2 : k = 2
  · subst h2; exact count_2 w a b i hi X Y P hra hrA hrb hrB
  by_cases h3 : k = 3
  · subst h3; exact count_3 w a b i hi X Y P hra hrA hrb hrB
  by_cases h4 : k = 4
  · subst h4; exact count_4 w a b i hi X Y P hra hrA hrb hrB
  by_cases h5 : k = 5
  · subst h5; exact count_5 w a b i hi X Y P hra hrA hrb hrB
  by_cases h6 : k = 6
  · subst h6; exact count_6 w a b i hi X Y P hra hrA hrb hrB
  by_cases h7 : k = 7
  · subst h7; exact count_7 w a b i hi X Y P hra hrA hrb hrB
  by_cases h8 : k = 8
  · subst h8; exact count_8 w a b i hi X Y P hra hrA hrb hrB
  by_cases h9 : k = 9
  · subst h9; exact count_9 w a b i hi X Y P hra hrA hrb hrB
  by_cases h10 : k = 10
  · subst h10; exact count_10 w a b i hi X Y P hra hrA hrb hrB
  by_cases h11 : k = 11
  · subst h11; exact count_11 w a b i hi X Y P hra hrA hrb hrB
  by_cases h12 : k = 12
  · subst h12; exact count_12 w a b i hi X Y P hra hrA hrb hrB
  by_cases h13 : k = 13
  · subst h13; exact count_13 w a b i hi X Y P hra hrA hrb hrB
  by_cases h14 : k = 14
  · subst h14; exact count_14 w a b i hi X Y P hra hrA hrb hrB
  exact count_else w k a b i (by omega) hi X Y P hra hrA hrb hrB
end Go.Proofs.YtgnpbedhpkmkfaaDoor.RfC
