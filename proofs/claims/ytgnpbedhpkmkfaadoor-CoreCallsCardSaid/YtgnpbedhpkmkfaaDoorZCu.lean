/-
  result: what a register's instruction makes of A.
-/
import Derived.Test.YtgnpbedhpkmkfaaDoorZCi
import Derived.Test.YtgnpbedhpkmkfaaDoorNums
namespace Go.Proofs.YtgnpbedhpkmkfaaDoor.CoU
open Go Go.RowKit Kit Bk CoM CoR CoB CoW CoI CoF CoT IsaM IsaT IsaL IsaC IsaE IsaN Nums
set_option linter.unusedVariables false

theorem and_low (X : Int) (h0 : 0 ≤ X) (h1 : X < 4294967296) : bits .and .u32 X 65535 = X % 65536 := by
  obtain ⟨x, rfl⟩ := Int.eq_ofNat_of_zero_le h0
  have e : bits .and .u32 (x : Int) ((65535 : Nat) : Int) = ((x &&& 65535 : Nat) : Int) := u32_and_nat x 65535 (by omega) (by omega)
  have e2 : x &&& 65535 = x % 65536 := Nat.and_two_pow_sub_one_eq_mod x 16
  rw [show (65535 : Int) = ((65535 : Nat) : Int) from rfl, e, e2]
  omega
theorem lui_eq (X Y i P : Int) (h0 : 0 ≤ X) (h1 : X < 4294967296) : bits .or .u32 (i % 4294967296 * 65536 % 4294967296) (bits .and .u32 X 65535) = res 2 X Y i P := by
  rw [and_low X h0 h1]
  obtain ⟨x, rfl⟩ := Int.eq_ofNat_of_zero_le h0
  obtain ⟨y, hy, hy2⟩ : ∃ y : Nat, i % 65536 = (y : Int) ∧ y < 65536 := ⟨(i % 65536).toNat, by omega, by omega⟩
  have e1 : i % 4294967296 * 65536 % 4294967296 = ((y * 2 ^ 16 : Nat) : Int) := by omega
  have e2 : (x : Int) % 65536 = ((x % 65536 : Nat) : Int) := by omega
  rw [e1, e2, u32_or_nat _ _ (by omega) (by omega), or_mul y 16 _ (by omega)]
  unfold res m32
  simp only [show ¬ (2 : Nat) = 1 by omega, if_false, if_true]
  omega
theorem slt_yes {X Y i P : Int} (hx : 0 ≤ X ∧ X < 4294967296) (hy : 0 ≤ Y ∧ Y < 4294967296) (h : wrap32 X < wrap32 Y) : 1 = res 13 X Y i P := by
  have : CoM.sgn X < CoM.sgn Y := by
    unfold CoM.sgn
    unfold wrap32 at h
    split <;> split <;> omega
  simp [res, this]
theorem slt_no {X Y i P : Int} (hx : 0 ≤ X ∧ X < 4294967296) (hy : 0 ≤ Y ∧ Y < 4294967296) (h : wrap32 Y ≤ wrap32 X) : 0 = res 13 X Y i P := by
  have : ¬ CoM.sgn X < CoM.sgn Y := by
    unfold CoM.sgn
    unfold wrap32 at h
    split <;> split <;> omega
  simp [res, this]
theorem seq_yes {X Y i P : Int} (h : X = Y) : 1 = res 14 Y Y i P := by simp [res]
theorem seq_no {X Y i P : Int} (h : ¬ X = Y) : 0 = res 14 X Y i P := by simp [res, h]

theorem truth_any (x : Bool) (w : World) : Calls Tryd.prog 56 #[.bool x] w fun e w' => e = .returned (.int .u32 (if x then 1 else 0)) ∧ w = w' := by
  cases x <;> (go_enter Tryd.func56, Tryd.ntmps56; go_wp2; go_ret; exact ⟨rfl, rfl⟩)

set_option maxRecDepth 100000 in
set_option maxHeartbeats 1000000 in
theorem result_1 (w : World) (a b : Nat) (i : Int) (ha : a < 8) (hb : b < 8) (s : St) (hs : s.Ok) :
    Calls Tryd.prog 30 #[insV 1 (a : Nat) (b : Nat) i, cv s] w fun e w' => e = .returned (.int .u32 (res 1 (s.r a) (s.r b) i s.pc)) ∧ Below w.heap.size w w' := by
  have hra := hs.r0 a
  have hrA := hs.r1 a
  have hrb := hs.r0 b
  have hrB := hs.r1 b
  have hpc0 := hs.p0
  have hpc1 := hs.p1
  have hca := cs_r s ha
  have hcr := cs_r s hb
  have hpp := cs_pc s
  have hbi : (b : Int) < 8 := by omega
  have hbi0 : (0 : Int) ≤ (b : Int) := by omega
  have hai : (a : Int) < 8 := by omega
  have hai0 : (0 : Int) ≤ (a : Int) := by omega
  have B2 := ((Below.refl w.heap.size w).alloc (Nat.le_refl _) (.cells #[.int .i64 1, .int .i64 (a : Int), .int .i64 (b : Int), .int .i64 i] 61)).alloc (by simp) (.cells (cs s) 30)
  obtain ⟨X, hX⟩ : ∃ X, s.r a = X := ⟨_, rfl⟩
  obtain ⟨Y, hY⟩ : ∃ Y, s.r b = Y := ⟨_, rfl⟩
  obtain ⟨P, hP⟩ : ∃ P, s.pc = P := ⟨_, rfl⟩
  rw [hX] at hca hra hrA ⊢
  rw [hY] at hcr hrb hrB ⊢
  rw [hP] at hpp hpc0 hpc1 ⊢
  clear hX hY hP hs
  unfold insV
  go_enter Tryd.func30, Tryd.ntmps30
  go_wp2
  go_quiet (fail)
  go_wp2
  go_ret
  exact ⟨ret_int (rfl), B2.trans (drew_below _ _ _)⟩

set_option maxRecDepth 100000 in
set_option maxHeartbeats 1000000 in
theorem result_2 (w : World) (a b : Nat) (i : Int) (ha : a < 8) (hb : b < 8) (s : St) (hs : s.Ok) :
    Calls Tryd.prog 30 #[insV 2 (a : Nat) (b : Nat) i, cv s] w fun e w' => e = .returned (.int .u32 (res 2 (s.r a) (s.r b) i s.pc)) ∧ Below w.heap.size w w' := by
  have hra := hs.r0 a
  have hrA := hs.r1 a
  have hrb := hs.r0 b
  have hrB := hs.r1 b
  have hpc0 := hs.p0
  have hpc1 := hs.p1
  have hca := cs_r s ha
  have hcr := cs_r s hb
  have hpp := cs_pc s
  have hbi : (b : Int) < 8 := by omega
  have hbi0 : (0 : Int) ≤ (b : Int) := by omega
  have hai : (a : Int) < 8 := by omega
  have hai0 : (0 : Int) ≤ (a : Int) := by omega
  have B2 := ((Below.refl w.heap.size w).alloc (Nat.le_refl _) (.cells #[.int .i64 2, .int .i64 (a : Int), .int .i64 (b : Int), .int .i64 i] 61)).alloc (by simp) (.cells (cs s) 30)
  obtain ⟨X, hX⟩ : ∃ X, s.r a = X := ⟨_, rfl⟩
  obtain ⟨Y, hY⟩ : ∃ Y, s.r b = Y := ⟨_, rfl⟩
  obtain ⟨P, hP⟩ : ∃ P, s.pc = P := ⟨_, rfl⟩
  rw [hX] at hca hra hrA ⊢
  rw [hY] at hcr hrb hrB ⊢
  rw [hP] at hpp hpc0 hpc1 ⊢
  clear hX hY hP hs
  unfold insV
  go_enter Tryd.func30, Tryd.ntmps30
  go_wp2
  go_quiet (fail)
  go_wp2
  go_ret
  exact ⟨ret_int (lui_eq X Y i P hra hrA), B2.trans (drew_below _ _ _)⟩

set_option maxRecDepth 100000 in
set_option maxHeartbeats 1000000 in
theorem result_3 (w : World) (a b : Nat) (i : Int) (ha : a < 8) (hb : b < 8) (s : St) (hs : s.Ok) :
    Calls Tryd.prog 30 #[insV 3 (a : Nat) (b : Nat) i, cv s] w fun e w' => e = .returned (.int .u32 (res 3 (s.r a) (s.r b) i s.pc)) ∧ Below w.heap.size w w' := by
  have hra := hs.r0 a
  have hrA := hs.r1 a
  have hrb := hs.r0 b
  have hrB := hs.r1 b
  have hpc0 := hs.p0
  have hpc1 := hs.p1
  have hca := cs_r s ha
  have hcr := cs_r s hb
  have hpp := cs_pc s
  have hbi : (b : Int) < 8 := by omega
  have hbi0 : (0 : Int) ≤ (b : Int) := by omega
  have hai : (a : Int) < 8 := by omega
  have hai0 : (0 : Int) ≤ (a : Int) := by omega
  have B2 := ((Below.refl w.heap.size w).alloc (Nat.le_refl _) (.cells #[.int .i64 3, .int .i64 (a : Int), .int .i64 (b : Int), .int .i64 i] 61)).alloc (by simp) (.cells (cs s) 30)
  obtain ⟨X, hX⟩ : ∃ X, s.r a = X := ⟨_, rfl⟩
  obtain ⟨Y, hY⟩ : ∃ Y, s.r b = Y := ⟨_, rfl⟩
  obtain ⟨P, hP⟩ : ∃ P, s.pc = P := ⟨_, rfl⟩
  rw [hX] at hca hra hrA ⊢
  rw [hY] at hcr hrb hrB ⊢
  rw [hP] at hpp hpc0 hpc1 ⊢
  clear hX hY hP hs
  unfold insV
  go_enter Tryd.func30, Tryd.ntmps30
  go_wp2
  go_quiet (fail)
  go_wp2
  go_ret
  exact ⟨ret_int (rfl), B2.trans (drew_below _ _ _)⟩

set_option maxRecDepth 100000 in
set_option maxHeartbeats 1000000 in
theorem result_4 (w : World) (a b : Nat) (i : Int) (ha : a < 8) (hb : b < 8) (s : St) (hs : s.Ok) :
    Calls Tryd.prog 30 #[insV 4 (a : Nat) (b : Nat) i, cv s] w fun e w' => e = .returned (.int .u32 (res 4 (s.r a) (s.r b) i s.pc)) ∧ Below w.heap.size w w' := by
  have hra := hs.r0 a
  have hrA := hs.r1 a
  have hrb := hs.r0 b
  have hrB := hs.r1 b
  have hpc0 := hs.p0
  have hpc1 := hs.p1
  have hca := cs_r s ha
  have hcr := cs_r s hb
  have hpp := cs_pc s
  have hbi : (b : Int) < 8 := by omega
  have hbi0 : (0 : Int) ≤ (b : Int) := by omega
  have hai : (a : Int) < 8 := by omega
  have hai0 : (0 : Int) ≤ (a : Int) := by omega
  have B2 := ((Below.refl w.heap.size w).alloc (Nat.le_refl _) (.cells #[.int .i64 4, .int .i64 (a : Int), .int .i64 (b : Int), .int .i64 i] 61)).alloc (by simp) (.cells (cs s) 30)
  obtain ⟨X, hX⟩ : ∃ X, s.r a = X := ⟨_, rfl⟩
  obtain ⟨Y, hY⟩ : ∃ Y, s.r b = Y := ⟨_, rfl⟩
  obtain ⟨P, hP⟩ : ∃ P, s.pc = P := ⟨_, rfl⟩
  rw [hX] at hca hra hrA ⊢
  rw [hY] at hcr hrb hrB ⊢
  rw [hP] at hpp hpc0 hpc1 ⊢
  clear hX hY hP hs
  unfold insV
  go_enter Tryd.func30, Tryd.ntmps30
  go_wp2
  go_quiet (fail)
  go_wp2
  go_ret
  exact ⟨ret_int (rfl), B2.trans (drew_below _ _ _)⟩

set_option maxRecDepth 100000 in
set_option maxHeartbeats 1000000 in
theorem result_5 (w : World) (a b : Nat) (i : Int) (ha : a < 8) (hb : b < 8) (s : St) (hs : s.Ok) :
    Calls Tryd.prog 30 #[insV 5 (a : Nat) (b : Nat) i, cv s] w fun e w' => e = .returned (.int .u32 (res 5 (s.r a) (s.r b) i s.pc)) ∧ Below w.heap.size w w' := by
  have hra := hs.r0 a
  have hrA := hs.r1 a
  have hrb := hs.r0 b
  have hrB := hs.r1 b
  have hpc0 := hs.p0
  have hpc1 := hs.p1
  have hca := cs_r s ha
  have hcr := cs_r s hb
  have hpp := cs_pc s
  have hbi : (b : Int) < 8 := by omega
  have hbi0 : (0 : Int) ≤ (b : Int) := by omega
  have hai : (a : Int) < 8 := by omega
  have hai0 : (0 : Int) ≤ (a : Int) := by omega
  have B2 := ((Below.refl w.heap.size w).alloc (Nat.le_refl _) (.cells #[.int .i64 5, .int .i64 (a : Int), .int .i64 (b : Int), .int .i64 i] 61)).alloc (by simp) (.cells (cs s) 30)
  obtain ⟨X, hX⟩ : ∃ X, s.r a = X := ⟨_, rfl⟩
  obtain ⟨Y, hY⟩ : ∃ Y, s.r b = Y := ⟨_, rfl⟩
  obtain ⟨P, hP⟩ : ∃ P, s.pc = P := ⟨_, rfl⟩
  rw [hX] at hca hra hrA ⊢
  rw [hY] at hcr hrb hrB ⊢
  rw [hP] at hpp hpc0 hpc1 ⊢
  clear hX hY hP hs
  unfold insV
  go_enter Tryd.func30, Tryd.ntmps30
  go_wp2
  go_quiet (fail)
  go_wp2
  go_ret
  exact ⟨ret_int (rfl), B2.trans (drew_below _ _ _)⟩

set_option maxRecDepth 100000 in
set_option maxHeartbeats 1000000 in
theorem result_6 (w : World) (a b : Nat) (i : Int) (ha : a < 8) (hb : b < 8) (s : St) (hs : s.Ok) :
    Calls Tryd.prog 30 #[insV 6 (a : Nat) (b : Nat) i, cv s] w fun e w' => e = .returned (.int .u32 (res 6 (s.r a) (s.r b) i s.pc)) ∧ Below w.heap.size w w' := by
  have hra := hs.r0 a
  have hrA := hs.r1 a
  have hrb := hs.r0 b
  have hrB := hs.r1 b
  have hpc0 := hs.p0
  have hpc1 := hs.p1
  have hca := cs_r s ha
  have hcr := cs_r s hb
  have hpp := cs_pc s
  have hbi : (b : Int) < 8 := by omega
  have hbi0 : (0 : Int) ≤ (b : Int) := by omega
  have hai : (a : Int) < 8 := by omega
  have hai0 : (0 : Int) ≤ (a : Int) := by omega
  have B2 := ((Below.refl w.heap.size w).alloc (Nat.le_refl _) (.cells #[.int .i64 6, .int .i64 (a : Int), .int .i64 (b : Int), .int .i64 i] 61)).alloc (by simp) (.cells (cs s) 30)
  obtain ⟨X, hX⟩ : ∃ X, s.r a = X := ⟨_, rfl⟩
  obtain ⟨Y, hY⟩ : ∃ Y, s.r b = Y := ⟨_, rfl⟩
  obtain ⟨P, hP⟩ : ∃ P, s.pc = P := ⟨_, rfl⟩
  rw [hX] at hca hra hrA ⊢
  rw [hY] at hcr hrb hrB ⊢
  rw [hP] at hpp hpc0 hpc1 ⊢
  clear hX hY hP hs
  unfold insV
  go_enter Tryd.func30, Tryd.ntmps30
  go_wp2
  go_quiet (fail)
  go_wp2
  go_ret
  exact ⟨ret_int (rfl), B2.trans (drew_below _ _ _)⟩

set_option maxRecDepth 100000 in
set_option maxHeartbeats 1000000 in
theorem result_7 (w : World) (a b : Nat) (i : Int) (ha : a < 8) (hb : b < 8) (s : St) (hs : s.Ok) :
    Calls Tryd.prog 30 #[insV 7 (a : Nat) (b : Nat) i, cv s] w fun e w' => e = .returned (.int .u32 (res 7 (s.r a) (s.r b) i s.pc)) ∧ Below w.heap.size w w' := by
  have hra := hs.r0 a
  have hrA := hs.r1 a
  have hrb := hs.r0 b
  have hrB := hs.r1 b
  have hpc0 := hs.p0
  have hpc1 := hs.p1
  have hca := cs_r s ha
  have hcr := cs_r s hb
  have hpp := cs_pc s
  have hbi : (b : Int) < 8 := by omega
  have hbi0 : (0 : Int) ≤ (b : Int) := by omega
  have hai : (a : Int) < 8 := by omega
  have hai0 : (0 : Int) ≤ (a : Int) := by omega
  have B2 := ((Below.refl w.heap.size w).alloc (Nat.le_refl _) (.cells #[.int .i64 7, .int .i64 (a : Int), .int .i64 (b : Int), .int .i64 i] 61)).alloc (by simp) (.cells (cs s) 30)
  obtain ⟨X, hX⟩ : ∃ X, s.r a = X := ⟨_, rfl⟩
  obtain ⟨Y, hY⟩ : ∃ Y, s.r b = Y := ⟨_, rfl⟩
  obtain ⟨P, hP⟩ : ∃ P, s.pc = P := ⟨_, rfl⟩
  rw [hX] at hca hra hrA ⊢
  rw [hY] at hcr hrb hrB ⊢
  rw [hP] at hpp hpc0 hpc1 ⊢
  clear hX hY hP hs
  unfold insV
  go_enter Tryd.func30, Tryd.ntmps30
  go_wp2
  go_quiet (fail)
  go_wp2
  go_ret
  exact ⟨ret_int (rfl), B2.trans (drew_below _ _ _)⟩

set_option maxRecDepth 100000 in
set_option maxHeartbeats 1000000 in
theorem result_8 (w : World) (a b : Nat) (i : Int) (ha : a < 8) (hb : b < 8) (s : St) (hs : s.Ok) :
    Calls Tryd.prog 30 #[insV 8 (a : Nat) (b : Nat) i, cv s] w fun e w' => e = .returned (.int .u32 (res 8 (s.r a) (s.r b) i s.pc)) ∧ Below w.heap.size w w' := by
  have hra := hs.r0 a
  have hrA := hs.r1 a
  have hrb := hs.r0 b
  have hrB := hs.r1 b
  have hpc0 := hs.p0
  have hpc1 := hs.p1
  have hca := cs_r s ha
  have hcr := cs_r s hb
  have hpp := cs_pc s
  have hbi : (b : Int) < 8 := by omega
  have hbi0 : (0 : Int) ≤ (b : Int) := by omega
  have hai : (a : Int) < 8 := by omega
  have hai0 : (0 : Int) ≤ (a : Int) := by omega
  have B2 := ((Below.refl w.heap.size w).alloc (Nat.le_refl _) (.cells #[.int .i64 8, .int .i64 (a : Int), .int .i64 (b : Int), .int .i64 i] 61)).alloc (by simp) (.cells (cs s) 30)
  obtain ⟨X, hX⟩ : ∃ X, s.r a = X := ⟨_, rfl⟩
  obtain ⟨Y, hY⟩ : ∃ Y, s.r b = Y := ⟨_, rfl⟩
  obtain ⟨P, hP⟩ : ∃ P, s.pc = P := ⟨_, rfl⟩
  rw [hX] at hca hra hrA ⊢
  rw [hY] at hcr hrb hrB ⊢
  rw [hP] at hpp hpc0 hpc1 ⊢
  clear hX hY hP hs
  unfold insV
  go_enter Tryd.func30, Tryd.ntmps30
  go_wp2
  go_quiet (fail)
  go_wp2
  go_ret
  exact ⟨ret_int (rfl), B2.trans (drew_below _ _ _)⟩

set_option maxRecDepth 100000 in
set_option maxHeartbeats 1000000 in
theorem result_9 (w : World) (a b : Nat) (i : Int) (ha : a < 8) (hb : b < 8) (s : St) (hs : s.Ok) :
    Calls Tryd.prog 30 #[insV 9 (a : Nat) (b : Nat) i, cv s] w fun e w' => e = .returned (.int .u32 (res 9 (s.r a) (s.r b) i s.pc)) ∧ Below w.heap.size w w' := by
  have hra := hs.r0 a
  have hrA := hs.r1 a
  have hrb := hs.r0 b
  have hrB := hs.r1 b
  have hpc0 := hs.p0
  have hpc1 := hs.p1
  have hca := cs_r s ha
  have hcr := cs_r s hb
  have hpp := cs_pc s
  have hbi : (b : Int) < 8 := by omega
  have hbi0 : (0 : Int) ≤ (b : Int) := by omega
  have hai : (a : Int) < 8 := by omega
  have hai0 : (0 : Int) ≤ (a : Int) := by omega
  have B2 := ((Below.refl w.heap.size w).alloc (Nat.le_refl _) (.cells #[.int .i64 9, .int .i64 (a : Int), .int .i64 (b : Int), .int .i64 i] 61)).alloc (by simp) (.cells (cs s) 30)
  obtain ⟨X, hX⟩ : ∃ X, s.r a = X := ⟨_, rfl⟩
  obtain ⟨Y, hY⟩ : ∃ Y, s.r b = Y := ⟨_, rfl⟩
  obtain ⟨P, hP⟩ : ∃ P, s.pc = P := ⟨_, rfl⟩
  rw [hX] at hca hra hrA ⊢
  rw [hY] at hcr hrb hrB ⊢
  rw [hP] at hpp hpc0 hpc1 ⊢
  clear hX hY hP hs
  unfold insV
  go_enter Tryd.func30, Tryd.ntmps30
  go_wp2
  go_quiet (fail)
  go_wp2
  go_ret
  exact ⟨ret_int (rfl), B2.trans (drew_below _ _ _)⟩

set_option maxRecDepth 100000 in
set_option maxHeartbeats 1000000 in
theorem result_10 (w : World) (a b : Nat) (i : Int) (ha : a < 8) (hb : b < 8) (s : St) (hs : s.Ok) :
    Calls Tryd.prog 30 #[insV 10 (a : Nat) (b : Nat) i, cv s] w fun e w' => e = .returned (.int .u32 (res 10 (s.r a) (s.r b) i s.pc)) ∧ Below w.heap.size w w' := by
  have hra := hs.r0 a
  have hrA := hs.r1 a
  have hrb := hs.r0 b
  have hrB := hs.r1 b
  have hpc0 := hs.p0
  have hpc1 := hs.p1
  have hca := cs_r s ha
  have hcr := cs_r s hb
  have hpp := cs_pc s
  have hbi : (b : Int) < 8 := by omega
  have hbi0 : (0 : Int) ≤ (b : Int) := by omega
  have hai : (a : Int) < 8 := by omega
  have hai0 : (0 : Int) ≤ (a : Int) := by omega
  have B2 := ((Below.refl w.heap.size w).alloc (Nat.le_refl _) (.cells #[.int .i64 10, .int .i64 (a : Int), .int .i64 (b : Int), .int .i64 i] 61)).alloc (by simp) (.cells (cs s) 30)
  obtain ⟨X, hX⟩ : ∃ X, s.r a = X := ⟨_, rfl⟩
  obtain ⟨Y, hY⟩ : ∃ Y, s.r b = Y := ⟨_, rfl⟩
  obtain ⟨P, hP⟩ : ∃ P, s.pc = P := ⟨_, rfl⟩
  rw [hX] at hca hra hrA ⊢
  rw [hY] at hcr hrb hrB ⊢
  rw [hP] at hpp hpc0 hpc1 ⊢
  clear hX hY hP hs
  unfold insV
  go_enter Tryd.func30, Tryd.ntmps30
  go_wp2
  go_quiet (fail)
  go_wp2
  go_ret
  exact ⟨ret_int (rfl), B2.trans (drew_below _ _ _)⟩

set_option maxRecDepth 100000 in
set_option maxHeartbeats 1000000 in
theorem result_11 (w : World) (a b : Nat) (i : Int) (ha : a < 8) (hb : b < 8) (s : St) (hs : s.Ok) :
    Calls Tryd.prog 30 #[insV 11 (a : Nat) (b : Nat) i, cv s] w fun e w' => e = .returned (.int .u32 (res 11 (s.r a) (s.r b) i s.pc)) ∧ Below w.heap.size w w' := by
  have hra := hs.r0 a
  have hrA := hs.r1 a
  have hrb := hs.r0 b
  have hrB := hs.r1 b
  have hpc0 := hs.p0
  have hpc1 := hs.p1
  have hca := cs_r s ha
  have hcr := cs_r s hb
  have hpp := cs_pc s
  have hbi : (b : Int) < 8 := by omega
  have hbi0 : (0 : Int) ≤ (b : Int) := by omega
  have hai : (a : Int) < 8 := by omega
  have hai0 : (0 : Int) ≤ (a : Int) := by omega
  have B2 := ((Below.refl w.heap.size w).alloc (Nat.le_refl _) (.cells #[.int .i64 11, .int .i64 (a : Int), .int .i64 (b : Int), .int .i64 i] 61)).alloc (by simp) (.cells (cs s) 30)
  obtain ⟨X, hX⟩ : ∃ X, s.r a = X := ⟨_, rfl⟩
  obtain ⟨Y, hY⟩ : ∃ Y, s.r b = Y := ⟨_, rfl⟩
  obtain ⟨P, hP⟩ : ∃ P, s.pc = P := ⟨_, rfl⟩
  rw [hX] at hca hra hrA ⊢
  rw [hY] at hcr hrb hrB ⊢
  rw [hP] at hpp hpc0 hpc1 ⊢
  clear hX hY hP hs
  unfold insV
  go_enter Tryd.func30, Tryd.ntmps30
  go_wp2
  go_quiet (fail)
  go_wp2
  go_ret
  exact ⟨ret_int (rfl), B2.trans (drew_below _ _ _)⟩

set_option maxRecDepth 100000 in
set_option maxHeartbeats 1000000 in
theorem result_12 (w : World) (a b : Nat) (i : Int) (ha : a < 8) (hb : b < 8) (s : St) (hs : s.Ok) :
    Calls Tryd.prog 30 #[insV 12 (a : Nat) (b : Nat) i, cv s] w fun e w' => e = .returned (.int .u32 (res 12 (s.r a) (s.r b) i s.pc)) ∧ Below w.heap.size w w' := by
  have hra := hs.r0 a
  have hrA := hs.r1 a
  have hrb := hs.r0 b
  have hrB := hs.r1 b
  have hpc0 := hs.p0
  have hpc1 := hs.p1
  have hca := cs_r s ha
  have hcr := cs_r s hb
  have hpp := cs_pc s
  have hbi : (b : Int) < 8 := by omega
  have hbi0 : (0 : Int) ≤ (b : Int) := by omega
  have hai : (a : Int) < 8 := by omega
  have hai0 : (0 : Int) ≤ (a : Int) := by omega
  have B2 := ((Below.refl w.heap.size w).alloc (Nat.le_refl _) (.cells #[.int .i64 12, .int .i64 (a : Int), .int .i64 (b : Int), .int .i64 i] 61)).alloc (by simp) (.cells (cs s) 30)
  obtain ⟨X, hX⟩ : ∃ X, s.r a = X := ⟨_, rfl⟩
  obtain ⟨Y, hY⟩ : ∃ Y, s.r b = Y := ⟨_, rfl⟩
  obtain ⟨P, hP⟩ : ∃ P, s.pc = P := ⟨_, rfl⟩
  rw [hX] at hca hra hrA ⊢
  rw [hY] at hcr hrb hrB ⊢
  rw [hP] at hpp hpc0 hpc1 ⊢
  clear hX hY hP hs
  unfold insV
  go_enter Tryd.func30, Tryd.ntmps30
  go_wp2
  go_quiet (fail)
  go_wp2
  go_ret
  exact ⟨ret_int (rfl), B2.trans (drew_below _ _ _)⟩

set_option maxRecDepth 100000 in
set_option maxHeartbeats 1000000 in
theorem result_13 (w : World) (a b : Nat) (i : Int) (ha : a < 8) (hb : b < 8) (s : St) (hs : s.Ok) :
    Calls Tryd.prog 30 #[insV 13 (a : Nat) (b : Nat) i, cv s] w fun e w' => e = .returned (.int .u32 (res 13 (s.r a) (s.r b) i s.pc)) ∧ Below w.heap.size w w' := by
  have hra := hs.r0 a
  have hrA := hs.r1 a
  have hrb := hs.r0 b
  have hrB := hs.r1 b
  have hpc0 := hs.p0
  have hpc1 := hs.p1
  have hca := cs_r s ha
  have hcr := cs_r s hb
  have hpp := cs_pc s
  have hbi : (b : Int) < 8 := by omega
  have hbi0 : (0 : Int) ≤ (b : Int) := by omega
  have hai : (a : Int) < 8 := by omega
  have hai0 : (0 : Int) ≤ (a : Int) := by omega
  have B2 := ((Below.refl w.heap.size w).alloc (Nat.le_refl _) (.cells #[.int .i64 13, .int .i64 (a : Int), .int .i64 (b : Int), .int .i64 i] 61)).alloc (by simp) (.cells (cs s) 30)
  obtain ⟨X, hX⟩ : ∃ X, s.r a = X := ⟨_, rfl⟩
  obtain ⟨Y, hY⟩ : ∃ Y, s.r b = Y := ⟨_, rfl⟩
  obtain ⟨P, hP⟩ : ∃ P, s.pc = P := ⟨_, rfl⟩
  rw [hX] at hca hra hrA ⊢
  rw [hY] at hcr hrb hrB ⊢
  rw [hP] at hpp hpc0 hpc1 ⊢
  clear hX hY hP hs
  unfold insV
  go_enter Tryd.func30, Tryd.ntmps30
  go_wp2
  go_quiet (fail)
  go_wp2_with (go_at_call 56; refine (truth_any _ _).mono ?_; rintro e w1 ⟨rfl, rfl⟩)
  all_goals go_ret
  all_goals (refine ⟨ret_int ?_, B2.trans (drew_below _ _ _)⟩; first | exact slt_yes ⟨hra, hrA⟩ ⟨hrb, hrB⟩ (by assumption) | exact slt_no ⟨hra, hrA⟩ ⟨hrb, hrB⟩ (by assumption) | exact seq_yes (by assumption) | exact seq_no (by assumption))

set_option maxRecDepth 100000 in
set_option maxHeartbeats 1000000 in
theorem result_14 (w : World) (a b : Nat) (i : Int) (ha : a < 8) (hb : b < 8) (s : St) (hs : s.Ok) :
    Calls Tryd.prog 30 #[insV 14 (a : Nat) (b : Nat) i, cv s] w fun e w' => e = .returned (.int .u32 (res 14 (s.r a) (s.r b) i s.pc)) ∧ Below w.heap.size w w' := by
  have hra := hs.r0 a
  have hrA := hs.r1 a
  have hrb := hs.r0 b
  have hrB := hs.r1 b
  have hpc0 := hs.p0
  have hpc1 := hs.p1
  have hca := cs_r s ha
  have hcr := cs_r s hb
  have hpp := cs_pc s
  have hbi : (b : Int) < 8 := by omega
  have hbi0 : (0 : Int) ≤ (b : Int) := by omega
  have hai : (a : Int) < 8 := by omega
  have hai0 : (0 : Int) ≤ (a : Int) := by omega
  have B2 := ((Below.refl w.heap.size w).alloc (Nat.le_refl _) (.cells #[.int .i64 14, .int .i64 (a : Int), .int .i64 (b : Int), .int .i64 i] 61)).alloc (by simp) (.cells (cs s) 30)
  obtain ⟨X, hX⟩ : ∃ X, s.r a = X := ⟨_, rfl⟩
  obtain ⟨Y, hY⟩ : ∃ Y, s.r b = Y := ⟨_, rfl⟩
  obtain ⟨P, hP⟩ : ∃ P, s.pc = P := ⟨_, rfl⟩
  rw [hX] at hca hra hrA ⊢
  rw [hY] at hcr hrb hrB ⊢
  rw [hP] at hpp hpc0 hpc1 ⊢
  clear hX hY hP hs
  unfold insV
  go_enter Tryd.func30, Tryd.ntmps30
  go_wp2
  go_quiet (fail)
  go_wp2_with (go_at_call 56; refine (truth_any _ _).mono ?_; rintro e w1 ⟨rfl, rfl⟩)
  all_goals go_ret
  all_goals (refine ⟨ret_int ?_, B2.trans (drew_below _ _ _)⟩; first | exact slt_yes ⟨hra, hrA⟩ ⟨hrb, hrB⟩ (by assumption) | exact slt_no ⟨hra, hrA⟩ ⟨hrb, hrB⟩ (by assumption) | exact seq_yes (by assumption) | exact seq_no (by assumption))

set_option maxRecDepth 100000 in
set_option maxHeartbeats 1000000 in
theorem result_22 (w : World) (a b : Nat) (i : Int) (ha : a < 8) (hb : b < 8) (s : St) (hs : s.Ok) :
    Calls Tryd.prog 30 #[insV 22 (a : Nat) (b : Nat) i, cv s] w fun e w' => e = .returned (.int .u32 (res 22 (s.r a) (s.r b) i s.pc)) ∧ Below w.heap.size w w' := by
  have hra := hs.r0 a
  have hrA := hs.r1 a
  have hrb := hs.r0 b
  have hrB := hs.r1 b
  have hpc0 := hs.p0
  have hpc1 := hs.p1
  have hca := cs_r s ha
  have hcr := cs_r s hb
  have hpp := cs_pc s
  have hbi : (b : Int) < 8 := by omega
  have hbi0 : (0 : Int) ≤ (b : Int) := by omega
  have hai : (a : Int) < 8 := by omega
  have hai0 : (0 : Int) ≤ (a : Int) := by omega
  have B2 := ((Below.refl w.heap.size w).alloc (Nat.le_refl _) (.cells #[.int .i64 22, .int .i64 (a : Int), .int .i64 (b : Int), .int .i64 i] 61)).alloc (by simp) (.cells (cs s) 30)
  obtain ⟨X, hX⟩ : ∃ X, s.r a = X := ⟨_, rfl⟩
  obtain ⟨Y, hY⟩ : ∃ Y, s.r b = Y := ⟨_, rfl⟩
  obtain ⟨P, hP⟩ : ∃ P, s.pc = P := ⟨_, rfl⟩
  rw [hX] at hca hra hrA ⊢
  rw [hY] at hcr hrb hrB ⊢
  rw [hP] at hpp hpc0 hpc1 ⊢
  clear hX hY hP hs
  unfold insV
  go_enter Tryd.func30, Tryd.ntmps30
  go_wp2
  go_quiet (fail)
  go_wp2
  go_ret
  exact ⟨ret_int (rfl), B2.trans (drew_below _ _ _)⟩

set_option maxRecDepth 100000 in
set_option maxHeartbeats 1000000 in
theorem result_else (w : World) (k a b : Nat) (i : Int) (hk : (k < 1 ∨ 14 < k) ∧ k ≠ 22) (ha : a < 8) (hb : b < 8) (s : St) (hs : s.Ok) :
    Calls Tryd.prog 30 #[insV (k : Nat) (a : Nat) (b : Nat) i, cv s] w fun e w' => e = .returned (.int .u32 (res k (s.r a) (s.r b) i s.pc)) ∧ Below w.heap.size w w' := by
  have hra := hs.r0 a
  have hrA := hs.r1 a
  have hrb := hs.r0 b
  have hrB := hs.r1 b
  have hpc0 := hs.p0
  have hpc1 := hs.p1
  have hca := cs_r s ha
  have hcr := cs_r s hb
  have hpp := cs_pc s
  have hbi : (b : Int) < 8 := by omega
  have hbi0 : (0 : Int) ≤ (b : Int) := by omega
  have hai : (a : Int) < 8 := by omega
  have hai0 : (0 : Int) ≤ (a : Int) := by omega
  have B2 := ((Below.refl w.heap.size w).alloc (Nat.le_refl _) (.cells #[.int .i64 (k : Int), .int .i64 (a : Int), .int .i64 (b : Int), .int .i64 i] 61)).alloc (by simp) (.cells (cs s) 30)
  obtain ⟨X, hX⟩ : ∃ X, s.r a = X := ⟨_, rfl⟩
  obtain ⟨Y, hY⟩ : ∃ Y, s.r b = Y := ⟨_, rfl⟩
  obtain ⟨P, hP⟩ : ∃ P, s.pc = P := ⟨_, rfl⟩
  rw [hX] at hca hra hrA ⊢
  rw [hY] at hcr hrb hrB ⊢
  rw [hP] at hpp hpc0 hpc1 ⊢
  clear hX hY hP hs
  have hr : res k X Y i P = X := by
    unfold res
    rw [if_neg (by omega), if_neg (by omega), if_neg (by omega), if_neg (by omega), if_neg (by omega), if_neg (by omega), if_neg (by omega), if_neg (by omega), if_neg (by omega), if_neg (by omega), if_neg (by omega), if_neg (by omega), if_neg (by omega), if_neg (by omega), if_neg (by omega)]
  rw [hr]
  have e1 : ((k : Int) == 1) = false := by simp; omega
  have e2 : ((k : Int) == 2) = false := by simp; omega
  have e3 : ((k : Int) == 3) = false := by simp; omega
  have e4 : ((k : Int) == 4) = false := by simp; omega
  have e5 : ((k : Int) == 5) = false := by simp; omega
  have e6 : ((k : Int) == 6) = false := by simp; omega
  have e7 : ((k : Int) == 7) = false := by simp; omega
  have e8 : ((k : Int) == 8) = false := by simp; omega
  have e9 : ((k : Int) == 9) = false := by simp; omega
  have e10 : ((k : Int) == 10) = false := by simp; omega
  have e11 : ((k : Int) == 11) = false := by simp; omega
  have e12 : ((k : Int) == 12) = false := by simp; omega
  have e13 : ((k : Int) == 13) = false := by simp; omega
  have e14 : ((k : Int) == 14) = false := by simp; omega
  have e22 : ((k : Int) == 22) = false := by simp; omega
  clear hr hk
  unfold insV
  go_enter Tryd.func30, Tryd.ntmps30
  go_wp2
  go_quiet (fail)
  go_wp2
  go_ret
  exact ⟨rfl, B2.trans (drew_below _ _ _)⟩

theorem result_any (w : World) (k a b : Nat) (i : Int) (ha : a < 8) (hb : b < 8) (s : St) (hs : s.Ok) :
    Calls Tryd.prog 30 #[insV (k : Nat) (a : Nat) (b : Nat) i, cv s] w fun e w' => e = .returned (.int .u32 (res k (s.r a) (s.r b) i s.pc)) ∧ Below w.heap.size w w' := by
  by_cases h1 : k = 1
  · subst h1; exact result_1 w a b i ha hb s hs
  by_cases h2 : k = 2
  · subst h2; exact result_2 w a b i ha hb s hs
  by_cases h3 : k = 3
  · subst h3; exact result_3 w a b i ha hb s hs
  by_cases h4 : k = 4
  · subst h4; exact result_4 w a b i ha hb s hs
  by_cases h5 : k = 5
  · subst h5; exact result_5 w a b i ha hb s hs
  by_cases h6 : k = 6
  · subst h6; exact result_6 w a b i ha hb s hs
  by_cases h7 : k = 7
  · subst h7; exact result_7 w a b i ha hb s hs
  by_cases h8 : k = 8
  · subst h8; exact result_8 w a b i ha hb s hs
  by_cases h9 : k = 9
  · subst h9; exact result_9 w a b i ha hb s hs
  by_cases h10 : k = 10
  · subst h10; exact result_10 w a b i ha hb s hs
  by_cases h11 : k = 11
  · subst h11; exact result_11 w a b i ha hb s hs
  by_cases h12 : k = 12
  · subst h12; exact result_12 w a b i ha hb s hs
  by_cases h13 : k = 13
  · subst h13; exact result_13 w a b i ha hb s hs
  by_cases h14 : k = 14
  · subst h14; exact result_14 w a b i ha hb s hs
  by_cases h22 : k = 22
  · subst h22; exact result_22 w a b i ha hb s hs
  exact result_else w k a b i (by omega) ha hb s hs
end Go.Proofs.YtgnpbedhpkmkfaaDoor.CoU

/-
  goesOn: Pc behind an instruction.
-/
namespace Go.Proofs.YtgnpbedhpkmkfaaDoor.CoV
open Go Go.RowKit Kit Bk CoM CoR CoB CoW CoI CoF CoT CoU IsaM IsaT IsaL IsaC IsaE IsaN Nums
set_option linter.unusedVariables false

theorem jmp_eq {k : Nat} {X i P : Int} (h : k ≠ 23) (hj : jumps k X = true) : ((P + 4) % 4294967296 + 4 * (i % 4294967296) % 4294967296) % 4294967296 = nxt k X i P := by
  unfold nxt
  rw [if_neg h, if_pos hj]
  rfl
theorem no_eq {k : Nat} {X i P : Int} (h : k ≠ 23) (hj : jumps k X = false) : nxt k X i P = m32 (P + 4) := by
  unfold nxt
  rw [if_neg h, hj]
  rfl

set_option maxRecDepth 100000 in
set_option maxHeartbeats 1000000 in
theorem next_19 (w : World) (a b : Nat) (i : Int) (ha : a < 8) (hb : b < 8) (s : St) (hs : s.Ok) :
    Calls Tryd.prog 31 #[insV 19 (a : Nat) (b : Nat) i, cv s] w fun e w' => e = .returned (.int .u32 (nxt 19 (s.r a) i s.pc)) ∧ Below w.heap.size w w' := by
  have hra := hs.r0 a
  have hrA := hs.r1 a
  have hrb := hs.r0 b
  have hrB := hs.r1 b
  have hpc0 := hs.p0
  have hpc1 := hs.p1
  have hca := cs_r s ha
  have hcr := cs_r s hb
  have hpp := cs_pc s
  have hbi : (b : Int) < 8 := by omega
  have hbi0 : (0 : Int) ≤ (b : Int) := by omega
  have hai : (a : Int) < 8 := by omega
  have hai0 : (0 : Int) ≤ (a : Int) := by omega
  have B2 := ((Below.refl w.heap.size w).alloc (Nat.le_refl _) (.cells #[.int .i64 19, .int .i64 (a : Int), .int .i64 (b : Int), .int .i64 i] 61)).alloc (by simp) (.cells (cs s) 30)
  obtain ⟨X, hX⟩ : ∃ X, s.r a = X := ⟨_, rfl⟩
  obtain ⟨Y, hY⟩ : ∃ Y, s.r b = Y := ⟨_, rfl⟩
  obtain ⟨P, hP⟩ : ∃ P, s.pc = P := ⟨_, rfl⟩
  rw [hX] at hca hra hrA ⊢
  rw [hY] at hcr hrb hrB
  rw [hP] at hpp hpc0 hpc1 ⊢
  clear hX hY hP hs
  unfold insV
  go_enter Tryd.func31, Tryd.ntmps31
  go_wp2
  go_quiet (fail)
  go_wp2
  go_ret
  exact ⟨ret_int (jmp_eq (k := 19) (by decide) rfl), B2.trans (drew_below _ _ _)⟩

set_option maxRecDepth 100000 in
set_option maxHeartbeats 1000000 in
theorem next_22 (w : World) (a b : Nat) (i : Int) (ha : a < 8) (hb : b < 8) (s : St) (hs : s.Ok) :
    Calls Tryd.prog 31 #[insV 22 (a : Nat) (b : Nat) i, cv s] w fun e w' => e = .returned (.int .u32 (nxt 22 (s.r a) i s.pc)) ∧ Below w.heap.size w w' := by
  have hra := hs.r0 a
  have hrA := hs.r1 a
  have hrb := hs.r0 b
  have hrB := hs.r1 b
  have hpc0 := hs.p0
  have hpc1 := hs.p1
  have hca := cs_r s ha
  have hcr := cs_r s hb
  have hpp := cs_pc s
  have hbi : (b : Int) < 8 := by omega
  have hbi0 : (0 : Int) ≤ (b : Int) := by omega
  have hai : (a : Int) < 8 := by omega
  have hai0 : (0 : Int) ≤ (a : Int) := by omega
  have B2 := ((Below.refl w.heap.size w).alloc (Nat.le_refl _) (.cells #[.int .i64 22, .int .i64 (a : Int), .int .i64 (b : Int), .int .i64 i] 61)).alloc (by simp) (.cells (cs s) 30)
  obtain ⟨X, hX⟩ : ∃ X, s.r a = X := ⟨_, rfl⟩
  obtain ⟨Y, hY⟩ : ∃ Y, s.r b = Y := ⟨_, rfl⟩
  obtain ⟨P, hP⟩ : ∃ P, s.pc = P := ⟨_, rfl⟩
  rw [hX] at hca hra hrA ⊢
  rw [hY] at hcr hrb hrB
  rw [hP] at hpp hpc0 hpc1 ⊢
  clear hX hY hP hs
  unfold insV
  go_enter Tryd.func31, Tryd.ntmps31
  go_wp2
  go_quiet (fail)
  go_wp2
  go_ret
  exact ⟨ret_int (jmp_eq (k := 22) (by decide) rfl), B2.trans (drew_below _ _ _)⟩

set_option maxRecDepth 100000 in
set_option maxHeartbeats 1000000 in
theorem next_23 (w : World) (a b : Nat) (i : Int) (ha : a < 8) (hb : b < 8) (s : St) (hs : s.Ok) :
    Calls Tryd.prog 31 #[insV 23 (a : Nat) (b : Nat) i, cv s] w fun e w' => e = .returned (.int .u32 (nxt 23 (s.r a) i s.pc)) ∧ Below w.heap.size w w' := by
  have hra := hs.r0 a
  have hrA := hs.r1 a
  have hrb := hs.r0 b
  have hrB := hs.r1 b
  have hpc0 := hs.p0
  have hpc1 := hs.p1
  have hca := cs_r s ha
  have hcr := cs_r s hb
  have hpp := cs_pc s
  have hbi : (b : Int) < 8 := by omega
  have hbi0 : (0 : Int) ≤ (b : Int) := by omega
  have hai : (a : Int) < 8 := by omega
  have hai0 : (0 : Int) ≤ (a : Int) := by omega
  have B2 := ((Below.refl w.heap.size w).alloc (Nat.le_refl _) (.cells #[.int .i64 23, .int .i64 (a : Int), .int .i64 (b : Int), .int .i64 i] 61)).alloc (by simp) (.cells (cs s) 30)
  obtain ⟨X, hX⟩ : ∃ X, s.r a = X := ⟨_, rfl⟩
  obtain ⟨Y, hY⟩ : ∃ Y, s.r b = Y := ⟨_, rfl⟩
  obtain ⟨P, hP⟩ : ∃ P, s.pc = P := ⟨_, rfl⟩
  rw [hX] at hca hra hrA ⊢
  rw [hY] at hcr hrb hrB
  rw [hP] at hpp hpc0 hpc1 ⊢
  clear hX hY hP hs
  unfold insV
  go_enter Tryd.func31, Tryd.ntmps31
  go_wp2
  go_quiet (fail)
  go_wp2
  go_ret
  exact ⟨ret_int (rfl), B2.trans (drew_below _ _ _)⟩

set_option maxRecDepth 100000 in
set_option maxHeartbeats 1000000 in
theorem next_20_yes (w : World) (a b : Nat) (i : Int) (ha : a < 8) (hb : b < 8) (s : St) (hs : s.Ok) (hz : (s.r a == 0) = true) :
    Calls Tryd.prog 31 #[insV 20 (a : Nat) (b : Nat) i, cv s] w fun e w' => e = .returned (.int .u32 (nxt 20 (s.r a) i s.pc)) ∧ Below w.heap.size w w' := by
  have hra := hs.r0 a
  have hrA := hs.r1 a
  have hrb := hs.r0 b
  have hrB := hs.r1 b
  have hpc0 := hs.p0
  have hpc1 := hs.p1
  have hca := cs_r s ha
  have hcr := cs_r s hb
  have hpp := cs_pc s
  have hbi : (b : Int) < 8 := by omega
  have hbi0 : (0 : Int) ≤ (b : Int) := by omega
  have hai : (a : Int) < 8 := by omega
  have hai0 : (0 : Int) ≤ (a : Int) := by omega
  have B2 := ((Below.refl w.heap.size w).alloc (Nat.le_refl _) (.cells #[.int .i64 20, .int .i64 (a : Int), .int .i64 (b : Int), .int .i64 i] 61)).alloc (by simp) (.cells (cs s) 30)
  obtain ⟨X, hX⟩ : ∃ X, s.r a = X := ⟨_, rfl⟩
  obtain ⟨Y, hY⟩ : ∃ Y, s.r b = Y := ⟨_, rfl⟩
  obtain ⟨P, hP⟩ : ∃ P, s.pc = P := ⟨_, rfl⟩
  rw [hX] at hca hra hrA hz ⊢
  rw [hY] at hcr hrb hrB
  rw [hP] at hpp hpc0 hpc1 ⊢
  clear hX hY hP hs
  have hz2 : (X != 0) = false := by simpa using hz
  unfold insV
  go_enter Tryd.func31, Tryd.ntmps31
  go_wp2
  go_quiet (fail)
  go_wp2
  go_ret
  exact ⟨ret_int (jmp_eq (k := 20) (by decide) (by unfold jumps; rw [hz, hz2]; rfl)), B2.trans (drew_below _ _ _)⟩

set_option maxRecDepth 100000 in
set_option maxHeartbeats 1000000 in
theorem next_20_no (w : World) (a b : Nat) (i : Int) (ha : a < 8) (hb : b < 8) (s : St) (hs : s.Ok) (hz : (s.r a == 0) = false) :
    Calls Tryd.prog 31 #[insV 20 (a : Nat) (b : Nat) i, cv s] w fun e w' => e = .returned (.int .u32 (nxt 20 (s.r a) i s.pc)) ∧ Below w.heap.size w w' := by
  have hra := hs.r0 a
  have hrA := hs.r1 a
  have hrb := hs.r0 b
  have hrB := hs.r1 b
  have hpc0 := hs.p0
  have hpc1 := hs.p1
  have hca := cs_r s ha
  have hcr := cs_r s hb
  have hpp := cs_pc s
  have hbi : (b : Int) < 8 := by omega
  have hbi0 : (0 : Int) ≤ (b : Int) := by omega
  have hai : (a : Int) < 8 := by omega
  have hai0 : (0 : Int) ≤ (a : Int) := by omega
  have B2 := ((Below.refl w.heap.size w).alloc (Nat.le_refl _) (.cells #[.int .i64 20, .int .i64 (a : Int), .int .i64 (b : Int), .int .i64 i] 61)).alloc (by simp) (.cells (cs s) 30)
  obtain ⟨X, hX⟩ : ∃ X, s.r a = X := ⟨_, rfl⟩
  obtain ⟨Y, hY⟩ : ∃ Y, s.r b = Y := ⟨_, rfl⟩
  obtain ⟨P, hP⟩ : ∃ P, s.pc = P := ⟨_, rfl⟩
  rw [hX] at hca hra hrA hz ⊢
  rw [hY] at hcr hrb hrB
  rw [hP] at hpp hpc0 hpc1 ⊢
  clear hX hY hP hs
  have hz2 : (X != 0) = true := by simpa using hz
  unfold insV
  go_enter Tryd.func31, Tryd.ntmps31
  go_wp2
  go_quiet (fail)
  go_wp2
  go_ret
  exact ⟨ret_int ((no_eq (k := 20) (by decide) (by unfold jumps; rw [hz, hz2]; rfl)).symm), B2.trans (drew_below _ _ _)⟩

set_option maxRecDepth 100000 in
set_option maxHeartbeats 1000000 in
theorem next_21_yes (w : World) (a b : Nat) (i : Int) (ha : a < 8) (hb : b < 8) (s : St) (hs : s.Ok) (hz : (s.r a == 0) = false) :
    Calls Tryd.prog 31 #[insV 21 (a : Nat) (b : Nat) i, cv s] w fun e w' => e = .returned (.int .u32 (nxt 21 (s.r a) i s.pc)) ∧ Below w.heap.size w w' := by
  have hra := hs.r0 a
  have hrA := hs.r1 a
  have hrb := hs.r0 b
  have hrB := hs.r1 b
  have hpc0 := hs.p0
  have hpc1 := hs.p1
  have hca := cs_r s ha
  have hcr := cs_r s hb
  have hpp := cs_pc s
  have hbi : (b : Int) < 8 := by omega
  have hbi0 : (0 : Int) ≤ (b : Int) := by omega
  have hai : (a : Int) < 8 := by omega
  have hai0 : (0 : Int) ≤ (a : Int) := by omega
  have B2 := ((Below.refl w.heap.size w).alloc (Nat.le_refl _) (.cells #[.int .i64 21, .int .i64 (a : Int), .int .i64 (b : Int), .int .i64 i] 61)).alloc (by simp) (.cells (cs s) 30)
  obtain ⟨X, hX⟩ : ∃ X, s.r a = X := ⟨_, rfl⟩
  obtain ⟨Y, hY⟩ : ∃ Y, s.r b = Y := ⟨_, rfl⟩
  obtain ⟨P, hP⟩ : ∃ P, s.pc = P := ⟨_, rfl⟩
  rw [hX] at hca hra hrA hz ⊢
  rw [hY] at hcr hrb hrB
  rw [hP] at hpp hpc0 hpc1 ⊢
  clear hX hY hP hs
  have hz2 : (X != 0) = true := by simpa using hz
  unfold insV
  go_enter Tryd.func31, Tryd.ntmps31
  go_wp2
  go_quiet (fail)
  go_wp2
  go_ret
  exact ⟨ret_int (jmp_eq (k := 21) (by decide) (by unfold jumps; rw [hz, hz2]; rfl)), B2.trans (drew_below _ _ _)⟩

set_option maxRecDepth 100000 in
set_option maxHeartbeats 1000000 in
theorem next_21_no (w : World) (a b : Nat) (i : Int) (ha : a < 8) (hb : b < 8) (s : St) (hs : s.Ok) (hz : (s.r a == 0) = true) :
    Calls Tryd.prog 31 #[insV 21 (a : Nat) (b : Nat) i, cv s] w fun e w' => e = .returned (.int .u32 (nxt 21 (s.r a) i s.pc)) ∧ Below w.heap.size w w' := by
  have hra := hs.r0 a
  have hrA := hs.r1 a
  have hrb := hs.r0 b
  have hrB := hs.r1 b
  have hpc0 := hs.p0
  have hpc1 := hs.p1
  have hca := cs_r s ha
  have hcr := cs_r s hb
  have hpp := cs_pc s
  have hbi : (b : Int) < 8 := by omega
  have hbi0 : (0 : Int) ≤ (b : Int) := by omega
  have hai : (a : Int) < 8 := by omega
  have hai0 : (0 : Int) ≤ (a : Int) := by omega
  have B2 := ((Below.refl w.heap.size w).alloc (Nat.le_refl _) (.cells #[.int .i64 21, .int .i64 (a : Int), .int .i64 (b : Int), .int .i64 i] 61)).alloc (by simp) (.cells (cs s) 30)
  obtain ⟨X, hX⟩ : ∃ X, s.r a = X := ⟨_, rfl⟩
  obtain ⟨Y, hY⟩ : ∃ Y, s.r b = Y := ⟨_, rfl⟩
  obtain ⟨P, hP⟩ : ∃ P, s.pc = P := ⟨_, rfl⟩
  rw [hX] at hca hra hrA hz ⊢
  rw [hY] at hcr hrb hrB
  rw [hP] at hpp hpc0 hpc1 ⊢
  clear hX hY hP hs
  have hz2 : (X != 0) = false := by simpa using hz
  unfold insV
  go_enter Tryd.func31, Tryd.ntmps31
  go_wp2
  go_quiet (fail)
  go_wp2
  go_ret
  exact ⟨ret_int ((no_eq (k := 21) (by decide) (by unfold jumps; rw [hz, hz2]; rfl)).symm), B2.trans (drew_below _ _ _)⟩

set_option maxRecDepth 100000 in
set_option maxHeartbeats 1000000 in
theorem next_else (w : World) (k : Nat) (a b : Nat) (i : Int) (hk : k ≠ 19 ∧ k ≠ 20 ∧ k ≠ 21 ∧ k ≠ 22 ∧ k ≠ 23) (ha : a < 8) (hb : b < 8) (s : St) (hs : s.Ok) :
    Calls Tryd.prog 31 #[insV (k : Nat) (a : Nat) (b : Nat) i, cv s] w fun e w' => e = .returned (.int .u32 (nxt k (s.r a) i s.pc)) ∧ Below w.heap.size w w' := by
  have hra := hs.r0 a
  have hrA := hs.r1 a
  have hrb := hs.r0 b
  have hrB := hs.r1 b
  have hpc0 := hs.p0
  have hpc1 := hs.p1
  have hca := cs_r s ha
  have hcr := cs_r s hb
  have hpp := cs_pc s
  have hbi : (b : Int) < 8 := by omega
  have hbi0 : (0 : Int) ≤ (b : Int) := by omega
  have hai : (a : Int) < 8 := by omega
  have hai0 : (0 : Int) ≤ (a : Int) := by omega
  have B2 := ((Below.refl w.heap.size w).alloc (Nat.le_refl _) (.cells #[.int .i64 (k : Int), .int .i64 (a : Int), .int .i64 (b : Int), .int .i64 i] 61)).alloc (by simp) (.cells (cs s) 30)
  obtain ⟨X, hX⟩ : ∃ X, s.r a = X := ⟨_, rfl⟩
  obtain ⟨Y, hY⟩ : ∃ Y, s.r b = Y := ⟨_, rfl⟩
  obtain ⟨P, hP⟩ : ∃ P, s.pc = P := ⟨_, rfl⟩
  rw [hX] at hca hra hrA ⊢
  rw [hY] at hcr hrb hrB
  rw [hP] at hpp hpc0 hpc1 ⊢
  clear hX hY hP hs
  have hn : nxt k X i P = m32 (P + 4) := no_eq (by omega) (by unfold jumps; simp; omega)
  rw [hn]
  have e19 : ((k : Int) == 19) = false := by simp; omega
  have e20 : ((k : Int) == 20) = false := by simp; omega
  have e21 : ((k : Int) == 21) = false := by simp; omega
  have e22 : ((k : Int) == 22) = false := by simp; omega
  have e23 : ((k : Int) == 23) = false := by simp; omega
  clear hn hk
  unfold insV
  go_enter Tryd.func31, Tryd.ntmps31
  go_wp2
  go_quiet (fail)
  go_wp2
  go_ret
  exact ⟨ret_int (rfl), B2.trans (drew_below _ _ _)⟩

theorem next_any (w : World) (k a b : Nat) (i : Int) (ha : a < 8) (hb : b < 8) (s : St) (hs : s.Ok) :
    Calls Tryd.prog 31 #[insV (k : Nat) (a : Nat) (b : Nat) i, cv s] w fun e w' => e = .returned (.int .u32 (nxt k (s.r a) i s.pc)) ∧ Below w.heap.size w w' := by
  by_cases h19 : k = 19
  · subst h19; exact next_19 w a b i ha hb s hs
  by_cases h22 : k = 22
  · subst h22; exact next_22 w a b i ha hb s hs
  by_cases h23 : k = 23
  · subst h23; exact next_23 w a b i ha hb s hs
  by_cases h20 : k = 20
  · subst h20
    cases h : s.r a == 0
    · exact next_20_no w a b i ha hb s hs h
    · exact next_20_yes w a b i ha hb s hs h
  by_cases h21 : k = 21
  · subst h21
    cases h : s.r a == 0
    · exact next_21_yes w a b i ha hb s hs h
    · exact next_21_no w a b i ha hb s hs h
  exact next_else w k a b i ⟨h19, h20, h21, h22, h23⟩ ha hb s hs
end Go.Proofs.YtgnpbedhpkmkfaaDoor.CoV
