/-
  What layer 1's small functions come to: isCount, isField, most, Field, Put, Sign, value, join, split; for any arguments of their types.
-/
import Derived.Test.YthacghmgkpbdoaaKit
import Derived.Test.YthacghmgkpbdoaaNums
import Derived.WalkKit
import Derived.Deep.QuietTactic
import Derived.BigQuiet
import Derived.Lib.Hide
namespace Go.Proofs.Ythacghmgkpbdoaa.Leaf
open Go Go.RowKit Nums Kit

/-- A callee that leaves the world alone, inside a region that draws its order. -/
theorem quiet_eq {P : Program} {f : FuncId} {args : Array Value} {w : World} {n : Nat} {v : Value}
    (h : Calls P f args (w.drewN n) fun e w' => e = .returned v ∧ w.drewN n = w') : Calls P f args (w.drewN n) fun e w'' => e = .returned v ∧ ∃ m, w'' = w.drewN m :=
  Calls.quiet_of_same (h.mono fun _ _ h => ⟨h.1, h.2.symm⟩)

theorem isCount_any (n : Int) (w : World) :
    Calls Try.prog 38 #[.int .i64 n] w fun e w' => e = .returned (.bool (isC n)) ∧ w = w' := by
  by_cases h1 : 1 ≤ n
  · by_cases h2 : n ≤ 32
    · go_enter Try.func38, Try.ntmps38
      go_wp2
      go_ret
      exact ⟨by simp [isC, h1, h2], rfl⟩
    · go_enter Try.func38, Try.ntmps38
      go_wp2
      go_ret
      exact ⟨by simp [isC, h1, h2], rfl⟩
  · go_enter Try.func38, Try.ntmps38
    go_wp2
    go_ret
    exact ⟨by simp [isC]; omega, rfl⟩

theorem isField_any (f n : Int) (w : World) (hf : -9223372036854775808 ≤ f ∧ f ≤ 9223372036854775807) (hn : -9223372036854775808 ≤ n ∧ n ≤ 9223372036854775807) :
    Calls Try.prog 34 #[.int .i64 f, .int .i64 n] w fun e w' => e = .returned (.bool (isB f n)) ∧ w = w' := by
  have hN := hn
  have hF := hf
  clear hn hf
  by_cases h1 : isC n = true
  · have h1' : 1 ≤ n ∧ n ≤ 32 := by simpa [isC] using h1
    by_cases h3 : 0 ≤ f
    · by_cases h4 : f < 32
      · by_cases h5 : f + n ≤ 32
        all_goals
          go_enter Try.func34, Try.ntmps34
          go_wp2_with (go_at_call 38; refine (isCount_any _ _).mono ?_; rintro e w' ⟨rfl, rfl⟩)
          go_ret
          exact ⟨by simp [isB]; omega, rfl⟩
      · go_enter Try.func34, Try.ntmps34
        go_wp2_with (go_at_call 38; refine (isCount_any _ _).mono ?_; rintro e w' ⟨rfl, rfl⟩)
        go_ret
        exact ⟨by simp [isB]; omega, rfl⟩
    · go_enter Try.func34, Try.ntmps34
      go_wp2_with (go_at_call 38; refine (isCount_any _ _).mono ?_; rintro e w' ⟨rfl, rfl⟩)
      go_ret
      exact ⟨by simp [isB]; omega, rfl⟩
  · have h1' : ¬ (1 ≤ n ∧ n ≤ 32) := by simpa [isC] using h1
    have h1 : isC n = false := by simpa using h1
    go_enter Try.func34, Try.ntmps34
    go_wp2_with (go_at_call 38; refine (isCount_any _ _).mono ?_; rintro e w' ⟨rfl, rfl⟩)
    go_ret
    exact ⟨by simp [isB]; omega, rfl⟩

theorem most_any (n : Nat) (w : World) (hn : n ≤ 32) :
    Calls Try.prog 35 #[.int .i64 (n : Int)] w fun e w' => e = .returned (.int .u32 ((2 ^ n - 1 : Nat) : Int)) ∧ w = w' := by
  go_enter Try.func35, Try.ntmps35
  go_wp2
  go_ret
  refine ⟨?_, rfl⟩
  rw [← most_eq hn]
  simp

theorem isB_iff (f n : Int) : isB f n = true ↔ 1 ≤ n ∧ n ≤ 32 ∧ 0 ≤ f ∧ f < 32 ∧ f + n ≤ 32 := by
  simp [isB]; omega

theorem field_any (v f n : Nat) (w : World) (hv : v < 4294967296) (h : isB (f : Int) (n : Int) = true) :
    Calls Try.prog 20 #[.int .u32 (v : Int), .int .i64 (f : Int), .int .i64 (n : Int)] w fun e w' => e = .returned (.tuple #[.int .u32 (field v f n : Nat), .int .i64 0]) ∧ ∃ k, w' = w.drewN k := by
  have h' := (isB_iff _ _).1 h
  obtain ⟨h1, h2, h3, h4, h5⟩ := h'
  have h6 : 0 ≤ (f : Int) ∧ (f : Int) ≤ 32 := by omega
  go_enter Try.func20, Try.ntmps20
  go_wp2_with (go_at_call 34; refine (isField_any _ _ _ (by omega) (by omega)).mono ?_; rintro e w' ⟨rfl, rfl⟩)
  go_quiet ((go_at_call 35; exact quiet_eq (most_any _ _ (by omega))))
  go_wp2
  go_ret2
  exact ⟨by rw [bits_field hv (by omega)]; rfl, ⟨_, rfl⟩⟩

theorem field_none (v : Int) (f n : Int) (w : World) (hf : -9223372036854775808 ≤ f ∧ f ≤ 9223372036854775807) (hn : -9223372036854775808 ≤ n ∧ n ≤ 9223372036854775807) (h : isB f n = false) :
    Calls Try.prog 20 #[.int .u32 v, .int .i64 f, .int .i64 n] w fun e w' => e = .returned (.tuple #[.int .u32 0, .int .i64 2]) ∧ w = w' := by
  have hF := Lib.hid hf
  have hN := Lib.hid hn
  clear hf hn
  go_enter Try.func20, Try.ntmps20
  go_wp2_with (go_at_call 34; refine (isField_any _ _ _ hF.out hN.out).mono ?_; rintro e w' ⟨rfl, rfl⟩)
  go_ret2
  exact ⟨rfl, rfl⟩

theorem put_none (v x : Int) (f n : Int) (w : World) (hf : -9223372036854775808 ≤ f ∧ f ≤ 9223372036854775807) (hn : -9223372036854775808 ≤ n ∧ n ≤ 9223372036854775807) (h : isB f n = false) :
    Calls Try.prog 22 #[.int .u32 v, .int .i64 f, .int .i64 n, .int .u32 x] w fun e w' => e = .returned (.tuple #[.int .u32 0, .int .i64 2]) ∧ w = w' := by
  have hF := Lib.hid hf
  have hN := Lib.hid hn
  clear hf hn
  go_enter Try.func22, Try.ntmps22
  go_wp2_with (go_at_call 34; refine (isField_any _ _ _ hF.out hN.out).mono ?_; rintro e w' ⟨rfl, rfl⟩)
  go_ret2
  exact ⟨rfl, rfl⟩

theorem put_great (v x : Int) (f n : Nat) (w : World) (h : isB (f : Int) (n : Int) = true) (hx : ((2 ^ n - 1 : Nat) : Int) < x) :
    Calls Try.prog 22 #[.int .u32 v, .int .i64 (f : Int), .int .i64 (n : Int), .int .u32 x] w fun e w' => e = .returned (.tuple #[.int .u32 0, .int .i64 10]) ∧ w = w' := by
  obtain ⟨h1, h2, h3, h4, h5⟩ := (isB_iff _ _).1 h
  go_enter Try.func22, Try.ntmps22
  go_wp2_with (first | (go_at_call 34; refine (isField_any _ _ _ (by omega) (by omega)).mono ?_; rintro e w' ⟨rfl, rfl⟩) | (go_at_call 35; refine (most_any _ _ (by omega)).mono ?_; rintro e w' ⟨rfl, rfl⟩))
  go_ret2
  exact ⟨rfl, rfl⟩

theorem put_any (v x f n : Nat) (w : World) (hv : v < 4294967296) (h : isB (f : Int) (n : Int) = true) (hx : x < 2 ^ n) :
    Calls Try.prog 22 #[.int .u32 (v : Int), .int .i64 (f : Int), .int .i64 (n : Int), .int .u32 (x : Int)] w fun e w' => e = .returned (.tuple #[.int .u32 (put v f n x : Nat), .int .i64 0]) ∧ ∃ k, w' = w.drewN k := by
  obtain ⟨h1, h2, h3, h4, h5⟩ := (isB_iff _ _).1 h
  have h6 : 0 ≤ (f : Int) ∧ (f : Int) ≤ 32 := by omega
  have hx' : ¬ ((2 ^ n - 1 : Nat) : Int) < (x : Int) := by omega
  have hX := Lib.hid hx
  clear hx
  go_enter Try.func22, Try.ntmps22
  go_wp2_with (first | (go_at_call 34; refine (isField_any _ _ _ (by omega) (by omega)).mono ?_; rintro e w' ⟨rfl, rfl⟩) | (go_at_call 35; refine (most_any _ _ (by omega)).mono ?_; rintro e w' ⟨rfl, rfl⟩))
  go_quiet ((go_at_call 35; exact quiet_eq (most_any _ _ (by omega))))
  go_wp2
  go_ret2
  exact ⟨by rw [bits_put hv (by omega) hX.out]; rfl, ⟨_, rfl⟩⟩

theorem sign_none (v : Int) (n : Int) (w : World) (h : isC n = false) :
    Calls Try.prog 24 #[.int .u32 v, .int .i64 n] w fun e w' => e = .returned (.tuple #[.int .i32 0, .int .i64 2]) ∧ w = w' := by
  go_enter Try.func24, Try.ntmps24
  go_wp2_with (go_at_call 38; refine (isCount_any _ _).mono ?_; rintro e w' ⟨rfl, rfl⟩)
  go_ret2
  exact ⟨rfl, rfl⟩

theorem sign_any (v n : Nat) (w : World) (h : isC (n : Int) = true) :
    Calls Try.prog 24 #[.int .u32 (v : Int), .int .i64 (n : Int)] w fun e w' => e = .returned (.tuple #[.int .i32 (sgn v n), .int .i64 0]) ∧ w = w' := by
  have h1 : 1 ≤ (n : Int) ∧ (n : Int) ≤ 32 := by simpa [isC] using h
  go_enter Try.func24, Try.ntmps24
  go_wp2_with (go_at_call 38; refine (isCount_any _ _).mono ?_; rintro e w' ⟨rfl, rfl⟩)
  go_ret2
  refine ⟨?_, rfl⟩
  rw [← sgn_eq (by omega) (by omega)]
  rfl

theorem field_int (v : Nat) (f n : Int) (w : World) (hv : v < 4294967296) (h : isB f n = true) :
    Calls Try.prog 20 #[.int .u32 (v : Int), .int .i64 f, .int .i64 n] w fun e w' => e = .returned (.tuple #[.int .u32 (field v f.toNat n.toNat : Nat), .int .i64 0]) ∧ ∃ k, w' = w.drewN k := by
  have hb := (isB_iff _ _).1 h
  obtain ⟨f, rfl⟩ := Int.eq_ofNat_of_zero_le (show 0 ≤ f by omega)
  obtain ⟨n, rfl⟩ := Int.eq_ofNat_of_zero_le (show 0 ≤ n by omega)
  exact field_any v f n w hv h
theorem put_int (v x : Nat) (f n : Int) (w : World) (hv : v < 4294967296) (h : isB f n = true) (hx : x < 2 ^ n.toNat) :
    Calls Try.prog 22 #[.int .u32 (v : Int), .int .i64 f, .int .i64 n, .int .u32 (x : Int)] w fun e w' => e = .returned (.tuple #[.int .u32 (put v f.toNat n.toNat x : Nat), .int .i64 0]) ∧ ∃ k, w' = w.drewN k := by
  have hb := (isB_iff _ _).1 h
  obtain ⟨f, rfl⟩ := Int.eq_ofNat_of_zero_le (show 0 ≤ f by omega)
  obtain ⟨n, rfl⟩ := Int.eq_ofNat_of_zero_le (show 0 ≤ n by omega)
  exact put_any v x f n w hv h hx
theorem sign_int (v : Nat) (i : Int) (w : World) (h : 1 ≤ i ∧ i ≤ 32) (A : Int) (hA : sgn v i.toNat = A) :
    Calls Try.prog 24 #[.int .u32 (v : Int), .int .i64 i] w fun e w' => e = .returned (.tuple #[.int .i32 A, .int .i64 0]) ∧ w = w' := by
  obtain ⟨n, rfl⟩ := Int.eq_ofNat_of_zero_le (show 0 ≤ i by omega)
  subst hA
  exact sign_any v n w (by simp [isC]; omega)
end Go.Proofs.Ythacghmgkpbdoaa.Leaf
