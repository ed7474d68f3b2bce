/-
  What the document's answers for fields come to: may, power, Field, Put, Sign of carryallref01; for any arguments of their types.
-/
import Derived.Test.YthacghmgkpbdoaaLeaf
namespace Go.Proofs.Ythacghmgkpbdoaa.Refs
open Go Go.RowKit Nums Kit Leaf

theorem may_any (f n : Int) (w : World) (hf : -9223372036854775808 ≤ f ∧ f ≤ 9223372036854775807) (hn : -9223372036854775808 ≤ n ∧ n ≤ 9223372036854775807) :
    Calls Try.prog 36 #[.int .i64 f, .int .i64 n] w fun e w' => e = .returned (.bool (isB f n)) ∧ w = w' := by
  by_cases h1 : 0 ≤ f
  · by_cases h2 : f ≤ 31
    · by_cases h3 : 1 ≤ n
      · by_cases h4 : n ≤ 32
        · by_cases h5 : f + n ≤ 32
          all_goals
            go_enter Try.func36, Try.ntmps36
            go_wp2
            go_ret
            exact ⟨by simp [isB]; omega, rfl⟩
        · go_enter Try.func36, Try.ntmps36
          go_wp2
          go_ret
          exact ⟨by simp [isB]; omega, rfl⟩
      · go_enter Try.func36, Try.ntmps36
        go_wp2
        go_ret
        exact ⟨by simp [isB]; omega, rfl⟩
    · go_enter Try.func36, Try.ntmps36
      go_wp2
      go_ret
      exact ⟨by simp [isB]; omega, rfl⟩
  · go_enter Try.func36, Try.ntmps36
    go_wp2
    go_ret
    exact ⟨by simp [isB]; omega, rfl⟩

theorem power_any (n : Nat) (w : World) (hn : n ≤ 32) :
    Calls Try.prog 37 #[.int .i64 (n : Int)] w fun e w' => e = .returned (.int .u64 ((pw n : Nat) : Int)) ∧ w = w' := by
  go_enter Try.func37, Try.ntmps37
  go_wp2
  go_loop [3, 4] (fun o i => ∃ k : Nat, k ≤ n ∧ i = .int .i64 k ∧ o = .int .u64 ((pw k : Nat) : Int)) (fun _ i => n - (intOf i).toNat)
  case atStart => exact ⟨0, Nat.zero_le _, rfl, rfl⟩
  case round =>
    obtain ⟨k, hk, rfl, rfl⟩ := hrel
    have hp := pw_le (show k ≤ 32 by omega)
    by_cases hlt : k < n
    · go_wp2
      go_round
      case rel => exact ⟨k + 1, by omega, by go_num, by rw [pw_succ]; go_num⟩
      case measure => simp [intOf]; omega
    · go_wp2
      go_ret
      have : k = n := by omega
      subst this
      exact ⟨rfl, rfl⟩

theorem power_int (i : Int) (w : World) (h : 0 ≤ i ∧ i ≤ 32) :
    Calls Try.prog 37 #[.int .i64 i] w fun e w' => e = .returned (.int .u64 ((pw i.toNat : Nat) : Int)) ∧ w = w' := by
  obtain ⟨n, rfl⟩ := Int.eq_ofNat_of_zero_le h.1
  exact power_any n w (by omega)

theorem rfield_none (v : Int) (f n : Int) (w : World) (hf : -9223372036854775808 ≤ f ∧ f ≤ 9223372036854775807) (hn : -9223372036854775808 ≤ n ∧ n ≤ 9223372036854775807) (h : isB f n = false) :
    Calls Try.prog 21 #[.int .u32 v, .int .i64 f, .int .i64 n] w fun e w' => e = .returned (.tuple #[.int .u32 0, .int .i64 2]) ∧ w = w' := by
  have hF := Lib.hid hf
  have hN := Lib.hid hn
  clear hf hn
  go_enter Try.func21, Try.ntmps21
  go_wp2_with (go_at_call 36; refine (may_any _ _ _ hF.out hN.out).mono ?_; rintro e w' ⟨rfl, rfl⟩)
  go_ret2
  exact ⟨rfl, rfl⟩

theorem rfield_any (v f n : Nat) (w : World) (hv : v < 4294967296) (h : isB (f : Int) (n : Int) = true) :
    Calls Try.prog 21 #[.int .u32 (v : Int), .int .i64 (f : Int), .int .i64 (n : Int)] w fun e w' => e = .returned (.tuple #[.int .u32 (field v f n : Nat), .int .i64 0]) ∧ ∃ k, w' = w.drewN k := by
  obtain ⟨h1, h2, h3, h4, h5⟩ := (isB_iff _ _).1 h
  have h6 : 0 ≤ (f : Int) ∧ (f : Int) ≤ 32 := by omega
  have q1 := pw_ne f
  have q2 := pw_ne n
  have c1 : IntKind.u64.wrap (v : Int) = (v : Int) := u64_in (by omega)
  go_enter Try.func21, Try.ntmps21
  go_wp2_with (go_at_call 36; refine (may_any _ _ _ (by omega) (by omega)).mono ?_; rintro e w' ⟨rfl, rfl⟩)
  go_quiet ((go_at_call 37; exact quiet_eq (power_any _ _ (by omega))))
  go_wp2
  go_ret2
  exact ⟨by rw [rfield_eq hv (by omega)]; rfl, ⟨_, rfl⟩⟩

theorem rfield_low (v n : Nat) (w : World) (hv : v < 4294967296) (h : isB 0 (n : Int) = true) :
    Calls Try.prog 21 #[.int .u32 (v : Int), .int .i64 0, .int .i64 (n : Int)] w fun e w' => e = .returned (.tuple #[.int .u32 (field v 0 n : Nat), .int .i64 0]) ∧ ∃ k, w' = w.drewN k :=
  rfield_any v 0 n w hv h

theorem rput_none (v x : Int) (f n : Int) (w : World) (hf : -9223372036854775808 ≤ f ∧ f ≤ 9223372036854775807) (hn : -9223372036854775808 ≤ n ∧ n ≤ 9223372036854775807) (h : isB f n = false) :
    Calls Try.prog 23 #[.int .u32 v, .int .i64 f, .int .i64 n, .int .u32 x] w fun e w' => e = .returned (.tuple #[.int .u32 0, .int .i64 2]) ∧ w = w' := by
  have hF := Lib.hid hf
  have hN := Lib.hid hn
  clear hf hn
  go_enter Try.func23, Try.ntmps23
  go_wp2_with (go_at_call 36; refine (may_any _ _ _ hF.out hN.out).mono ?_; rintro e w' ⟨rfl, rfl⟩)
  go_ret2
  exact ⟨rfl, rfl⟩

theorem rput_great (v : Int) (x f n : Nat) (w : World) (h : isB (f : Int) (n : Int) = true) (hb : x < 4294967296) (hx : (pw n : Int) ≤ (x : Int)) :
    Calls Try.prog 23 #[.int .u32 v, .int .i64 (f : Int), .int .i64 (n : Int), .int .u32 (x : Int)] w fun e w' => e = .returned (.tuple #[.int .u32 0, .int .i64 10]) ∧ w = w' := by
  obtain ⟨h1, h2, h3, h4, h5⟩ := (isB_iff _ _).1 h
  have c1 : IntKind.u64.wrap (x : Int) = (x : Int) := u64_in (by omega)
  go_enter Try.func23, Try.ntmps23
  go_wp2_with (first | (go_at_call 36; refine (may_any _ _ _ (by omega) (by omega)).mono ?_; rintro e w' ⟨rfl, rfl⟩) | (go_at_call 37; refine (power_any _ _ (by omega)).mono ?_; rintro e w' ⟨rfl, rfl⟩))
  go_ret2
  exact ⟨rfl, rfl⟩

theorem rput_any (v x f n : Nat) (w : World) (hv : v < 4294967296) (h : isB (f : Int) (n : Int) = true) (hx : x < 2 ^ n) :
    Calls Try.prog 23 #[.int .u32 (v : Int), .int .i64 (f : Int), .int .i64 (n : Int), .int .u32 (x : Int)] w fun e w' => e = .returned (.tuple #[.int .u32 (put v f n x : Nat), .int .i64 0]) ∧ ∃ k, w' = w.drewN k := by
  obtain ⟨h1, h2, h3, h4, h5⟩ := (isB_iff _ _).1 h
  have hp := pw_le (n := n) (by omega)
  have hX := Lib.hid hx
  have hx' : ¬ ((pw n : Nat) : Int) ≤ (x : Int) := by have : x < pw n := hx; omega
  have hl : x < pw n := hx
  clear hx
  have h6 := field_le32 (w := v) (f := f) (n := n) (by omega)
  have c1 : IntKind.u64.wrap (v : Int) = (v : Int) := u64_in (by omega)
  have c2 : IntKind.u64.wrap (x : Int) = (x : Int) := u64_in (by omega)
  have c3 : IntKind.u64.wrap (field v f n : Nat) = ((field v f n : Nat) : Int) := u64_in (by omega)
  go_enter Try.func23, Try.ntmps23
  go_wp2_with (first | (go_at_call 36; refine (may_any _ _ _ (by omega) (by omega)).mono ?_; rintro e w' ⟨rfl, rfl⟩) | (go_at_call 37; refine (power_any _ _ (by omega)).mono ?_; rintro e w' ⟨rfl, rfl⟩) | (go_at_call 21; refine (rfield_any _ _ _ _ hv h).mono ?_; rintro e w' ⟨rfl, k, rfl⟩))
  go_ret2
  refine ⟨?_, ⟨_, rfl⟩⟩
  rw [← rput_eq hv (by omega) hX.out]
  rfl

theorem rsign_none (v : Int) (n : Int) (w : World) (hn : -9223372036854775808 ≤ n ∧ n ≤ 9223372036854775807) (h : isC n = false) :
    Calls Try.prog 25 #[.int .u32 v, .int .i64 n] w fun e w' => e = .returned (.tuple #[.int .i32 0, .int .i64 2]) ∧ w = w' := by
  have hb : isB 0 n = false := by simp [isB, isC] at *; omega
  have hN := Lib.hid hn
  clear hn h
  go_enter Try.func25, Try.ntmps25
  go_wp2_with (go_at_call 21; refine (rfield_none _ _ _ _ (by decide) hN.out hb).mono ?_; rintro e w' ⟨rfl, rfl⟩)
  go_ret2
  exact ⟨rfl, rfl⟩

theorem rsign_any (v n : Nat) (w : World) (hv : v < 4294967296) (h : isC (n : Int) = true) :
    Calls Try.prog 25 #[.int .u32 (v : Int), .int .i64 (n : Int)] w fun e w' => e = .returned (.tuple #[.int .i32 (sgn v n), .int .i64 0]) ∧ ∃ k, w' = w.drewN k := by
  have h1 : 1 ≤ (n : Int) ∧ (n : Int) ≤ 32 := by simpa [isC] using h
  have hB : isB 0 (n : Int) = true := by rw [isB_iff]; omega
  have hp := pw_le (n := n) (by omega)
  have h6 := field_lt v 0 n
  have c3 : IntKind.u64.wrap (field v 0 n : Nat) = ((field v 0 n : Nat) : Int) := u64_in (by have := field_le32 (w := v) (f := 0) (n := n) (by omega); omega)
  by_cases hlt : pw (n - 1) ≤ field v 0 n
  all_goals
    go_enter Try.func25, Try.ntmps25
    go_wp2_with (first | (go_at_call 37; refine (power_int _ _ (by omega)).mono ?_; rintro e w' ⟨rfl, rfl⟩) | (go_at_call 21; refine (rfield_low _ _ _ hv hB).mono ?_; rintro e w' ⟨rfl, k, rfl⟩))
    go_ret2
    refine ⟨?_, ⟨_, rfl⟩⟩
    first | (rw [← rsgn_hi (by omega) (by omega) hlt]; rfl) | (rw [← rsgn_lo (by omega) (by omega) hlt]; rfl)
end Go.Proofs.Ythacghmgkpbdoaa.Refs
