/-
  The walk of WordFields: Field, Put and Sign beside the document's answers, for any words, places and counts.
-/
import Derived.Test.YthacghmgkpbdoaaRefs
namespace Go.Proofs.Ythacghmgkpbdoaa.Walk
open Go Go.RowKit Nums Kit Leaf Refs

theorem wordFields (a0 a1 a2 a3 : Int) (w : World) (w0 : (Lit.int .u32 a0).wf = true) (w1 : (Lit.int .u32 a1).wf = true) (w2 : (Lit.int .i64 a2).wf = true) (w3 : (Lit.int .i64 a3).wf = true) :
    Calls Try.prog 4 #[.int .u32 a0, .int .u32 a1, .int .i64 a2, .int .i64 a3] w fun e w' => e = .returned (.bool true) ∧ Below w.heap.size w w' := by
  obtain ⟨v, rfl, hv⟩ := u32_nat w0
  obtain ⟨x, rfl, hx⟩ := u32_nat w1
  have hf := Lib.hid (i64_bd w2)
  have hn := Lib.hid (i64_bd w3)
  clear w0 w1 w2 w3
  by_cases hB : isB a2 a3 = true
  · have hb := (isB_iff _ _).1 hB
    obtain ⟨f, rfl⟩ := Int.eq_ofNat_of_zero_le (show 0 ≤ a2 by omega)
    obtain ⟨n, rfl⟩ := Int.eq_ofNat_of_zero_le (show 0 ≤ a3 by omega)
    have hC : isC (n : Int) = true := by simp [isC]; omega
    clear hb hf hn
    by_cases hfit : x < 2 ^ n
    · have hF := Lib.hid hfit
      clear hfit
      go_enter Try.func4, Try.ntmps4
      go_wp2_with (first | (go_at_call 20; refine (field_any _ _ _ _ hv hB).mono ?_; rintro e w' ⟨rfl, k1, rfl⟩) | (go_at_call 21; refine (rfield_any _ _ _ _ hv hB).mono ?_; rintro e w' ⟨rfl, k2, rfl⟩) | (go_at_call 22; refine (put_any _ _ _ _ _ hv hB hF.out).mono ?_; rintro e w' ⟨rfl, k3, rfl⟩) | (go_at_call 23; refine (rput_any _ _ _ _ _ hv hB hF.out).mono ?_; rintro e w' ⟨rfl, k4, rfl⟩) | (go_at_call 24; refine (sign_any _ _ _ hC).mono ?_; rintro e w' ⟨rfl, rfl⟩) | (go_at_call 25; refine (rsign_any _ _ _ hv hC).mono ?_; rintro e w' ⟨rfl, k5, rfl⟩))
      go_ret
      exact ⟨rfl, by repeat (first | exact Below.refl _ _ | refine below_drewN ?_ _)⟩
    · have hG := Lib.hid (show ((2 ^ n - 1 : Nat) : Int) < (x : Int) by have := pow_pos n; omega)
      have hQ := Lib.hid (show ((pw n : Nat) : Int) ≤ (x : Int) by have : pw n = 2 ^ n := rfl; omega)
      clear hfit
      go_enter Try.func4, Try.ntmps4
      go_wp2_with (first | (go_at_call 20; refine (field_any _ _ _ _ hv hB).mono ?_; rintro e w' ⟨rfl, k1, rfl⟩) | (go_at_call 21; refine (rfield_any _ _ _ _ hv hB).mono ?_; rintro e w' ⟨rfl, k2, rfl⟩) | (go_at_call 22; refine (put_great _ _ _ _ _ hB hG.out).mono ?_; rintro e w' ⟨rfl, rfl⟩) | (go_at_call 23; refine (rput_great _ _ _ _ _ hB hx hQ.out).mono ?_; rintro e w' ⟨rfl, rfl⟩) | (go_at_call 24; refine (sign_any _ _ _ hC).mono ?_; rintro e w' ⟨rfl, rfl⟩) | (go_at_call 25; refine (rsign_any _ _ _ hv hC).mono ?_; rintro e w' ⟨rfl, k5, rfl⟩))
      go_ret
      exact ⟨rfl, by repeat (first | exact Below.refl _ _ | refine below_drewN ?_ _)⟩
  · have hB : isB a2 a3 = false := by simpa using hB
    by_cases hC : isC a3 = true
    · have hb : 1 ≤ a3 ∧ a3 ≤ 32 := by simpa [isC] using hC
      obtain ⟨n, rfl⟩ := Int.eq_ofNat_of_zero_le (show 0 ≤ a3 by omega)
      clear hb
      go_enter Try.func4, Try.ntmps4
      go_wp2_with (first | (go_at_call 20; refine (field_none _ _ _ _ hf.out hn.out hB).mono ?_; rintro e w' ⟨rfl, rfl⟩) | (go_at_call 21; refine (rfield_none _ _ _ _ hf.out hn.out hB).mono ?_; rintro e w' ⟨rfl, rfl⟩) | (go_at_call 22; refine (put_none _ _ _ _ _ hf.out hn.out hB).mono ?_; rintro e w' ⟨rfl, rfl⟩) | (go_at_call 23; refine (rput_none _ _ _ _ _ hf.out hn.out hB).mono ?_; rintro e w' ⟨rfl, rfl⟩) | (go_at_call 24; refine (sign_any _ _ _ hC).mono ?_; rintro e w' ⟨rfl, rfl⟩) | (go_at_call 25; refine (rsign_any _ _ _ hv hC).mono ?_; rintro e w' ⟨rfl, k5, rfl⟩))
      go_ret
      exact ⟨rfl, by repeat (first | exact Below.refl _ _ | refine below_drewN ?_ _)⟩
    · have hC : isC a3 = false := by simpa using hC
      go_enter Try.func4, Try.ntmps4
      go_wp2_with (first | (go_at_call 20; refine (field_none _ _ _ _ hf.out hn.out hB).mono ?_; rintro e w' ⟨rfl, rfl⟩) | (go_at_call 21; refine (rfield_none _ _ _ _ hf.out hn.out hB).mono ?_; rintro e w' ⟨rfl, rfl⟩) | (go_at_call 22; refine (put_none _ _ _ _ _ hf.out hn.out hB).mono ?_; rintro e w' ⟨rfl, rfl⟩) | (go_at_call 23; refine (rput_none _ _ _ _ _ hf.out hn.out hB).mono ?_; rintro e w' ⟨rfl, rfl⟩) | (go_at_call 24; refine (sign_none _ _ _ hC).mono ?_; rintro e w' ⟨rfl, rfl⟩) | (go_at_call 25; refine (rsign_none _ _ _ hn.out hC).mono ?_; rintro e w' ⟨rfl, rfl⟩))
      go_ret
      exact ⟨rfl, by repeat (first | exact Below.refl _ _ | refine below_drewN ?_ _)⟩
end Go.Proofs.Ythacghmgkpbdoaa.Walk
