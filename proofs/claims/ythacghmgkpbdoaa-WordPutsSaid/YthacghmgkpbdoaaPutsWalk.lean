/-
  The walk of WordPuts: what is put into a field is there and every other bit is as it was, for any word, field and number.
-/
import Derived.Test.YthacghmgkpbdoaaAlive
namespace Go.Proofs.Ythacghmgkpbdoaa.Walk
open Go Go.RowKit Nums Kit Leaf Alive
set_option linter.unusedVariables false

set_option maxRecDepth 100000 in
theorem wordPuts (a0 a1 a2 a3 : Int) (w : World) (w0 : (Lit.int .u32 a0).wf = true) (w1 : (Lit.int .u32 a1).wf = true) (w2 : (Lit.int .u8 a2).wf = true) (w3 : (Lit.int .u8 a3).wf = true) :
    Calls Try.prog 8 #[.int .u32 a0, .int .u32 a1, .int .u8 a2, .int .u8 a3] w fun e w' => e = .returned (.bool true) ∧ Below w.heap.size w w' := by
  obtain ⟨y, rfl, hy⟩ := u32_nat w0
  obtain ⟨v, rfl, hv⟩ := u32_nat w1
  obtain ⟨b2, rfl, hb2⟩ := u8_nat w2
  obtain ⟨b3, rfl, hb3⟩ := u8_nat w3
  clear w0 w1 w2 w3
  obtain ⟨f, hf, hfl⟩ : ∃ f : Nat, (b2 : Int) % 32 = (f : Int) ∧ f ≤ 31 := ⟨b2 % 32, by omega, by omega⟩
  obtain ⟨m, hm, hml⟩ : ∃ m : Nat, (b3 : Int) % 32 = (m : Int) ∧ m ≤ 31 := ⟨b3 % 32, by omega, by omega⟩
  by_cases hgt : 32 - (f : Int) < 1 + (m : Int)
  · skip
    have hN : 1 ≤ 32 - f ∧ 32 - f ≤ 32 ∧ f + (32 - f) ≤ 32 := by omega
    have hT : (32 - (f : Int) : Int).toNat = 32 - f := by omega
    obtain ⟨V, hV⟩ : ∃ V : Nat, v / 2 ^ (32 - (32 - f)) = V := ⟨_, rfl⟩
    have hVl : V < 2 ^ (32 - f) := by rw [← hV]; exact shr_lt hv hN.2.1
    have hV32 : V < 4294967296 := Nat.lt_of_lt_of_le hVl (pow_le_32 hN.2.1)
    have hVc : (v : Int) / 2 ^ (32 - (32 - f)) = (V : Int) := by rw [← hV]; simp
    have hB : isB (f : Int) (32 - (f : Int)) = true := by rw [isB_iff]; omega
    obtain ⟨X, hX⟩ : ∃ X, put y f (32 - f) V = X := ⟨_, rfl⟩
    have hXl : X < 4294967296 := by rw [← hX]; exact put_lt hy hN.2.2 hVl
    have hFX : field X f (32 - f) = V := by rw [← hX]; exact field_put hVl
    have hbits : ∀ i, i < f ∨ f + (32 - f) ≤ i → X / 2 ^ i % 2 = y / 2 ^ i % 2 := by rw [← hX]; exact fun i h => put_bit hVl h
    obtain ⟨A, hA⟩ : ∃ A, sgn V (32 - f) = A := ⟨_, rfl⟩
    obtain ⟨U, hU⟩ : ∃ U : Nat, wordOf A = U := ⟨_, rfl⟩
    have hUc : A % 4294967296 = (U : Int) := by rw [← hU]; exact wordOf_cast A
    have hshl : (U : Int) * 2 ^ (32 - (32 - f)) % 4294967296 = (V : Int) * 2 ^ (32 - (32 - f)) % 4294967296 := by
      have h1 := shl_congr (a := U) (b := V) hN.2.1 (by rw [← hU, ← hA]; exact wordOf_mod hN.1 hN.2.1)
      rw [shl_cast, shl_cast, h1]
    have hcP := fun wx => put_int y V (f : Int) (32 - (f : Int)) wx hy hB (by rw [hT]; exact hVl)
    have hcF := fun wx => field_int X (f : Int) (32 - (f : Int)) wx hXl hB
    have hcS := fun wx => sign_int V (32 - (f : Int)) wx (by omega) A (by rw [hT]; exact hA)
    rw [show (f : Int).toNat = f from rfl, hT, hX] at hcP
    rw [show (f : Int).toNat = f from rfl, hT, hFX] at hcF
    have HCP := Lib.hid hcP
    have HCF := Lib.hid hcF
    have HCS := Lib.hid hcS
    have HBits := Lib.hid hbits
    clear hcP hcF hcS hbits hFX hX hA hU hT hB hV hVl
    go_enter Try.func8, Try.ntmps8
    go_wp2_with (first | (go_at_call 30; refine (alive_any _).mono ?_; rintro e w1 ⟨rfl, hb1⟩) | (go_at_call 22; ((with_reducible refine (HCP.out _).mono ?_); rintro e w2 ⟨rfl, k2, rfl⟩)) | (go_at_call 20; ((with_reducible refine (HCF.out _).mono ?_); rintro e w3 ⟨rfl, k3, rfl⟩)) | (go_at_call 24; ((with_reducible refine (HCS.out _).mono ?_); rintro e w4 ⟨rfl, rfl⟩)))
    go_quiet (fail)
    go_wp2
    clear hUc hshl hVc hf hm
    go_loopw [18] (fun i wr => ∃ k : Nat, k ≤ 32 ∧ i = .int .i64 k ∧ Below w.heap.size w wr) (fun i _ => 32 - (intOf i).toNat)
    case atStart => exact ⟨0, by omega, rfl, by repeat (first | exact hb1 | refine below_drewN ?_ _)⟩
    case round =>
      obtain ⟨k, hk, rfl, hbw⟩ := hrel
      by_cases hlt : k < 32
      · have hk2 : 0 ≤ (k : Int) ∧ (k : Int) ≤ 32 := by omega
        have hX1 := bit_of (i := k) hXl
        have hY1 := bit_of (i := k) hy
        by_cases hlo : k < f
        · rw [HBits.out k (.inl hlo)] at hX1
          go_wp2
          go_quiet (fail)
          go_wp2
          go_roundw
          case rel => exact ⟨k + 1, by omega, by go_num, below_drewN hbw _⟩
          case measure => simp [intOf]; omega
        · have hsum : IntKind.i64.wrap ((f : Int) + (32 - (f : Int))) = (f : Int) + (32 - (f : Int)) := IntWalk.i64_in _ (by omega)
          by_cases hhi : (f : Int) + (32 - (f : Int)) ≤ k
          · exfalso; omega
          · clear hX1 hY1
            have hd1 : decide ((k : Int) < (f : Int)) = false := by simp; omega
            have hd2 : decide ((f : Int) + (32 - (f : Int)) ≤ (k : Int)) = false := by simp; omega
            go_wp2 
            go_quiet (fail)
            go_wp2
            go_roundw
            case rel => exact ⟨k + 1, by omega, by go_num, below_drewN hbw _⟩
            case measure => simp [intOf]; omega
      · go_wp2
        go_ret
        exact ⟨rfl, hbw⟩
  · skip
    have hN : 1 ≤ 1 + m ∧ 1 + m ≤ 32 ∧ f + (1 + m) ≤ 32 := by omega
    have hT : (1 + (m : Int) : Int).toNat = 1 + m := by omega
    obtain ⟨V, hV⟩ : ∃ V : Nat, v / 2 ^ (32 - (1 + m)) = V := ⟨_, rfl⟩
    have hVl : V < 2 ^ (1 + m) := by rw [← hV]; exact shr_lt hv hN.2.1
    have hV32 : V < 4294967296 := Nat.lt_of_lt_of_le hVl (pow_le_32 hN.2.1)
    have hVc : (v : Int) / 2 ^ (32 - (1 + m)) = (V : Int) := by rw [← hV]; simp
    have hB : isB (f : Int) (1 + (m : Int)) = true := by rw [isB_iff]; omega
    obtain ⟨X, hX⟩ : ∃ X, put y f (1 + m) V = X := ⟨_, rfl⟩
    have hXl : X < 4294967296 := by rw [← hX]; exact put_lt hy hN.2.2 hVl
    have hFX : field X f (1 + m) = V := by rw [← hX]; exact field_put hVl
    have hbits : ∀ i, i < f ∨ f + (1 + m) ≤ i → X / 2 ^ i % 2 = y / 2 ^ i % 2 := by rw [← hX]; exact fun i h => put_bit hVl h
    obtain ⟨A, hA⟩ : ∃ A, sgn V (1 + m) = A := ⟨_, rfl⟩
    obtain ⟨U, hU⟩ : ∃ U : Nat, wordOf A = U := ⟨_, rfl⟩
    have hUc : A % 4294967296 = (U : Int) := by rw [← hU]; exact wordOf_cast A
    have hshl : (U : Int) * 2 ^ (32 - (1 + m)) % 4294967296 = (V : Int) * 2 ^ (32 - (1 + m)) % 4294967296 := by
      have h1 := shl_congr (a := U) (b := V) hN.2.1 (by rw [← hU, ← hA]; exact wordOf_mod hN.1 hN.2.1)
      rw [shl_cast, shl_cast, h1]
    have hcP := fun wx => put_int y V (f : Int) (1 + (m : Int)) wx hy hB (by rw [hT]; exact hVl)
    have hcF := fun wx => field_int X (f : Int) (1 + (m : Int)) wx hXl hB
    have hcS := fun wx => sign_int V (1 + (m : Int)) wx (by omega) A (by rw [hT]; exact hA)
    rw [show (f : Int).toNat = f from rfl, hT, hX] at hcP
    rw [show (f : Int).toNat = f from rfl, hT, hFX] at hcF
    have HCP := Lib.hid hcP
    have HCF := Lib.hid hcF
    have HCS := Lib.hid hcS
    have HBits := Lib.hid hbits
    clear hcP hcF hcS hbits hFX hX hA hU hT hB hV hVl
    go_enter Try.func8, Try.ntmps8
    go_wp2_with (first | (go_at_call 30; refine (alive_any _).mono ?_; rintro e w1 ⟨rfl, hb1⟩) | (go_at_call 22; ((with_reducible refine (HCP.out _).mono ?_); rintro e w2 ⟨rfl, k2, rfl⟩)) | (go_at_call 20; ((with_reducible refine (HCF.out _).mono ?_); rintro e w3 ⟨rfl, k3, rfl⟩)) | (go_at_call 24; ((with_reducible refine (HCS.out _).mono ?_); rintro e w4 ⟨rfl, rfl⟩)))
    go_quiet (fail)
    go_wp2
    clear hUc hshl hVc hf hm
    go_loopw [18] (fun i wr => ∃ k : Nat, k ≤ 32 ∧ i = .int .i64 k ∧ Below w.heap.size w wr) (fun i _ => 32 - (intOf i).toNat)
    case atStart => exact ⟨0, by omega, rfl, by repeat (first | exact hb1 | refine below_drewN ?_ _)⟩
    case round =>
      obtain ⟨k, hk, rfl, hbw⟩ := hrel
      by_cases hlt : k < 32
      · have hk2 : 0 ≤ (k : Int) ∧ (k : Int) ≤ 32 := by omega
        have hX1 := bit_of (i := k) hXl
        have hY1 := bit_of (i := k) hy
        by_cases hlo : k < f
        · rw [HBits.out k (.inl hlo)] at hX1
          go_wp2
          go_quiet (fail)
          go_wp2
          go_roundw
          case rel => exact ⟨k + 1, by omega, by go_num, below_drewN hbw _⟩
          case measure => simp [intOf]; omega
        · have hsum : IntKind.i64.wrap ((f : Int) + (1 + (m : Int))) = (f : Int) + (1 + (m : Int)) := IntWalk.i64_in _ (by omega)
          by_cases hhi : (f : Int) + (1 + (m : Int)) ≤ k
          · rw [HBits.out k (.inr (by omega))] at hX1
            have hd1 : decide ((k : Int) < (f : Int)) = false := by simp; omega
            have hd2 : decide ((f : Int) + (1 + (m : Int)) ≤ (k : Int)) = true := by simp; omega
            go_wp2
            go_quiet (fail)
            go_wp2
            go_roundw
            case rel => exact ⟨k + 1, by omega, by go_num, below_drewN hbw _⟩
            case measure => simp [intOf]; omega
          · clear hX1 hY1
            have hd1 : decide ((k : Int) < (f : Int)) = false := by simp; omega
            have hd2 : decide ((f : Int) + (1 + (m : Int)) ≤ (k : Int)) = false := by simp; omega
            go_wp2 
            go_quiet (fail)
            go_wp2
            go_roundw
            case rel => exact ⟨k + 1, by omega, by go_num, below_drewN hbw _⟩
            case measure => simp [intOf]; omega
      · go_wp2
        go_ret
        exact ⟨rfl, hbw⟩
end Go.Proofs.Ythacghmgkpbdoaa.Walk
