/-
  The walk of WordJoins: fields put one behind the other make the word, for any two words and any cuts.
-/
import Derived.Test.YthacghmgkpbdoaaAlive
namespace Go.Proofs.Ythacghmgkpbdoaa.Walk
open Go Go.RowKit Nums Kit Leaf Alive
set_option linter.unusedVariables false

theorem wordJoins (a0 a1 : Int) (a2 : Option Addr) (len2 cap2 : Nat) (z2 : List Int) (w : World) (w0 : (Lit.int .u32 a0).wf = true) (w1 : (Lit.int .u32 a1).wf = true) (w2 : IsRow .u8 w a2 len2 cap2 z2) :
    Calls Try.prog 9 #[.int .u32 a0, .int .u32 a1, .slice a2 len2 cap2] w fun e w' => e = .returned (.bool true) ∧ Below w.heap.size w w' := by
  obtain ⟨v, rfl, hv⟩ := u32_nat w0
  obtain ⟨x, rfl, hx⟩ := u32_nat w1
  obtain ⟨xs, rfl, ⟨a, cap, hsv, hcap, hmax, hread⟩, hwf⟩ := w2.slc nn_u8
  cases hsv
  clear w0 w1 w2
  unfold maxLen at hmax
  by_cases h40 : xs.length ≤ 40
  · go_enter Try.func9, Try.ntmps9
    go_wp2_with (go_at_call 30; refine (alive_any _).mono ?_; rintro e w1 ⟨rfl, hb1⟩)
    go_loopw [1, 8, 9] (fun y f i wr => ∃ (k from_ y_ : Nat), k ≤ xs.length + 1 ∧ from_ ≤ 32 ∧ (k ≤ xs.length ∨ 32 ≤ from_) ∧ i = .int .i64 k ∧ f = .int .i64 from_ ∧ y = .int .u32 y_ ∧ y_ < 4294967296 ∧ Hid (y_ % 2 ^ from_ = v % 2 ^ from_) ∧ Below w.heap.size w wr) (fun _ _ i _ => xs.length + 1 - (intOf i).toNat)
    case atStart => exact ⟨0, 0, x, by omega, by omega, by omega, rfl, rfl, rfl, hx, by show _ = _; simp [Nat.mod_one], hb1⟩
    case round =>
      obtain ⟨k, f, y, hk, hf, hor, rfl, rfl, rfl, hy, hmod, hbw⟩ := hrel
      by_cases hgo : k ≤ xs.length ∧ f < 32
      · obtain ⟨hkl, hfl⟩ := hgo
        by_cases hlt : k < xs.length
        · rcases hread with h0 | ⟨b, off, rfl, hblt, hcells⟩
          · subst h0; simp at hlt
          · have hc : wr.cell? ⟨b, off + k, none⟩ = some (.int .u8 ((xs[k]?.getD 0 : Nat) : Int)) := (hbw.cell (p := ⟨b, off + k, none⟩) hblt).trans (hcells k hlt)
            obtain ⟨c, hcx⟩ : ∃ c, xs[k]?.getD 0 = c := ⟨_, rfl⟩
            rw [hcx] at hc
            have hcb : c < 256 := by
              rw [List.getElem?_eq_getElem hlt] at hcx
              have h8 := hwf _ (List.getElem_mem hlt)
              simp only [Option.getD_some] at hcx
              rw [hcx] at h8
              have hx8 : 0 ≤ (c : Int) ∧ (c : Int) ≤ 255 := by simpa [Lit.wf, IntKind.min, IntKind.max, IntKind.signed, IntKind.bits] using h8
              omega
            clear hcx hcells hwf
            have hc32 : 0 ≤ (c : Int) % 32 ∧ (c : Int) % 32 < 32 := by omega
            by_cases hmin : 32 - (f : Int) ≤ 1 + (c : Int) % 32
            · skip
              have hB : isB (f : Int) (32 - (f : Int)) = true := by rw [isB_iff]; omega
              have hfx := field_lt v f (32 - (f : Int)).toNat
              have hfl2 := field_le32 (w := v) (f := f) (n := (32 - (f : Int)).toNat) (by omega)
              have hpl := put_lt (w := y) (f := f) (n := (32 - (f : Int)).toNat) (v := field v f (32 - (f : Int)).toNat) hy (by omega) hfx
              have hpm := put_low (n := (32 - (f : Int)).toNat) hmod
              obtain ⟨F, hF⟩ : ∃ F, field v f (32 - (f : Int)).toNat = F := ⟨_, rfl⟩
              obtain ⟨Y, hY⟩ : ∃ Y, put y f (32 - (f : Int)).toNat F = Y := ⟨_, rfl⟩
              rw [hF] at hfx hfl2 hpl hpm
              rw [hY] at hpl hpm
              have HPM := Lib.hid hpm
              have HFX := Lib.hid hfx
              have hcF := fun wx => field_int v (f : Int) (32 - (f : Int)) wx hv hB
              have hcP := fun wx => put_int y F (f : Int) (32 - (f : Int)) wx hy hB HFX.out
              rw [show (f : Int).toNat = f from rfl, hF] at hcF
              rw [show (f : Int).toNat = f from rfl, hY] at hcP
              have HCF := Lib.hid hcF
              have HCP := Lib.hid hcP
              clear hcF hcP hpm hfx hF hY hB hmod
              go_wp2_with (first | (go_at_call 20; ((with_reducible refine (HCF.out _).mono ?_); rintro e w2 ⟨rfl, k2, rfl⟩)) | (go_at_call 22; ((with_reducible refine (HCP.out _).mono ?_); rintro e w3 ⟨rfl, k3, rfl⟩)))
              go_roundw
              case rel => exact ⟨k + 1, f + (32 - (f : Int)).toNat, Y, by omega, by omega, by omega, by go_num, by rw [show ((f + (32 - (f : Int)).toNat : Nat) : Int) = (f : Int) + (32 - (f : Int)) from by omega], rfl, hpl, HPM, by repeat (first | exact hbw | refine below_drewN ?_ _)⟩
              case measure => simp [intOf]; omega
            · skip
              have hB : isB (f : Int) (1 + (c : Int) % 32) = true := by rw [isB_iff]; omega
              have hfx := field_lt v f (1 + (c : Int) % 32).toNat
              have hfl2 := field_le32 (w := v) (f := f) (n := (1 + (c : Int) % 32).toNat) (by omega)
              have hpl := put_lt (w := y) (f := f) (n := (1 + (c : Int) % 32).toNat) (v := field v f (1 + (c : Int) % 32).toNat) hy (by omega) hfx
              have hpm := put_low (n := (1 + (c : Int) % 32).toNat) hmod
              obtain ⟨F, hF⟩ : ∃ F, field v f (1 + (c : Int) % 32).toNat = F := ⟨_, rfl⟩
              obtain ⟨Y, hY⟩ : ∃ Y, put y f (1 + (c : Int) % 32).toNat F = Y := ⟨_, rfl⟩
              rw [hF] at hfx hfl2 hpl hpm
              rw [hY] at hpl hpm
              have HPM := Lib.hid hpm
              have HFX := Lib.hid hfx
              have hcF := fun wx => field_int v (f : Int) (1 + (c : Int) % 32) wx hv hB
              have hcP := fun wx => put_int y F (f : Int) (1 + (c : Int) % 32) wx hy hB HFX.out
              rw [show (f : Int).toNat = f from rfl, hF] at hcF
              rw [show (f : Int).toNat = f from rfl, hY] at hcP
              have HCF := Lib.hid hcF
              have HCP := Lib.hid hcP
              clear hcF hcP hpm hfx hF hY hB hmod
              go_wp2_with (first | (go_at_call 20; ((with_reducible refine (HCF.out _).mono ?_); rintro e w2 ⟨rfl, k2, rfl⟩)) | (go_at_call 22; ((with_reducible refine (HCP.out _).mono ?_); rintro e w3 ⟨rfl, k3, rfl⟩)))
              go_roundw
              case rel => exact ⟨k + 1, f + (1 + (c : Int) % 32).toNat, Y, by omega, by omega, by omega, by go_num, by rw [show ((f + (1 + (c : Int) % 32).toNat : Nat) : Int) = (f : Int) + (1 + (c : Int) % 32) from by omega], rfl, hpl, HPM, by repeat (first | exact hbw | refine below_drewN ?_ _)⟩
              case measure => simp [intOf]; omega
        · obtain rfl : k = xs.length := by omega
          clear hread hwf
          have hB : isB (f : Int) (32 - (f : Int)) = true := by rw [isB_iff]; omega
          have hfx := field_lt v f (32 - (f : Int)).toNat
          have hfl2 := field_le32 (w := v) (f := f) (n := (32 - (f : Int)).toNat) (by omega)
          have hpl := put_lt (w := y) (f := f) (n := (32 - (f : Int)).toNat) (v := field v f (32 - (f : Int)).toNat) hy (by omega) hfx
          have hpm := put_low (n := (32 - (f : Int)).toNat) hmod
          obtain ⟨F, hF⟩ : ∃ F, field v f (32 - (f : Int)).toNat = F := ⟨_, rfl⟩
          obtain ⟨Y, hY⟩ : ∃ Y, put y f (32 - (f : Int)).toNat F = Y := ⟨_, rfl⟩
          rw [hF] at hfx hfl2 hpl hpm
          rw [hY] at hpl hpm
          have HPM := Lib.hid hpm
          have HFX := Lib.hid hfx
          have hcF := fun wx => field_int v (f : Int) (32 - (f : Int)) wx hv hB
          have hcP := fun wx => put_int y F (f : Int) (32 - (f : Int)) wx hy hB HFX.out
          rw [show (f : Int).toNat = f from rfl, hF] at hcF
          rw [show (f : Int).toNat = f from rfl, hY] at hcP
          have HCF := Lib.hid hcF
          have HCP := Lib.hid hcP
          clear hcF hcP hpm hfx hF hY hB hmod
          go_wp2_with (first | (go_at_call 20; ((with_reducible refine (HCF.out _).mono ?_); rintro e w2 ⟨rfl, k2, rfl⟩)) | (go_at_call 22; ((with_reducible refine (HCP.out _).mono ?_); rintro e w3 ⟨rfl, k3, rfl⟩)))
          go_roundw
          case rel => exact ⟨xs.length + 1, f + (32 - (f : Int)).toNat, Y, by omega, by omega, by omega, by go_num, by rw [show ((f + (32 - (f : Int)).toNat : Nat) : Int) = (f : Int) + (32 - (f : Int)) from by omega], rfl, hpl, HPM, by repeat (first | exact hbw | refine below_drewN ?_ _)⟩
          case measure => simp [intOf]
      · have h32 : f = 32 := by omega
        subst h32
        have e : y = v := by
          have h1 : y % 2 ^ 32 = v % 2 ^ 32 := hmod
          rw [Nat.mod_eq_of_lt (show y < 2 ^ 32 from hy), Nat.mod_eq_of_lt (show v < 2 ^ 32 from hv)] at h1
          exact h1
        subst e
        clear hread hmod
        by_cases hkl : k ≤ xs.length
        all_goals
          go_wp2
          go_ret
          exact ⟨rfl, hbw⟩
  · go_enter Try.func9, Try.ntmps9
    go_wp2_with (go_at_call 30; refine (alive_any _).mono ?_; rintro e w1 ⟨rfl, hb1⟩)
    go_ret
    exact ⟨rfl, hb1⟩
end Go.Proofs.Ythacghmgkpbdoaa.Walk
