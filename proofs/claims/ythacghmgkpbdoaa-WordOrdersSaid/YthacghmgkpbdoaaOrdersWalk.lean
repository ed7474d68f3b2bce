/-
  The walk of WordOrders: texts in the order of their words, with another byte at one place, longer and shorter.
-/
import Derived.Test.YthacghmgkpbdoaaTextNums
import Derived.Test.YthacghmgkpbdoaaAlive
import Derived.WalkSpells
import Derived.BigRegion
namespace Go.Proofs.Ythacghmgkpbdoaa.Walk
open Go Go.RowKit Nums Kit Leaf Text RefText TextNums Alive
set_option linter.unusedVariables false

/-- A string of one byte is made of a new slice. -/
theorem run_one (c : Int) (wx : World) (g : Nat) (h : wx.cell? ⟨g, 0, none⟩ = some (.int .u8 c)) :
    (convert 24 9 (.slice (some ⟨g, 0, none⟩) 1 1)).run Try.prog wx = .ok (.string (strOfNums [c])) wx :=
  run_convert_bytes_arg (P := Try.prog) wx 24 5 Try.underlying24 Try.underlying5 g 0 1 1 [c] rfl (fun i hi => by obtain rfl : i = 0 := (by omega); exact h) 9 Try.underlying9
theorem run_lo (v k : Nat) (hk : k ≤ 7) (wx : World) :
    (Instr.slice 9 (.string (txtS v)) none (some (.int .i64 (k : Int))) none).run Try.prog wx = .ok (.string ((txtS v).extract 0 k)) wx := by
  have hs := txtS_size v
  rw [run_slice_string_to_if _ _ _ _ _ Try.underlying9, if_pos ⟨by omega, by omega⟩]
  rfl
theorem run_hi (v k : Nat) (hk : k ≤ 7) (wx : World) :
    (Instr.slice 9 (.string (txtS v)) (some (.int .i64 ((k : Int) + 1))) none none).run Try.prog wx = .ok (.string ((txtS v).extract (k + 1) 8)) wx := by
  have hs := txtS_size v
  rw [run_slice_string_from_if _ _ _ _ _ Try.underlying9, if_pos ⟨by omega, by omega⟩, hs]
  rfl
theorem run_seven (v : Nat) (wx : World) :
    (Instr.slice 9 (.string (txtS v)) none (some (.int .i64 7)) none).run Try.prog wx = .ok (.string ((txtS v).extract 0 7)) wx :=
  run_lo v 7 (by omega) wx

set_option maxHeartbeats 2000000 in
theorem wordOrders_of (a b at_ c k W : Nat) (d : Bool) (w : World) (ha : a < 4294967296) (hb : b < 4294967296) (hk : (at_ : Int) % 8 = (k : Int)) (hkl : k ≤ 7) (hat : at_ < 256) (hc : c < 256)
    (hd : (d = true ∧ (48 ≤ c ∧ c ≤ 57 ∨ 97 ≤ c ∧ c ≤ 102) ∧ W < 4294967296 ∧ txtS W = swap a k c ∧ parseR (swap a k c) = .tuple #[.int .u32 (W : Int), .int .i64 0]) ∨ (d = false ∧ (c < 48 ∨ 57 < c ∧ c < 97 ∨ 102 < c) ∧ parseR (swap a k c) = .tuple #[.int .u32 0, .int .i64 10])) :
    Calls Try.prog 11 #[.int .u32 (a : Int), .int .u32 (b : Int), .int .u8 (at_ : Int), .int .u8 (c : Int)] w fun e w' => e = .returned (.bool true) ∧ Below w.heap.size w w' := by
  obtain ⟨U, hU⟩ : ∃ U, swap a k c = U := ⟨_, rfl⟩
  have hUs : U.size = 8 := by rw [← hU]; exact swap_size hkl
  rw [hU] at hd
  have hU2 : (txtS a).extract 0 k ++ strOfNums [(c : Int)] ++ (txtS a).extract (k + 1) 8 = U := hU
  have HUs := Lib.hid hUs
  clear hU hUs
  have hl := less_txt ha hb
  have hsz : ((txtS a).size : Int) = 8 := by rw [txtS_size]; rfl
  have hsz' := txtS_size a
  have z1 : ((txtS a).extract 0 k).size ≤ 8 := by simp [ByteArray.size_extract]; omega
  have z2 : ((txtS a).extract (k + 1) 8).size ≤ 8 := by simp [ByteArray.size_extract]; omega
  have z3 : (strOfNums [(c : Int)]).size ≤ 1 := size_le (by simp)
  have hlo := run_lo a k hkl
  have hhi := run_hi a k hkl
  have h7 := run_seven a
  have hone := run_one (c : Int)
  have HL := Lib.hid (fun wx => parse_len (txtS a ++ (⟨#[48]⟩ : ByteArray)) wx (by rw [longer_size]; unfold maxLen; omega) (by rw [longer_size]; omega))
  have HS := Lib.hid (fun wx => parse_len ((txtS a).extract 0 7) wx (by rw [shorter_size]; unfold maxLen; omega) (by rw [shorter_size]; omega))
  have HA := Lib.hid ha
  have HB := Lib.hid hb
  clear ha hb
  rcases hd with ⟨rfl, hr, hW, hT, hP⟩ | ⟨rfl, hr, hP⟩
  · have HW := Lib.hid hW
    clear hW
    rcases hr with hr | hr
    · skip
      have q0 : decide ((48 : Int) ≤ (c : Int)) = true := by simp; omega
      have q1 : decide ((c : Int) ≤ 57) = true := by simp; omega
      have q2 : decide ((97 : Int) ≤ (c : Int)) = false := by simp; omega
      have q3 : decide ((c : Int) ≤ 102) = true := by simp; omega
      go_enter Try.func11, Try.ntmps11
      go_wp2_with (first | (go_at_call 30; refine (alive_any _).mono ?_; rintro e w1 ⟨rfl, hb1⟩) | (go_at_call 28; ((with_reducible refine (text_any a _ HA.out).mono ?_); rintro e w2 ⟨rfl, hb2⟩)) | (go_at_call 28; ((with_reducible refine (text_any b _ HB.out).mono ?_); rintro e w3 ⟨rfl, hb3⟩)))
      go_region
      go_wp2_with (first | (go_at_call 26; ((with_reducible refine (parse_any U _ HUs.out).mono ?_); rintro e w' ⟨rfl, rfl⟩)) | (go_at_call 26; ((with_reducible refine (HL.out _).mono ?_); rintro e w' ⟨rfl, rfl⟩)) | (go_at_call 26; ((with_reducible refine (HS.out _).mono ?_); rintro e w' ⟨rfl, rfl⟩)) | (go_at_call 28; ((with_reducible refine (text_any W _ HW.out).mono ?_); rintro e w4 ⟨rfl, hb4⟩)))
      go_ret
      have hs3 : w.heap.size ≤ w3.heap.size := by have := hb1.size; have := hb2.size; have := hb3.size; omega
      exact ⟨rfl, (((hb1.trans ((hb2.trans (hb3.mono hb2.size)).mono hb1.size)).alloc hs3 _).drew).trans (hb4.mono (by simp; omega))⟩
    · skip
      have q0 : decide ((48 : Int) ≤ (c : Int)) = true := by simp; omega
      have q1 : decide ((c : Int) ≤ 57) = false := by simp; omega
      have q2 : decide ((97 : Int) ≤ (c : Int)) = true := by simp; omega
      have q3 : decide ((c : Int) ≤ 102) = true := by simp; omega
      go_enter Try.func11, Try.ntmps11
      go_wp2_with (first | (go_at_call 30; refine (alive_any _).mono ?_; rintro e w1 ⟨rfl, hb1⟩) | (go_at_call 28; ((with_reducible refine (text_any a _ HA.out).mono ?_); rintro e w2 ⟨rfl, hb2⟩)) | (go_at_call 28; ((with_reducible refine (text_any b _ HB.out).mono ?_); rintro e w3 ⟨rfl, hb3⟩)))
      go_region
      go_wp2_with (first | (go_at_call 26; ((with_reducible refine (parse_any U _ HUs.out).mono ?_); rintro e w' ⟨rfl, rfl⟩)) | (go_at_call 26; ((with_reducible refine (HL.out _).mono ?_); rintro e w' ⟨rfl, rfl⟩)) | (go_at_call 26; ((with_reducible refine (HS.out _).mono ?_); rintro e w' ⟨rfl, rfl⟩)) | (go_at_call 28; ((with_reducible refine (text_any W _ HW.out).mono ?_); rintro e w4 ⟨rfl, hb4⟩)))
      go_ret
      have hs3 : w.heap.size ≤ w3.heap.size := by have := hb1.size; have := hb2.size; have := hb3.size; omega
      exact ⟨rfl, (((hb1.trans ((hb2.trans (hb3.mono hb2.size)).mono hb1.size)).alloc hs3 _).drew).trans (hb4.mono (by simp; omega))⟩
  · rcases hr with hr | hr | hr
    · skip
      have q0 : decide ((48 : Int) ≤ (c : Int)) = false := by simp; omega
      have q1 : decide ((c : Int) ≤ 57) = true := by simp; omega
      have q2 : decide ((97 : Int) ≤ (c : Int)) = false := by simp; omega
      have q3 : decide ((c : Int) ≤ 102) = true := by simp; omega
      go_enter Try.func11, Try.ntmps11
      go_wp2_with (first | (go_at_call 30; refine (alive_any _).mono ?_; rintro e w1 ⟨rfl, hb1⟩) | (go_at_call 28; ((with_reducible refine (text_any a _ HA.out).mono ?_); rintro e w2 ⟨rfl, hb2⟩)) | (go_at_call 28; ((with_reducible refine (text_any b _ HB.out).mono ?_); rintro e w3 ⟨rfl, hb3⟩)))
      go_region
      go_wp2_with (first | (go_at_call 26; ((with_reducible refine (parse_any U _ HUs.out).mono ?_); rintro e w' ⟨rfl, rfl⟩)) | (go_at_call 26; ((with_reducible refine (HL.out _).mono ?_); rintro e w' ⟨rfl, rfl⟩)) | (go_at_call 26; ((with_reducible refine (HS.out _).mono ?_); rintro e w' ⟨rfl, rfl⟩)))
      go_ret
      have hs3 : w.heap.size ≤ w3.heap.size := by have := hb1.size; have := hb2.size; have := hb3.size; omega
      exact ⟨rfl, ((hb1.trans ((hb2.trans (hb3.mono hb2.size)).mono hb1.size)).alloc hs3 _).drew⟩
    · skip
      have q0 : decide ((48 : Int) ≤ (c : Int)) = true := by simp; omega
      have q1 : decide ((c : Int) ≤ 57) = false := by simp; omega
      have q2 : decide ((97 : Int) ≤ (c : Int)) = false := by simp; omega
      have q3 : decide ((c : Int) ≤ 102) = true := by simp; omega
      go_enter Try.func11, Try.ntmps11
      go_wp2_with (first | (go_at_call 30; refine (alive_any _).mono ?_; rintro e w1 ⟨rfl, hb1⟩) | (go_at_call 28; ((with_reducible refine (text_any a _ HA.out).mono ?_); rintro e w2 ⟨rfl, hb2⟩)) | (go_at_call 28; ((with_reducible refine (text_any b _ HB.out).mono ?_); rintro e w3 ⟨rfl, hb3⟩)))
      go_region
      go_wp2_with (first | (go_at_call 26; ((with_reducible refine (parse_any U _ HUs.out).mono ?_); rintro e w' ⟨rfl, rfl⟩)) | (go_at_call 26; ((with_reducible refine (HL.out _).mono ?_); rintro e w' ⟨rfl, rfl⟩)) | (go_at_call 26; ((with_reducible refine (HS.out _).mono ?_); rintro e w' ⟨rfl, rfl⟩)))
      go_ret
      have hs3 : w.heap.size ≤ w3.heap.size := by have := hb1.size; have := hb2.size; have := hb3.size; omega
      exact ⟨rfl, ((hb1.trans ((hb2.trans (hb3.mono hb2.size)).mono hb1.size)).alloc hs3 _).drew⟩
    · skip
      have q0 : decide ((48 : Int) ≤ (c : Int)) = true := by simp; omega
      have q1 : decide ((c : Int) ≤ 57) = false := by simp; omega
      have q2 : decide ((97 : Int) ≤ (c : Int)) = true := by simp; omega
      have q3 : decide ((c : Int) ≤ 102) = false := by simp; omega
      go_enter Try.func11, Try.ntmps11
      go_wp2_with (first | (go_at_call 30; refine (alive_any _).mono ?_; rintro e w1 ⟨rfl, hb1⟩) | (go_at_call 28; ((with_reducible refine (text_any a _ HA.out).mono ?_); rintro e w2 ⟨rfl, hb2⟩)) | (go_at_call 28; ((with_reducible refine (text_any b _ HB.out).mono ?_); rintro e w3 ⟨rfl, hb3⟩)))
      go_region
      go_wp2_with (first | (go_at_call 26; ((with_reducible refine (parse_any U _ HUs.out).mono ?_); rintro e w' ⟨rfl, rfl⟩)) | (go_at_call 26; ((with_reducible refine (HL.out _).mono ?_); rintro e w' ⟨rfl, rfl⟩)) | (go_at_call 26; ((with_reducible refine (HS.out _).mono ?_); rintro e w' ⟨rfl, rfl⟩)))
      go_ret
      have hs3 : w.heap.size ≤ w3.heap.size := by have := hb1.size; have := hb2.size; have := hb3.size; omega
      exact ⟨rfl, ((hb1.trans ((hb2.trans (hb3.mono hb2.size)).mono hb1.size)).alloc hs3 _).drew⟩

theorem wordOrders (a0 a1 a2 a3 : Int) (w : World) (w0 : (Lit.int .u32 a0).wf = true) (w1 : (Lit.int .u32 a1).wf = true) (w2 : (Lit.int .u8 a2).wf = true) (w3 : (Lit.int .u8 a3).wf = true) :
    Calls Try.prog 11 #[.int .u32 a0, .int .u32 a1, .int .u8 a2, .int .u8 a3] w fun e w' => e = .returned (.bool true) ∧ Below w.heap.size w w' := by
  obtain ⟨a, rfl, ha⟩ := u32_nat w0
  obtain ⟨b, rfl, hb⟩ := u32_nat w1
  obtain ⟨at_, rfl, hat⟩ := u8_nat w2
  obtain ⟨c, rfl, hc⟩ := u8_nat w3
  obtain ⟨k, hk, hkl⟩ : ∃ k : Nat, (at_ : Int) % 8 = (k : Int) ∧ k ≤ 7 := ⟨at_ % 8, by omega, by omega⟩
  by_cases hd : isDig c = true
  · refine wordOrders_of a b at_ c k (hv (swap a k c) 8) true w ha hb hk hkl hat hc (.inl ⟨rfl, ?_, hv8_lt _, txt_hv (swap_size hkl) (swap_dig hkl hc hd), parseR_yes (swap_dig hkl hc hd)⟩)
    simpa [isDig] using hd
  · have hd : isDig c = false := by simpa using hd
    refine wordOrders_of a b at_ c k 0 false w ha hb hk hkl hat hc (.inr ⟨rfl, ?_, swap_none hkl hc hd⟩)
    simp [isDig] at hd
    omega
end Go.Proofs.Ythacghmgkpbdoaa.Walk
