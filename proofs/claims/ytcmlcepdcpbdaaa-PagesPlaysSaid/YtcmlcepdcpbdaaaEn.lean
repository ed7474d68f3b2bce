/-
  some, alive, grown, on: the calls ahead of each law.
-/
import Derived.Test.YtcmlcepdcpbdaaaTn
import Derived.Test.YtcmlcepdcpbdaaaTq
import Derived.Test.YtcmlcepdcpbdaaaTr
namespace Go.Proofs.Ytcmlcepdcpbdaaa.En
open Go Go.RowKit Kit Bk Tm Ts Tc Ti Tl Th Td Tq Tr Tn
set_option linter.unusedVariables false

/-- The chapter's table. -/
def tSome : Nat → Option En := setI (setI (fun _ => none) 9 ⟨3, true, false, false, false⟩) 63 z0
theorem tSome_eq : tSome = up (up (fun _ => none) 9 (some ⟨3, true, false, false, false⟩)) 63 (some z0) := rfl
theorem tSome_no {k : Nat} (h1 : k ≠ 9) (h2 : k ≠ 63) : tSome k = none := by rw [tSome_eq, up_other _ _ _ _ h2, up_other _ _ _ _ h1]
theorem tSome_9 : tSome 9 ≠ none := by rw [tSome_eq]; exact fun e => by cases e
theorem tSome_63 : tSome 63 ≠ none := by rw [tSome_eq]; exact fun e => by cases e
theorem new_zero (w : World) : Below w.heap.size w (w.alloc (.cells zT 31)) ∧ Mem (w.alloc (.cells zT 31)) w.heap.size (fun _ => none) := ⟨(Below.refl _ _).alloc (Nat.le_refl _) _, Mem.zero w⟩
theorem some_any (w : World) : Calls Try.prog 20 #[] w fun e w' => e = .returned (.pointer (some ⟨w.heap.size, 0, none⟩)) ∧ Below w.heap.size w w' ∧ Mem w' w.heap.size tSome := by
  have hz := run_zeroT
  obtain ⟨hb, hm⟩ := new_zero w
  generalize zT = Z at *
  have HS : Hid (∀ W, Below w.heap.size w W → Mem W w.heap.size (fun _ => none) → Calls Try.prog 10 #[.pointer (some ⟨w.heap.size, 0, none⟩), .int .i64 9, .agg #[.int .i64 3, .bool true, .bool false, .bool false, .bool false]] W fun e w' => Below w.heap.size w w' ∧ ∃ T, T = setI (fun _ => none) 9 ⟨3, true, false, false, false⟩ ∧ Mem w' w.heap.size T ∧ e = .returned (.int .i64 0)) := Lib.hid (fun W hB hM => (set_any W w.heap.size _ hM 9 ⟨3, true, false, false, false⟩).mono fun e w' ⟨h1, h2, h3⟩ => ⟨hB.trans (h2.below hB.size (fun j e => by omega)), _, rfl, h3, h1⟩)
  have HS2 : Hid (∀ W T, Below w.heap.size w W → Mem W w.heap.size T → Calls Try.prog 10 #[.pointer (some ⟨w.heap.size, 0, none⟩), .int .i64 63, .agg #[.int .i64 0, .bool false, .bool false, .bool false, .bool false]] W fun e w' => Below w.heap.size w w' ∧ Mem w' w.heap.size (setI T 63 z0) ∧ e = .returned (.int .i64 0)) := Lib.hid (fun W T hB hM => (set_any W w.heap.size _ hM 63 z0).mono fun e w' ⟨h1, h2, h3⟩ => ⟨hB.trans (h2.below hB.size (fun j e => by omega)), h3, h1⟩)
  have HB := Lib.hid hb
  have HM := Lib.hid hm
  clear hb hm
  go_enter Try.func20, Try.ntmps20
  go_wp2_with (first | (go_at_call 10; first | ((with_reducible refine (HS.out _ HB.out HM.out).mono ?_); rintro e w1 ⟨b1, T, rfl, m1, rfl⟩; have HB1 := Lib.hid b1; have HM1 := Lib.hid m1; clear b1 m1) | ((with_reducible refine (HS2.out _ _ HB1.out HM1.out).mono ?_); rintro e w2 ⟨b2, m2, rfl⟩; have HB2 := Lib.hid b2; have HM2 := Lib.hid m2; clear b2 m2)))
  go_ret
  exact ⟨rfl, HB2.out, HM2.out⟩

theorem hole9 : HoleIs tSome 9 0 true := .inl ⟨rfl, 0, 9, rfl, rfl, by omega, by omega, fun k hk => tSome_no (by omega) (by omega), fun q hq => by omega⟩
theorem hole53 : HoleIs tSome 53 10 true := .inl ⟨rfl, 10, 53, rfl, rfl, by omega, by omega, fun k hk => tSome_no (by omega) (by omega), fun q hq hf => tSome_9 (by have := hf (9 - q) (by omega); rwa [show q + (9 - q) = 9 by omega] at this)⟩
theorem hole54 : HoleIs tSome 54 0 false := .inr ⟨rfl, rfl, .inr fun q m hm hq hf => by
  by_cases h : q ≤ 9
  · exact tSome_9 (by have := hf (9 - q) (by omega); rwa [show q + (9 - q) = 9 by omega] at this)
  · exact tSome_63 (by have := hf (63 - q) (by omega); rwa [show q + (63 - q) = 63 by omega] at this)⟩
theorem len_some : (ents tSome 64).length = 2 := by kernel_rfl
theorem parts_some : parts tSome = 2 := by kernel_rfl

/-- A hole of a known answer. -/
theorem hole_lit (W : World) (p : Nat) (T : Nat → Option En) (hM : Mem W p T) (i a : Int) (b : Bool) (hi : i ≤ 9223372036854775807) (h : HoleIs T i a b) :
    Calls Try.prog 22 #[.pointer (some ⟨p, 0, none⟩), .int .i64 i] W fun e w' => e = .returned (.tuple #[.int .i64 a, .bool b]) ∧ Below W.heap.size W w' :=
  (hole_any W p T (gets_mem hM hM.lt) i hi).mono fun e w' ⟨⟨a', b', h1, h2⟩, h3⟩ => by
    obtain ⟨rfl, rfl⟩ := h2.one h
    exact ⟨h1, h3⟩
theorem len_mem (W : World) (p : Nat) (T : Nat → Option En) (hM : Mem W p T) : Calls Try.prog 26 #[.pointer (some ⟨p, 0, none⟩)] W fun e w' => e = .returned (.int .i64 ((ents T 64).length : Int)) ∧ Below W.heap.size W w' := len_any W _ T (gets_mem hM hM.lt)
theorem parts_mem (W : World) (p : Nat) (T : Nat → Option En) (hM : Mem W p T) : Calls Try.prog 24 #[.pointer (some ⟨p, 0, none⟩)] W fun e w' => e = .returned (.int .i64 (parts T)) ∧ Below W.heap.size W w' := parts_any W _ T (gets_mem hM hM.lt)
theorem alive_any (w : World) : Calls Try.prog 23 #[] w fun e w' => e = .returned (.bool true) ∧ Below w.heap.size w w' := by
  have H9 : Hid (∀ W, Mem W w.heap.size tSome → _) := Lib.hid (fun W hM => hole_lit W w.heap.size tSome hM 9 0 true (by omega) hole9)
  have H53 : Hid (∀ W, Mem W w.heap.size tSome → _) := Lib.hid (fun W hM => hole_lit W w.heap.size tSome hM 53 10 true (by omega) hole53)
  have H54 : Hid (∀ W, Mem W w.heap.size tSome → _) := Lib.hid (fun W hM => hole_lit W w.heap.size tSome hM 54 0 false (by omega) hole54)
  have HL : Hid (∀ W, Mem W w.heap.size tSome → Calls Try.prog 26 #[.pointer (some ⟨w.heap.size, 0, none⟩)] W fun e w' => e = .returned (.int .i64 2) ∧ Below W.heap.size W w') := Lib.hid (fun W hM => by
    have := len_mem W w.heap.size tSome hM
    rw [len_some] at this
    exact this)
  have HP : Hid (∀ W, Mem W w.heap.size tSome → Calls Try.prog 24 #[.pointer (some ⟨w.heap.size, 0, none⟩)] W fun e w' => e = .returned (.int .i64 2) ∧ Below W.heap.size W w') := Lib.hid (fun W hM => by
    have := parts_mem W w.heap.size tSome hM
    rw [parts_some] at this
    exact this)
  go_enter Try.func23, Try.ntmps23
  go_wp2_with (first | (go_at_call 20; (with_reducible refine (some_any _).mono ?_); rintro e w1 ⟨rfl, b1, m1⟩; have HB := Lib.hid b1; have HM := Lib.hid m1; clear b1 m1) | (go_at_call 22; first | ((with_reducible refine (H9.out _ HM.out).mono ?_); rintro e w2 ⟨rfl, b2⟩; replace HM := Lib.hid (Mem.below HM.out b2); replace HB := Lib.hid (HB.out.trans (b2.mono HB.out.size)); clear b2) | ((with_reducible refine (H53.out _ HM.out).mono ?_); rintro e w2 ⟨rfl, b2⟩; replace HM := Lib.hid (Mem.below HM.out b2); replace HB := Lib.hid (HB.out.trans (b2.mono HB.out.size)); clear b2) | ((with_reducible refine (H54.out _ HM.out).mono ?_); rintro e w2 ⟨rfl, b2⟩; replace HM := Lib.hid (Mem.below HM.out b2); replace HB := Lib.hid (HB.out.trans (b2.mono HB.out.size)); clear b2)) | (go_at_call 26; ((with_reducible refine (HL.out _ HM.out).mono ?_); rintro e w2 ⟨rfl, b2⟩; replace HM := Lib.hid (Mem.below HM.out b2); replace HB := Lib.hid (HB.out.trans (b2.mono HB.out.size)); clear b2)) | (go_at_call 24; ((with_reducible refine (HP.out _ HM.out).mono ?_); rintro e w2 ⟨rfl, b2⟩; replace HM := Lib.hid (Mem.below HM.out b2); replace HB := Lib.hid (HB.out.trans (b2.mono HB.out.size)); clear b2)))
  go_ret
  exact ⟨rfl, HB.out⟩
end Go.Proofs.Ytcmlcepdcpbdaaa.En
