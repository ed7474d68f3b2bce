/-
  strings.IndexRune in the text of the two signs, at any rune that is no ASCII one: there is none.
-/
import Derived.Test.YtlplcacmmckpaaaDoorTabs
import Derived.Test.YtlplcacmmckpaaaDoorShelf
import Derived.WalkLawsBesides
import Derived.WalkSpells
import Derived.BigRegion
import Derived.BigQuiet
import Derived.Deep.QuietTactic
import Derived.Laws.Runes
import Derived.Laws.RangeString
namespace Go.Proofs.YtlplcacmmckpaaaDoor.Idx
open Go Go.RowKit Kit Gnums Tabs
set_option linter.unusedVariables false

/-- The two signs. -/
def pm : ByteArray := ⟨#[43, 45]⟩

set_option maxRecDepth 100000 in
set_option maxHeartbeats 2000000 in
theorem idx_err (w : World) :
    Calls Tryd.prog 41 #[.string ⟨#[43, 45]⟩, .int .i32 65533] w fun e w' => e = .returned (.int .i64 (-1)) ∧ Below w.heap.size w w' := by
  have h0 : ∀ ty, (Instr.next (.pointer (some ⟨w.heap.size, 0, none⟩)) true ty).run Tryd.prog (w.iter ⟨#[43, 45]⟩ 0) = .ok (.tuple #[.bool true, .int .i64 0, .int .i32 43]) (w.iter ⟨#[43, 45]⟩ 1) := fun ty => run_next_ascii w ⟨#[43, 45]⟩ 0 ty (by decide) (by decide)
  have h1 : ∀ ty, (Instr.next (.pointer (some ⟨w.heap.size, 0, none⟩)) true ty).run Tryd.prog (w.iter ⟨#[43, 45]⟩ 1) = .ok (.tuple #[.bool true, .int .i64 1, .int .i32 45]) (w.iter ⟨#[43, 45]⟩ 2) := fun ty => run_next_ascii w ⟨#[43, 45]⟩ 1 ty (by decide) (by decide)
  have h2 : ∀ ty, (Instr.next (.pointer (some ⟨w.heap.size, 0, none⟩)) true ty).run Tryd.prog (w.iter ⟨#[43, 45]⟩ 2) = .ok (.tuple #[.bool false]) (w.iter ⟨#[43, 45]⟩ 2) := fun ty => run_next_end w ⟨#[43, 45]⟩ 2 ty (by decide)
  go_enter Tryd.func41, Tryd.ntmps41
  go_wp2
  go_loopw [5, 6] (fun _ _ wr => ∃ pos : Nat, pos ≤ 2 ∧ wr = w.iter ⟨#[43, 45]⟩ pos) (fun _ _ wr => 2 - wr.iterPos w.heap.size)
  case atStart => exact ⟨0, by omega, rfl⟩
  case round =>
    obtain ⟨pos, hpos, rfl⟩ := hrel
    obtain rfl | rfl | rfl : pos = 0 ∨ pos = 1 ∨ pos = 2 := by omega
    · go_wp2
      go_roundw
      case rel => exact ⟨1, by omega, rfl⟩
      case measure => simp [World.iterPos, World.iter_heap]
    · go_wp2
      go_roundw
      case rel => exact ⟨2, by omega, rfl⟩
      case measure => simp [World.iterPos, World.iter_heap]
    · go_wp2
      go_ret
      exact ⟨rfl, (Below.refl _ w).alloc (Nat.le_refl _) _⟩

set_option maxRecDepth 100000 in
set_option maxHeartbeats 2000000 in
theorem idx_hi (r : Int) (hr : 128 ≤ r) (hr2 : r ≤ 2147483647) (h3 : r ≠ 65533) (w : World) :
    Calls Tryd.prog 41 #[.string ⟨#[43, 45]⟩, .int .i32 r] w fun e w' => e = .returned (.int .i64 (-1)) ∧ Below w.heap.size w w' := by
  have hv := fun wx => Shl.utf8_ValidRune r wx
  have h3' : (r == 65533) = false := by simpa using h3
  cases hb : Lib.validRune r with
  | false =>
    rw [hb] at hv
    have HV := Lib.hid hv
    clear hv hb h3
    go_enter Tryd.func41, Tryd.ntmps41
    go_wp2_with (go_at_call 55; ((with_reducible refine (HV.out _).mono ?_); rintro e w' ⟨rfl, rfl⟩))
    go_ret
    exact ⟨rfl, Below.refl _ _⟩
  | true =>
    rw [hb] at hv
    have HV := Lib.hid hv
    have hval : Utf8.valid r = true := by rw [validRune_eq]; exact hb
    obtain ⟨e1, e2, e3⟩ := encode_facts r hval hr
    obtain ⟨E, hE⟩ : ∃ E, Utf8.encode r = E := ⟨_, rfl⟩
    rw [hE] at e1 e2 e3
    by_cases h2 : E.size = 2
    · have e4 : ∀ h : 1 < E.size, 128 ≤ (E[1]'h).toNat := fun h => by
        have := e3 (by omega)
        simp only [h2] at this
        exact this
      have e5 : 128 ≤ (E[1]'(by omega)).toNat := e4 _
      have e6 : ∀ (q : 1 < (⟨#[43, 45]⟩ : ByteArray).size), (((((⟨#[43, 45]⟩ : ByteArray)[1]'q).toNat : Nat) : Int) != (((E[1]'(by omega)).toNat : Nat) : Int)) = true := fun q => by
        have : ((⟨#[43, 45]⟩ : ByteArray)[1]'q).toNat = 45 := rfl
        rw [this]
        simp
        omega
      have hx : ∀ (c : Int) wx, Calls Tryd.prog 54 #[.string (ByteArray.extract ⟨#[43, 45]⟩ 2 2), .int .u8 c] wx fun e w' => e = .returned (.int .i64 (-1)) ∧ wx = w' := fun c wx => (Shl.strings_IndexByte _ c wx).mono fun e w' ⟨he, hw⟩ => ⟨he, hw.symm⟩
      have HX := Lib.hid hx
      clear hv hb h3 hval e3 e4 hx
      go_enter Tryd.func41, Tryd.ntmps41
      go_wp2_with (go_at_call 55; ((with_reducible refine (HV.out _).mono ?_); rintro e w' ⟨rfl, rfl⟩))
      go_step3
      go_wp2
      refine wp_loop_rounds 1 ?_
      rw [rounds_succ]
      go_wp2
      go_step3
      go_wp2
      go_quiet (fail)
      have hBq : Below w'.heap.size w' (w'.drewN nq) := (Below.refl _ w').trans ⟨rfl, rfl, rfl, Nat.le_refl _, fun _ _ => rfl⟩
      generalize w'.drewN nq = wq at hBq ⊢
      go_wp2
      go_quiet (((go_at_call 54; exact Calls.quiet_of_same ((HX.out _ _).mono fun e w' ⟨he, hw⟩ => ⟨he, hw.symm⟩))))
      go_wp2
      rw [Exit.noGoto_ret]
      go_wp2
      rw [Exit.noGoto_ret]
      go_ret
      exact ⟨rfl, hBq.trans (show Below w'.heap.size wq _ from ⟨rfl, rfl, rfl, Nat.le_refl _, fun _ _ => rfl⟩)⟩
    · by_cases h4 : E.size = 3
      · clear hv hb h3 hval e3 e1 e2 h2
        go_enter Tryd.func41, Tryd.ntmps41
        go_wp2_with (go_at_call 55; ((with_reducible refine (HV.out _).mono ?_); rintro e w' ⟨rfl, rfl⟩))
        go_step3
        go_wp2
        refine wp_loop_rounds 1 ?_
        rw [rounds_succ]
        go_wp2
        rw [Exit.noGoto_ret]
        go_ret
        exact ⟨rfl, Below.refl _ _⟩
      · have h5 : E.size = 4 := by omega
        clear hv hb h3 hval e3 e1 e2 h2 h4
        go_enter Tryd.func41, Tryd.ntmps41
        go_wp2_with (go_at_call 55; ((with_reducible refine (HV.out _).mono ?_); rintro e w' ⟨rfl, rfl⟩))
        go_step3
        go_wp2
        refine wp_loop_rounds 1 ?_
        rw [rounds_succ]
        go_wp2
        rw [Exit.noGoto_ret]
        go_ret
        exact ⟨rfl, Below.refl _ _⟩

/-- Whatever the rune: a place in the text of the two signs, or none. -/
theorem idx_any (r : Int) (h0 : 0 ≤ r) (h1 : r ≤ 2147483647) (w : World) :
    Calls Tryd.prog 41 #[.string ⟨#[43, 45]⟩, .int .i32 r] w fun e w' => e = .returned (.int .i64 (if r < 128 then Lib.indexByte [43, 45] r.toNat.toUInt8 else -1)) ∧ Below w.heap.size w w' := by
  by_cases h : r < 128
  · rw [if_pos h]
    exact (Shl.strings_IndexRune_ascii _ r w h0 h).mono fun e w' ⟨he, hw⟩ => ⟨he, by rw [hw]; exact Below.refl _ _⟩
  · rw [if_neg h]
    by_cases h3 : r = 65533
    · subst h3
      exact idx_err w
    · exact idx_hi r (by omega) h1 h3 w
end Go.Proofs.YtlplcacmmckpaaaDoor.Idx
