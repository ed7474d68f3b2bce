/-
  Calls on none, and on a memory that New did not make.
-/
import Derived.Test.YtompcmbaiegkaaaFz
import Derived.Test.YtompcmbaiegkaaaEa
namespace Go.Proofs.Ytompcmbaiegkaaa.Nn
open Go Go.RowKit Kit Fm Fo Fr Fw Fx Fy Fu Fv Fz
set_option linter.unusedVariables false
attribute [local go_sem ↓] app_wrap cpy_wrap
attribute [local go_sem] eql_nil eql_some eqf_nil eqf_some

abbrev Zm (w : World) (p : Nat) : Prop := Blk w p #[.slice none 0 0] 55
theorem made_zero (w : World) (p : Nat) (h : Zm w p) : Calls Try.prog 30 #[.pointer (some ⟨p, 0, none⟩)] w fun e w' => e = .returned (.bool false) ∧ w = w' := by
  have c0 := h.cell 0
  clear h
  go_enter Try.func30, Try.ntmps30
  go_wp2
  go_ret
  exact ⟨rfl, rfl⟩
theorem made_nil (w : World) : Calls Try.prog 30 #[.pointer none] w fun e w' => e = .returned (.bool false) ∧ w = w' := by
  go_enter Try.func30, Try.ntmps30
  go_wp2
  go_ret
  exact ⟨rfl, rfl⟩
theorem len_nil (w : World) : Calls Try.prog 21 #[.pointer none] w fun e w' => e = .returned (.int .i64 0) ∧ w = w' := by
  go_enter Try.func21, Try.ntmps21
  go_wp2
  go_ret
  exact ⟨rfl, rfl⟩
theorem refs_nil (w : World) : Calls Try.prog 23 #[.pointer none, .int .i64 0] w fun e w' => e = .returned (.int .i64 0) ∧ w = w' := by
  go_enter Try.func23, Try.ntmps23
  go_wp2_with (first | (go_at_call 21; (with_reducible refine (len_nil _).mono ?_); rintro e w1 ⟨rfl, rfl⟩))
  go_ret
  exact ⟨rfl, rfl⟩
theorem held_by (w : World) (f : Value) (h : Calls Try.prog 30 #[f] w fun e w' => e = .returned (.bool false) ∧ w = w') (k : Int) : Calls Try.prog 32 #[f, .int .i64 k] w fun e w' => e = .returned (.int .i64 1) ∧ w = w' := by
  have H := Lib.hid h
  clear h
  go_enter Try.func32, Try.ntmps32
  go_wp2_with (first | (go_at_call 30; (with_reducible refine H.out.mono ?_); rintro e w1 ⟨rfl, rfl⟩))
  go_ret
  exact ⟨rfl, rfl⟩
theorem take_nil (w : World) : Calls Try.prog 14 #[.pointer none] w fun e w' => e = .returned (.tuple #[.int .i64 0, .int .i64 1]) ∧ w = w' := by
  go_enter Try.func14, Try.ntmps14
  go_wp2_with (first | (go_at_call 30; (with_reducible refine (made_nil _).mono ?_); rintro e w1 ⟨rfl, rfl⟩))
  go_ret2
  exact ⟨rfl, rfl⟩
theorem copy_nil (w : World) : Calls Try.prog 13 #[.pointer none] w fun e w' => e = .returned (.pointer none) ∧ w = w' := by
  go_enter Try.func13, Try.ntmps13
  go_wp2_with (first | (go_at_call 30; (with_reducible refine (made_nil _).mono ?_); rintro e w1 ⟨rfl, rfl⟩))
  go_ret
  exact ⟨rfl, rfl⟩
theorem share_nil (w : World) : Calls Try.prog 25 #[.pointer none, .int .i64 0] w fun e w' => e = .returned (.int .i64 1) ∧ w = w' := by
  have H := Lib.hid (held_by w _ (made_nil w) 0)
  go_enter Try.func25, Try.ntmps25
  go_wp2_with (first | (go_at_call 32; (with_reducible refine H.out.mono ?_); rintro e w1 ⟨rfl, rfl⟩))
  go_ret
  exact ⟨rfl, rfl⟩
theorem drop_zero (w : World) (p : Nat) (h : Zm w p) : Calls Try.prog 15 #[.pointer (some ⟨p, 0, none⟩), .int .i64 0] w fun e w' => e = .returned (.tuple #[.int .i64 0, .int .i64 1]) ∧ w = w' := by
  have H := Lib.hid (held_by w _ (made_zero w p h) 0)
  clear h
  go_enter Try.func15, Try.ntmps15
  go_wp2_with (first | (go_at_call 32; (with_reducible refine H.out.mono ?_); rintro e w1 ⟨rfl, rfl⟩))
  go_ret2
  exact ⟨rfl, rfl⟩
theorem double_zero (w : World) (p : Nat) (h : Zm w p) : Calls Try.prog 27 #[.pointer (some ⟨p, 0, none⟩), .int .i64 0] w fun e w' => e = .returned (.tuple #[.int .i64 0, .int .i64 1]) ∧ w = w' := by
  have H := Lib.hid (held_by w _ (made_zero w p h) 0)
  clear h
  go_enter Try.func27, Try.ntmps27
  go_wp2_with (first | (go_at_call 32; (with_reducible refine H.out.mono ?_); rintro e w1 ⟨rfl, rfl⟩))
  go_ret2
  exact ⟨rfl, rfl⟩
theorem part_by (w : World) (f : Value) (h : Calls Try.prog 30 #[f] w fun e w' => e = .returned (.bool false) ∧ w = w') : Calls Try.prog 41 #[f, .int .i64 0, .int .i64 0, .int .i64 0] w fun e w' => e = .returned (.tuple #[.slice none 0 0, .int .i64 1]) ∧ w = w' := by
  have H := Lib.hid (held_by w f h 0)
  clear h
  go_enter Try.func41, Try.ntmps41
  go_wp2_with (first | (go_at_call 32; (with_reducible refine H.out.mono ?_); rintro e w1 ⟨rfl, rfl⟩))
  go_ret2
  exact ⟨rfl, rfl⟩
theorem read_nil (w : World) : Calls Try.prog 22 #[.pointer none, .int .i64 0, .int .i64 0, .int .i64 0] w fun e w' => e = .returned (.tuple #[.slice none 0 0, .int .i64 1]) ∧ w = w' := by
  have H := Lib.hid (part_by w _ (made_nil w))
  go_enter Try.func22, Try.ntmps22
  go_wp2_with (first | (go_at_call 41; (with_reducible refine H.out.mono ?_); rintro e w1 ⟨rfl, rfl⟩) | (go_at_call 42; (with_reducible refine (clone_nil _).mono ?_); rintro e w1 ⟨rfl, rfl⟩))
  go_ret2
  exact ⟨rfl, rfl⟩
theorem write_zero (w : World) (p : Nat) (h : Zm w p) : Calls Try.prog 26 #[.pointer (some ⟨p, 0, none⟩), .int .i64 0, .int .i64 0, .slice none 0 0] w fun e w' => e = .returned (.int .i64 1) ∧ w = w' := by
  have H := Lib.hid (part_by w _ (made_zero w p h))
  have hc : (cpyO #[31, 31] 3 #[.slice none 0 0, .slice none 0 0]).run Try.prog w = .ok (goInt 0) w :=
    run_copy_none w _ _ _ 5 none none 0 0 0 0 Try.underlying31 (by kernel_rfl) (by simp)
  clear h
  go_enter Try.func26, Try.ntmps26
  go_wp2_with (first | (go_at_call 41; (with_reducible refine H.out.mono ?_); rintro e w1 ⟨rfl, rfl⟩))
  go_ret
  exact ⟨rfl, rfl⟩
theorem free_zero (w : World) (p : Nat) (h : Zm w p) : Calls Try.prog 20 #[.pointer (some ⟨p, 0, none⟩)] w fun e w' => e = .returned (.int .i64 0) ∧ Below w.heap.size w w' := Fz.free_any w p p 0 (fun _ => 0) (fun _ _ => 0) ⟨⟨h, rfl⟩, rfl⟩
theorem used_zero (w : World) (p : Nat) (h : Zm w p) : Calls Try.prog 17 #[.pointer (some ⟨p, 0, none⟩)] w fun e w' => Below w.heap.size w w' ∧ ∃ a c, e = .returned (.slice a 0 c) := (Fz.used_any w p p 0 (fun _ => 0) (fun _ _ => 0) ⟨⟨h, rfl⟩, rfl⟩).mono fun e w' ⟨hb, r, he, hr⟩ => by
  rcases hr.2 with ⟨h1, _⟩ | ⟨g, cap, cur, h1, _⟩
  · exact ⟨hb, none, 0, by rw [he, h1]⟩
  · exact ⟨hb, _, cap, by rw [he, h1]; rfl⟩
end Go.Proofs.Ytompcmbaiegkaaa.Nn
