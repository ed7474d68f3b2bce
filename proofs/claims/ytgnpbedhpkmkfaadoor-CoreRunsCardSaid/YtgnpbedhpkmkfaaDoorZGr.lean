/-
  What the document's own numbers come to: Parts, Make, Add, Mul of package carryallref02, for any complex128.
-/
import Derived.Test.YtgnpbedhpkmkfaaDoorZGn
namespace Go.Proofs.YtgnpbedhpkmkfaaDoor.Gref
open Go Go.RowKit Kit Fl Whole Gleaf Gparts Gwhole Gnums
set_option linter.unusedVariables false

theorem rparts_any (a b : Nat) (w : World) :
    Calls Tryd.prog 37 #[.complex .f64 a b] w fun e w' => e = .returned (.tuple #[.int .i64 (re a b), .int .i64 (im a b), .bool (isN a b)]) ∧ w = w' := by
  cases ha : whl a with
  | none =>
    have hN : isN a b = false := by simp [isN, ha]
    have hr : re a b = 0 := by simp [re, hN]
    have hi : im a b = 0 := by simp [im, hN]
    rw [hN, hr, hi]
    have hp : ∀ wx, Calls Tryd.prog 57 #[.float .f64 a] wx fun e w' => (∃ n, e = .returned (.tuple #[.int .i64 n, .bool false])) ∧ wx = w' := fun wx => (rpart_any a wx).mono fun e w' ⟨⟨n, he, _⟩, hw⟩ => ⟨⟨n, by rw [he, ha]; rfl⟩, hw⟩
    have HP := Lib.hid hp
    clear hp ha hN hr hi
    go_enter Tryd.func37, Tryd.ntmps37
    go_wp2_with (first | (go_at_call 57; ((with_reducible refine (HP.out _).mono ?_); rintro e w1 ⟨⟨n, rfl⟩, rfl⟩)) | (go_at_call 57; refine (rpart_any b _).mono ?_; rintro e w1 ⟨⟨m, rfl, hm⟩, rfl⟩; clear hm))
    all_goals go_ret3
    all_goals exact ⟨rfl, rfl⟩
  | some x =>
    have hp : ∀ wx, Calls Tryd.prog 57 #[.float .f64 a] wx fun e w' => e = .returned (.tuple #[.int .i64 x, .bool true]) ∧ wx = w' := fun wx => (rpart_any a wx).mono fun e w' ⟨⟨n, he, hn⟩, hw⟩ => ⟨by rw [he, ha, hn x ha]; rfl, hw⟩
    have HP := Lib.hid hp
    clear hp
    cases hb : whl b with
    | none =>
      have hN : isN a b = false := by simp [isN, hb]
      have hr : re a b = 0 := by simp [re, hN]
      have hi : im a b = 0 := by simp [im, hN]
      rw [hN, hr, hi]
      have hq : ∀ wx, Calls Tryd.prog 57 #[.float .f64 b] wx fun e w' => (∃ n, e = .returned (.tuple #[.int .i64 n, .bool false])) ∧ wx = w' := fun wx => (rpart_any b wx).mono fun e w' ⟨⟨n, he, _⟩, hw⟩ => ⟨⟨n, by rw [he, hb]; rfl⟩, hw⟩
      have HQ := Lib.hid hq
      clear hq ha hb hN hr hi
      go_enter Tryd.func37, Tryd.ntmps37
      go_wp2_with (first | (go_at_call 57; ((with_reducible refine (HP.out _).mono ?_); rintro e w1 ⟨rfl, rfl⟩)) | (go_at_call 57; ((with_reducible refine (HQ.out _).mono ?_); rintro e w1 ⟨⟨n, rfl⟩, rfl⟩)))
      all_goals go_ret3
      all_goals exact ⟨rfl, rfl⟩
    | some y =>
      have hN : isN a b = true := by simp [isN, ha, hb]
      have hr : re a b = x := by simp [re, hN, pv, ha]
      have hi : im a b = y := by simp [im, hN, pv, hb]
      rw [hN, hr, hi]
      have hq : ∀ wx, Calls Tryd.prog 57 #[.float .f64 b] wx fun e w' => e = .returned (.tuple #[.int .i64 y, .bool true]) ∧ wx = w' := fun wx => (rpart_any b wx).mono fun e w' ⟨⟨n, he, hn⟩, hw⟩ => ⟨by rw [he, hb, hn y hb]; rfl, hw⟩
      have HQ := Lib.hid hq
      clear hq ha hb hN hr hi
      by_cases hab : a = b
      · subst hab
        go_enter Tryd.func37, Tryd.ntmps37
        go_wp2_with (first | (go_at_call 57; have _t := HP; ((with_reducible refine (HP.out _).mono ?_); clear HP; rintro e w1 ⟨rfl, rfl⟩)) | (go_at_call 57; ((with_reducible refine (HQ.out _).mono ?_); rintro e w1 ⟨rfl, rfl⟩)))
        all_goals go_ret3
        all_goals exact ⟨rfl, rfl⟩
      · go_enter Tryd.func37, Tryd.ntmps37
        go_wp2_with (first | (go_at_call 57; ((with_reducible refine (HP.out _).mono ?_); rintro e w1 ⟨rfl, rfl⟩)) | (go_at_call 57; ((with_reducible refine (HQ.out _).mono ?_); rintro e w1 ⟨rfl, rfl⟩)))
        all_goals go_ret3
        all_goals exact ⟨rfl, rfl⟩

theorem rmake_any (p q : Int) (w : World) (hp : -9223372036854775808 ≤ p ∧ p ≤ 9223372036854775807) (hq : -9223372036854775808 ≤ q ∧ q ≤ 9223372036854775807) :
    Calls Tryd.prog 38 #[.int .i64 p, .int .i64 q] w fun e w' => e = .returned (.complex .f64 (fl (wr p)) (fl (wr q))) ∧ w = w' := by
  have HP := Lib.hid hp
  have HQ := Lib.hid hq
  clear hp hq
  go_enter Tryd.func38, Tryd.ntmps38
  go_wp2_with (go_at_call 58; refine (rwrap_any _ _ (by first | exact HP.out | exact HQ.out)).mono ?_; rintro e w1 ⟨rfl, rfl⟩)
  go_ret
  exact ⟨rfl, rfl⟩

end Go.Proofs.YtgnpbedhpkmkfaaDoor.Gref

/-
  The document's own Add and Mul, for any complex128.
-/
namespace Go.Proofs.YtgnpbedhpkmkfaaDoor.Gref
open Go Go.RowKit Kit Fl Whole Gleaf Gparts Gwhole Gnums
set_option linter.unusedVariables false

theorem radd_any (a b c d : Nat) (w : World) :
    Calls Tryd.prog 35 #[.complex .f64 a b, .complex .f64 c d] w fun e w' => e = .returned (.complex .f64 (fl (wr (re a b + re c d))) (fl (wr (im a b + im c d)))) ∧ w = w' := by
  obtain ⟨h1, h1'⟩ := re_range a b
  obtain ⟨h2, h2'⟩ := im_range a b
  obtain ⟨h3, h3'⟩ := re_range c d
  obtain ⟨h4, h4'⟩ := im_range c d
  go_enter Tryd.func35, Tryd.ntmps35
  go_wp2_with (first | (go_at_call 37; refine (rparts_any _ _ _).mono ?_; rintro e w1 ⟨rfl, rfl⟩) | (go_at_call 38; refine (rmake_any _ _ _ (by omega) (by omega)).mono ?_; rintro e w2 ⟨rfl, rfl⟩))
  go_ret
  exact ⟨rfl, rfl⟩

theorem rmul_any (a b c d : Nat) (w : World) :
    Calls Tryd.prog 36 #[.complex .f64 a b, .complex .f64 c d] w fun e w' => e = .returned (.complex .f64 (fl (wr (re a b * re c d - im a b * im c d))) (fl (wr (re a b * im c d + im a b * re c d)))) ∧ w = w' := by
  obtain ⟨h1, h1'⟩ := mul_bd (re_range a b) (re_range c d)
  obtain ⟨h2, h2'⟩ := mul_bd (im_range a b) (im_range c d)
  obtain ⟨h3, h3'⟩ := mul_bd (re_range a b) (im_range c d)
  obtain ⟨h4, h4'⟩ := mul_bd (im_range a b) (re_range c d)
  go_enter Tryd.func36, Tryd.ntmps36
  go_wp2_with (first | (go_at_call 37; refine (rparts_any _ _ _).mono ?_; rintro e w1 ⟨rfl, rfl⟩) | (go_at_call 38; refine (rmake_any _ _ _ (by omega) (by omega)).mono ?_; rintro e w2 ⟨rfl, rfl⟩))
  go_ret
  exact ⟨rfl, rfl⟩
end Go.Proofs.YtgnpbedhpkmkfaaDoor.Gref
