/-
  Words and FromWords of package gauss, of any complex128 and any two words; a number is what its words are.
-/
import Derived.Test.YtlplcacmmckpaaaDoorGg
import Derived.IntWalk
namespace Go.Proofs.YtlplcacmmckpaaaDoor.WordsG
open Go Go.RowKit Kit Fl Whole Gleaf Gparts Gwhole Gnums Gg
set_option linter.unusedVariables false

/-- A part as a word; a word as a number with a sign. -/
def wd (n : Int) : Int := n % 4294967296
def sx (x : Int) : Int := wrap32 x
theorem wd_bd (n : Int) : 0 ≤ wd n ∧ wd n < 4294967296 := by unfold wd; omega
theorem sx_bd (x : Int) : -2147483648 ≤ sx x ∧ sx x < 2147483648 := by unfold sx wrap32; omega
theorem sx_wd {n : Int} (h : -524288 ≤ n ∧ n ≤ 524287) : sx (wd n) = n := by unfold sx wd wrap32; omega
theorem low_wd {x : Int} (h : 0 ≤ x ∧ x < 4294967296) : wd (wr (sx x)) % 1048576 = x % 1048576 := by unfold wd wr sx wrap32; omega

theorem sx_64 (x : Int) : wrap64 (wrap32 x) = sx x := by unfold sx wrap64 wrap32; omega

theorem words_any (a b : Nat) (w : World) :
    Calls Tryd.prog 8 #[.complex .f64 a b] w fun e w' => e = .returned (.tuple #[.int .u32 (wd (re a b)), .int .u32 (wd (im a b))]) ∧ Below w.heap.size w w' := by
  obtain ⟨h1, h1'⟩ := re_range a b
  obtain ⟨h2, h2'⟩ := im_range a b
  go_enter Tryd.func8, Tryd.ntmps8
  go_wp2_with (first | (go_at_call 22; refine (parts_any _ _ _).mono ?_; rintro e w1 ⟨rfl, hb⟩))
  go_ret2
  exact ⟨rfl, hb⟩
theorem words_g (x : Int × Int) (w : World) :
    Calls Tryd.prog 8 #[zv x] w fun e w' => e = .returned (.tuple #[.int .u32 (wd (gre x)), .int .u32 (wd (gim x))]) ∧ Below w.heap.size w w' :=
  (words_any _ _ w).mono fun e w' ⟨he, hb⟩ => ⟨by rw [he, re_wr, im_wr]; rfl, hb⟩

theorem from_any (x y : Int) (hx : 0 ≤ x ∧ x < 4294967296) (hy : 0 ≤ y ∧ y < 4294967296) (w : World) :
    Calls Tryd.prog 12 #[.int .u32 x, .int .u32 y] w fun e w' => e = .returned (zv (gm (sx x) (sx y))) ∧ w = w' := by
  obtain ⟨h1, h1'⟩ := hx
  obtain ⟨h2, h2'⟩ := hy
  go_enter Tryd.func12, Tryd.ntmps12
  go_wp2_with (first | (go_at_call 16; refine (make_g _ _ _).mono ?_; rintro e w1 ⟨rfl, rfl⟩))
  go_ret
  exact ⟨by show Ending.returned (zv (gm (wrap64 (wrap32 x)) (wrap64 (wrap32 y)))) = _; rw [sx_64, sx_64], rfl⟩
end Go.Proofs.YtlplcacmmckpaaaDoor.WordsG
