/-
  What package gauss's numbers come to: Parts, May, Make, Add, Mul, Conj, Norm, for any complex128.
-/
import Derived.Test.YtgnpbedhpkmkfaaDoorZGl
import Derived.Deep.QuietTactic
import Derived.BigQuiet
import Derived.RegionTactic
import Derived.Laws.Cover3
import Derived.IntWalk
namespace Go.Proofs.YtgnpbedhpkmkfaaDoor.Gnums
open Go Go.RowKit Kit Fl Whole Gleaf Gparts Gwhole
set_option linter.unusedVariables false

theorem re_range (a b : Nat) : -524288 ≤ re a b ∧ re a b ≤ 524287 := by
  unfold re
  split
  · rename_i h
    unfold isN at h
    unfold pv
    cases ha : whl a with
    | none => rw [ha] at h; cases h
    | some v => exact whl_range ha
  · omega
theorem im_range (a b : Nat) : -524288 ≤ im a b ∧ im a b ≤ 524287 := by
  unfold im
  split
  · rename_i h
    unfold isN at h
    unfold pv
    cases hb : whl b with
    | none => rw [hb] at h; cases ha : whl a <;> rw [ha] at h <;> cases h
    | some v => exact whl_range hb
  · omega

/-- Two Below in a row. -/
theorem bel {B : Nat} {A C D : World} (h : Below B A C) (k : Below C.heap.size C D) (hs : B ≤ A.heap.size) : Below B A D := h.trans (k.mono (Nat.le_trans hs h.size))
theorem bel' {A C D : World} (h : Below A.heap.size A C) (k : Below C.heap.size C D) : Below A.heap.size A D := bel h k (Nat.le_refl _)

theorem parts_any (a b : Nat) (w : World) :
    Calls Tryd.prog 74 #[.complex .f64 a b] w fun e w' => e = .returned (.tuple #[.int .i64 (re a b), .int .i64 (im a b)]) ∧ Below w.heap.size w w' := by
  go_enter Tryd.func74, Tryd.ntmps74
  go_wp2_with (go_at_call 85; refine (whole_any a b _).mono ?_; rintro e w1 ⟨rfl, hb⟩)
  go_quiet (fail)
  all_goals go_wp2
  all_goals go_ret2
  all_goals exact ⟨rfl, below_drewN (hb.alloc hb.size _) _⟩

theorem make_any (p q : Int) (w : World) :
    Calls Tryd.prog 44 #[.int .i64 p, .int .i64 q] w fun e w' => e = .returned (.complex .f64 (fl (wr p)) (fl (wr q))) ∧ w = w' := by
  go_enter Tryd.func44, Tryd.ntmps44
  go_wp2_with (go_at_call 66; refine (wrap_any _ _).mono ?_; rintro e w1 ⟨rfl, rfl⟩)
  go_ret
  exact ⟨rfl, rfl⟩

theorem add_any (a b c d : Nat) (w : World) :
    Calls Tryd.prog 53 #[.complex .f64 a b, .complex .f64 c d] w fun e w' => e = .returned (.complex .f64 (fl (wr (re a b + re c d))) (fl (wr (im a b + im c d)))) ∧ Below w.heap.size w w' := by
  obtain ⟨h1, h1'⟩ := re_range a b
  obtain ⟨h2, h2'⟩ := im_range a b
  obtain ⟨h3, h3'⟩ := re_range c d
  obtain ⟨h4, h4'⟩ := im_range c d
  go_enter Tryd.func53, Tryd.ntmps53
  go_wp2_with (first | (go_at_call 74; refine (parts_any _ _ _).mono ?_; rintro e w1 ⟨rfl, hb⟩) | (go_at_call 44; refine (make_any _ _ _).mono ?_; rintro e w2 ⟨rfl, rfl⟩))
  go_ret
  exact ⟨rfl, bel' (by assumption) hb⟩

theorem mul_bd {x y : Int} (h1 : -524288 ≤ x ∧ x ≤ 524287) (h2 : -524288 ≤ y ∧ y ≤ 524287) : -274877906944 ≤ x * y ∧ x * y ≤ 274877906944 := by
  have h : (x * y).natAbs ≤ 524288 * 524288 := by
    rw [Int.natAbs_mul]
    exact Nat.mul_le_mul (by omega) (by omega)
  omega

theorem mul_any (a b c d : Nat) (w : World) :
    Calls Tryd.prog 54 #[.complex .f64 a b, .complex .f64 c d] w fun e w' => e = .returned (.complex .f64 (fl (wr (re a b * re c d - im a b * im c d))) (fl (wr (re a b * im c d + im a b * re c d)))) ∧ Below w.heap.size w w' := by
  obtain ⟨h1, h1'⟩ := mul_bd (re_range a b) (re_range c d)
  obtain ⟨h2, h2'⟩ := mul_bd (im_range a b) (im_range c d)
  obtain ⟨h3, h3'⟩ := mul_bd (re_range a b) (im_range c d)
  obtain ⟨h4, h4'⟩ := mul_bd (im_range a b) (re_range c d)
  go_enter Tryd.func54, Tryd.ntmps54
  go_wp2_with (first | (go_at_call 74; refine (parts_any _ _ _).mono ?_; rintro e w1 ⟨rfl, hb⟩) | (go_at_call 44; refine (make_any _ _ _).mono ?_; rintro e w2 ⟨rfl, rfl⟩))
  go_ret
  exact ⟨rfl, bel' (by assumption) hb⟩

theorem conj_any (a b : Nat) (w : World) :
    Calls Tryd.prog 55 #[.complex .f64 a b] w fun e w' => e = .returned (.complex .f64 (fl (wr (re a b))) (fl (wr (-(im a b))))) ∧ Below w.heap.size w w' := by
  obtain ⟨h1, h1'⟩ := re_range a b
  obtain ⟨h2, h2'⟩ := im_range a b
  go_enter Tryd.func55, Tryd.ntmps55
  go_wp2_with (first | (go_at_call 74; refine (parts_any _ _ _).mono ?_; rintro e w1 ⟨rfl, hb⟩) | (go_at_call 44; refine (make_any _ _ _).mono ?_; rintro e w2 ⟨rfl, rfl⟩))
  go_ret
  exact ⟨rfl, hb⟩

end Go.Proofs.YtgnpbedhpkmkfaaDoor.Gnums

/-
  Numbers of package gauss as pairs of whole numbers: what the program's sums, products and conjugates of them are, and when two are one.
-/
namespace Go.Proofs.YtgnpbedhpkmkfaaDoor.Gg
open Go Go.RowKit Kit Fl Whole Gleaf Gparts Gwhole Gnums
set_option linter.unusedVariables false

def gm (p q : Int) : Int × Int := (p, q)
/-- The number whose parts are these, wrapped. -/
def zv (g : Int × Int) : Value := .complex .f64 (fl (wr g.1)) (fl (wr g.2))
def gadd (x y : Int × Int) : Int × Int := (wr x.1 + wr y.1, wr x.2 + wr y.2)
def gmul (x y : Int × Int) : Int × Int := (wr x.1 * wr y.1 - wr x.2 * wr y.2, wr x.1 * wr y.2 + wr x.2 * wr y.1)
def gconj (x : Int × Int) : Int × Int := (wr x.1, -(wr x.2))
def gnorm (x : Int × Int) : Int := wr x.1 * wr x.1 + wr x.2 * wr x.2
def gre (x : Int × Int) : Int := wr x.1
def gim (x : Int × Int) : Int := wr x.2
/-- Are they one number? -/
def geq (x y : Int × Int) : Bool := decide (wr x.1 = wr y.1) && decide (wr x.2 = wr y.2)

theorem isN_fl {p q : Int} (hp : -524288 ≤ p ∧ p ≤ 524287) (hq : -524288 ≤ q ∧ q ≤ 524287) : isN (fl p) (fl q) = true := by
  unfold isN
  rw [whl_fl hp, whl_fl hq]
  rfl
theorem re_fl {p q : Int} (hp : -524288 ≤ p ∧ p ≤ 524287) (hq : -524288 ≤ q ∧ q ≤ 524287) : re (fl p) (fl q) = p := by
  unfold re pv
  rw [isN_fl hp hq, whl_fl hp]
  rfl
theorem im_fl {p q : Int} (hp : -524288 ≤ p ∧ p ≤ 524287) (hq : -524288 ≤ q ∧ q ≤ 524287) : im (fl p) (fl q) = q := by
  unfold im pv
  rw [isN_fl hp hq, whl_fl hq]
  rfl
theorem re_wr (p q : Int) : re (fl (wr p)) (fl (wr q)) = wr p := re_fl (wr_range p) (wr_range q)
theorem im_wr (p q : Int) : im (fl (wr p)) (fl (wr q)) = wr q := im_fl (wr_range p) (wr_range q)
theorem isN_wr (p q : Int) : isN (fl (wr p)) (fl (wr q)) = true := isN_fl (wr_range p) (wr_range q)

theorem order_wr (p q : Int) : (FloatKind.f64.format.order (fl (wr p)) (fl (wr q)) == some .eq) = decide (wr p = wr q) := by
  have h1 := wr_range p
  have h2 := wr_range q
  have e : FloatKind.f64.format.order (fl (wr p)) (fl (wr q)) = some (compare (wr p) (wr q)) := order_fl_fl (by omega) (by omega)
  rw [e]
  rcases Int.lt_trichotomy (wr p) (wr q) with h | h | h
  · rw [compare_lt h, decide_eq_false (by omega)]
    rfl
  · rw [compare_eq h, decide_eq_true h]
    rfl
  · rw [compare_gt h, decide_eq_false (by omega)]
    rfl

theorem run_eql_zv (t : TypeId) (x y : Int × Int) (w : World) : (binOp .eql t (zv x) (zv y)).run Tryd.prog w = .ok (.bool (geq x y)) w := by
  unfold zv
  rw [run_eql_complex, order_wr, order_wr]
  rfl
theorem eqGuard_zv (t : TypeId) (o o' : Operand) (x y : Int × Int) : eqGuard .eql t o o' (zv x) (zv y) = pure () := rfl
theorem cast_zv (x : Int × Int) : zv x = .complex .f64 (fl (wr x.1)) (fl (wr x.2)) := rfl

theorem make_g (p q : Int) (w : World) :
    Calls Tryd.prog 44 #[.int .i64 p, .int .i64 q] w fun e w' => e = .returned (zv (gm p q)) ∧ w = w' := make_any p q w
theorem parts_g (x : Int × Int) (w : World) :
    Calls Tryd.prog 74 #[zv x] w fun e w' => e = .returned (.tuple #[.int .i64 (gre x), .int .i64 (gim x)]) ∧ Below w.heap.size w w' :=
  (parts_any _ _ w).mono fun e w' ⟨he, hb⟩ => ⟨by rw [he, re_wr, im_wr]; rfl, hb⟩
theorem add_g (x y : Int × Int) (w : World) :
    Calls Tryd.prog 53 #[zv x, zv y] w fun e w' => e = .returned (zv (gadd x y)) ∧ Below w.heap.size w w' :=
  (add_any _ _ _ _ w).mono fun e w' ⟨he, hb⟩ => ⟨by rw [he, re_wr, im_wr, re_wr, im_wr]; rfl, hb⟩
theorem mul_g (x y : Int × Int) (w : World) :
    Calls Tryd.prog 54 #[zv x, zv y] w fun e w' => e = .returned (zv (gmul x y)) ∧ Below w.heap.size w w' :=
  (mul_any _ _ _ _ w).mono fun e w' ⟨he, hb⟩ => ⟨by rw [he, re_wr, im_wr, re_wr, im_wr]; rfl, hb⟩
theorem conj_g (x : Int × Int) (w : World) :
    Calls Tryd.prog 55 #[zv x] w fun e w' => e = .returned (zv (gconj x)) ∧ Below w.heap.size w w' :=
  (conj_any _ _ w).mono fun e w' ⟨he, hb⟩ => ⟨by rw [he, re_wr, im_wr]; rfl, hb⟩
/- The ring, modulo 2^20. -/
theorem wr_eq {a b : Int} (h : (a - b) % 1048576 = 0) : wr a = wr b := wr_congr (by omega)
/-- What a number differs by from what it wraps to. -/
theorem wr_k (n : Int) : ∃ k, wr n = n + 1048576 * k := ⟨-((n + 524288) / 1048576), by unfold wr; omega⟩
theorem wr_add_k (n k : Int) : wr (n + 1048576 * k) = wr n := by unfold wr; omega
theorem geq_of {x y : Int × Int} (h1 : wr x.1 = wr y.1) (h2 : wr x.2 = wr y.2) : geq x y = true := by
  unfold geq
  rw [decide_eq_true h1, decide_eq_true h2]
  rfl
end Go.Proofs.YtgnpbedhpkmkfaaDoor.Gg

/-
  Words and FromWords of package gauss, of any complex128 and any two words; a number is what its words are.
-/
namespace Go.Proofs.YtgnpbedhpkmkfaaDoor.WordsG
open Go Go.RowKit Kit Fl Whole Gleaf Gparts Gwhole Gnums Gg
set_option linter.unusedVariables false

/-- A part as a word; a word as a number with a sign. -/
def wd (n : Int) : Int := n % 4294967296
def sx (x : Int) : Int := wrap32 x
theorem wd_bd (n : Int) : 0 ≤ wd n ∧ wd n < 4294967296 := by unfold wd; omega
theorem sx_bd (x : Int) : -2147483648 ≤ sx x ∧ sx x < 2147483648 := by unfold sx wrap32; omega
theorem sx_wd {n : Int} (h : -524288 ≤ n ∧ n ≤ 524287) : sx (wd n) = n := by unfold sx wd wrap32; omega
theorem low_wd {x : Int} (h : 0 ≤ x ∧ x < 4294967296) : wd (wr (sx x)) % 1048576 = x % 1048576 := by unfold wd wr sx wrap32; omega

theorem sx_64 (x : Int) : wrap64 (wrap32 x) = sx x := by unfold sx wrap64 wrap32; omega

theorem words_any (a b : Nat) (w : World) :
    Calls Tryd.prog 52 #[.complex .f64 a b] w fun e w' => e = .returned (.tuple #[.int .u32 (wd (re a b)), .int .u32 (wd (im a b))]) ∧ Below w.heap.size w w' := by
  obtain ⟨h1, h1'⟩ := re_range a b
  obtain ⟨h2, h2'⟩ := im_range a b
  go_enter Tryd.func52, Tryd.ntmps52
  go_wp2_with (first | (go_at_call 74; refine (parts_any _ _ _).mono ?_; rintro e w1 ⟨rfl, hb⟩))
  go_ret2
  exact ⟨rfl, hb⟩
theorem words_g (x : Int × Int) (w : World) :
    Calls Tryd.prog 52 #[zv x] w fun e w' => e = .returned (.tuple #[.int .u32 (wd (gre x)), .int .u32 (wd (gim x))]) ∧ Below w.heap.size w w' :=
  (words_any _ _ w).mono fun e w' ⟨he, hb⟩ => ⟨by rw [he, re_wr, im_wr]; rfl, hb⟩

theorem from_any (x y : Int) (hx : 0 ≤ x ∧ x < 4294967296) (hy : 0 ≤ y ∧ y < 4294967296) (w : World) :
    Calls Tryd.prog 51 #[.int .u32 x, .int .u32 y] w fun e w' => e = .returned (zv (gm (sx x) (sx y))) ∧ w = w' := by
  obtain ⟨h1, h1'⟩ := hx
  obtain ⟨h2, h2'⟩ := hy
  go_enter Tryd.func51, Tryd.ntmps51
  go_wp2_with (first | (go_at_call 44; refine (make_g _ _ _).mono ?_; rintro e w1 ⟨rfl, rfl⟩))
  go_ret
  exact ⟨by show Ending.returned (zv (gm (wrap64 (wrap32 x)) (wrap64 (wrap32 y)))) = _; rw [sx_64, sx_64], rfl⟩
end Go.Proofs.YtgnpbedhpkmkfaaDoor.WordsG
