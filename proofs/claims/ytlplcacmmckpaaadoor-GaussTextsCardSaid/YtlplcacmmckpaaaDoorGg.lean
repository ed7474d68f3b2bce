/-
  Numbers of package gauss as pairs of whole numbers: what the program's sums, products and conjugates of them are, and when two are one.
-/
import Derived.Test.YtlplcacmmckpaaaDoorGnums
import Derived.Laws.Cover3
namespace Go.Proofs.YtlplcacmmckpaaaDoor.Gg
open Go Go.RowKit Kit Fl Whole Gleaf Gparts Gwhole Gnums
set_option linter.unusedVariables false

def gm (p q : Int) : Int × Int := (p, q)
/-- The number whose parts are these, wrapped. -/
def zv (g : Int × Int) : Value := .complex .f64 (fl (wr g.1)) (fl (wr g.2))
def gadd (x y : Int × Int) : Int × Int := (wr x.1 + wr y.1, wr x.2 + wr y.2)
def gmul (x y : Int × Int) : Int × Int := (wr x.1 * wr y.1 - wr x.2 * wr y.2, wr x.1 * wr y.2 + wr x.2 * wr y.1)
def gconj (x : Int × Int) : Int × Int := (wr x.1, -(wr x.2))
def gnorm (x : Int × Int) : Int := wr x.1 * wr x.1 + wr x.2 * wr x.2
def gre (x : Int × Int) : Int := wr x.1
def gim (x : Int × Int) : Int := wr x.2
/-- Are they one number? -/
def geq (x y : Int × Int) : Bool := decide (wr x.1 = wr y.1) && decide (wr x.2 = wr y.2)

theorem isN_fl {p q : Int} (hp : -524288 ≤ p ∧ p ≤ 524287) (hq : -524288 ≤ q ∧ q ≤ 524287) : isN (fl p) (fl q) = true := by
  unfold isN
  rw [whl_fl hp, whl_fl hq]
  rfl
theorem re_fl {p q : Int} (hp : -524288 ≤ p ∧ p ≤ 524287) (hq : -524288 ≤ q ∧ q ≤ 524287) : re (fl p) (fl q) = p := by
  unfold re pv
  rw [isN_fl hp hq, whl_fl hp]
  rfl
theorem im_fl {p q : Int} (hp : -524288 ≤ p ∧ p ≤ 524287) (hq : -524288 ≤ q ∧ q ≤ 524287) : im (fl p) (fl q) = q := by
  unfold im pv
  rw [isN_fl hp hq, whl_fl hq]
  rfl
theorem re_wr (p q : Int) : re (fl (wr p)) (fl (wr q)) = wr p := re_fl (wr_range p) (wr_range q)
theorem im_wr (p q : Int) : im (fl (wr p)) (fl (wr q)) = wr q := im_fl (wr_range p) (wr_range q)
theorem isN_wr (p q : Int) : isN (fl (wr p)) (fl (wr q)) = true := isN_fl (wr_range p) (wr_range q)

theorem order_wr (p q : Int) : (FloatKind.f64.format.order (fl (wr p)) (fl (wr q)) == some .eq) = decide (wr p = wr q) := by
  have h1 := wr_range p
  have h2 := wr_range q
  have e : FloatKind.f64.format.order (fl (wr p)) (fl (wr q)) = some (compare (wr p) (wr q)) := order_fl_fl (by omega) (by omega)
  rw [e]
  rcases Int.lt_trichotomy (wr p) (wr q) with h | h | h
  · rw [compare_lt h, decide_eq_false (by omega)]
    rfl
  · rw [compare_eq h, decide_eq_true h]
    rfl
  · rw [compare_gt h, decide_eq_false (by omega)]
    rfl

theorem run_eql_zv (t : TypeId) (x y : Int × Int) (w : World) : (binOp .eql t (zv x) (zv y)).run Tryd.prog w = .ok (.bool (geq x y)) w := by
  unfold zv
  rw [run_eql_complex, order_wr, order_wr]
  rfl
theorem eqGuard_zv (t : TypeId) (o o' : Operand) (x y : Int × Int) : eqGuard .eql t o o' (zv x) (zv y) = pure () := rfl
theorem cast_zv (x : Int × Int) : zv x = .complex .f64 (fl (wr x.1)) (fl (wr x.2)) := rfl

theorem make_g (p q : Int) (w : World) :
    Calls Tryd.prog 16 #[.int .i64 p, .int .i64 q] w fun e w' => e = .returned (zv (gm p q)) ∧ w = w' := make_any p q w
theorem parts_g (x : Int × Int) (w : World) :
    Calls Tryd.prog 22 #[zv x] w fun e w' => e = .returned (.tuple #[.int .i64 (gre x), .int .i64 (gim x)]) ∧ Below w.heap.size w w' :=
  (parts_any _ _ w).mono fun e w' ⟨he, hb⟩ => ⟨by rw [he, re_wr, im_wr]; rfl, hb⟩
theorem may_g (x : Int × Int) (w : World) :
    Calls Tryd.prog 18 #[zv x] w fun e w' => e = .returned (.bool true) ∧ Below w.heap.size w w' :=
  (may_any _ _ w).mono fun e w' ⟨he, hb⟩ => ⟨by rw [he, isN_wr], hb⟩
theorem add_g (x y : Int × Int) (w : World) :
    Calls Tryd.prog 19 #[zv x, zv y] w fun e w' => e = .returned (zv (gadd x y)) ∧ Below w.heap.size w w' :=
  (add_any _ _ _ _ w).mono fun e w' ⟨he, hb⟩ => ⟨by rw [he, re_wr, im_wr, re_wr, im_wr]; rfl, hb⟩
theorem mul_g (x y : Int × Int) (w : World) :
    Calls Tryd.prog 20 #[zv x, zv y] w fun e w' => e = .returned (zv (gmul x y)) ∧ Below w.heap.size w w' :=
  (mul_any _ _ _ _ w).mono fun e w' ⟨he, hb⟩ => ⟨by rw [he, re_wr, im_wr, re_wr, im_wr]; rfl, hb⟩
theorem conj_g (x : Int × Int) (w : World) :
    Calls Tryd.prog 21 #[zv x] w fun e w' => e = .returned (zv (gconj x)) ∧ Below w.heap.size w w' :=
  (conj_any _ _ w).mono fun e w' ⟨he, hb⟩ => ⟨by rw [he, re_wr, im_wr]; rfl, hb⟩
theorem norm_g (x : Int × Int) (w : World) :
    Calls Tryd.prog 23 #[zv x] w fun e w' => e = .returned (.int .u64 (gnorm x)) ∧ Below w.heap.size w w' :=
  (norm_any _ _ w).mono fun e w' ⟨he, hb⟩ => ⟨by rw [he, re_wr, im_wr]; rfl, hb⟩
theorem gnorm_bd (x : Int × Int) : 0 ≤ gnorm x ∧ gnorm x ≤ 549755813888 := by
  have h1 := sq_bd (wr_range x.1)
  have h2 := sq_bd (wr_range x.2)
  unfold gnorm
  omega

/- The ring, modulo 2^20. -/
theorem wr_eq {a b : Int} (h : (a - b) % 1048576 = 0) : wr a = wr b := wr_congr (by omega)
/-- What a number differs by from what it wraps to. -/
theorem wr_k (n : Int) : ∃ k, wr n = n + 1048576 * k := ⟨-((n + 524288) / 1048576), by unfold wr; omega⟩
theorem wr_add_k (n k : Int) : wr (n + 1048576 * k) = wr n := by unfold wr; omega
theorem geq_of {x y : Int × Int} (h1 : wr x.1 = wr y.1) (h2 : wr x.2 = wr y.2) : geq x y = true := by
  unfold geq
  rw [decide_eq_true h1, decide_eq_true h2]
  rfl
end Go.Proofs.YtlplcacmmckpaaaDoor.Gg
