/-
  The ring of layer 2's numbers: sums and products in any order, products over sums, conjugates, norms; modulo 2^20.
-/
import Derived.Test.YtlplcacmmckpaaaDoorGg
namespace Go.Proofs.YtlplcacmmckpaaaDoor.RingNums
open Go Go.RowKit Gleaf Gg
set_option linter.unusedVariables false

/-- A whole number, modulo 2^20. -/
def ph (a : Int) : BitVec 20 := BitVec.ofInt 20 a
theorem ph_toNat (a : Int) : (ph a).toNat = (a % 1048576).toNat := by
  unfold ph
  rw [BitVec.toNat_ofInt]
  rfl
theorem ph_congr {a b : Int} (h : a % 1048576 = b % 1048576) : ph a = ph b := by
  apply BitVec.eq_of_toNat_eq
  rw [ph_toNat, ph_toNat, h]
theorem wr_of {a b : Int} (h : ph a = ph b) : wr a = wr b := by
  have e := congrArg BitVec.toNat h
  rw [ph_toNat, ph_toNat] at e
  exact wr_congr (by omega)
theorem ph_wr (a : Int) : ph (wr a) = ph a := ph_congr (wr_mod a)
theorem ph_add (a b : Int) : ph (a + b) = ph a + ph b := BitVec.ofInt_add a b
theorem ph_mul (a b : Int) : ph (a * b) = ph a * ph b := BitVec.ofInt_mul a b
theorem ph_neg (a : Int) : ph (-a) = -(ph a) := BitVec.ofInt_neg
theorem ph_sub (a b : Int) : ph (a - b) = ph a - ph b := by
  rw [Int.sub_eq_add_neg, ph_add, ph_neg, BitVec.sub_eq_add_neg]
theorem geq_ph {x y : Int × Int} (h1 : ph x.1 = ph y.1) (h2 : ph x.2 = ph y.2) : geq x y = true := geq_of (wr_of h1) (wr_of h2)

theorem add_comm (x y : Int × Int) : geq (gadd x y) (gadd y x) = true := by
  apply geq_ph <;> simp only [gadd, ph_add, ph_wr] <;> grind
theorem add_assoc (x y z : Int × Int) : geq (gadd (gadd x y) z) (gadd x (gadd y z)) = true := by
  apply geq_ph <;> simp only [gadd, ph_add, ph_wr] <;> grind
theorem mul_comm (x y : Int × Int) : geq (gmul x y) (gmul y x) = true := by
  apply geq_ph <;> simp only [gmul, ph_add, ph_sub, ph_mul, ph_wr] <;> grind
theorem mul_assoc (x y z : Int × Int) : geq (gmul (gmul x y) z) (gmul x (gmul y z)) = true := by
  apply geq_ph <;> simp only [gmul, ph_add, ph_sub, ph_mul, ph_wr] <;> grind
theorem mul_add (x y z : Int × Int) : geq (gmul x (gadd y z)) (gadd (gmul x y) (gmul x z)) = true := by
  apply geq_ph <;> simp only [gmul, gadd, ph_add, ph_sub, ph_mul, ph_wr] <;> grind
theorem conj_mul (x y : Int × Int) : geq (gconj (gmul x y)) (gmul (gconj x) (gconj y)) = true := by
  apply geq_ph <;> simp only [gmul, gconj, ph_add, ph_sub, ph_neg, ph_mul, ph_wr] <;> grind
theorem conj_add (x y : Int × Int) : geq (gconj (gadd x y)) (gadd (gconj x) (gconj y)) = true := by
  apply geq_ph <;> simp only [gadd, gconj, ph_add, ph_neg, ph_wr] <;> grind
theorem conj_conj (x : Int × Int) : geq (gconj (gconj x)) x = true := by
  apply geq_ph <;> simp only [gconj, ph_neg, ph_wr] <;> grind
theorem mul_one (x : Int × Int) : geq (gmul x (gm 1 0)) x = true := by
  have e0 : ph 0 = 0 := by decide
  have e1 : ph 1 = 1 := by decide
  apply geq_ph <;> simp only [gmul, gm, ph_add, ph_sub, ph_mul, ph_wr, e0, e1] <;> grind
theorem add_zero (x : Int × Int) : geq (gadd x (gm 0 0)) x = true := by
  have e0 : ph 0 = 0 := by decide
  apply geq_ph <;> simp only [gadd, gm, ph_add, ph_wr, e0] <;> grind
theorem mul_conj_re (x : Int × Int) : gre (gmul x (gconj x)) = gre (gm (gnorm x) 0) := by
  apply wr_of
  simp only [gmul, gconj, gm, gnorm, ph_add, ph_sub, ph_neg, ph_mul, ph_wr]
  grind
theorem mul_conj_im (x : Int × Int) : gim (gmul x (gconj x)) = 0 := by
  have e : wr 0 = 0 := by decide
  unfold gim
  rw [← e]
  apply wr_of
  have e0 : ph 0 = 0 := by decide
  simp only [gmul, gconj, ph_add, ph_neg, ph_mul, ph_wr, e0]
  grind
#print axioms mul_assoc
#print axioms mul_conj_im
end Go.Proofs.YtlplcacmmckpaaaDoor.RingNums
