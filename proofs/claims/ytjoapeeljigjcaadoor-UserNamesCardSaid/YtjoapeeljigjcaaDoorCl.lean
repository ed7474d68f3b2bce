/-
  Clone: a space with the same entries, over the same frames.
-/
import Derived.Test.YtjoapeeljigjcaaDoorDr
import Derived.BigQuiet
namespace Go.Proofs.YtjoapeeljigjcaaDoor.Cl
open Go Go.RowKit Go.Shelf Kit Bk
open Fm hiding Mem made_any len_any
open Fo Fr Fw Fx Fu Fq
open Tm hiding Mem
open Ts Tc Ti Tl Sp Sa To Mp Rd
set_option linter.unusedVariables false

/-- An entry, in a page that is cloned. -/
def cow (x : En) : En := ⟨x.f, x.w, x.s, x.c || (x.w && !x.s), x.d⟩
def cl1 (s : Sx) (k : Nat) (x : En) : Sx := ⟨up s.R x.f.toNat (s.R x.f.toNat + 1), s.B, up s.T k (some (cow x))⟩
def cls (s : Sx) (l : List (Nat × En)) (j : Nat) : Sx := (l.take j).foldl (fun s x => cl1 s x.1 x.2) s
theorem cls_succ (s : Sx) (l : List (Nat × En)) (j : Nat) (h : j < l.length) : cls s l (j + 1) = cl1 (cls s l j) l[j].1 l[j].2 := by
  unfold cls
  rw [List.take_succ_eq_append_getElem h, List.foldl_append]
  rfl
def clOk (n : Nat) (s : Sx) (l : List (Nat × En)) : Prop := ∀ j (h : j < l.length), l[j].1 < 64 ∧ may (cow l[j].2) = true ∧ ∃ f : Nat, l[j].2.f = (f : Int) ∧ f < n ∧ (cls s l j).R f ≠ 0 ∧ (cls s l j).R f < 1000

end Go.Proofs.YtjoapeeljigjcaaDoor.Cl
