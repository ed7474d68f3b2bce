/-
  Drop: all pages unmapped.
-/
import Derived.Test.YtjoapeeljigjcaaDoorMq
import Derived.Test.YtjoapeeljigjcaaDoorRd
namespace Go.Proofs.YtjoapeeljigjcaaDoor.Dr
open Go Go.RowKit Go.Shelf Kit Bk
open Fm hiding Mem made_any len_any
open Fo Fr Fw Fx Fu Fq
open Tm hiding Mem
open Ts Tc Ti Tl Sp Sa To Mp Rd
set_option linter.unusedVariables false

def dst (s : Sx) (l : List (Nat × En)) (j : Nat) : Sx := (l.take j).foldl (fun s x => un1 s x.1) s
theorem dst_succ (s : Sx) (l : List (Nat × En)) (j : Nat) (h : j < l.length) : dst s l (j + 1) = un1 (dst s l j) l[j].1 := by
  unfold dst
  rw [List.take_succ_eq_append_getElem h, List.foldl_append]
  rfl
def drOk (n : Nat) (s : Sx) (l : List (Nat × En)) : Prop := ∀ j (h : j < l.length), l[j].1 < 64 ∧ ∃ x f, (dst s l j).T l[j].1 = some x ∧ x.f = ((f : Nat) : Int) ∧ f < n ∧ (dst s l j).R f ≠ 0

end Go.Proofs.YtjoapeeljigjcaaDoor.Dr
