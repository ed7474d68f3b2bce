/-
  What layer 1's small functions come to: isCount, isField, most, Field, Put, Sign, value, join, split; for any arguments of their types.
-/
import Derived.Test.YtjoapeeljigjcaaDoorKit
import Derived.Test.YtjoapeeljigjcaaDoorNums
import Derived.WalkKit
import Derived.Deep.QuietTactic
import Derived.BigQuiet
import Derived.Lib.Hide
namespace Go.Proofs.YtjoapeeljigjcaaDoor.Leaf
open Go Go.RowKit Nums Kit

/-- A callee that leaves the world alone, inside a region that draws its order. -/
theorem quiet_eq {P : Program} {f : FuncId} {args : Array Value} {w : World} {n : Nat} {v : Value}
    (h : Calls P f args (w.drewN n) fun e w' => e = .returned v ∧ w.drewN n = w') : Calls P f args (w.drewN n) fun e w'' => e = .returned v ∧ ∃ m, w'' = w.drewN m :=
  Calls.quiet_of_same (h.mono fun _ _ h => ⟨h.1, h.2.symm⟩)

theorem isB_iff (f n : Int) : isB f n = true ↔ 1 ≤ n ∧ n ≤ 32 ∧ 0 ≤ f ∧ f < 32 ∧ f + n ≤ 32 := by
  simp [isB]; omega

end Go.Proofs.YtjoapeeljigjcaaDoor.Leaf
