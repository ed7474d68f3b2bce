/-
  A region that draws its order, walked once, over a class of worlds that its callees keep.
-/
import Derived.Test.YtclpokkjbkbkgaaBk
import Derived.BigQuiet
namespace Go.Proofs.Ytclpokkjbkbkgaa.Qc
open Go Go.RowKit

/-- A world of the class. -/
structure Wq (G : World → Prop) where
  w : World
  ok : G w
theorem region_class {P : Program} {id : Nat} {Q : Exit → Act → World → Prop} {a : Act} {w : World} {l : List Oper} (G : World → Prop) (hm : P.follows .mixedOrders = true) (hB : Region.lexB .any l.toArray = true) (hG : G w.drew)
    (h : wpQuiet P l.toArray (fun w' => ∃ x : Wq G, w' = x.w) (fun a' => ∀ w', (∃ x : Wq G, w' = x.w) → Q .normal a' w') l a) : (Code.region id l.toArray true).wp P Q a w :=
  wp_region_quiet (C := fun w' => ∃ x : Wq G, w' = x.w) hm hB ⟨⟨_, hG⟩, rfl⟩ (by simpa using h)
end Go.Proofs.Ytclpokkjbkbkgaa.Qc
