/-
  Dirty and Len of a table of pages.
-/
import Derived.Test.YtjoapeeljigjcaaDoorTl
namespace Go.Proofs.YtjoapeeljigjcaaDoor.Th
open Go Go.RowKit Go.Shelf Kit Bk Tm Ts Tc Ti Tl
set_option linter.unusedVariables false

attribute [local go_sem] Oper.semAt_some
attribute [local go_sem ↓] app_wrap

theorem info3 : (Tryd.prog.info? 3).map (fun i => (i.zero, i.size, i.bytes)) = some (some (.int .i64 0), 1, 8) := by kernel_rfl
/-- The pages of those of which q holds. -/
def pgs (q : En → Bool) (l : List (Nat × En)) : List Nat := (l.filter fun x => q x.2).map Prod.fst
def ints (l : List Nat) : List Value := l.map fun (x : Nat) => Value.int .i64 (x : Int)
theorem pgs_yes {q : En → Bool} {l : List (Nat × En)} {x : Nat × En} (h : q x.2 = true) : pgs q (l ++ [x]) = pgs q l ++ [x.1] := by simp [pgs, List.filter_append, h]
theorem pgs_no {q : En → Bool} {l : List (Nat × En)} {x : Nat × En} (h : q x.2 = false) : pgs q (l ++ [x]) = pgs q l := by simp [pgs, List.filter_append, h]
theorem pgs_len (q : En → Bool) (l : List (Nat × En)) : (pgs q l).length ≤ l.length := by
  unfold pgs
  have := List.length_filter_le (fun x => q x.2) l
  simpa using this
theorem pgs_all (l : List (Nat × En)) : (pgs (fun _ => true) l).length = l.length := by simp [pgs]
theorem row_below {w w' : World} {base : Nat} {e : TypeId} {size : Nat} {v : Value} {n : Nat} {xs : List Value} (h : w.ownsRow base e size v n xs) (hb : Below w.heap.size w w') : w'.ownsRow base e size v n xs :=
  h.kept (grown_below hb) (by cases v.ownBlock with | none => exact .inl rfl | some r => exact .inr (by simp))
theorem keeps_below {w w' : World} (h : Below w.heap.size w w') : KeepsOthers w w' := ⟨h.size, fun k o hk _ => (h.block k (Array.getElem?_eq_some_iff.1 hk).1).trans hk⟩

end Go.Proofs.YtjoapeeljigjcaaDoor.Th
