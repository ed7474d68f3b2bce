/-
  A space as it lies: its frames, its table; what is told of it.
-/
import Derived.Test.YtjoapeeljigjcaaDoorFu
import Derived.Test.YtjoapeeljigjcaaDoorTh
import Derived.BigQuiet
import Derived.Deep.RegionHeld
namespace Go.Proofs.YtjoapeeljigjcaaDoor.Sp
open Go Go.RowKit Go.Shelf Kit Bk
open Fm hiding Mem made_any len_any
open Fo Fr Fw Fx
open Tm hiding Mem
open Ts Tc Ti
set_option linter.unusedVariables false

/-- A space in block q: its frames are the memory in block p, its table is in block t. -/
def Sp (w : World) (q p t : Nat) : Prop := Blk w q #[.pointer (some ⟨p, 0, none⟩), .pointer (some ⟨t, 0, none⟩)] 80
theorem Sp.kept {S : Nat → Prop} {w w' : World} {q p t : Nat} (h : Sp w q p t) (hk : Kp S w w') (hq : ¬ S q) : Sp w' q p t := Blk.kept h hk hq
theorem Sp.below {w w' : World} {q p t : Nat} (h : Sp w q p t) (hb : Below w.heap.size w w') : Sp w' q p t := Blk.below h hb

theorem made_any (w : World) (q p t : Nat) (h : Sp w q p t) :
    Calls Tryd.prog 31 #[.pointer (some ⟨q, 0, none⟩)] w fun e w' => e = .returned (.bool true) ∧ w = w' := by
  have c0 := Blk.cell h 0
  clear h
  go_enter Tryd.func31, Tryd.ntmps31
  go_wp2
  go_ret
  exact ⟨rfl, rfl⟩
theorem made_nil (w : World) :
    Calls Tryd.prog 31 #[.pointer none] w fun e w' => e = .returned (.bool false) ∧ w = w' := by
  go_enter Tryd.func31, Tryd.ntmps31
  go_wp2
  go_ret
  exact ⟨rfl, rfl⟩
theorem entries_any (w : World) (q p t : Nat) (h : Sp w q p t) :
    Calls Tryd.prog 47 #[.pointer (some ⟨q, 0, none⟩)] w fun e w' => e = .returned (.pointer (some ⟨t, 0, none⟩)) ∧ w = w' := by
  have HM := Lib.hid (made_any w q p t h)
  have c1 := Blk.cell h 1
  clear h
  go_enter Tryd.func47, Tryd.ntmps47
  go_wp2_with (first | (go_at_call 31; (with_reducible refine HM.out.mono ?_); rintro e w1 ⟨rfl, rfl⟩))
  go_ret
  exact ⟨rfl, rfl⟩
theorem entries_nil (w : World) :
    Calls Tryd.prog 47 #[.pointer none] w fun e w' => e = .returned (.pointer none) ∧ w = w' := by
  have HM := Lib.hid (made_nil w)
  go_enter Tryd.func47, Tryd.ntmps47
  go_wp2_with (first | (go_at_call 31; (with_reducible refine HM.out.mono ?_); rintro e w1 ⟨rfl, rfl⟩))
  go_ret
  exact ⟨rfl, rfl⟩

/-- List and Dirty. -/
theorem list_any (w : World) (q p t : Nat) (T : Nat → Option En) (h : Sp w q p t) (hT : Tm.Mem w t T) :
    Calls Tryd.prog 23 #[.pointer (some ⟨q, 0, none⟩)] w fun e w' => Below w.heap.size w w' ∧ ∃ r, e = .returned r ∧ w'.ownsRow w.heap.size 58 6 r (ents T 64).length (Tl.mcells (ents T 64)) := by
  have HE := Lib.hid (entries_any w q p t h)
  have HL := Lib.hid (Tl.list_any w (some ⟨t, 0, none⟩) T (gets_mem hT hT.lt))
  clear h hT
  go_enter Tryd.func23, Tryd.ntmps23
  go_wp2_with (first | (go_at_call 47; (with_reducible refine HE.out.mono ?_); rintro e w1 ⟨rfl, rfl⟩) | (go_at_call 48; (with_reducible refine HL.out.mono ?_); rintro e w1 ⟨hb, r, rfl, ho⟩; have HO := Lib.hid (And.intro hb ho); clear hb ho))
  go_ret
  exact ⟨HO.out.1, _, rfl, HO.out.2⟩
/-- A page's frame: its number, and whether it is Shared. -/
def frk (x : Option En) : Int := (x.map fun e => e.f).getD (-1)
def frs (x : Option En) : Bool := (x.map fun e => e.s).getD false
end Go.Proofs.YtjoapeeljigjcaaDoor.Sp
