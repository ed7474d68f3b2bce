/-
  A space as it lies: its frames, its table; what is told of it.
-/
import Derived.Test.YtclpokkjbkbkgaaFu
import Derived.Test.YtclpokkjbkbkgaaTh
import Derived.BigQuiet
import Derived.Deep.RegionHeld
namespace Go.Proofs.Ytclpokkjbkbkgaa.Sp
open Go Go.RowKit Go.Shelf Kit Bk
open Fm hiding Mem made_any len_any
open Fo Fr Fw Fx
open Tm hiding Mem
open Ts Tc Ti
set_option linter.unusedVariables false

/-- A space in block q: its frames are the memory in block p, its table is in block t. -/
def Sp (w : World) (q p t : Nat) : Prop := Blk w q #[.pointer (some ⟨p, 0, none⟩), .pointer (some ⟨t, 0, none⟩)] 73
theorem Sp.kept {S : Nat → Prop} {w w' : World} {q p t : Nat} (h : Sp w q p t) (hk : Kp S w w') (hq : ¬ S q) : Sp w' q p t := Blk.kept h hk hq
theorem Sp.below {w w' : World} {q p t : Nat} (h : Sp w q p t) (hb : Below w.heap.size w w') : Sp w' q p t := Blk.below h hb

theorem made_any (w : World) (q p t : Nat) (h : Sp w q p t) :
    Calls Try.prog 30 #[.pointer (some ⟨q, 0, none⟩)] w fun e w' => e = .returned (.bool true) ∧ w = w' := by
  have c0 := Blk.cell h 0
  clear h
  go_enter Try.func30, Try.ntmps30
  go_wp2
  go_ret
  exact ⟨rfl, rfl⟩
theorem made_nil (w : World) :
    Calls Try.prog 30 #[.pointer none] w fun e w' => e = .returned (.bool false) ∧ w = w' := by
  go_enter Try.func30, Try.ntmps30
  go_wp2
  go_ret
  exact ⟨rfl, rfl⟩
theorem entries_any (w : World) (q p t : Nat) (h : Sp w q p t) :
    Calls Try.prog 33 #[.pointer (some ⟨q, 0, none⟩)] w fun e w' => e = .returned (.pointer (some ⟨t, 0, none⟩)) ∧ w = w' := by
  have HM := Lib.hid (made_any w q p t h)
  have c1 := Blk.cell h 1
  clear h
  go_enter Try.func33, Try.ntmps33
  go_wp2_with (first | (go_at_call 30; (with_reducible refine HM.out.mono ?_); rintro e w1 ⟨rfl, rfl⟩))
  go_ret
  exact ⟨rfl, rfl⟩
theorem entries_nil (w : World) :
    Calls Try.prog 33 #[.pointer none] w fun e w' => e = .returned (.pointer none) ∧ w = w' := by
  have HM := Lib.hid (made_nil w)
  go_enter Try.func33, Try.ntmps33
  go_wp2_with (first | (go_at_call 30; (with_reducible refine HM.out.mono ?_); rintro e w1 ⟨rfl, rfl⟩))
  go_ret
  exact ⟨rfl, rfl⟩

/-- List and Dirty. -/
theorem list_any (w : World) (q p t : Nat) (T : Nat → Option En) (h : Sp w q p t) (hT : Tm.Mem w t T) :
    Calls Try.prog 25 #[.pointer (some ⟨q, 0, none⟩)] w fun e w' => Below w.heap.size w w' ∧ ∃ r, e = .returned r ∧ w'.ownsRow w.heap.size 62 6 r (ents T 64).length (Tl.mcells (ents T 64)) := by
  have HE := Lib.hid (entries_any w q p t h)
  have HL := Lib.hid (Tl.list_any w (some ⟨t, 0, none⟩) T (gets_mem hT hT.lt))
  clear h hT
  go_enter Try.func25, Try.ntmps25
  go_wp2_with (first | (go_at_call 33; (with_reducible refine HE.out.mono ?_); rintro e w1 ⟨rfl, rfl⟩) | (go_at_call 41; (with_reducible refine HL.out.mono ?_); rintro e w1 ⟨hb, r, rfl, ho⟩; have HO := Lib.hid (And.intro hb ho); clear hb ho))
  go_ret
  exact ⟨HO.out.1, _, rfl, HO.out.2⟩
theorem dirty_any (w : World) (q p t : Nat) (T : Nat → Option En) (h : Sp w q p t) (hT : Tm.Mem w t T) :
    Calls Try.prog 16 #[.pointer (some ⟨q, 0, none⟩)] w fun e w' => Below w.heap.size w w' ∧ ∃ r, e = .returned r ∧ w'.ownsRow w.heap.size 3 1 r (Th.pgs (fun x => x.d) (ents T 64)).length (Th.ints (Th.pgs (fun x => x.d) (ents T 64))) := by
  have HE := Lib.hid (entries_any w q p t h)
  have HL := Lib.hid (Th.dirty_any w (some ⟨t, 0, none⟩) T (gets_mem hT hT.lt))
  clear h hT
  go_enter Try.func16, Try.ntmps16
  go_wp2_with (first | (go_at_call 33; (with_reducible refine HE.out.mono ?_); rintro e w1 ⟨rfl, rfl⟩) | (go_at_call 44; (with_reducible refine HL.out.mono ?_); rintro e w1 ⟨hb, r, rfl, ho⟩; have HO := Lib.hid (And.intro hb ho); clear hb ho))
  go_ret
  exact ⟨HO.out.1, _, rfl, HO.out.2⟩
theorem dirty_nil (w : World) :
    Calls Try.prog 16 #[.pointer none] w fun e w' => Below w.heap.size w w' ∧ ∃ r, e = .returned r ∧ w'.ownsRow w.heap.size 3 1 r 0 [] := by
  have HE := Lib.hid (entries_nil w)
  have HL0 := Th.dirty_any w none (fun _ => none) (gets_nil _ _)
  rw [show Th.pgs (fun x => x.d) (ents (fun _ => none) 64) = [] by simp [ents, Th.pgs]] at HL0
  have HL := Lib.hid HL0
  clear HL0
  go_enter Try.func16, Try.ntmps16
  go_wp2_with (first | (go_at_call 33; (with_reducible refine HE.out.mono ?_); rintro e w1 ⟨rfl, rfl⟩) | (go_at_call 44; (with_reducible refine HL.out.mono ?_); rintro e w1 ⟨hb, r, rfl, ho⟩; have HO := Lib.hid (And.intro hb ho); clear hb ho))
  go_ret
  exact ⟨HO.out.1, _, rfl, HO.out.2⟩

/-- A page's frame: its number, and whether it is Shared. -/
def frk (x : Option En) : Int := (x.map fun e => e.f).getD (-1)
def frs (x : Option En) : Bool := (x.map fun e => e.s).getD false
theorem frame_any (w : World) (q p t : Nat) (T : Nat → Option En) (h : Sp w q p t) (hT : Tm.Mem w t T) (a : Nat) (ha : a < 4294967296) :
    Calls Try.prog 10 #[.pointer (some ⟨q, 0, none⟩), .int .u32 (a : Int)] w fun e w' => Below w.heap.size w w' ∧ e = .returned (.tuple #[.int .i64 (frk (atI T ((a / 64 : Nat) : Int))), .bool (frs (atI T ((a / 64 : Nat) : Int)))]) := by
  have HE := Lib.hid (entries_any w q p t h)
  have hg := Tm.get_any w t T hT ((a / 64 : Nat) : Int)
  rw [show ((a / 64 : Nat) : Int) = (a : Int) / 64 by omega] at hg ⊢
  clear h hT
  cases hx : atI T ((a : Int) / 64) with
  | none =>
    rw [hx] at hg
    have HG := Lib.hid hg
    clear hg hx
    go_enter Try.func10, Try.ntmps10
    go_wp2_with (first | (go_at_call 33; (with_reducible refine HE.out.mono ?_); rintro e w1 ⟨rfl, rfl⟩) | (go_at_call 28; (with_reducible refine HG.out.mono ?_); rintro e w1 ⟨rfl, hb⟩; replace hb := Lib.hid hb))
    go_ret2
    exact ⟨hb.out.alloc hb.out.size _, rfl⟩
  | some x =>
    rw [hx] at hg
    obtain ⟨f, wr, s, c, d⟩ := x
    have HG := Lib.hid hg
    clear hg hx
    go_enter Try.func10, Try.ntmps10
    go_wp2_with (first | (go_at_call 33; (with_reducible refine HE.out.mono ?_); rintro e w1 ⟨rfl, rfl⟩) | (go_at_call 28; (with_reducible refine HG.out.mono ?_); rintro e w1 ⟨rfl, hb⟩; replace hb := Lib.hid hb))
    go_region
    go_wp2
    go_ret2
    exact ⟨(hb.out.alloc hb.out.size _).drew, rfl⟩
end Go.Proofs.Ytclpokkjbkbkgaa.Sp
