/-
  Line: an instruction's line.
-/
import Derived.Test.YtlddjjkbnhhfaaaDoorIsaE
import Derived.WalkSpells
import Derived.Deep.RegionHeld3
import Derived.Deep.DeepCutAuto
import Derived.Lib.ItoaLen
namespace Go.Proofs.YtlddjjkbnhhfaaaDoor.IsaN
open Go Go.RowKit Kit IsaM IsaT IsaL IsaC IsaE
set_option linter.unusedVariables false

theorem bel' {A C D : World} (h : Below A.heap.size A C) (k : Below C.heap.size C D) : Below A.heap.size A D := h.trans (k.mono h.size)
theorem bal {A C : World} (h : Below A.heap.size A C) (o : Obj) : Below A.heap.size A (C.alloc o) := h.alloc h.size o
theorem bdr {A C : World} (h : Below A.heap.size A C) : Below A.heap.size A C.drew := h.drew
theorem same_of (w : World) (a : Addr) (v : Value) (h : (w.cell? a).isSome = true) : (w.setCell a v).cell? a = some v := by
  obtain ⟨x, hx⟩ := Option.isSome_iff_exists.1 h
  exact World.cell?_setCell_same _ _ _ hx
theorem isSome_other (w : World) (a b : Addr) (v : Value) (h : a ≠ b) (hs : (w.cell? b).isSome = true) : ((w.setCell a v).cell? b).isSome = true := by
  rw [World.cell?_setCell_other _ _ _ _ h]
  exact hs
theorem bset {A C : World} (h : Below A.heap.size A C) (b o : Nat) (x : Value) (hb : A.heap.size ≤ b) : Below A.heap.size A (C.setCell ⟨b, o, none⟩ x) := h.setCell hb _
/-- A text of bytes. -/
def st (l : Tx) : ByteArray := ⟨l.toArray⟩
theorem st_app (a b : Tx) : st a ++ st b = st (a ++ b) := by
  unfold st
  apply ByteArray.ext
  simp
theorem st_size (l : Tx) : (st l).size = l.length := by
  show l.toArray.size = _
  simp
theorem st_data (l : Tx) : (st l).data.toList = l := rfl
theorem st_inj {a b : Tx} : st a = st b ↔ a = b := ⟨fun h => by have := congrArg (fun x : ByteArray => x.data.toList) h; simpa [st] using this, fun h => by rw [h]⟩
theorem st_mk (s : ByteArray) : st s.data.toList = s := by unfold st; simp

theorem grow_below {w : World} {k : Nat} {os : Array Obj} : Below w.heap.size w (Sort.grow (w.drewN k) os) :=
  ⟨rfl, rfl, rfl, by show w.heap.size ≤ (w.heap ++ os).size; simp, fun j hj => by show (w.heap ++ os)[j]? = w.heap[j]?; rw [Array.getElem?_append_left hj]⟩
theorem itoa_any (n : Int) (hn : -9223372036854775808 ≤ n ∧ n ≤ 9223372036854775807) (w : World) (hP : Pow w) :
    Calls Tryd.prog 54 #[.int .i64 n] w fun e w' => e = .returned (.string (st (Lib.itoa n))) ∧ Below w.heap.size w w' :=
  (Shl.strconv_Itoa n hn.1 hn.2 w hP).mono fun e w' ⟨he, k, os, hw⟩ => ⟨he, by rw [hw]; exact grow_below⟩
theorem itoa_size {n : Int} (hn : -9223372036854775808 ≤ n ∧ n ≤ 9223372036854775807) : (st (Lib.itoa n)).size ≤ 21 := by
  rw [st_size]
  exact Lib.itoa_length_le n hn.1 hn.2
theorem nm_len : ∀ k : Fin 30, (nm k.val).length ≤ 5 := by decide +kernel

def Pf (k : Nat) (a b i : Int) (j : Int) : Tx := if j = 0 then nm k else if j = 1 then nm k ++ fld (mA k) a else if j = 2 then nm k ++ fld (mA k) a ++ fld (mB k) b else line k a b i
theorem pf_0_some {k : Nat} {a b i : Int} (h : mA k ≠ 0) : Pf k a b i 0 ++ 32 :: Lib.itoa a = Pf k a b i 1 := by
  show nm k ++ _ = nm k ++ fld (mA k) a
  unfold fld
  rw [if_neg h]
theorem pf_0_none {k : Nat} {a b i : Int} (h : mA k = 0) : Pf k a b i 0 = Pf k a b i 1 := by
  show nm k = nm k ++ fld (mA k) a
  unfold fld
  rw [if_pos h, List.append_nil]
theorem pf_1_some {k : Nat} {a b i : Int} (h : mB k ≠ 0) : Pf k a b i 1 ++ 32 :: Lib.itoa b = Pf k a b i 2 := by
  show nm k ++ fld (mA k) a ++ _ = nm k ++ fld (mA k) a ++ fld (mB k) b
  rw [show fld (mB k) b = 32 :: Lib.itoa b by unfold fld; rw [if_neg h]]
theorem pf_1_none {k : Nat} {a b i : Int} (h : mB k = 0) : Pf k a b i 1 = Pf k a b i 2 := by
  show nm k ++ fld (mA k) a = nm k ++ fld (mA k) a ++ fld (mB k) b
  rw [show fld (mB k) b = [] by unfold fld; rw [if_pos h], List.append_nil]
theorem pf_2_some {k : Nat} {a b i : Int} (h : mI k ≠ 0) : Pf k a b i 2 ++ 32 :: Lib.itoa i = Pf k a b i 3 := by
  show nm k ++ fld (mA k) a ++ fld (mB k) b ++ _ = nm k ++ fld (mA k) a ++ fld (mB k) b ++ fld (mI k) i
  rw [show fld (mI k) i = 32 :: Lib.itoa i by unfold fld; rw [if_neg h]]
theorem pf_2_none {k : Nat} {a b i : Int} (h : mI k = 0) : Pf k a b i 2 = Pf k a b i 3 := by
  show nm k ++ fld (mA k) a ++ fld (mB k) b = nm k ++ fld (mA k) a ++ fld (mB k) b ++ fld (mI k) i
  rw [show fld (mI k) i = [] by unfold fld; rw [if_pos h], List.append_nil]
theorem str_add (a b : Tx) : Value.string (st a ++ (⟨#[32]⟩ ++ st b)) = Value.string (st (a ++ 32 :: b)) := by
  rw [show (⟨#[32]⟩ : ByteArray) = st [32] from rfl, st_app, st_app]
  rfl
theorem ret_se {x y : Tx} {z : Int} (h : x = y) : Ending.returned (.tuple #[.string (st x), .int .i64 z]) = .returned (.tuple #[.string (st y), .int .i64 z]) := by rw [h]
end Go.Proofs.YtlddjjkbnhhfaaaDoor.IsaN
