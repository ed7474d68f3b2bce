/-
  Blocks known whole; what a step keeps.
-/
import Derived.Test.YtjoapeeljigjcaaDoorKit
import Derived.Maps.AppendAt
import Derived.Laws.CopyOwn
import Derived.Laws.OwnMore
import Derived.Deep.Heap
import Derived.Deep.MidRow
import Derived.BigRegion
import Derived.RegionTactic
import Derived.ChangeAlike
namespace Go.Proofs.YtjoapeeljigjcaaDoor.Bk
open Go Go.RowKit Kit
set_option linter.unusedVariables false

/-- A block, known whole. -/
def Blk (w : World) (b : Nat) (cs : Array Value) (T : TypeId) : Prop := w.heap[b]? = some (.cells cs T (0, 0))
theorem Blk.lt {w : World} {b : Nat} {cs : Array Value} {T : TypeId} (h : Blk w b cs T) : b < w.heap.size := (Array.getElem?_eq_some_iff.1 h).1
theorem Blk.cell {w : World} {b : Nat} {cs : Array Value} {T : TypeId} (h : Blk w b cs T) (i : Nat) : w.cell? ⟨b, i, none⟩ = cs[i]? := by unfold Blk at h; simp [World.cell?, h]
theorem Blk.free {w : World} {b : Nat} {cs : Array Value} {T : TypeId} (h : Blk w b cs T) (i : Nat) : w.frozen? ⟨b, i, none⟩ = false := by unfold Blk at h; simp [World.frozen?, h]
theorem Blk.below {w w' : World} {b : Nat} {cs : Array Value} {T : TypeId} (h : Blk w b cs T) (hb : Below w.heap.size w w') : Blk w' b cs T := (hb.block b h.lt).trans h
theorem Blk.set {w : World} {b : Nat} {cs : Array Value} {T : TypeId} (h : Blk w b cs T) (i : Nat) (v : Value) : Blk (w.setCell ⟨b, i, none⟩ v) b (cs.setIfInBounds i v) T := by
  have hlt := h.lt
  have h' : w.heap[b] = .cells cs T (0, 0) := by unfold Blk at h; simpa [Array.getElem?_eq_getElem hlt] using h
  show (w.heap.modify b _)[b]? = _
  rw [Array.getElem?_eq_getElem (by simpa using hlt), Array.getElem_modify_self, h']
  rfl
theorem Blk.other {w : World} {b : Nat} {cs : Array Value} {T : TypeId} (h : Blk w b cs T) (g i : Nat) (v : Value) (hne : b ≠ g) : Blk (w.setCell ⟨g, i, none⟩ v) b cs T := (Deep.blk_setCell_other w ⟨g, i, none⟩ v b hne).trans h
theorem Blk.new (w : World) (cs : Array Value) (T : TypeId) : Blk (w.alloc (.cells cs T)) w.heap.size cs T := heap_alloc_new w _
theorem Blk.row {w : World} {b : Nat} {cs : Array Value} {T : TypeId} (h : Blk w b cs T) (ds : Array Value) : Blk (w.setRow b ds) b ds T := by
  have hlt := h.lt
  have h' : w.heap[b] = .cells cs T (0, 0) := by unfold Blk at h; simpa [Array.getElem?_eq_getElem hlt] using h
  show (w.heap.modify b _)[b]? = _
  rw [Array.getElem?_eq_getElem (by simpa using hlt), Array.getElem_modify_self, h']
theorem Blk.inj {w : World} {b : Nat} {cs ds : Array Value} {T U : TypeId} (h : Blk w b cs T) (k : Blk w b ds U) : cs = ds ∧ T = U := by
  unfold Blk at h k
  rw [h] at k
  cases k
  exact ⟨rfl, rfl⟩
theorem Blk.ne {w : World} {b g : Nat} {cs ds : Array Value} {T U : TypeId} (h : Blk w b cs T) (k : Blk w g ds U) (hT : T ≠ U) : b ≠ g := fun e => by
  subst e
  exact hT (h.inj k).2

/-- What a step keeps: all blocks but those of S. -/
structure Kp (S : Nat → Prop) (w w' : World) : Prop where
  os : w'.os = w.os
  tape : w'.tape = w.tape
  output : w'.output = w.output
  size : w.heap.size ≤ w'.heap.size
  block : ∀ k, k < w.heap.size → ¬ S k → w'.heap[k]? = w.heap[k]?
theorem Kp.refl (S : Nat → Prop) (w : World) : Kp S w w := ⟨rfl, rfl, rfl, Nat.le_refl _, fun _ _ _ => rfl⟩
theorem Kp.trans {S S' : Nat → Prop} {a b c : World} (h : Kp S a b) (k : Kp S' b c) (hS : ∀ j, S' j → S j ∨ a.heap.size ≤ j) : Kp S a c :=
  ⟨k.os.trans h.os, k.tape.trans h.tape, k.output.trans h.output, Nat.le_trans h.size k.size, fun i hi hn => (k.block i (Nat.lt_of_lt_of_le hi h.size) (fun e => (hS i e).elim hn (fun h2 => by omega))).trans (h.block i hi hn)⟩
theorem Kp.mono {S S' : Nat → Prop} {w w' : World} (h : Kp S w w') (hS : ∀ j, j < w.heap.size → S j → S' j) : Kp S' w w' := ⟨h.os, h.tape, h.output, h.size, fun k hk hn => h.block k hk (fun e => hn (hS k hk e))⟩
theorem Kp.of_below {S : Nat → Prop} {w w' : World} (h : Below w.heap.size w w') : Kp S w w' := ⟨h.os, h.tape, h.output, h.size, fun k hk _ => h.block k hk⟩
theorem Kp.below {S : Nat → Prop} {n : Nat} {w w' : World} (h : Kp S w w') (hn : n ≤ w.heap.size) (hS : ∀ j, S j → n ≤ j) : Below n w w' := ⟨h.os, h.tape, h.output, h.size, fun k hk => h.block k (by omega) (fun e => by have := hS k e; omega)⟩
theorem Kp.of_grown {w w' : World} {row : Option Nat} (h : w.grownBy w' row) : Kp (fun k => some k = row) w w' := ⟨h.os, h.tape, h.output, h.size, fun k hk hn => h.block k hk hn⟩
theorem Kp.set {S : Nat → Prop} (w : World) (b i : Nat) (v : Value) (hS : S b) : Kp S w (w.setCell ⟨b, i, none⟩ v) :=
  ⟨rfl, rfl, rfl, by simp [World.setCell], fun k hk hn => Deep.blk_setCell_other w ⟨b, i, none⟩ v k (fun e => hn (by cases e; exact hS))⟩
theorem Kp.setRow {S : Nat → Prop} (w : World) (b : Nat) (cs : Array Value) (hS : S b) : Kp S w (w.setRow b cs) :=
  ⟨rfl, rfl, rfl, by simp, fun k hk hn => by
    show (w.heap.modify b _)[k]? = _
    rw [Array.getElem?_modify, if_neg (fun e => hn (by rw [← e]; exact hS))]⟩
theorem Kp.alloc (S : Nat → Prop) (w : World) (o : Obj) : Kp S w (w.alloc o) := .of_below ((Below.refl _ _).alloc (Nat.le_refl _) _)
theorem Kp.drew {S : Nat → Prop} {a w : World} (h : Kp S a w) : Kp S a w.drew := ⟨h.os, h.tape, h.output, h.size, h.block⟩
theorem Blk.kept {S : Nat → Prop} {w w' : World} {b : Nat} {cs : Array Value} {T : TypeId} (h : Blk w b cs T) (hk : Kp S w w') (hS : ¬ S b) : Blk w' b cs T := (hk.block b h.lt hS).trans h

/-- Many cells stored in a row. -/
theorem Blk.sets {b : Nat} {T : TypeId} : ∀ (vs : List Value) (o : Nat) (w : World) (cs : Array Value), Blk w b cs T →
    ∃ ds, Blk (w.setCells b o vs) b ds T ∧ ds.size = cs.size ∧ (∀ j, j < o ∨ o + vs.length ≤ j → ds[j]? = cs[j]?) ∧ ∀ j, j < vs.length → o + j < cs.size → ds[o + j]? = vs[j]?
  | [], o, w, cs, h => ⟨cs, h, rfl, fun _ _ => rfl, fun j hj => absurd hj (Nat.not_lt_zero _)⟩
  | v :: r, o, w, cs, h => by
    obtain ⟨ds, h1, h2, h3, h4⟩ := Blk.sets r (o + 1) _ _ (h.set o v)
    refine ⟨ds, h1, by rw [h2]; simp, fun j hj => ?_, fun j hj ho => ?_⟩
    · rw [h3 j (by simp at hj; omega), Array.getElem?_setIfInBounds, if_neg (by simp at hj; omega)]
    · cases j with
      | zero => rw [Nat.add_zero, h3 o (.inl (by omega)), Array.getElem?_setIfInBounds, if_pos rfl, if_pos (by omega)]; rfl
      | succ j =>
        rw [show o + (j + 1) = o + 1 + j by omega, h4 j (by simpa using hj) (by simp; omega)]
        rfl
theorem Kp.sets {S : Nat → Prop} (b : Nat) (hS : S b) : ∀ (vs : List Value) (o : Nat) (w : World), Kp S w (w.setCells b o vs)
  | [], _, w => Kp.refl _ _
  | v :: r, o, w => (Kp.set w b o v hS).trans (Kp.sets b hS r (o + 1) _) (fun _ h => .inl h)
theorem Blk.there {w : World} {b : Nat} {cs : Array Value} {T : TypeId} (h : Blk w b cs T) (o n : Nat) (hn : o + n ≤ cs.size) : w.there b o n := fun j hj =>
  ⟨by rw [h.cell, Array.getElem?_eq_getElem (by omega)]; rfl, h.free _⟩

/-- One value turned. -/
def up {α : Type} (R : Nat → α) (k : Nat) (v : α) : Nat → α := fun j => if j = k then v else R j
theorem up_same {α : Type} (R : Nat → α) (k : Nat) (v : α) : up R k v k = v := if_pos rfl
theorem up_other {α : Type} (R : Nat → α) (k j : Nat) (v : α) (h : j ≠ k) : up R k v j = R j := if_neg h
end Go.Proofs.YtjoapeeljigjcaaDoor.Bk
