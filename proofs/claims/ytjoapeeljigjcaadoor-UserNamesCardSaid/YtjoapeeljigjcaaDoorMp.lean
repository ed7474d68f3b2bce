/-
  Unmapping, mapping, dropping: page by page.
-/
import Derived.Test.YtjoapeeljigjcaaDoorTo
namespace Go.Proofs.YtjoapeeljigjcaaDoor.Mp
open Go Go.RowKit Go.Shelf Kit Bk
open Fm hiding Mem made_any len_any
open Fo Fr Fw Fx Fu Fq
open Tm hiding Mem
open Ts Tc Ti Sp Sa To
set_option linter.unusedVariables false

theorem apart {w : World} {q p t b n : Nat} {T : Nat → Option En} {R : Nat → Nat} {B : Nat → Nat → Nat} (h : Sp w q p t) (hF : Fm.Mem w p b n R B) (hT : Tm.Mem w t T) : p ≠ b ∧ p ≠ t ∧ q ≠ b ∧ q ≠ t ∧ b ≠ t := by
  obtain ⟨⟨cs, ht, _⟩, _⟩ := hT
  obtain ⟨⟨cap, h1, _⟩, ⟨ds, h3, _⟩, _⟩ := hF
  exact ⟨h1.ne h3 (by decide), h1.ne ht (by decide), Blk.ne (show Blk w q _ _ from h) h3 (by decide), Blk.ne (show Blk w q _ _ from h) ht (by decide), h3.ne ht (by decide)⟩

/-- Frames and a table behind i pages unmapped from page k on. -/
structure Sx where
  R : Nat → Nat
  B : Nat → Nat → Nat
  T : Nat → Option En
def un1 (s : Sx) (k : Nat) : Sx := match s.T k with
  | none => s
  | some x => ⟨drR s.R x.f.toNat, drB s.R s.B x.f.toNat, up s.T k none⟩
def uns (s : Sx) (k : Nat) : Nat → Sx
  | 0 => s
  | i + 1 => un1 (uns s k i) (k + i)
/-- What is asked of them on the way: the i-th page is mapped, and its frame taken. -/
def unOk (n : Nat) (s : Sx) (k m : Nat) : Prop := ∀ i, i < m → ∃ x f, (uns s k i).T (k + i) = some x ∧ x.f = ((f : Nat) : Int) ∧ f < n ∧ (uns s k i).R f ≠ 0

end Go.Proofs.YtjoapeeljigjcaaDoor.Mp
