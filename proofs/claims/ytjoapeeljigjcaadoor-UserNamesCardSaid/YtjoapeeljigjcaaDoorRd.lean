/-
  Rows that are read.
-/
import Derived.Test.YtjoapeeljigjcaaDoorSp
namespace Go.Proofs.YtjoapeeljigjcaaDoor.Rd
open Go Go.RowKit Go.Shelf Kit Bk
open Tm hiding Mem
open Ts Tc Ti Tl
set_option linter.unusedVariables false

/-- A slice that reads as xs: n elements of that size, in a block of the type T, or none. -/
def Rd (w : World) (T : TypeId) (v : Value) (size n : Nat) (xs : List Value) : Prop :=
  xs.length = n * size ∧ ∃ ad cap, v = .slice ad n cap ∧ n ≤ cap ∧ cap ≤ maxLen ∧ (n = 0 ∨ ∃ g cur, ad = some ⟨g, 0, none⟩ ∧ Blk w g cur T ∧ ∀ j, j < n * size → cur[j]? = xs[j]?)
theorem Rd.of_own {w : World} {base : Nat} {T : TypeId} {size : Nat} {v : Value} {n : Nat} {xs : List Value} (h : w.ownsRow base T size v n xs) : Rd w T v size n xs := by
  obtain ⟨hl, ⟨h1, h2⟩ | ⟨g, cap, cur, rfl, hg, hb, hc, hm, hs, he⟩⟩ := h
  · subst h2
    exact ⟨hl, none, 0, h1, Nat.le_refl _, Nat.zero_le _, .inl rfl⟩
  · refine ⟨hl, _, cap, rfl, hc, hm, .inr ⟨g, cur, rfl, hb, fun j hj => ?_⟩⟩
    have := congrArg (fun l => l[j]?) he
    simp only [List.getElem?_take, hj, if_true, Array.getElem?_toList] at this
    exact this
theorem Rd.kept {S : Nat → Prop} {w w' : World} {T : TypeId} {v : Value} {size n : Nat} {xs : List Value} (h : Rd w T v size n xs) (hk : Kp S w w') (hS : ∀ g cs, Blk w g cs T → ¬ S g) : Rd w' T v size n xs := by
  obtain ⟨hl, ad, cap, h1, h2, h3, h4 | ⟨g, cur, h4, h5, h6⟩⟩ := h
  · exact ⟨hl, ad, cap, h1, h2, h3, .inl h4⟩
  · exact ⟨hl, ad, cap, h1, h2, h3, .inr ⟨g, cur, h4, h5.kept hk (hS g cur h5), h6⟩⟩
theorem Rd.below {w w' : World} {T : TypeId} {v : Value} {size n : Nat} {xs : List Value} (h : Rd w T v size n xs) (hb : Below w.heap.size w w') : Rd w' T v size n xs := h.kept (S := fun _ => False) (.of_below hb) (fun _ _ _ e => e)
theorem Rd.nil (w : World) (T : TypeId) (size : Nat) : Rd w T (.slice none 0 0) size 0 [] := ⟨by simp, none, 0, rfl, Nat.le_refl _, Nat.zero_le _, .inl rfl⟩
theorem mcells_at : ∀ (l : List (Nat × En)) (i c : Nat) (h : i < l.length), c < 6 → (mcells l)[i * 6 + c]? = (mcell l[i])[c]?
  | [], i, c, h, _ => by simp at h
  | x :: r, 0, c, h, hc => by
    show (mcell x ++ mcells r)[0 * 6 + c]? = _
    rw [List.getElem?_append_left (by simp [mcell]; omega)]
    simp
  | x :: r, i + 1, c, h, hc => by
    have ih := mcells_at r i c (by simpa using h) hc
    show (mcell x ++ mcells r)[(i + 1) * 6 + c]? = _
    rw [List.getElem?_append_right (by simp [mcell]; omega)]
    have : (i + 1) * 6 + c - (mcell x).length = i * 6 + c := by simp [mcell]; omega
    rw [this, ih]
    simp
/-- An entry of a row that is read. -/
theorem Rd.at_ {w : World} {v : Value} {l : List (Nat × En)} {i : Nat} (h : Rd w 58 v 6 l.length (mcells l)) (hi : i < l.length) {q : Nat} {e : En} (he : l[i] = (q, e)) :
    ∃ g cap, v = .slice (some ⟨g, 0, none⟩) l.length cap ∧ l.length ≤ cap ∧ cap ≤ maxLen ∧ w.cell? ⟨g, i * 6, none⟩ = some (.int .i64 (q : Int)) ∧ w.cell? ⟨g, i * 6 + 1, none⟩ = some (.int .i64 e.f) ∧ w.cell? ⟨g, i * 6 + 2, none⟩ = some (.bool e.w) ∧ w.cell? ⟨g, i * 6 + 3, none⟩ = some (.bool e.s) ∧ w.cell? ⟨g, i * 6 + 4, none⟩ = some (.bool e.c) ∧ w.cell? ⟨g, i * 6 + 5, none⟩ = some (.bool e.d) := by
  obtain ⟨hl, ad, cap, rfl, h2, h3, h4 | ⟨g, cur, rfl, hb, hc⟩⟩ := h
  · omega
  · have hx : ∀ c, c < 6 → w.cell? ⟨g, i * 6 + c, none⟩ = (mcell (q, e))[c]? := fun c hc6 => by
      rw [hb.cell, hc _ (by omega), mcells_at l i c hi hc6, he]
    exact ⟨g, cap, rfl, h2, h3, hx 0 (by omega), hx 1 (by omega), hx 2 (by omega), hx 3 (by omega), hx 4 (by omega), hx 5 (by omega)⟩
end Go.Proofs.YtjoapeeljigjcaaDoor.Rd
