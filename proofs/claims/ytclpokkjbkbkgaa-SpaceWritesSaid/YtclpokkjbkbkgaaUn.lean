/-
  Pages unmapped one behind the other: what is left of all; free frames' bytes are noughts (towards SpaceMaps).
-/
import Derived.Test.YtclpokkjbkbkgaaTg
namespace Go.Proofs.Ytclpokkjbkbkgaa.Un
open Go Go.RowKit Go.Shelf Kit Bk
open Fm hiding Mem made_any len_any
open Fo Fr Fw Fx Fu Fq
open Tm hiding Mem
open Ts Tc Ti Sp Sa Pz To My Pv Mp Mq Dr Cl Iv Iw Ix Wr Sy Al Pg So Oq Sn Tg
set_option linter.unusedVariables false

theorem uns_inv {n : Nat} {s : Sx} {Ls : List Tab} (h : Inv n s.R Ls) {i : Nat} (hi : i < Ls.length) (hT : Ls[i] = s.T) (k : Nat) :
    ∀ m, Inv n (uns s k m).R (Ls.set i (uns s k m).T) ∧ (∀ l, l < k ∨ k + m ≤ l → (uns s k m).T l = s.T l) ∧ (∀ l, k ≤ l → l < k + m → (uns s k m).T l = none) ∧
      ∀ j (g : j < Ls.length) l y, (j ≠ i ∨ l < k ∨ k + m ≤ l) → Ls[j] l = some y → (uns s k m).B y.f.toNat = s.B y.f.toNat
  | 0 => ⟨by show Inv n s.R (Ls.set i s.T); rw [← hT, set_get]; exact h, fun _ _ => rfl, fun l h1 h2 => by omega, fun _ _ _ _ _ _ => rfl⟩
  | m + 1 => by
    obtain ⟨h1, h2, h3, h4⟩ := uns_inv h hi hT k m
    have hi' : i < (Ls.set i (uns s k m).T).length := by rw [List.length_set]; exact hi
    obtain ⟨g1, g2, g3, g4⟩ := un1_inv (s := uns s k m) h1 hi' (get_set _ _ _ _) (k + m)
    rw [List.set_set] at g1
    refine ⟨g1, fun l hl => (g2 l (by omega)).trans (h2 l (by omega)), fun l ha hb => ?_, fun j g l y hn hy => ?_⟩
    · by_cases e : l = k + m
      · subst e; exact g3
      · exact (g2 l e).trans (h3 l ha (by omega))
    · have hg' : j < (Ls.set i (uns s k m).T).length := by rw [List.length_set]; exact g
      refine (g4 j hg' l y (by omega) ?_).trans (h4 j g l y (by omega) hy)
      rw [List.getElem_set]
      split
      · rename_i e
        subst e
        rw [h2 l (by omega), ← hT]
        exact hy
      · exact hy
/-- Mapped, and unmapped: as it was. -/
theorem maps_back {n : Nat} {R : Nat → Nat} {B : Nat → Nat → Nat} {T : Tab} (h : Inv n R [T]) {k m : Nat} (hk : k + m ≤ 64) (hall : ∀ j, j < m → T (k + j) = none) (hm : m ≤ fre n R) (wb sh : Bool) :
    (uns (maps n ⟨R, B, T⟩ k wb sh m) k m).T = T ∧ (uns (maps n ⟨R, B, T⟩ k wb sh m) k m).R = R ∧ Inv n R [T] ∧
      ∀ l y, T l = some y → (uns (maps n ⟨R, B, T⟩ k wb sh m) k m).B y.f.toNat = B y.f.toNat := by
  obtain ⟨h1, h2⟩ := maps_inv (s := ⟨R, B, T⟩) h (i := 0) (by decide : 0 < 1) rfl hk hall hm wb sh m (Nat.le_refl _)
  have hB : ∀ j, (maps n ⟨R, B, T⟩ k wb sh j).B = B := fun j => by
    induction j with
    | zero => rfl
    | succ j ih => exact ih
  obtain ⟨g1, g2, g3, g4⟩ := uns_inv (s := maps n ⟨R, B, T⟩ k wb sh m) h1 (i := 0) (by decide : 0 < 1) rfl k m
  have hT : (uns (maps n ⟨R, B, T⟩ k wb sh m) k m).T = T := by
    funext l
    by_cases e : k ≤ l ∧ l < k + m
    · rw [g3 l e.1 e.2]
      have := hall (l - k) (by omega)
      rw [show k + (l - k) = l by omega] at this
      exact this.symm
    · rw [g2 l (by omega)]
      exact h2 l (by omega)
  refine ⟨hT, ?_, h, fun l y hy => ?_⟩
  · funext f
    have e1 := g1.cnt f
    rw [hT] at e1
    exact e1.trans (h.cnt f).symm
  · have hout : l < k ∨ k + m ≤ l := by
      by_cases e : k ≤ l ∧ l < k + m
      · have := hall (l - k) (by omega)
        rw [show k + (l - k) = l by omega, hy] at this
        cases this
      · omega
    have hy2 : (maps n ⟨R, B, T⟩ k wb sh m).T l = some y := (h2 l hout).trans hy
    rw [g4 0 (by decide : 0 < 1) l y (.inr hout) hy2, hB]
end Go.Proofs.Ytclpokkjbkbkgaa.Un
