/-
  What SpaceWrites' last loops meet, in letters.
-/
import Derived.Test.YtclpokkjbkbkgaaWs
namespace Go.Proofs.Ytclpokkjbkbkgaa.Wy
open Go Go.RowKit Go.Shelf Kit Bk
open Fm hiding Mem made_any len_any
open Fo Fr Fw Fx Fu Fq
open Tm hiding Mem
open Ts Tc Ti Sp Sa Pz To My Pv Mp Mq Dr Cl Iv Iw Ix Wr Sy Al Pg So Oq Sn Tg Un Zf Um Qc Cn Fa Tu Ws
set_option linter.unusedVariables false

variable {w w' : World} {p b n : Nat} {R : Nat → Nat} {B B' : Nat → Nat → Nat} {qs ts : Nat → Nat}

/-- What the last loops meet: texts ahead and behind, frames, and whether they are Shared, as letters. -/
structure Fin (w : World) (qs : Nat → Nat) (L kk a m : Nat) (code : Int) (was now : Nat → Nat → ByteArray) (fr : Nat → Nat → Int) (sh : Nat → Nat → Bool) : Prop where
  pages : ∀ W, Below w.heap.size w W → ∀ i, i < L → Calls Try.prog 21 #[.pointer (some ⟨qs i, 0, none⟩)] W fun e w' => ∃ F : Array Value, e = .returned (.agg F) ∧ Below W.heap.size W w' ∧ (F.size = 64 ∧ F.all (·.oneCell') = true) ∧ (∀ q, q < 64 → F[q]? = some (.string (now i q)))
  frame : ∀ W, Below w.heap.size w W → ∀ i, i < L → ∀ q, q < 64 → ∀ f s, fr i q = f → sh i q = s → Calls Try.prog 10 #[.pointer (some ⟨qs i, 0, none⟩), .int .u32 ((q : Int) * 64)] W fun e w' => e = .returned (.tuple #[.int .i64 f, .bool s]) ∧ Below W.heap.size W w'
  page : ∀ W, Below w.heap.size w W → ∀ q x, now kk q = x → Calls Try.prog 22 #[.pointer (some ⟨qs kk, 0, none⟩), .int .i64 (q : Int)] W fun e w' => ∃ (av : Option Addr) (ln cap : Nat), e = .returned (.slice av ln cap) ∧ Below W.heap.size W w' ∧ (convert 26 9 (.slice av ln cap)).run Try.prog w' = .ok (.string x) w'
  same : ∀ (i q : Nat), i < L → (code ≠ 0 ∨ ¬ ((a : Int) < (q : Int) * 64 + 64 ∧ (q : Int) * 64 < (a : Int) + (m : Int)) ∨ (i ≠ kk ∧ ¬ (sh kk q = true ∧ fr i q = fr kk q))) → now i q = was i q
  turn : ∀ (i q : Nat), i < L → (i = kk ∨ (sh kk q = true ∧ fr i q = fr kk q)) → now i q = now kk q

theorem gd (l : List Tab) (i : Nat) (h : i < l.length) : l[i]?.getD (fun _ => none) = l[i] := by rw [List.getElem?_eq_getElem h]; rfl
theorem fin_of {Ls Us : List Tab} {L kk a m : Nat} {code : Int} {T' : Tab} (hS : Sy.Sys w p b n R B' qs ts Us) (hl : Ls.length = L) (hu : Us.length = L) (hk : kk < Us.length) (hT : Us[kk] = T')
    (hno : code ≠ 0 → ∀ i (hi : i < Ls.length) (hi' : i < Us.length) q, pgS B' Us[i] q = pgS B Ls[i] q)
    (hy : code = 0 → (∀ i (hi : i < Ls.length) (hi' : i < Us.length) l, ¬ (a < 64 * l + 64 ∧ 64 * l < a + m) → pgS B' Us[i] l = pgS B Ls[i] l) ∧ (∀ i (hi : i < Ls.length) (hi' : i < Us.length) l, i ≠ kk → ¬ (frs (T' l) = true ∧ frk (Us[i] l) = frk (T' l)) → pgS B' Us[i] l = pgS B Ls[i] l)) :
    ∃ was now fr sh, Fin w qs L kk a m code was now fr sh ∧ ∀ i (h : i < Ls.length) q, pgS B Ls[i] q = was i q := by
  refine ⟨fun i q => pgS B (Ls[i]?.getD fun _ => none) q, fun i q => pgS B' (Us[i]?.getD fun _ => none) q, fun i q => frk ((Us[i]?.getD fun _ => none) q), fun i q => frs ((Us[i]?.getD fun _ => none) q), ⟨?_, ?_, ?_, ?_, ?_⟩, fun i h q => ?_⟩
  · intro W hb i hi
    refine (sPages (hS.below hb) (show i < Us.length by omega)).mono ?_
    rintro e w' ⟨rfl, hb'⟩
    refine ⟨_, rfl, hb', ⟨pgP_size _ _ _, pgP_one _ _ _⟩, fun q hq => ?_⟩
    rw [gd Us i (by omega), pgP_at _ _ _ _ hq, if_pos hq]
  · intro W hb i hi q hq f s hf hs
    rw [gd Us i (by omega)] at hf hs
    rw [← hf, ← hs]
    exact sFrame (hS.below hb) (by omega) hq
  · intro W hb q x hx
    rw [gd Us kk hk] at hx
    rw [← hx]
    exact sPage (hS.below hb) hk q
  · intro i q hi h
    rw [gd Us kk hk, hT, gd Us i (by omega)] at h
    rw [gd Us i (by omega), gd Ls i (by omega)]
    by_cases hcz : code = 0
    · obtain ⟨h1, h2⟩ := hy hcz
      rcases h with h | h | ⟨h3, h4⟩
      · exact absurd hcz h
      · exact h1 i (by omega) (by omega) q (fun h' => h (by omega))
      · exact h2 i (by omega) (by omega) q h3 h4
    · exact hno hcz i (by omega) (by omega) q
  · intro i q hi h
    rw [gd Us i (by omega), gd Us kk hk] at h ⊢
    rcases h with h | ⟨h1, h2⟩
    · subst h
      rfl
    · exact same_frame (B := B') hS.inv (by omega) hk h1 h2
  · show pgS B Ls[i] q = pgS B (Ls[i]?.getD fun _ => none) q
    rw [gd Ls i h]
end Go.Proofs.Ytclpokkjbkbkgaa.Wy
