/-
  Spaces over one memory as they lie; a byte set, a byte told.
-/
import Derived.Test.YtjoapeeljigjcaaDoorIx
import Derived.Test.YtjoapeeljigjcaaDoorNw
namespace Go.Proofs.YtjoapeeljigjcaaDoor.Sy
open Go Go.RowKit Go.Shelf Kit Bk
open Fm hiding Mem made_any len_any
open Fo Fr Fw Fx Fu Fq
open Tm hiding Mem
open Ts Tc Ti Sp Sa Pz To My Pv Mp Mq Dr Cl Iv Iw Ix Wr
set_option linter.unusedVariables false

structure Sys (w : World) (p b n : Nat) (R : Nat → Nat) (B : Nat → Nat → Nat) (qs ts : Nat → Nat) (Ls : List Tab) : Prop where
  fm : Fm.Mem w p b n R B
  sp : ∀ i, i < Ls.length → Sp w (qs i) p (ts i)
  tm : ∀ i (h : i < Ls.length), Tm.Mem w (ts i) Ls[i]
  dis : ∀ i j, i < Ls.length → j < Ls.length → i ≠ j → ts i ≠ ts j
  inv : Inv n R Ls
variable {w w' : World} {p b n : Nat} {R R' : Nat → Nat} {B B' : Nat → Nat → Nat} {qs ts : Nat → Nat} {Ls : List Tab}
theorem Sys.below (h : Sys w p b n R B qs ts Ls) (hb : Below w.heap.size w w') : Sys w' p b n R B qs ts Ls :=
  ⟨h.fm.below hb, fun i hi => Sp.below (h.sp i hi) hb, fun i hi => (h.tm i hi).below hb, h.dis, h.inv⟩
theorem Sys.ne (h : Sys w p b n R B qs ts Ls) {i j : Nat} (hi : i < Ls.length) (hj : j < Ls.length) : qs i ≠ b ∧ qs i ≠ ts j ∧ ts i ≠ b ∧ p ≠ b ∧ p ≠ ts j := by
  obtain ⟨a1, a2, a3, a4, a5⟩ := apart (h.sp i hi) h.fm (h.tm i hi)
  obtain ⟨⟨cs, ht, _⟩, _⟩ := h.tm j hj
  obtain ⟨⟨cap, h1, _⟩, _⟩ := h.fm
  exact ⟨a3, Blk.ne (show Blk w (qs i) _ _ from h.sp i hi) ht (by decide), Ne.symm a5, a1, h1.ne ht (by decide)⟩
/-- A step of one of them. -/
theorem Sys.step (h : Sys w p b n R B qs ts Ls) {i : Nat} (hi : i < Ls.length) {T' : Tab} (hk : Kp (fun j => j = b ∨ j = ts i) w w') (hF : Fm.Mem w' p b n R' B') (hT : Tm.Mem w' (ts i) T') (hI : Inv n R' (Ls.set i T')) : Sys w' p b n R' B' qs ts (Ls.set i T') := by
  refine ⟨hF, fun j hj => ?_, fun j hj => ?_, fun j l hj hl => ?_, hI⟩
  · rw [List.length_set] at hj
    obtain ⟨a1, a2, _⟩ := h.ne hj hi
    exact Sp.kept (h.sp j hj) hk (fun e => e.elim a1 a2)
  · rw [List.length_set] at hj
    rw [List.getElem_set]
    by_cases e : i = j
    · subst e; rw [if_pos rfl]; exact hT
    · rw [if_neg e]
      obtain ⟨_, _, a3, _⟩ := h.ne hj hi
      exact (h.tm j hj).kept hk (fun e2 => e2.elim a3 (h.dis j i hj hi (Ne.symm e)))
  · rw [List.length_set] at hj hl
    exact h.dis j l hj hl
/-- A clone. -/
theorem Sys.clone (h : Sys w p b n R B qs ts Ls) {i : Nat} (hi : i < Ls.length) {q' t' : Nat} (hq : w.heap.size ≤ q') (ht : w.heap.size ≤ t') (hs : Sp w' q' p t') (hk : Kp (fun j => j = b ∨ j = ts i) w w') (hF : Fm.Mem w' p b n R' B') (hT : Tm.Mem w' (ts i) (cowT Ls[i])) (hT' : Tm.Mem w' t' (cowT Ls[i])) (hR : ∀ f, R' f = R f + occ Ls[i] f) :
    Sys w' p b n R' B' (up qs Ls.length q') (up ts Ls.length t') (Ls.set i (cowT Ls[i]) ++ [cowT Ls[i]]) := by
  refine ⟨hF, fun j hj => ?_, fun j hj => ?_, fun j l hj hl hne => ?_, Ix.Inv.clone h.inv hi hR⟩
  · simp only [List.length_append, List.length_set, List.length_singleton] at hj
    by_cases e : j = Ls.length
    · subst e; rw [up_same, up_same]; exact hs
    · rw [up_other _ _ _ _ e, up_other _ _ _ _ e]
      obtain ⟨a1, a2, _⟩ := h.ne (show j < Ls.length by omega) hi
      exact Sp.kept (h.sp j (by omega)) hk (fun e => e.elim a1 a2)
  · simp only [List.length_append, List.length_set, List.length_singleton] at hj
    by_cases e : j = Ls.length
    · subst e
      rw [up_same, List.getElem_append_right (by rw [List.length_set]; exact Nat.le_refl _)]
      simpa using hT'
    · have hj' : j < Ls.length := by omega
      rw [up_other _ _ _ _ e, List.getElem_append_left (by rw [List.length_set]; exact hj'), List.getElem_set]
      by_cases e2 : i = j
      · subst e2; rw [if_pos rfl]; exact hT
      · rw [if_neg e2]
        obtain ⟨_, _, a3, _⟩ := h.ne hj' hi
        exact (h.tm j hj').kept hk (fun e3 => e3.elim a3 (h.dis j i hj' hi (Ne.symm e2)))
  · simp only [List.length_append, List.length_set, List.length_singleton] at hj hl
    have hlt : ∀ j, j < Ls.length → ts j < w.heap.size := fun j hj => (h.tm j hj).lt
    by_cases e : j = Ls.length
    · subst e
      have := hlt l (by omega)
      rw [up_same, up_other _ _ _ _ (Ne.symm hne)]
      omega
    · by_cases e2 : l = Ls.length
      · subst e2
        have := hlt j (by omega)
        rw [up_same, up_other _ _ _ _ hne]
        omega
      · rw [up_other _ _ _ _ e, up_other _ _ _ _ e2]
        exact h.dis j l (by omega) (by omega) hne

theorem or0 : ∀ x : Fin 256, bits BinOp.or .u32 0 (x.val : Int) = (x.val : Int) := by decide +kernel
/-- What some bytes are together: of one, of none. -/
theorem number_one (w : World) (g c x : Nat) (hx : x < 256) (h : w.cell? ⟨g, 0, none⟩ = some (.int .u8 (x : Int))) :
    Calls Tryd.prog 72 #[.slice (some ⟨g, 0, none⟩) 1 c] w fun e w' => e = .returned (.int .u32 (x : Int)) ∧ w = w' := by
  have hx0 : 0 ≤ (x : Int) := by omega
  have hx1 : (x : Int) < 256 := by omega
  have hor := or0 ⟨x, hx⟩
  dsimp only at hor
  go_enter Tryd.func72, Tryd.ntmps72
  go_wp2
  refine wp_loop_rounds 2 ?_
  rw [rounds_succ]
  go_wp2
  rw [rounds_succ]
  go_wp2
  go_ret
  exact ⟨rfl, rfl⟩
theorem number_none (w : World) :
    Calls Tryd.prog 72 #[.slice none 0 0] w fun e w' => e = .returned (.int .u32 0) ∧ w = w' := by
  go_enter Tryd.func72, Tryd.ntmps72
  go_wp2
  refine wp_loop_rounds 1 ?_
  rw [rounds_succ]
  go_wp2
  go_ret
  exact ⟨rfl, rfl⟩
/-- Byte, whatever Read says. -/
theorem byte_one (w : World) (pv : Value) (a : Int) (x n₀ : Nat) (hx : x < 256) (hn : n₀ ≤ w.heap.size) (HR : Calls Tryd.prog 21 #[pv, .int .u32 a, .int .i64 1] w fun e w' => Below w.heap.size w w' ∧ ∃ r, e = .returned (.tuple #[r, .int .i64 0]) ∧ w'.ownsRow n₀ 5 1 r 1 [.int .u8 (x : Int)]) :
    Calls Tryd.prog 51 #[pv, .int .u32 a] w fun e w' => e = .returned (.tuple #[.int .u8 (x : Int), .bool true]) ∧ Below w.heap.size w w' := by
  have H := Lib.hid HR
  have hx0 : 0 ≤ (x : Int) := by omega
  have hx1 : (x : Int) < 256 := by omega
  clear HR
  go_enter Tryd.func51, Tryd.ntmps51
  go_wp2_with (first | (go_at_call 21; (with_reducible refine H.out.mono ?_); rintro e w1 ⟨hb, r, rfl, ho⟩; obtain ⟨g, c, rfl⟩ := ownsRow_succ (k := 0) ho; have hc : w1.cell? ⟨g, 0, none⟩ = some (.int .u8 (x : Int)) := (by obtain ⟨_, ⟨h0, _⟩ | ⟨g', c', cur, hv, hg, hh, _, _, _, he⟩⟩ := ho; cases h0; cases hv; rw [Blk.cell (show Blk w1 g cur _ from hh)]; have := congrArg (fun l => l[0]?) he; simpa using this); have HN := Lib.hid (number_one w1 g c x hx hc); have HB := Lib.hid hb; clear hb ho hc) | (go_at_call 72; (with_reducible refine HN.out.mono ?_); rintro e w2 ⟨rfl, rfl⟩))
  go_ret2
  exact ⟨rfl, HB.out⟩
end Go.Proofs.YtjoapeeljigjcaaDoor.Sy
