/-
  add, label: a word more, a name more.
-/
import Derived.Test.YtlddjjkbnhhfaaaDoorIsaB
namespace Go.Proofs.YtlddjjkbnhhfaaaDoor.IsaF
open Go Go.RowKit Kit IsaM IsaT IsaL IsaC IsaE IsaN IsaD IsaA IsaW IsaS IsaP IsaR IsaB
open Go.Maps (Keyed)
set_option linter.unusedVariables false

/-- An append, behind a name that a walk does not open: its run is given as an equation. -/
def appO (ts : Array TypeId) (ty : TypeId) (vs : Array Value) : Sem Value := Builtin.append_ ts ty vs
theorem app_wrap (ts : Array TypeId) (ty : TypeId) (vs : Array Value) : Builtin.append_ ts ty vs = appO ts ty vs := rfl
attribute [local go_sem ↓] app_wrap

def addW (p : PSt) (x : Nat) : PSt := { p with words := p.words ++ [x] }
def addP (p : PSt) (t : Tx) : PSt := { p with places := (t, p.words.length) :: p.places }
def addJ (p : PSt) (j : Jmp) : PSt := { p with jumps := p.jumps ++ [j] }
theorem u32s_snoc (l : List Nat) (x : Nat) : u32s (l ++ [x]) = u32s l ++ [.int .u32 (x : Int)] := by simp [u32s]
theorem jcells_snoc (l : List Jmp) (j : Jmp) : jcells (l ++ [j]) = jcells l ++ jcell j := by simp [jcells]

/-- Behind an append to the words, and the store of their slice. -/
theorem st_word {B0 Bp Bm : Nat} {p : PSt} {x : Nat} {w w0 w1 : World} {v1 v3 v' : Value} (h : St B0 Bp Bm p w) (hx : x < 4294967296) (hl : p.words.length < 512) (h1 : w.ownsRow B0 22 1 v1 p.words.length (u32s p.words)) (h3 : w.ownsRow B0 112 7 v3 p.jumps.length (jcells p.jumps))
    (hb : Blk w Bp #[v1, .map (some Bm), v3] 88) (hg0 : w.grownBy w0 none) (hg : w0.grownBy w1 v1.ownBlock) (ho : w1.ownsRow B0 22 1 v' (p.words.length + 1) (u32s p.words ++ [.int .u32 (x : Int)])) (hb1 : Blk w1 Bp #[v1, .map (some Bm), v3] 88) :
    St B0 Bp Bm (addW p x) (w1.setCell ⟨Bp, 0, none⟩ v') ∧ Fr B0 Bm w (w1.setCell ⟨Bp, 0, none⟩ v') := by
  have hs := h.hs
  have hmp : Bm ≠ Bp := fun e => by
    obtain ⟨es, ck, hm, _⟩ := h.map
    unfold Blk at hb
    rw [e] at hm
    rw [hm] at hb
    cases hb
  have hrow : ∀ r, v1.ownBlock = some r → B0 ≤ r ∧ ∃ cs, Blk w r cs 22 := fun r e => row_block h1 e
  have hb0 : Below w.heap.size w w0 := (Below.refl _ _).grown hg0 (Nat.le_refl _) (fun k e => by cases e)
  have h3' : w1.ownsRow B0 112 7 v3 p.jumps.length (jcells p.jumps) := by
    refine (h3.kept hg0 (by cases v3.ownBlock <;> simp)).kept hg ?_
    cases hv : v3.ownBlock with
    | none => exact .inl rfl
    | some r =>
      refine .inr fun e => ?_
      obtain ⟨_, cs, hk⟩ := row_block h3 hv
      exact row_ne h1 hk (by decide) e.symm
  have hm' : w1.ownsMap Tryd.prog 9 (plainElem Tryd.prog 3) Bm p.places.length (mapD p.places) := by
    refine (h.map.kept hg0 (by simp)).kept hg (fun e => ?_)
    obtain ⟨_, cs, hk⟩ := hrow Bm e.symm
    obtain ⟨es, ck, hm, _⟩ := h.map
    unfold Blk at hk
    rw [hm] at hk
    cases hk
  refine ⟨⟨h.lo, ⟨v', v3, hb1.set 0 v', ?_, row_set h3' hb1 (by decide) 0 v'⟩, hm'.setCell hmp v', ?_, ?_⟩, ?_⟩
  · have := row_set ho hb1 (by decide) 0 v'
    show (w1.setCell ⟨Bp, 0, none⟩ v').ownsRow B0 22 1 v' (p.words ++ [x]).length (u32s (p.words ++ [x]))
    rw [List.length_append, u32s_snoc]
    exact this
  · have := h.le
    show (p.words ++ [x]).length ≤ 512 ∧ _
    rw [List.length_append, List.length_singleton]
    exact ⟨by omega, this.2.1, this.2.2⟩
  · intro y hy
    rcases List.mem_append.1 hy with hy | hy
    · exact h.u32 y hy
    · rw [List.mem_singleton.1 hy]; exact hx
  · refine (Fr.below hb0 hs).trans ((Fr.grown hg (Nat.le_trans hs hb0.size) (fun r e => ?_)).trans (Fr.set hb1 h.lo.1 (.inl rfl) 0 v'))
    obtain ⟨hr, cs, hk⟩ := hrow r e
    exact ⟨hr, .inl ⟨cs, _, hk.below hb0, .inr (.inl rfl)⟩⟩
theorem add_full (B0 Bp Bm : Nat) (p : PSt) (x : Nat) (w : World) (h : St B0 Bp Bm p w) (hl : p.words.length = 512) :
    Calls Tryd.prog 61 #[.pointer (some ⟨Bp, 0, none⟩), .int .u32 (x : Int)] w fun e w' => e = .returned (.bool false) ∧ w = w' := by
  obtain ⟨v1, v3, hb, h1, h3⟩ := h.hold
  obtain ⟨ad, cap, rfl⟩ := row_form h1
  have c0 := hb.cell 0
  rw [hl] at c0
  clear h h1 h3 hb hl
  go_enter Tryd.func61, Tryd.ntmps61
  go_wp2
  go_ret
  exact ⟨rfl, rfl⟩

set_option maxRecDepth 100000 in
set_option maxHeartbeats 2000000 in
theorem add_more (B0 Bp Bm : Nat) (p : PSt) (x : Nat) (hx : x < 4294967296) (w : World) (h : St B0 Bp Bm p w) (hl : p.words.length < 512) :
    Calls Tryd.prog 61 #[.pointer (some ⟨Bp, 0, none⟩), .int .u32 (x : Int)] w fun e w' => e = .returned (.bool true) ∧ St B0 Bp Bm (addW p x) w' ∧ Fr B0 Bm w w' := by
  obtain ⟨i0, hi, hz0, hz1, hz2⟩ := info_parts info24
  have hs := h.hs
  obtain ⟨v1, v3, hb, h1, h3⟩ := h.hold
  have H := Lib.hid h
  have H1 := Lib.hid h1
  have H3 := Lib.hid h3
  have HB := Lib.hid hb
  obtain ⟨ad, cap, e1⟩ := row_form h1
  have hf : ∀ wx, Blk wx Bp #[v1, .map (some Bm), v3] 88 → wx.cell? ⟨Bp, 0, none⟩ = some (.slice ad p.words.length cap) ∧ wx.frozen? ⟨Bp, 0, none⟩ = false := fun wx hx => ⟨by rw [hx.cell 0, e1]; rfl, hx.free 0⟩
  have h512 : ((p.words.length : Int) == 512) = false := by simp; omega
  subst e1
  obtain ⟨c0, f0⟩ := hf w hb
  have HF := Lib.hid hf
  have hlt := hb.lt
  clear h h1 h3 hb hf
  obtain ⟨v', w1, hrun, hown, hgr, -⟩ := run_append_own_at (P := Tryd.prog) (w := w.alloc (.cells #[.int .u32 (x : Int)] 22)) B0 50 50 22 i0 (.int .u32 0) 1 4 Tryd.underlying50 hi hz0 hz1 hz2 rfl (by decide) _ _ _ (H1.out.alloc _) ⟨w.heap.size, 0, none⟩ 1 1 [.int .u32 (x : Int)] rfl
    (by intro j u hj; cases j with | zero => (simp at hj; subst hj; simp [Addr.add]) | succ j => simp at hj) (by simp [Value.oneCell']) (by unfold maxLen; omega) (by omega) (by simp; omega)
  have hrun' : (appO #[50, 50] 50 #[.slice ad p.words.length cap, .slice (some ⟨w.heap.size, 0, none⟩) 1 1]).run Tryd.prog (w.alloc (.cells #[.int .u32 (x : Int)] 22)) = .ok v' w1 := hrun
  have hB1 : Blk w1 Bp #[.slice ad p.words.length cap, .map (some Bm), v3] 88 := (hgr.block Bp (by simp; omega) (fun e => row_ne H1.out HB.out (by decide) e.symm)).trans ((Blk.below HB.out ((Below.refl _ _).alloc (Nat.le_refl _) _)))
  have c1 := hB1.cell 0
  have f1 := hB1.free 0
  obtain ⟨ad', cap', rfl⟩ := row_form hown
  have HG := Lib.hid hgr
  have HO := Lib.hid hown
  have HB1 := Lib.hid hB1
  clear hrun hgr hown hB1
  go_enter Tryd.func61, Tryd.ntmps61
  go_wp2
  go_ret
  exact ⟨rfl, st_word H.out hx hl H1.out H3.out HB.out (World.grownBy_alloc w _ none) HG.out HO.out HB1.out⟩
end Go.Proofs.YtlddjjkbnhhfaaaDoor.IsaF
