/-
  A range over rising: the loop's law.
-/
import Derived.Test.YtpblnjphkgilfaaSld
namespace Go.Proofs.Ytpblnjphkgilfaa.Sle
open Go Go.RowKit Go.Shelf Kit Bk Sla Slb Slc Sld
set_option linter.unusedVariables false
attribute [local go_sem] Oper.semAt_some

theorem rising_in (n : Nat) (ad : Option Addr) (w : World) :
    CallsIn Fence.wide n Try.prog 24 #[.pointer ad] w fun e w' => e = .returned (.func (.func 27) #[] #[.pointer (some ⟨w.heap.size, 0, none⟩)]) ∧ w' = w.alloc (.cells #[.pointer ad] 23) := by
  refine callsIn_of_wp Try.func24 rfl trivial ?_ rfl
  simp only [Try.ntmps24, List.size_toArray, List.length_cons, List.length_nil, Nat.reduceAdd, Nat.reduceSub, Array.replicate_succ, Array.replicate_zero, List.push_toArray, List.append_toArray, List.nil_append, List.cons_append]
  gi_wp2
  go_ret
  exact ⟨rfl, rfl⟩

/-- How a round may be left. -/
def Post (B0 B : Nat) (m : Option Nat) (I : Nat → World → Prop) (Ix : Code → Nat → World → Prop) (i : Nat) (W : World) : Exit → Act → World → Prop
  | .normal, _, W' => KeepsFrom B0 W W' ∧ Stay B m W W' ∧ I (i + 1) W'
  | .ret, _, W' => KeepsFrom B0 W W' ∧ Ix .ret i W'
  | .exit id, _, W' => KeepsFrom B0 W W' ∧ Ix (.exit id) i W'
  | .goto t, _, W' => KeepsFrom B0 W W' ∧ Ix (.goto t) i W'
  | .panic _, _, _ => False
  | .outgrown, _, _ => False

/-- A range over rising. -/
theorem rising_loop {n : Nat} (h2 : 2 ≤ n) {g : Operand} {p1 p2 : Tmp} {assign body : Code} {Q : Exit → Act → World → Prop} {a : Act} {w : World} (Bs B : Nat) (m : Option Nat) (ad : Option Addr) (L : St) (ho : Ok L) (hl : L.length ≤ 90000)
    (hg : a.eval g = .func (.func 27) #[] #[.pointer (some ⟨Bs, 0, none⟩)])
    (hAs : ∀ W, Below w.heap.size w W → Calls Try.prog 25 #[.pointer ad] W fun e w' => e = .returned (.map m) ∧ W = w') (hMl : Ml w m L)
    (hBs : Boxed w Bs 23 (.pointer ad)) (hM : ∀ k, Mine B m w k → k < w.heap.size ∧ k ≠ Bs) (hB : B < w.heap.size)
    (I : Nat → World → Prop) (Ix : Code → Nat → World → Prop)
    (hLk : ∀ i X, i < L.length → I i X → ∃ q, ad = some ⟨q, 0, none⟩ ∧ X.cell? ⟨q, 0, none⟩ = some (.map m) ∧ (Instr.lookup 24 (.map m) (.int .i64 (pd L i)) false).run Try.prog X = .ok (.int .u32 ((tc L i : Nat) : Int)) X)
    (hI : ∀ i X Y, Kz w.heap.size X Y → I i X → I i Y) (hIx : ∀ c i X Y, Kz w.heap.size X Y → Ix c i X → Ix c i Y) (h0 : I 0 w) (a1 : Nat → Act)
    (hassign : ∀ (l i : Nat) (W : World) (K : Act → World → Prop), K (a1 i) W →
      assign.wpIn (Fence.wide.inRound l) (n - 1 - 1) Try.prog (Exit.then K (fun _ _ _ => False)) { tmps := (a.tmps.setIfInBounds p1 (.int .i64 (pd L i))).setIfInBounds p2 (.int .u32 ((tc L i : Nat) : Int)), defers := [] } W)
    (hbody : ∀ (l i : Nat) (W : World), w.heap.size ≤ l → I i W → i < L.length → body.wpIn (Fence.wide.inRound l) (n - 1 - 1) Try.prog (Post w.heap.size B m I Ix i W) (a1 i) W)
    (hdone : ∀ (D : Nat) (W : World), w.heap.size ≤ D → I L.length W → W.heap[D]? = some (.deferred (some [])) → Q .normal { a with defers := { target := .collected D, args := #[] } :: a.defers } W)
    (hstop : ∀ (D : Nat) (c : Code) (i : Nat) (W : World), w.heap.size ≤ D → i < L.length → Ix c i W → W.heap[D]? = some (.deferred (some [])) → c.wpIn Fence.wide n Try.prog Q { a with defers := { target := .collected D, args := #[] } :: a.defers } W) :
    (Code.rangeFunc g #[p1, p2] assign body).wpIn Fence.wide n Try.prog Q a w := by
  refine wpIn_rangeFunc ?_
  intro fn hfn
  have h1 : 1 ≤ n := by omega
  show ∃ l, _
  obtain ⟨rec, hrec⟩ : ∃ rec : LoopState → Option Code → Loop, rec = fun st pe => { state := st, pending := pe, fn, tmps := a.tmps, params := #[p1, p2], assign, body, defers := w.heap.size } := ⟨_, rfl⟩
  -- the two blocks of the loop's book-keeping
  have hD1 : ((w.alloc (.deferred (some []))).alloc (.loop (rec .ready none))).heap[w.heap.size]? = some (.deferred (some [])) := (Below.heap_alloc _ _ _ (by simp)).trans (World.alloc_heap_new w _)
  have hL1 : ((w.alloc (.deferred (some []))).alloc (.loop (rec .ready none))).heap[w.heap.size + 1]? = some (.loop (rec .ready none)) := by
    have := World.alloc_heap_new (w.alloc (.deferred (some []))) (.loop (rec .ready none))
    rwa [World.size_alloc] at this
  have hbel : Below w.heap.size w ((w.alloc (.deferred (some []))).alloc (.loop (rec .ready none))) := ((Below.refl _ w).alloc (Nat.le_refl _) _).alloc (by simp) _
  have hI1 : I 0 ((w.alloc (.deferred (some []))).alloc (.loop (rec .ready none))) := hI _ _ _ (Kz.of_below hbel) h0
  have hB1 : Boxed ((w.alloc (.deferred (some []))).alloc (.loop (rec .ready none))) Bs 23 (.pointer ad) := (hbel.block Bs hBs.lt).trans hBs
  have hMl1 : Ml ((w.alloc (.deferred (some []))).alloc (.loop (rec .ready none))) m L := hMl.kept (Kp.of_below (S := fun _ => False) hbel) (fun _ _ e => e)
  have hAs1 := hAs _ hbel
  have hs1 : ((w.alloc (.deferred (some []))).alloc (.loop (rec .ready none))).heap.size = w.heap.size + 2 := by simp
  have hM1 : ∀ k, Mine B m ((w.alloc (.deferred (some []))).alloc (.loop (rec .ready none))) k → k < ((w.alloc (.deferred (some []))).alloc (.loop (rec .ready none))).heap.size ∧ k ≠ Bs := fun k hk => by
    have := hM k ((Mine.same (hbel.block B hB)).1 hk)
    exact ⟨by rw [hs1]; omega, this.2⟩
  have hent : (Instr.enterLoop fn a.tmps #[p1, p2] assign body none).run Try.prog w = .ok (w.heap.size + 1, [{ target := .collected w.heap.size, args := #[] }]) ((w.alloc (.deferred (some []))).alloc (.loop (rec .ready none))) := by
    rw [hrec]
    exact run_enterLoop_outer _ _ _ _ _
  clear hbel hAs hMl hM
  generalize (w.alloc (.deferred (some []))).alloc (.loop (rec .ready none)) = W1 at hD1 hL1 hI1 hB1 hMl1 hAs1 hs1 hM1 hent
  refine ⟨w.heap.size + 1, _, W1, { target := .fn (.func 27) #[.pointer (some ⟨Bs, 0, none⟩)], args := #[.func (.yield (w.heap.size + 1)) #[] #[]] }, W1, 27,
    #[.func (.yield (w.heap.size + 1)) #[] #[], .pointer (some ⟨Bs, 0, none⟩)], W1, hent, ?_, ?_, ?_, fun _ => h1, ?_⟩
  · simp only [resolve, hg]
    simp [go_sem]
  · intro f' hf'
    trivial
  · simp [invoke, go_sem]
  · refine (rising1_in (n - 1) (by omega) (w.heap.size + 1) Bs B m ad L ho hl
      (fun i W => I i W ∧ W.heap[w.heap.size + 1]? = some (.loop (rec .ready none)) ∧ W.heap[w.heap.size]? = some (.deferred (some [])) ∧ w.heap.size + 2 ≤ W.heap.size)
      (fun i W => ∃ c, Ix c i W ∧ W.heap[w.heap.size + 1]? = some (.loop (rec .done (some c))) ∧ W.heap[w.heap.size]? = some (.deferred (some [])))
      W1 hAs1 hMl1 ?_ ?_ ?_ ⟨hI1, hL1, hD1, by omega⟩ hB1 hM1 (by omega)).mono ?_
    · rintro i X Y hr ⟨hi, hl, hd, hs⟩
      exact ⟨hI _ _ _ (Kz.of_below hr) hi, (hr.block _ (Array.getElem?_eq_some_iff.1 hl).1).trans hl, (hr.block _ (Array.getElem?_eq_some_iff.1 hd).1).trans hd, Nat.le_trans hs hr.size⟩
    · rintro i X hil ⟨hi, -⟩
      exact hLk i X hil hi
    · -- a round
      rintro i X hic ⟨hi, hl, hd, hs⟩
      have hy := run_yield (P := Try.prog) (args := #[.int .i64 (pd L i), .int .u32 ((tc L i : Nat) : Int)]) hl (by rw [hrec]; rfl)
      rw [hrec] at hy
      refine ⟨fn, _, assign, body, hy, roundIn_of_wpIn hfn ?_⟩
      clear hy
      have hzip : Array.foldl (fun (t : Array Value) (x : Tmp × Value) => match x with | (k, v) => t.setIfInBounds k v) a.tmps ((#[p1, p2] : Array Tmp).zip #[Value.int .i64 (pd L i), .int .u32 ((tc L i : Nat) : Int)]) = (a.tmps.setIfInBounds p1 (.int .i64 (pd L i))).setIfInBounds p2 (.int .u32 ((tc L i : Nat) : Int)) := by simp
      dsimp only
      rw [hzip]
      refine hassign _ i X _ ?_
      refine ⟨_, run_beginRound hl (by rw [hrec]), ?_⟩
      have hl2 : (X.putObj (w.heap.size + 1) (.loop { rec .ready none with state := .busy })).heap[w.heap.size + 1]? = some (.loop { rec .ready none with state := .busy }) := World.putObj_heap_same (Array.getElem?_eq_some_iff.1 hl).1
      have hd2 : (X.putObj (w.heap.size + 1) (.loop { rec .ready none with state := .busy })).heap[w.heap.size]? = some (.deferred (some [])) := (World.putObj_heap_other (by omega)).trans hd
      have hkb3 : Stay B m X (X.putObj (w.heap.size + 1) (.loop { rec .ready none with state := .busy })) := Stay.put (by omega) hl rfl _
      have hi2 := hI _ _ _ (Kz.putObj (B0 := w.heap.size) (by omega) hl rfl (.loop { rec .ready none with state := .busy })) hi
      generalize X.putObj (w.heap.size + 1) (.loop { rec .ready none with state := .busy }) = Z at hl2 hd2 hi2 hkb3 ⊢
      refine wpIn_mono (hbody _ i Z (by omega) hi2 hic) ?_
      have fin : ∀ (jump : Option Code) (Z' : World), KeepsFrom w.heap.size Z Z' →
          (Instr.endRound (w.heap.size + 1) jump).run Try.prog Z' = .ok (.bool jump.isNone) (Z'.putObj (w.heap.size + 1) (.loop (rec (if jump.isNone then .ready else .done) jump))) ∧
          Z'.heap[w.heap.size + 1]? = some (.loop { rec .ready none with state := .busy }) ∧
          (Z'.putObj (w.heap.size + 1) (.loop (rec (if jump.isNone then .ready else .done) jump))).heap[w.heap.size + 1]? = some (.loop (rec (if jump.isNone then .ready else .done) jump)) ∧
          (Z'.putObj (w.heap.size + 1) (.loop (rec (if jump.isNone then .ready else .done) jump))).heap[w.heap.size]? = some (.deferred (some [])) := fun jump Z' hk3 => by
        have hl3 := hk3.same _ _ (by omega) hl2 rfl
        have hrun := run_endRound (P := Try.prog) jump hl3
        rw [hrec] at hrun ⊢
        exact ⟨hrun, by rw [hrec] at hl3; exact hl3, World.putObj_heap_same (Array.getElem?_eq_some_iff.1 hl3).1, (World.putObj_heap_other (by omega)).trans (hk3.same _ _ (Nat.le_refl _) hd2 rfl)⟩
      rintro e a3 Z' hp
      cases e with
      | normal =>
        obtain ⟨hk3, hkp3, hi3⟩ := hp
        obtain ⟨hr, hl3, hl4, hd4⟩ := fin none Z' hk3
        exact ⟨_, _, hr, .inl ⟨rfl, ⟨hI _ _ _ (Kz.putObj (by omega) hl3 rfl _) hi3, hl4, hd4, by simp; have := (Array.getElem?_eq_some_iff.1 hl3).1; omega⟩, hkb3.trans (hkp3.trans (Stay.put (by omega) hl3 rfl _))⟩⟩
      | ret =>
        obtain ⟨hr, hl3, hl4, hd4⟩ := fin (some .ret) Z' hp.1
        exact ⟨_, _, hr, .inr ⟨rfl, .ret, hIx _ _ _ _ (Kz.putObj (by omega) hl3 rfl _) hp.2, hl4, hd4⟩⟩
      | exit id =>
        obtain ⟨hr, hl3, hl4, hd4⟩ := fin (some (.exit id)) Z' hp.1
        exact ⟨_, _, hr, .inr ⟨rfl, .exit id, hIx _ _ _ _ (Kz.putObj (by omega) hl3 rfl _) hp.2, hl4, hd4⟩⟩
      | goto t =>
        obtain ⟨hr, hl3, hl4, hd4⟩ := fin (some (.goto t)) Z' hp.1
        exact ⟨_, _, hr, .inr ⟨rfl, .goto t, hIx _ _ _ _ (Kz.putObj (by omega) hl3 rfl _) hp.2, hl4, hd4⟩⟩
      | panic ch => exact hp.elim
      | outgrown => exact hp.elim
    · rintro e W2 ⟨⟨v, rfl⟩, (⟨hi, hl, hd, -⟩ | ⟨i, hic, c, hi, hl, hd⟩)⟩
      · exact ⟨none, _, by have hrun := run_endLoop (P := Try.prog) hl (by rw [hrec]; simp); rw [hrec] at hrun; exact hrun, hdone _ _ (Nat.le_refl _) (hI _ _ _ (Kz.putObj (by omega) hl rfl _) hi) ((World.putObj_heap_other (by omega)).trans hd)⟩
      · exact ⟨some c, _, by have hrun := run_endLoop (P := Try.prog) hl (by rw [hrec]; simp); rw [hrec] at hrun; exact hrun, hstop _ c i _ (Nat.le_refl _) hic (hIx _ _ _ _ (Kz.putObj (by omega) hl rfl _) hi) ((World.putObj_heap_other (by omega)).trans hd)⟩
end Go.Proofs.Ytpblnjphkgilfaa.Sle
