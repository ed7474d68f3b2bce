/-
  A range over steps: the loop's law.
-/
import Derived.Test.YtgnpbedhpkmkfaaDoorZRu
import Derived.RangeFuncWrites
namespace Go.Proofs.YtgnpbedhpkmkfaaDoor.Rv
open Go Go.RowKit Go.Shelf Kit Bk CoM CoR CoB CoC CoW CoI CoE CoY Ps IsaT Ru
set_option linter.unusedVariables false
attribute [local go_sem] Oper.semAt_some
attribute [local go_sem ↓] ldc_wrap stc_wrap
set_option maxRecDepth 100000 in
set_option maxHeartbeats 2000000 in
theorem steps_in (n : Nat) (s : St) (M : Nat) (most : Int) (w : World) :
    CallsIn Fence.wide n Tryd.prog 40 #[cv s, mv M, .int .i64 most] w fun e w' => e = .returned (.func (.func 61) #[] #[.pointer (some ⟨w.heap.size, 0, none⟩), .pointer (some ⟨w.heap.size + 1 + 1, 0, none⟩), .pointer (some ⟨w.heap.size + 1, 0, none⟩)]) ∧ w' = ((w.alloc (.cells (cs s) 30)).alloc (.cells #[mv M] 67)).alloc (.cells #[.int .i64 most] 3) := by
  refine callsIn_of_wp Tryd.func40 rfl trivial ?_ rfl
  simp only [Tryd.ntmps40, List.size_toArray, List.length_cons, List.length_nil, Nat.reduceAdd, Nat.reduceSub, Array.replicate_succ, Array.replicate_zero, List.push_toArray, List.append_toArray, List.nil_append, List.cons_append]
  gi_wp2
  go_ret
  exact ⟨rfl, rfl⟩

/-- All that lay below B lies as it lay. -/
abbrev Kc (B : Nat) (X Y : World) : Prop := Kp (fun j => B ≤ j) X Y
theorem kc_of_rp {B : Nat} {X Y : World} (h : Rp B X Y) : Kc B X Y := ⟨h.os, h.tape, h.output, h.size, fun k hk hn => h.block k hk (.inl (by omega))⟩
theorem kc_put {B : Nat} {X : World} {l : Nat} (hl : B ≤ l) (o' : Obj) : Kc B X (X.putObj l o') :=
  ⟨rfl, rfl, rfl, by simp, fun k hk hn => World.putObj_heap_other (fun e => hn (by omega))⟩

/-- How a round may be left. -/
def Post (B : Nat) (S : Nat → Prop) (I : Nat → World → Prop) (Ix : Code → Nat → World → Prop) (i : Nat) (W : World) : Exit → Act → World → Prop
  | .normal, _, W' => KeepsFrom B W W' ∧ Kb S W W' ∧ I (i + 1) W'
  | .ret, _, W' => KeepsFrom B W W' ∧ Ix .ret i W'
  | .exit id, _, W' => KeepsFrom B W W' ∧ Ix (.exit id) i W'
  | .goto t, _, W' => KeepsFrom B W W' ∧ Ix (.goto t) i W'
  | .panic _, _, _ => False
  | .outgrown, _, _ => False
theorem kb_put {S : Nat → Prop} {X : World} {l : Nat} {o : Obj} (h : X.heap[l]? = some o) (hc : o.isCells = false) (o' : Obj) : Kb S X (X.putObj l o') := fun k cs T z hk hs => World.putObj_heap_other (fun e => by
  rw [e, h] at hk; cases hk; cases hc)

theorem steps_loop {n : Nat} (h2 : 2 ≤ n) {g : Operand} {p q : Tmp} {assign body : Code} {Q : Exit → Act → World → Prop} {a : Act} {w : World} (Bc Bn Bm M Bx : Nat) (ad : Option Addr) (cap : Nat) (s : St) (b : CoM.Bs) (most : Int) (cnt : Nat)
    (hcnt : most = (cnt : Int) ∨ (most ≤ 0 ∧ cnt = 0)) (hc2 : cnt < 9223372036854775808) (S : Nat → Prop)
    (hg : a.eval g = .func (.func 61) #[] #[.pointer (some ⟨Bc, 0, none⟩), .pointer (some ⟨Bn, 0, none⟩), .pointer (some ⟨Bm, 0, none⟩)])
    (hS : ∀ k, S k → k < w.heap.size) (hSc : ¬ S Bc) (hSn : ¬ S Bn) (hSm : ¬ S Bm)
    (hBc : Blk w Bc (cs s) 30) (hBn : Blk w Bn #[.int .i64 most] 3) (hBm : Blk w Bm #[mv M] 67)
    (I Im I2 : Nat → World → Prop) (Ix : Code → Nat → World → Prop)
    (hI : ∀ i X Y, Kc w.heap.size X Y → I i X → I i Y) (hIm : ∀ i X Y, Kc w.heap.size X Y → Im i X → Im i Y) (hI2 : ∀ i X Y, Kc w.heap.size X Y → I2 i X → I2 i Y) (hIx : ∀ c i X Y, Kc w.heap.size X Y → Ix c i X → Ix c i Y) (h0 : I 0 w)
    (hM : ∀ i X, i < cnt → I i X → Tabs X ∧ RamAt X M ad cap (sq s b i).2.2 ∧ Lies X Bx ad cap (sq s b i).2.2 ∧ (sq s b i).1.Ok) (hMx : M ≠ Bx) (hBx : Bx < w.heap.size)
    (hJJ : ∀ i X Y, i < cnt → I i X → Wrote X Bx ad cap (sq s b (i + 1)).2.2 Y → Im i Y) (hxc : Bx ≠ Bc ∧ Bx ≠ Bn ∧ Bx ≠ Bm) (a1 : Nat → Act)
    (hassign : ∀ (l i : Nat) (W : World) (K : Act → World → Prop), Im i W → i < cnt → (∀ W', KeepsFrom w.heap.size W W' → Kb S W W' → I2 i W' → K (a1 i) W') →
      assign.wpIn (Fence.wide.inRound l) (n - 1 - 1) Tryd.prog (Exit.then K (fun _ _ _ => False)) { tmps := (a.tmps.setIfInBounds p (cv (sq s b (i + 1)).1)).setIfInBounds q (.int .i64 (sq s b (i + 1)).2.1), defers := [] } W)
    (hbody : ∀ (l i : Nat) (W : World), w.heap.size ≤ l → I2 i W → i < cnt → body.wpIn (Fence.wide.inRound l) (n - 1 - 1) Tryd.prog (Post w.heap.size S I Ix i W) (a1 i) W)
    (hdone : ∀ (D : Nat) (W : World), w.heap.size ≤ D → I cnt W → W.heap[D]? = some (.deferred (some [])) → Q .normal { a with defers := { target := .collected D, args := #[] } :: a.defers } W)
    (hstop : ∀ (D : Nat) (c : Code) (i : Nat) (W : World), w.heap.size ≤ D → i < cnt → Ix c i W → W.heap[D]? = some (.deferred (some [])) → c.wpIn Fence.wide n Tryd.prog Q { a with defers := { target := .collected D, args := #[] } :: a.defers } W) :
    (Code.rangeFunc g #[p, q] assign body).wpIn Fence.wide n Tryd.prog Q a w := by
  refine wpIn_rangeFunc ?_
  intro fn hfn
  have h1 : 1 ≤ n := by omega
  show ∃ l, _
  obtain ⟨rec, hrec⟩ : ∃ rec : LoopState → Option Code → Loop, rec = fun st pe => { state := st, pending := pe, fn, tmps := a.tmps, params := #[p, q], assign, body, defers := w.heap.size } := ⟨_, rfl⟩
  have hlc : Bc < w.heap.size := hBc.lt
  have hln : Bn < w.heap.size := hBn.lt
  have hlm : Bm < w.heap.size := hBm.lt
  -- the two blocks of the loop's book-keeping
  have hD1 : ((w.alloc (.deferred (some []))).alloc (.loop (rec .ready none))).heap[w.heap.size]? = some (.deferred (some [])) := (Below.heap_alloc _ _ _ (by simp)).trans (World.alloc_heap_new w _)
  have hL1 : ((w.alloc (.deferred (some []))).alloc (.loop (rec .ready none))).heap[w.heap.size + 1]? = some (.loop (rec .ready none)) := by
    have := World.alloc_heap_new (w.alloc (.deferred (some []))) (.loop (rec .ready none))
    rwa [World.size_alloc] at this
  have hI1 : I 0 ((w.alloc (.deferred (some []))).alloc (.loop (rec .ready none))) := hI _ _ _ (Kp.alloc _ _ _) (hI _ _ _ (Kp.alloc _ _ _) h0)
  have hA1 : Blk ((w.alloc (.deferred (some []))).alloc (.loop (rec .ready none))) Bc (cs s) 30 := (hBc.kept (.alloc (fun _ => False) _ _) (fun e => e)).kept (.alloc (fun _ => False) _ _) (fun e => e)
  have hB1 : Blk ((w.alloc (.deferred (some []))).alloc (.loop (rec .ready none))) Bn #[.int .i64 most] 3 := (hBn.kept (.alloc (fun _ => False) _ _) (fun e => e)).kept (.alloc (fun _ => False) _ _) (fun e => e)
  have hC1 : Blk ((w.alloc (.deferred (some []))).alloc (.loop (rec .ready none))) Bm #[mv M] 67 := (hBm.kept (.alloc (fun _ => False) _ _) (fun e => e)).kept (.alloc (fun _ => False) _ _) (fun e => e)
  have hs1 : ((w.alloc (.deferred (some []))).alloc (.loop (rec .ready none))).heap.size = w.heap.size + 2 := by simp
  have hent : (Instr.enterLoop fn a.tmps #[p, q] assign body none).run Tryd.prog w = .ok (w.heap.size + 1, [{ target := .collected w.heap.size, args := #[] }]) ((w.alloc (.deferred (some []))).alloc (.loop (rec .ready none))) := by
    rw [hrec]
    exact run_enterLoop_outer _ _ _ _ _
  generalize (w.alloc (.deferred (some []))).alloc (.loop (rec .ready none)) = W1 at hD1 hL1 hI1 hA1 hB1 hC1 hs1 hent
  refine ⟨w.heap.size + 1, _, W1, { target := .fn (.func 61) #[.pointer (some ⟨Bc, 0, none⟩), .pointer (some ⟨Bn, 0, none⟩), .pointer (some ⟨Bm, 0, none⟩)], args := #[.func (.yield (w.heap.size + 1)) #[] #[]] }, W1, 61,
    #[.func (.yield (w.heap.size + 1)) #[] #[], .pointer (some ⟨Bc, 0, none⟩), .pointer (some ⟨Bn, 0, none⟩), .pointer (some ⟨Bm, 0, none⟩)], W1, hent, ?_, ?_, ?_, fun _ => h1, ?_⟩
  · simp only [resolve, hg]
    simp [go_sem]
  · intro f' hf'
    trivial
  · simp [invoke, go_sem]
  · refine (steps1_in (n - 1) (by omega) (w.heap.size + 1) Bc Bn Bm M Bx ad cap s b most cnt hcnt hc2 S
      (fun i W => I i W ∧ W.heap[w.heap.size + 1]? = some (.loop (rec .ready none)) ∧ W.heap[w.heap.size]? = some (.deferred (some [])) ∧ w.heap.size + 2 ≤ W.heap.size)
      (fun i W => Im i W ∧ W.heap[w.heap.size + 1]? = some (.loop (rec .ready none)) ∧ W.heap[w.heap.size]? = some (.deferred (some [])) ∧ w.heap.size + 2 ≤ W.heap.size)
      (fun i W => ∃ c, Ix c i W ∧ W.heap[w.heap.size + 1]? = some (.loop (rec .done (some c))) ∧ W.heap[w.heap.size]? = some (.deferred (some [])))
      W1 w.heap.size (by omega) ?_ ?_ hS hSc hSn hSm (fun i X hi hx => hM i X hi hx.1) hMx hBx ?_ hxc ⟨hln, hlm⟩ ?_ hA1 hB1 hC1 ⟨hI1, hL1, hD1, by omega⟩).mono ?_
    · rintro i X Y hr ⟨hi, hl, hd, hs⟩
      exact ⟨hI _ _ _ (kc_of_rp hr) hi, (hr.block _ (Array.getElem?_eq_some_iff.1 hl).1 (.inr fun cs T z e => by rw [hl] at e; cases e)).trans hl, (hr.block _ (Array.getElem?_eq_some_iff.1 hd).1 (.inr fun cs T z e => by rw [hd] at e; cases e)).trans hd, Nat.le_trans hs hr.size⟩
    · rintro i X Y hr ⟨hi, hl, hd, hs⟩
      exact ⟨hIm _ _ _ (kc_of_rp hr) hi, (hr.block _ (Array.getElem?_eq_some_iff.1 hl).1 (.inr fun cs T z e => by rw [hl] at e; cases e)).trans hl, (hr.block _ (Array.getElem?_eq_some_iff.1 hd).1 (.inr fun cs T z e => by rw [hd] at e; cases e)).trans hd, Nat.le_trans hs hr.size⟩
    · rintro i X Y hic ⟨hi, hl, hd, hs⟩ hw
      exact ⟨hJJ i X Y hic hi hw, (hw.kp.block _ (Array.getElem?_eq_some_iff.1 hl).1 (fun e => by omega)).trans hl, (hw.kp.block _ (Array.getElem?_eq_some_iff.1 hd).1 (fun e => by omega)).trans hd, Nat.le_trans hs hw.kp.size⟩
    · -- a round
      rintro i X ⟨hi, hl, hd, hs⟩ hic
      have hy := run_yield (P := Tryd.prog) (args := #[cv (sq s b (i + 1)).1, .int .i64 (sq s b (i + 1)).2.1]) hl (by rw [hrec]; rfl)
      rw [hrec] at hy
      refine ⟨fn, _, assign, body, hy, roundIn_of_wpIn hfn ?_⟩
      clear hy
      have hzip : Array.foldl (fun (t : Array Value) (x : Tmp × Value) => match x with | (k, v) => t.setIfInBounds k v) a.tmps ((#[p, q] : Array Tmp).zip #[cv (sq s b (i + 1)).1, .int .i64 (sq s b (i + 1)).2.1]) = (a.tmps.setIfInBounds p (cv (sq s b (i + 1)).1)).setIfInBounds q (.int .i64 (sq s b (i + 1)).2.1) := by simp
      dsimp only
      rw [hzip]
      refine hassign _ i X _ hi hic ?_
      intro Y hkY hkb hi'
      have hl' := hkY.same _ _ (by omega) hl rfl
      have hd' := hkY.same _ _ (by omega) hd rfl
      have hsz := hkY.size
      refine ⟨_, run_beginRound hl' (by rw [hrec]), ?_⟩
      have hl2 : (Y.putObj (w.heap.size + 1) (.loop { rec .ready none with state := .busy })).heap[w.heap.size + 1]? = some (.loop { rec .ready none with state := .busy }) := World.putObj_heap_same (Array.getElem?_eq_some_iff.1 hl').1
      have hd2 : (Y.putObj (w.heap.size + 1) (.loop { rec .ready none with state := .busy })).heap[w.heap.size]? = some (.deferred (some [])) := (World.putObj_heap_other (by omega)).trans hd'
      have hkb2 := kb_put (S := S) hl' rfl (.loop { rec .ready none with state := .busy })
      have hi2 := hI2 _ _ _ (kc_put (B := w.heap.size) (l := w.heap.size + 1) (by omega) (.loop { rec .ready none with state := .busy })) hi'
      have hkb3 := hkb.trans hkb2
      clear hkb hkb2 hi'
      generalize Y.putObj (w.heap.size + 1) (.loop { rec .ready none with state := .busy }) = Z at hl2 hd2 hi2 hkb3 ⊢
      refine wpIn_mono (hbody _ i _ (by omega) hi2 hic) ?_
      have fin : ∀ (jump : Option Code) (Z' : World), KeepsFrom w.heap.size Z Z' →
          (Instr.endRound (w.heap.size + 1) jump).run Tryd.prog Z' = .ok (.bool jump.isNone) (Z'.putObj (w.heap.size + 1) (.loop (rec (if jump.isNone then .ready else .done) jump))) ∧
          Z'.heap[w.heap.size + 1]? = some (.loop { rec .ready none with state := .busy }) ∧
          (Z'.putObj (w.heap.size + 1) (.loop (rec (if jump.isNone then .ready else .done) jump))).heap[w.heap.size + 1]? = some (.loop (rec (if jump.isNone then .ready else .done) jump)) ∧
          (Z'.putObj (w.heap.size + 1) (.loop (rec (if jump.isNone then .ready else .done) jump))).heap[w.heap.size]? = some (.deferred (some [])) := fun jump Z' hk3 => by
        have hl3 := hk3.same _ _ (by omega) hl2 rfl
        have hrun := run_endRound (P := Tryd.prog) jump hl3
        rw [hrec] at hrun ⊢
        exact ⟨hrun, by rw [hrec] at hl3; exact hl3, World.putObj_heap_same (Array.getElem?_eq_some_iff.1 hl3).1, (World.putObj_heap_other (by omega)).trans (hk3.same _ _ (Nat.le_refl _) hd2 rfl)⟩
      rintro e a3 Z' hp
      cases e with
      | normal =>
        obtain ⟨hk3, hkp3, hi3⟩ := hp
        obtain ⟨hr, hl3, hl4, hd4⟩ := fin none Z' hk3
        exact ⟨_, _, hr, .inl ⟨rfl, ⟨hI _ _ _ (kc_put (by omega) _) hi3, hl4, hd4, by simp; have := (Array.getElem?_eq_some_iff.1 hl3).1; omega⟩, hkb3.trans (hkp3.trans (kb_put hl3 rfl _))⟩⟩
      | ret =>
        obtain ⟨hr, hl3, hl4, hd4⟩ := fin (some .ret) Z' hp.1
        exact ⟨_, _, hr, .inr ⟨rfl, .ret, hIx _ _ _ _ (kc_put (by omega) _) hp.2, hl4, hd4⟩⟩
      | exit id =>
        obtain ⟨hr, hl3, hl4, hd4⟩ := fin (some (.exit id)) Z' hp.1
        exact ⟨_, _, hr, .inr ⟨rfl, .exit id, hIx _ _ _ _ (kc_put (by omega) _) hp.2, hl4, hd4⟩⟩
      | goto t =>
        obtain ⟨hr, hl3, hl4, hd4⟩ := fin (some (.goto t)) Z' hp.1
        exact ⟨_, _, hr, .inr ⟨rfl, .goto t, hIx _ _ _ _ (kc_put (by omega) _) hp.2, hl4, hd4⟩⟩
      | panic ch => exact hp.elim
      | outgrown => exact hp.elim
    · rintro e W2 ⟨⟨v, rfl⟩, (⟨hi, hl, hd, -⟩ | ⟨i, hic, c, hi, hl, hd⟩)⟩
      · exact ⟨none, _, by have hrun := run_endLoop (P := Tryd.prog) hl (by rw [hrec]; simp); rw [hrec] at hrun; exact hrun, hdone _ _ (Nat.le_refl _) (hI _ _ _ (kc_put (by omega) _) hi) ((World.putObj_heap_other (by omega)).trans hd)⟩
      · exact ⟨some c, _, by have hrun := run_endLoop (P := Tryd.prog) hl (by rw [hrec]; simp); rw [hrec] at hrun; exact hrun, hstop _ c i _ (Nat.le_refl _) hic (hIx _ _ _ _ (kc_put (by omega) _) hi) ((World.putObj_heap_other (by omega)).trans hd)⟩
end Go.Proofs.YtgnpbedhpkmkfaaDoor.Rv
