/-
  A range over an iterator: the loop's law.
-/
import Derived.Test.YtkjcjodhpcfjiaaTed
namespace Go.Proofs.Ytkjcjodhpcfjiaa.Tee
open Go Go.RowKit Go.Shelf Kit Bk Tea Teb Tec Ted
set_option linter.unusedVariables false
attribute [local go_sem] Oper.semAt_some

theorem rising_in (n : Nat) (ad : Option Addr) (w : World) :
    CallsIn Fence.wide n Try.prog 38 #[.pointer ad] w fun e w' => e = .returned (.func (.func 44) #[] #[.pointer (some ⟨w.heap.size, 0, none⟩)]) ∧ w' = w.alloc (.cells #[.pointer ad] 22) := by
  refine callsIn_of_wp Try.func38 rfl trivial ?_ rfl
  simp only [Try.ntmps38, List.size_toArray, List.length_cons, List.length_nil, Nat.reduceAdd, Nat.reduceSub, Array.replicate_succ, Array.replicate_zero, List.push_toArray, List.append_toArray, List.nil_append, List.cons_append]
  gi_wp2
  go_ret
  exact ⟨rfl, rfl⟩
theorem children_in (n : Nat) (ad : Option Addr) (p : Int) (w : World) :
    CallsIn Fence.wide n Try.prog 28 #[.pointer ad, .int .i64 p] w fun e w' => e = .returned (.func (.func 40) #[] #[.pointer (some ⟨w.heap.size, 0, none⟩), .pointer (some ⟨w.heap.size + 1, 0, none⟩)]) ∧ w' = (w.alloc (.cells #[.pointer ad] 22)).alloc (.cells #[.int .i64 p] 3) := by
  refine callsIn_of_wp Try.func28 rfl trivial ?_ rfl
  simp only [Try.ntmps28, List.size_toArray, List.length_cons, List.length_nil, Nat.reduceAdd, Nat.reduceSub, Array.replicate_succ, Array.replicate_zero, List.push_toArray, List.append_toArray, List.nil_append, List.cons_append]
  gi_wp2
  go_ret
  exact ⟨rfl, rfl⟩

/-- What lay ahead of a round (below s0) stays. -/
def StayB (s0 : Nat) (P : Nat → Prop) (b : Nat) (X Y : World) : Prop := ∀ k cs T z, k < s0 → X.heap[k]? = some (.cells cs T z) → ¬ Mine P b X k → Y.heap[k]? = some (.cells cs T z) ∧ ¬ Mine P b Y k
theorem StayB.of {s0 : Nat} {P : Nat → Prop} {b : Nat} {X Y : World} (h : Stay P b X Y) : StayB s0 P b X Y := fun k cs T z _ hk hn => h k cs T z hk hn
/-- How a round may be left. -/
def Post (s0 B0 : Nat) (P : Nat → Prop) (b : Nat) (I : Nat → World → Prop) (Ix : Code → Nat → World → Prop) (i : Nat) (W : World) : Exit → Act → World → Prop
  | .normal, _, W' => KeepsFrom B0 W W' ∧ StayB s0 P b W W' ∧ I (i + 1) W'
  | .ret, _, W' => KeepsFrom B0 W W' ∧ Ix .ret i W'
  | .exit id, _, W' => KeepsFrom B0 W W' ∧ Ix (.exit id) i W'
  | .goto t, _, W' => KeepsFrom B0 W W' ∧ Ix (.goto t) i W'
  | .panic _, _, _ => False
  | .outgrown, _, _ => False
theorem Kz.mono {B B' : Nat} {X Y : World} (h : Kz B X Y) (hB : B' ≤ B) : Kz B' X Y := ⟨h.os, h.tape, h.output, h.size, fun k hk hn => h.block k hk (hn.imp (fun h => by omega) id)⟩
theorem kf_put {B l : Nat} (hl : l < B) (X : World) (o : Obj) : KeepsFrom B X (X.putObj l o) := ⟨by simp, fun k o' hk ho _ => (World.putObj_heap_other (by omega)).trans ho⟩
theorem kf_below {B : Nat} {X Y : World} (h : Below X.heap.size X Y) : KeepsFrom B X Y := ⟨h.size, fun k o _ ho _ => (h.block k (Array.getElem?_eq_some_iff.1 ho).1).trans ho⟩
theorem kf_mono {B B' : Nat} {X Y : World} (h : KeepsFrom B X Y) (hB : B ≤ B') : KeepsFrom B' X Y := ⟨h.size, fun k o hk ho hc => h.same k o (by omega) ho hc⟩

theorem tells_loop {n : Nat} (h2 : 1 ≤ n) {g : Operand} {p1 p2 : Tmp} {assign body : Code} {Q : Exit → Act → World → Prop} {a : Act} {w : World} {F : FuncId} {fv : Array Value} {c : Nat} {v1 v2 : Nat → Value} {E : Nat → World → Prop} {P : Nat → Prop} {b : Nat}
    (eg : ∀ args w, (callFunc F args).run Try.prog w = .ok (.enter F args) w)
    (hg : a.eval g = .func (.func F) #[] fv) (hP : ∀ k, P k → k < w.heap.size)
    (hT : ∀ W1, Below w.heap.size w W1 → W1.heap.size = w.heap.size + 2 → Tells P b F fv c (fun i => #[v1 i, v2 i]) E W1)
    (I : Nat → World → Prop) (Ix : Code → Nat → World → Prop) (hE : ∀ i X, I i X → E i X)
    (hI : ∀ i X Y, Kz w.heap.size X Y → I i X → I i Y) (hIx : ∀ c i X Y, Kz w.heap.size X Y → Ix c i X → Ix c i Y)
    (Ax : Nat → Nat → Act → World → Prop) (hAx : ∀ s0 i a' X Y, Kz w.heap.size X Y → Ax s0 i a' X → Ax s0 i a' Y) (h0 : I 0 w)
    (hassign : ∀ (l i : Nat) (W : World) (K : Act → World → Prop), i < c → I i W → w.heap.size ≤ W.heap.size → (∀ a' W', Below W.heap.size W W' → Ax W.heap.size i a' W' → K a' W') →
      assign.wpIn (Fence.wide.inRound l) (n - 1 - 1) Try.prog (Exit.then K (fun _ _ _ => False)) { tmps := (a.tmps.setIfInBounds p1 (v1 i)).setIfInBounds p2 (v2 i), defers := [] } W)
    (hbody : ∀ (l i s0 : Nat) (a' : Act) (W : World), w.heap.size ≤ l → I i W → Ax s0 i a' W → i < c → w.heap.size ≤ s0 → s0 ≤ W.heap.size → body.wpIn (Fence.wide.inRound l) (n - 1 - 1) Try.prog (Post s0 w.heap.size P b I Ix i W) a' W)
    (hdone : ∀ (D : Nat) (W : World), w.heap.size ≤ D → I c W → W.heap[D]? = some (.deferred (some [])) → Q .normal { a with defers := { target := .collected D, args := #[] } :: a.defers } W)
    (hstop : ∀ (D : Nat) (cc : Code) (i : Nat) (W : World), w.heap.size ≤ D → i < c → Ix cc i W → W.heap[D]? = some (.deferred (some [])) → cc.wpIn Fence.wide n Try.prog Q { a with defers := { target := .collected D, args := #[] } :: a.defers } W) :
    (Code.rangeFunc g #[p1, p2] assign body).wpIn Fence.wide n Try.prog Q a w := by
  refine wpIn_rangeFunc ?_
  intro fn hfn
  show ∃ l, _
  obtain ⟨rec, hrec⟩ : ∃ rec : LoopState → Option Code → Loop, rec = fun st pe => { state := st, pending := pe, fn, tmps := a.tmps, params := #[p1, p2], assign, body, defers := w.heap.size } := ⟨_, rfl⟩
  have hD1 : ((w.alloc (.deferred (some []))).alloc (.loop (rec .ready none))).heap[w.heap.size]? = some (.deferred (some [])) := (Below.heap_alloc _ _ _ (by simp)).trans (World.alloc_heap_new w _)
  have hL1 : ((w.alloc (.deferred (some []))).alloc (.loop (rec .ready none))).heap[w.heap.size + 1]? = some (.loop (rec .ready none)) := by
    have := World.alloc_heap_new (w.alloc (.deferred (some []))) (.loop (rec .ready none))
    rwa [World.size_alloc] at this
  have hbel : Below w.heap.size w ((w.alloc (.deferred (some []))).alloc (.loop (rec .ready none))) := ((Below.refl _ w).alloc (Nat.le_refl _) _).alloc (by simp) _
  have hI1 : I 0 ((w.alloc (.deferred (some []))).alloc (.loop (rec .ready none))) := hI _ _ _ (Kz.of_below hbel) h0
  have hs1 : ((w.alloc (.deferred (some []))).alloc (.loop (rec .ready none))).heap.size = w.heap.size + 2 := by simp
  have hT1 := hT _ hbel hs1
  have hent : (Instr.enterLoop fn a.tmps #[p1, p2] assign body none).run Try.prog w = .ok (w.heap.size + 1, [{ target := .collected w.heap.size, args := #[] }]) ((w.alloc (.deferred (some []))).alloc (.loop (rec .ready none))) := by
    rw [hrec]
    exact run_enterLoop_outer _ _ _ _ _
  clear hbel hT
  generalize (w.alloc (.deferred (some []))).alloc (.loop (rec .ready none)) = W1 at hD1 hL1 hI1 hT1 hs1 hent
  refine ⟨w.heap.size + 1, _, W1, { target := .fn (.func F) fv, args := #[.func (.yield (w.heap.size + 1)) #[] #[]] }, W1, F,
    #[.func (.yield (w.heap.size + 1)) #[] #[]] ++ fv, W1, hent, ?_, ?_, ?_, fun _ => h2, ?_⟩
  · simp only [resolve, hg]
    simp [go_sem]
  · intro f' hf'
    trivial
  · simp [invoke, go_sem, eg]
  · refine (calls_any (hT1 (w.heap.size + 1)
      (fun i W => I i W ∧ W.heap[w.heap.size + 1]? = some (.loop (rec .ready none)) ∧ W.heap[w.heap.size]? = some (.deferred (some [])) ∧ w.heap.size + 2 ≤ W.heap.size)
      (fun i W => ∃ c, Ix c i W ∧ W.heap[w.heap.size + 1]? = some (.loop (rec .done (some c))) ∧ W.heap[w.heap.size]? = some (.deferred (some [])))
      ?_ ?_ ?_ ?_ ⟨hI1, hL1, hD1, by omega⟩)).mono ?_
    · rintro i X Y hr ⟨hi, hl, hd, hs⟩
      exact ⟨hI _ _ _ (Tee.Kz.mono hr (by omega)) hi, (hr.block _ (Array.getElem?_eq_some_iff.1 hl).1 (.inl (by omega))).trans hl, (hr.block _ (Array.getElem?_eq_some_iff.1 hd).1 (.inl (by omega))).trans hd, Nat.le_trans hs hr.size⟩
    · rintro i X Y hr ⟨cc, hi, hl, hd⟩
      exact ⟨cc, hIx _ _ _ _ (Tee.Kz.mono hr (by omega)) hi, (hr.block _ (Array.getElem?_eq_some_iff.1 hl).1 (.inl (by omega))).trans hl, (hr.block _ (Array.getElem?_eq_some_iff.1 hd).1 (.inl (by omega))).trans hd⟩
    · rintro i X ⟨hi, -⟩
      exact hE i X hi
    · -- a round
      rintro i X hic ⟨hi, hl, hd, hs⟩
      have hy := run_yield (P := Try.prog) (args := #[v1 i, v2 i]) hl (by rw [hrec]; rfl)
      rw [hrec] at hy
      refine ⟨fn, _, assign, body, hy, ?_⟩
      refine round_any (n := n - 1 - 1) (roundIn_of_wpIn hfn ?_)
      clear hy
      have hzip : Array.foldl (fun (t : Array Value) (x : Tmp × Value) => match x with | (k, v) => t.setIfInBounds k v) a.tmps ((#[p1, p2] : Array Tmp).zip #[v1 i, v2 i]) = (a.tmps.setIfInBounds p1 (v1 i)).setIfInBounds p2 (v2 i) := by simp
      dsimp only
      rw [hzip]
      refine hassign _ i X _ hic hi (by omega) ?_
      intro a1 V hXV hax
      have hlV : V.heap[w.heap.size + 1]? = some (.loop (rec .ready none)) := (hXV.block _ (Array.getElem?_eq_some_iff.1 hl).1).trans hl
      have hdV : V.heap[w.heap.size]? = some (.deferred (some [])) := (hXV.block _ (Array.getElem?_eq_some_iff.1 hd).1).trans hd
      have hiV : I i V := hI _ _ _ (Kz.of_below hXV) hi
      have hkV : KeepsFrom W1.heap.size X V := kf_below hXV
      have hsV : Stay P b X V := Stay.below (fun k hk => by have := hP k hk; omega) hXV
      have hszV := hXV.size
      refine ⟨_, run_beginRound hlV (by rw [hrec]), ?_⟩
      have hl2 : (V.putObj (w.heap.size + 1) (.loop { rec .ready none with state := .busy })).heap[w.heap.size + 1]? = some (.loop { rec .ready none with state := .busy }) := World.putObj_heap_same (Array.getElem?_eq_some_iff.1 hlV).1
      have hd2 : (V.putObj (w.heap.size + 1) (.loop { rec .ready none with state := .busy })).heap[w.heap.size]? = some (.deferred (some [])) := (World.putObj_heap_other (by omega)).trans hdV
      have hnP : ¬ P (w.heap.size + 1) := fun e => by have := hP _ e; omega
      have hkb3 : Stay P b X (V.putObj (w.heap.size + 1) (.loop { rec .ready none with state := .busy })) := hsV.trans (Stay.put hnP hlV rfl _)
      have hkf3 : KeepsFrom W1.heap.size X (V.putObj (w.heap.size + 1) (.loop { rec .ready none with state := .busy })) := hkV.trans (kf_put (by omega) _ _)
      have hkz : Kz w.heap.size V (V.putObj (w.heap.size + 1) (.loop { rec .ready none with state := .busy })) := Kz.putObj (B0 := w.heap.size) (by omega) hlV rfl (.loop { rec .ready none with state := .busy })
      have hi2 := hI _ _ _ hkz hiV
      have ha2 := hAx _ _ _ _ _ hkz hax
      have hszZ : V.heap.size ≤ (V.putObj (w.heap.size + 1) (.loop { rec .ready none with state := .busy })).heap.size := by simp
      generalize V.putObj (w.heap.size + 1) (.loop { rec .ready none with state := .busy }) = Z at hl2 hd2 hi2 hkb3 ha2 hkf3 hszZ ⊢
      refine wpIn_mono (hbody _ i X.heap.size a1 Z (by omega) hi2 ha2 hic (by omega) (by omega)) ?_
      have fin : ∀ (jump : Option Code) (Z' : World), KeepsFrom w.heap.size Z Z' →
          (Instr.endRound (w.heap.size + 1) jump).run Try.prog Z' = .ok (.bool jump.isNone) (Z'.putObj (w.heap.size + 1) (.loop (rec (if jump.isNone then .ready else .done) jump))) ∧
          Z'.heap[w.heap.size + 1]? = some (.loop { rec .ready none with state := .busy }) ∧
          (Z'.putObj (w.heap.size + 1) (.loop (rec (if jump.isNone then .ready else .done) jump))).heap[w.heap.size + 1]? = some (.loop (rec (if jump.isNone then .ready else .done) jump)) ∧
          (Z'.putObj (w.heap.size + 1) (.loop (rec (if jump.isNone then .ready else .done) jump))).heap[w.heap.size]? = some (.deferred (some [])) ∧
          KeepsFrom W1.heap.size X (Z'.putObj (w.heap.size + 1) (.loop (rec (if jump.isNone then .ready else .done) jump))) := fun jump Z' hk3 => by
        have hl3 := hk3.same _ _ (by omega) hl2 rfl
        have hrun := run_endRound (P := Try.prog) jump hl3
        rw [hrec] at hrun ⊢
        exact ⟨hrun, by rw [hrec] at hl3; exact hl3, World.putObj_heap_same (Array.getElem?_eq_some_iff.1 hl3).1, (World.putObj_heap_other (by omega)).trans (hk3.same _ _ (Nat.le_refl _) hd2 rfl),
          (hkf3.trans (kf_mono hk3 (by omega))).trans (kf_put (by omega) _ _)⟩
      rintro e a3 Z' hp
      cases e with
      | normal =>
        obtain ⟨hk3, hkp3, hi3⟩ := hp
        obtain ⟨hr, hl3, hl4, hd4, hkk⟩ := fin none Z' hk3
        exact ⟨_, _, hr, hkk, .inl ⟨rfl, ⟨hI _ _ _ (Kz.putObj (by omega) hl3 rfl _) hi3, hl4, hd4, by simp; have := (Array.getElem?_eq_some_iff.1 hl3).1; omega⟩, (fun k cs T z hk hn => by
          obtain ⟨e1, e2⟩ := hkb3 k cs T z hk hn
          obtain ⟨e3, e4⟩ := hkp3 k cs T z (Array.getElem?_eq_some_iff.1 hk).1 e1 e2
          exact Stay.put hnP hl3 rfl _ k cs T z e3 e4)⟩⟩
      | ret =>
        obtain ⟨hr, hl3, hl4, hd4, hkk⟩ := fin (some .ret) Z' hp.1
        exact ⟨_, _, hr, hkk, .inr ⟨rfl, .ret, hIx _ _ _ _ (Kz.putObj (by omega) hl3 rfl _) hp.2, hl4, hd4⟩⟩
      | exit id =>
        obtain ⟨hr, hl3, hl4, hd4, hkk⟩ := fin (some (.exit id)) Z' hp.1
        exact ⟨_, _, hr, hkk, .inr ⟨rfl, .exit id, hIx _ _ _ _ (Kz.putObj (by omega) hl3 rfl _) hp.2, hl4, hd4⟩⟩
      | goto t =>
        obtain ⟨hr, hl3, hl4, hd4, hkk⟩ := fin (some (.goto t)) Z' hp.1
        exact ⟨_, _, hr, hkk, .inr ⟨rfl, .goto t, hIx _ _ _ _ (Kz.putObj (by omega) hl3 rfl _) hp.2, hl4, hd4⟩⟩
      | panic ch => exact hp.elim
      | outgrown => exact hp.elim
    · rintro e W2 ⟨⟨v, rfl⟩, (⟨hi, hl, hd, -⟩ | ⟨i, hic, cc, hi, hl, hd⟩)⟩
      · exact ⟨none, _, by have hrun := run_endLoop (P := Try.prog) hl (by rw [hrec]; simp); rw [hrec] at hrun; exact hrun, hdone _ _ (Nat.le_refl _) (hI _ _ _ (Kz.putObj (by omega) hl rfl _) hi) ((World.putObj_heap_other (by omega)).trans hd)⟩
      · exact ⟨some cc, _, by have hrun := run_endLoop (P := Try.prog) hl (by rw [hrec]; simp); rw [hrec] at hrun; exact hrun, hstop _ cc i _ (Nat.le_refl _) hic (hIx _ _ _ _ (Kz.putObj (by omega) hl rfl _) hi) ((World.putObj_heap_other (by omega)).trans hd)⟩
theorem eg_rising (args : Array Value) (w : World) : (callFunc 44 args).run Try.prog w = .ok (.enter 44 args) w := enters_of Try.func44 (by kernel_rfl) rfl args w
theorem eg_children (args : Array Value) (w : World) : (callFunc 40 args).run Try.prog w = .ok (.enter 40 args) w := enters_of Try.func40 (by kernel_rfl) rfl args w
end Go.Proofs.Ytkjcjodhpcfjiaa.Tee
