/-
  A range over pieces: the loop's law.
-/
import Derived.Test.YtjoapeeljigjcaaDoorPi
namespace Go.Proofs.YtjoapeeljigjcaaDoor.Pz
open Go Go.RowKit Go.Shelf Kit Bk
set_option linter.unusedVariables false

attribute [local go_sem] Oper.semAt_some

theorem pieces_in (n : Nat) (av nv : Int) (w : World) :
    CallsIn Fence.wide n Tryd.prog 39 #[.int .u32 av, .int .i64 nv] w fun e w' => e = .returned (.func (.func 64) #[] #[.pointer (some ⟨w.heap.size, 0, none⟩), .pointer (some ⟨w.heap.size + 1, 0, none⟩)]) ∧ w' = (w.alloc (.cells #[.int .u32 av] 25)).alloc (.cells #[.int .i64 nv] 3) := by
  refine callsIn_of_wp Tryd.func39 rfl trivial ?_ rfl
  simp only [Tryd.ntmps39, List.size_toArray, List.length_cons, List.length_nil, Nat.reduceAdd, Nat.reduceSub, Array.replicate_succ, Array.replicate_zero, List.push_toArray, List.append_toArray, List.nil_append, List.cons_append]
  gi_wp2
  go_ret
  exact ⟨rfl, rfl⟩

/-- What a caller's own facts abide: all that lay below B, and all cells but pieces, lie as they lay. -/
structure Kc (B : Nat) (X Y : World) : Prop where
  os : Y.os = X.os
  tape : Y.tape = X.tape
  output : Y.output = X.output
  size : X.heap.size ≤ Y.heap.size
  block : ∀ k, k < X.heap.size → (k < B ∨ ∃ cs T z, T ≠ 92 ∧ X.heap[k]? = some (.cells cs T z)) → Y.heap[k]? = X.heap[k]?
theorem Kc.of_rp {B : Nat} {X Y : World} (h : Rp B X Y) : Kc B X Y := ⟨h.os, h.tape, h.output, h.size, fun k hk hn => h.block k hk (hn.imp id (fun ⟨cs, T, z, hT, hc⟩ cs' z' e => by rw [hc] at e; cases e; exact hT rfl))⟩
theorem Kc.putObj {B : Nat} {X : World} {l : Nat} {o : Obj} (hl : B ≤ l) (h : X.heap[l]? = some o) (hc : o.isCells = false) (o' : Obj) : Kc B X (X.putObj l o') :=
  ⟨rfl, rfl, rfl, by simp, fun k hk hn => World.putObj_heap_other (fun e => by
    rcases hn with h1 | ⟨cs, T, z, hT, h1⟩
    · omega
    · rw [e, h] at h1; cases h1; cases hc)⟩
theorem Kc.alloc (B : Nat) (X : World) (o : Obj) : Kc B X (X.alloc o) := .of_rp (Rp.alloc B X o)
theorem Blk.kc {B : Nat} {X Y : World} {b : Nat} {cs : Array Value} {T : TypeId} (h : Blk X b cs T) (hk : Kc B X Y) (hT : T ≠ 92) : Blk Y b cs T := (hk.block b h.lt (.inr ⟨_, _, _, hT, h⟩)).trans h
theorem Kp.kc {S : Nat → Prop} {w X Y : World} (h : Kp S w X) (hk : Kc w.heap.size X Y) : Kp S w Y :=
  ⟨hk.os.trans h.os, hk.tape.trans h.tape, hk.output.trans h.output, Nat.le_trans h.size hk.size, fun k hl hn => (hk.block k (Nat.lt_of_lt_of_le hl h.size) (.inl hl)).trans (h.block k hl hn)⟩

/-- How a round may be left. -/
def Post (B Ba Bn : Nat) (I : Nat → World → Prop) (Ix : Code → Nat → World → Prop) (i : Nat) (W : World) : Exit → Act → World → Prop
  | .normal, _, W' => KeepsFrom B W W' ∧ Kb Ba Bn W W' ∧ I (i + 1) W'
  | .ret, _, W' => KeepsFrom B W W' ∧ Ix .ret i W'
  | .exit id, _, W' => KeepsFrom B W W' ∧ Ix (.exit id) i W'
  | .goto t, _, W' => KeepsFrom B W W' ∧ Ix (.goto t) i W'
  | .panic _, _, _ => False
  | .outgrown, _, _ => False

theorem kb_put {Ba Bn : Nat} {X : World} {l : Nat} {o : Obj} (h : X.heap[l]? = some o) (hc : o.isCells = false) (ha : l ≠ Ba) (hn : l ≠ Bn) (o' : Obj) : Kb Ba Bn X (X.putObj l o') := fun k hk hl => World.putObj_heap_other (fun e => by
  rcases hk with rfl | rfl | ⟨cs, z, hk⟩
  · exact ha e.symm
  · exact hn e.symm
  · rw [e, h] at hk; cases hk; cases hc)

/-- A range over pieces. -/
theorem pieces_loop {n : Nat} (h2 : 2 ≤ n) {g : Operand} {p : Tmp} {assign body : Code} {Q : Exit → Act → World → Prop} {a : Act} {w : World} (Ba Bn A m : Nat) (N : Int)
    (hg : a.eval g = .func (.func 64) #[] #[.pointer (some ⟨Ba, 0, none⟩), .pointer (some ⟨Bn, 0, none⟩)])
    (hN : N = (m : Int) ∨ (N ≤ 0 ∧ m = 0)) (hm : m < 9223372036854775808) (hA : A < 4294967296)
    (hBa : Blk w Ba #[.int .u32 (A : Int)] 25) (hBn : Blk w Bn #[.int .i64 N] 3)
    (I : Nat → World → Prop) (Ix : Code → Nat → World → Prop)
    (hI : ∀ i X Y, Kc w.heap.size X Y → I i X → I i Y) (hIx : ∀ c i X Y, Kc w.heap.size X Y → Ix c i X → Ix c i Y) (h0 : I 0 w) (a1 : Nat → Nat → Act)
    (hassign : ∀ (l i : Nat) (W : World) (K : Act → World → Prop), K (a1 W.heap.size i) (W.alloc (.cells (pcs A m i) 92)) →
      assign.wpIn (Fence.wide.inRound l) (n - 1 - 1) Tryd.prog (Exit.then K (fun _ _ _ => False)) { tmps := a.tmps.setIfInBounds p (.agg (pcs A m i)), defers := [] } W)
    (hbody : ∀ (l i G : Nat) (W : World), w.heap.size ≤ l → I i W → i < cn A m → w.heap.size ≤ G → Blk W G (pcs A m i) 92 → body.wpIn (Fence.wide.inRound l) (n - 1 - 1) Tryd.prog (Post w.heap.size Ba Bn I Ix i W) (a1 G i) W)
    (hdone : ∀ (D : Nat) (W : World), w.heap.size ≤ D → I (cn A m) W → W.heap[D]? = some (.deferred (some [])) → Q .normal { a with defers := { target := .collected D, args := #[] } :: a.defers } W)
    (hstop : ∀ (D : Nat) (c : Code) (i : Nat) (W : World), w.heap.size ≤ D → i < cn A m → Ix c i W → W.heap[D]? = some (.deferred (some [])) → c.wpIn Fence.wide n Tryd.prog Q { a with defers := { target := .collected D, args := #[] } :: a.defers } W) :
    (Code.rangeFunc g #[p] assign body).wpIn Fence.wide n Tryd.prog Q a w := by
  refine wpIn_rangeFunc ?_
  intro fn hfn
  have h1 : 1 ≤ n := by omega
  show ∃ l, _
  obtain ⟨rec, hrec⟩ : ∃ rec : LoopState → Option Code → Loop, rec = fun st pe => { state := st, pending := pe, fn, tmps := a.tmps, params := #[p], assign, body, defers := w.heap.size } := ⟨_, rfl⟩
  have hla : Ba < w.heap.size := hBa.lt
  have hln : Bn < w.heap.size := hBn.lt
  -- the two blocks of the loop's book-keeping
  have hD1 : ((w.alloc (.deferred (some []))).alloc (.loop (rec .ready none))).heap[w.heap.size]? = some (.deferred (some [])) := (Below.heap_alloc _ _ _ (by simp)).trans (World.alloc_heap_new w _)
  have hL1 : ((w.alloc (.deferred (some []))).alloc (.loop (rec .ready none))).heap[w.heap.size + 1]? = some (.loop (rec .ready none)) := by
    have := World.alloc_heap_new (w.alloc (.deferred (some []))) (.loop (rec .ready none))
    rwa [World.size_alloc] at this
  have hc1 : Kc w.heap.size w (w.alloc (.deferred (some []))) := Kc.alloc _ _ _
  have hI1 : I 0 ((w.alloc (.deferred (some []))).alloc (.loop (rec .ready none))) := hI _ _ _ (Kc.alloc _ _ _) (hI _ _ _ hc1 h0)
  have hA1 : Blk ((w.alloc (.deferred (some []))).alloc (.loop (rec .ready none))) Ba #[.int .u32 (A : Int)] 25 := (hBa.kept (.alloc (fun _ => False) _ _) (fun e => e)).kept (.alloc (fun _ => False) _ _) (fun e => e)
  have hB1 : Blk ((w.alloc (.deferred (some []))).alloc (.loop (rec .ready none))) Bn #[.int .i64 N] 3 := (hBn.kept (.alloc (fun _ => False) _ _) (fun e => e)).kept (.alloc (fun _ => False) _ _) (fun e => e)
  have hs1 : ((w.alloc (.deferred (some []))).alloc (.loop (rec .ready none))).heap.size = w.heap.size + 2 := by simp
  have hent : (Instr.enterLoop fn a.tmps #[p] assign body none).run Tryd.prog w = .ok (w.heap.size + 1, [{ target := .collected w.heap.size, args := #[] }]) ((w.alloc (.deferred (some []))).alloc (.loop (rec .ready none))) := by
    rw [hrec]
    exact run_enterLoop_outer _ _ _ _ _
  generalize (w.alloc (.deferred (some []))).alloc (.loop (rec .ready none)) = W1 at hD1 hL1 hI1 hA1 hB1 hs1 hent
  refine ⟨w.heap.size + 1, _, W1, { target := .fn (.func 64) #[.pointer (some ⟨Ba, 0, none⟩), .pointer (some ⟨Bn, 0, none⟩)], args := #[.func (.yield (w.heap.size + 1)) #[] #[]] }, W1, 64,
    #[.func (.yield (w.heap.size + 1)) #[] #[], .pointer (some ⟨Ba, 0, none⟩), .pointer (some ⟨Bn, 0, none⟩)], W1, hent, ?_, ?_, ?_, fun _ => h1, ?_⟩
  · simp only [resolve, hg]
    simp [go_sem]
  · intro f' hf'
    trivial
  · simp [invoke, go_sem]
  · refine (pieces1_in (n - 1) (by omega) (w.heap.size + 1) Ba Bn A m N hN hm hA
      (fun i W => I i W ∧ W.heap[w.heap.size + 1]? = some (.loop (rec .ready none)) ∧ W.heap[w.heap.size]? = some (.deferred (some [])) ∧ w.heap.size + 2 ≤ W.heap.size)
      (fun i W => ∃ c, Ix c i W ∧ W.heap[w.heap.size + 1]? = some (.loop (rec .done (some c))) ∧ W.heap[w.heap.size]? = some (.deferred (some [])))
      W1 w.heap.size (by omega) ?_ ?_ hA1 hB1 ⟨hI1, hL1, hD1, by omega⟩).mono ?_
    · rintro i X Y hr ⟨hi, hl, hd, hs⟩
      exact ⟨hI _ _ _ (Kc.of_rp hr) hi, (hr.block _ (Array.getElem?_eq_some_iff.1 hl).1 (.inr fun cs z e => by rw [hl] at e; cases e)).trans hl, (hr.block _ (Array.getElem?_eq_some_iff.1 hd).1 (.inr fun cs z e => by rw [hd] at e; cases e)).trans hd, Nat.le_trans hs hr.size⟩
    · -- a round
      rintro i X ⟨hi, hl, hd, hs⟩ hic
      have hy := run_yield (P := Tryd.prog) (args := #[.agg (pcs A m i)]) hl (by rw [hrec]; rfl)
      rw [hrec] at hy
      refine ⟨fn, _, assign, body, hy, roundIn_of_wpIn hfn ?_⟩
      clear hy
      have hzip : Array.foldl (fun (t : Array Value) (x : Tmp × Value) => match x with | (k, v) => t.setIfInBounds k v) a.tmps ((#[p] : Array Tmp).zip #[Value.agg (pcs A m i)]) = a.tmps.setIfInBounds p (.agg (pcs A m i)) := by simp
      dsimp only
      rw [hzip]
      refine hassign _ i X _ ?_
      have hG := Blk.new X (pcs A m i) 92
      have hl' := (Below.heap_alloc X (.cells (pcs A m i) 92) _ (Array.getElem?_eq_some_iff.1 hl).1).trans hl
      have hd' := (Below.heap_alloc X (.cells (pcs A m i) 92) _ (Array.getElem?_eq_some_iff.1 hd).1).trans hd
      have hi' := hI _ _ _ (Kc.alloc w.heap.size X (.cells (pcs A m i) 92)) hi
      have hkb : Kb Ba Bn X (X.alloc (.cells (pcs A m i) 92)) := fun k _ hk => Below.heap_alloc X _ k hk
      have hsz : X.heap.size ≤ (X.alloc (.cells (pcs A m i) 92)).heap.size := by simp
      generalize X.alloc (.cells (pcs A m i) 92) = Y at hG hl' hd' hi' hkb hsz ⊢
      refine ⟨_, run_beginRound hl' (by rw [hrec]), ?_⟩
      have hl2 : (Y.putObj (w.heap.size + 1) (.loop { rec .ready none with state := .busy })).heap[w.heap.size + 1]? = some (.loop { rec .ready none with state := .busy }) := World.putObj_heap_same (Array.getElem?_eq_some_iff.1 hl').1
      have hd2 : (Y.putObj (w.heap.size + 1) (.loop { rec .ready none with state := .busy })).heap[w.heap.size]? = some (.deferred (some [])) := (World.putObj_heap_other (by omega)).trans hd'
      have hkb2 := kb_put (Ba := Ba) (Bn := Bn) hl' rfl (by omega) (by omega) (.loop { rec .ready none with state := .busy })
      have hi2 := hI _ _ _ (Kc.putObj (B := w.heap.size) (by omega) hl' rfl (.loop { rec .ready none with state := .busy })) hi'
      have hG2 : Blk (Y.putObj (w.heap.size + 1) (.loop { rec .ready none with state := .busy })) X.heap.size (pcs A m i) 92 := (World.putObj_heap_other (by omega)).trans hG
      have hkb3 := hkb.trans hkb2
      clear hkb hkb2 hi'
      generalize Y.putObj (w.heap.size + 1) (.loop { rec .ready none with state := .busy }) = Z at hl2 hd2 hi2 hG2 hkb3 ⊢
      refine wpIn_mono (hbody _ i X.heap.size Z (by omega) hi2 hic (by omega) hG2) ?_
      have fin : ∀ (jump : Option Code) (Z' : World), KeepsFrom w.heap.size Z Z' →
          (Instr.endRound (w.heap.size + 1) jump).run Tryd.prog Z' = .ok (.bool jump.isNone) (Z'.putObj (w.heap.size + 1) (.loop (rec (if jump.isNone then .ready else .done) jump))) ∧
          Z'.heap[w.heap.size + 1]? = some (.loop { rec .ready none with state := .busy }) ∧
          (Z'.putObj (w.heap.size + 1) (.loop (rec (if jump.isNone then .ready else .done) jump))).heap[w.heap.size + 1]? = some (.loop (rec (if jump.isNone then .ready else .done) jump)) ∧
          (Z'.putObj (w.heap.size + 1) (.loop (rec (if jump.isNone then .ready else .done) jump))).heap[w.heap.size]? = some (.deferred (some [])) := fun jump Z' hk3 => by
        have hl3 := hk3.same _ _ (by omega) hl2 rfl
        have hrun := run_endRound (P := Tryd.prog) jump hl3
        rw [hrec] at hrun ⊢
        exact ⟨hrun, by rw [hrec] at hl3; exact hl3, World.putObj_heap_same (Array.getElem?_eq_some_iff.1 hl3).1, (World.putObj_heap_other (by omega)).trans (hk3.same _ _ (Nat.le_refl _) hd2 rfl)⟩
      rintro e a3 Z' hp
      cases e with
      | normal =>
        obtain ⟨hk3, hkp3, hi3⟩ := hp
        obtain ⟨hr, hl3, hl4, hd4⟩ := fin none Z' hk3
        exact ⟨_, _, hr, .inl ⟨rfl, ⟨hI _ _ _ (Kc.putObj (by omega) hl3 rfl _) hi3, hl4, hd4, by simp; have := (Array.getElem?_eq_some_iff.1 hl3).1; omega⟩, hkb3.trans (hkp3.trans (kb_put hl3 rfl (by omega) (by omega) _))⟩⟩
      | ret =>
        obtain ⟨hr, hl3, hl4, hd4⟩ := fin (some .ret) Z' hp.1
        exact ⟨_, _, hr, .inr ⟨rfl, .ret, hIx _ _ _ _ (Kc.putObj (by omega) hl3 rfl _) hp.2, hl4, hd4⟩⟩
      | exit id =>
        obtain ⟨hr, hl3, hl4, hd4⟩ := fin (some (.exit id)) Z' hp.1
        exact ⟨_, _, hr, .inr ⟨rfl, .exit id, hIx _ _ _ _ (Kc.putObj (by omega) hl3 rfl _) hp.2, hl4, hd4⟩⟩
      | goto t =>
        obtain ⟨hr, hl3, hl4, hd4⟩ := fin (some (.goto t)) Z' hp.1
        exact ⟨_, _, hr, .inr ⟨rfl, .goto t, hIx _ _ _ _ (Kc.putObj (by omega) hl3 rfl _) hp.2, hl4, hd4⟩⟩
      | panic ch => exact hp.elim
      | outgrown => exact hp.elim
    · rintro e W2 ⟨⟨v, rfl⟩, (⟨hi, hl, hd, -⟩ | ⟨i, hic, c, hi, hl, hd⟩)⟩
      · exact ⟨none, _, by have hrun := run_endLoop (P := Tryd.prog) hl (by rw [hrec]; simp); rw [hrec] at hrun; exact hrun, hdone _ _ (Nat.le_refl _) (hI _ _ _ (Kc.putObj (by omega) hl rfl _) hi) ((World.putObj_heap_other (by omega)).trans hd)⟩
      · exact ⟨some c, _, by have hrun := run_endLoop (P := Tryd.prog) hl (by rw [hrec]; simp); rw [hrec] at hrun; exact hrun, hstop _ c i _ (Nat.le_refl _) hic (hIx _ _ _ _ (Kc.putObj (by omega) hl rfl _) hi) ((World.putObj_heap_other (by omega)).trans hd)⟩
end Go.Proofs.YtjoapeeljigjcaaDoor.Pz
