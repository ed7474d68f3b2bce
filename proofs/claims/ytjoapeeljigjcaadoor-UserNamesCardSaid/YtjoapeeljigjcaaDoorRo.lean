/-
  A region that draws its order, in a round of a range over a function: what holds outside holds there.
-/
import Derived.Test.YtjoapeeljigjcaaDoorPl6
import Derived.Deep.RegionHeld
namespace Go.Proofs.YtjoapeeljigjcaaDoor.Ro
open Go Go.RowKit Go.Shelf Kit Bk Pz
set_option linter.unusedVariables false

theorem rowsIn_wide {n : Nat} {P : Program} {row : String} {args : Array Value} {w : World} {R : Value → World → Prop} (h : Rows P row args w R) : RowsIn Fence.wide n P row args w R :=
  fun c cs _ => let ⟨v, w', r, s⟩ := h c cs; ⟨v, w', r, stepsIn_wide.2 s⟩

theorem wpOp_round {P : Program} {ops : Array Oper} {Q : Exit → Act → World → Prop} {i : Nat} {K K' : Act → World → Prop} {a : Act} {w : World} (l n : Nat)
    (hnd : ∀ o c, ops[i]? = some o → o.op ≠ .defer c) (hQ : ∀ a w, ¬ Q .outgrown a w) (hK : ∀ a w, K a w → K' a w) (h : wpOp P ops Q i K a w) : wpOpIn (Fence.wide.inRound l) n P ops Q i K' a w := by
  unfold wpOp at h
  unfold wpOpIn
  cases ho : ops[i]? with
  | none => rw [ho] at h; exact hK _ _ h
  | some o =>
    rw [ho] at h
    dsimp only at h ⊢
    split
    · rename_i hw
      rw [if_pos hw] at h
      rcases h with h | ⟨-, hl⟩
      · refine ⟨fun _ _ => trivial, ?_⟩
        show o.uponIn _ n P a K' Q ((o.semAt (some l) a.eval).run P w)
        rw [Oper.semAt_some l a.eval o (fun c => hnd o c ho)]
        unfold Oper.wp at h
        generalize (execOp a.eval o).run P w = r at h ⊢
        cases r with
        | ok x w' =>
          cases x <;> simp only [Oper.upon, Oper.uponIn] at h ⊢
          case value v => exact hK _ _ h
          case skip => exact hK _ _ h
          case defer d => exact hK _ _ h
          case enter f args =>
            refine ⟨(fun e => by cases e), ?_⟩
            refine CallsIn.inRound l ((callsIn_wide (n := n - 1)).2 (h.mono fun e w'' he => ?_))
            cases e <;> first | exact hK _ _ he | exact he
          case row row args => exact ⟨(fun e => by cases e), RowsIn.mono (rowsIn_wide h) fun v w'' he => hK _ _ he⟩
        | halt x w' => cases x <;> simp only [Oper.upon, Oper.uponIn] at h ⊢ <;> exact h
      · obtain ⟨a0, w0, hq⟩ := hl
        exact (hQ _ _ hq).elim
    · rename_i hw
      rw [if_neg hw] at h
      exact ⟨fun _ _ => trivial, hK _ _ h⟩

theorem wpAny_round {P : Program} {ops : Array Oper} {md : Region.Mode} {Q : Exit → Act → World → Prop} (l n : Nat) (hnd : ∀ (i : Nat) (o : Oper) c, ops[i]? = some o → o.op ≠ .defer c) (hQ : ∀ a w, ¬ Q .outgrown a w) :
    ∀ (fuel : Nat) (listed : Array Bool) (a : Act) (w : World), wpAny P md ops Q fuel listed a w → wpAnyIn (Fence.wide.inRound l) n P md ops Q fuel listed a w
  | 0, _, _, _, h => h
  | fuel + 1, listed, a, w, h => ⟨h.1, fun i hi => wpOp_round l n (hnd i) hQ (fun a' w' h' => wpAny_round l n hnd hQ fuel _ a' w' h') (h.2 i hi)⟩

def notDefer (o : Oper) : Bool := match o.op with
  | .defer _ => false
  | _ => true

/-- The beginning, in a round: S is shown of the world behind the draw, once. -/
theorem round_held {P : Program} {ops : Array Oper} {Q : Exit → Act → World → Prop} {id : Nat} {a : Act} {w : World} {l n : Nat} (S : World → Prop) (hm : P.follows .mixedOrders = true) (hnd : ops.all notDefer = true) (hQ : ∀ a w, ¬ Q .outgrown a w) (hS : S w.drew)
    (h : S w.drew → wpAnyH P .any ops Q S ops.size (Array.replicate ops.size false) a w.drew) : (Code.region id ops true).wpIn (Fence.wide.inRound l) n P Q a w := by
  refine wpIn_region_any hm (wpAny_round l n (fun i o c hi e => ?_) hQ _ _ _ _ (wpAny_of_held _ _ _ _ (h hS)))
  have := Array.all_eq_true'.1 hnd o (Array.mem_of_getElem? hi)
  rw [notDefer, e] at this
  cases this

theorem below_kc {n B : Nat} {w X Y : World} (h : Below n w X) (hk : Kc B X Y) (hn : n ≤ w.heap.size) (hB : n ≤ B) : Below n w Y :=
  ⟨hk.os.trans h.os, hk.tape.trans h.tape, hk.output.trans h.output, Nat.le_trans h.size hk.size, fun k hl => (hk.block k (by have := h.size; omega) (.inl (by omega))).trans (h.block k hl)⟩
theorem keeps_below {w w' : World} (h : Below w.heap.size w w') : KeepsOthers w w' := ⟨h.size, fun k o hk _ => (h.block k (Array.getElem?_eq_some_iff.1 hk).1).trans hk⟩
theorem kb_below {Ba Bn : Nat} {w w' : World} (h : Below w.heap.size w w') : Kb Ba Bn w w' := fun k _ hl => h.block k hl
/-- A store into a variable of the caller's. -/
theorem kb_set {Ba Bn g : Nat} {w : World} {cs : Array Value} {T : TypeId} (h : Blk w g cs T) (hT : T ≠ 92) (ha : g ≠ Ba) (hn : g ≠ Bn) (i : Nat) (v : Value) : Kb Ba Bn w (w.setCell ⟨g, i, none⟩ v) :=
  Kb.kept (S := fun j => j = g) (Kp.set w g i v rfl) (fun e => ha e.symm) (fun e => hn e.symm) (fun k cs' z hc e => by
    rw [e] at hc
    rw [show w.heap[g]? = _ from h] at hc
    cases hc
    exact hT rfl)
/-- A region that goes on, and in no other way. -/
def Only (K : Act → World → Prop) : Exit → Act → World → Prop
  | .normal, a, w => K a w
  | _, _, _ => False
theorem wp_only {c : Code} {n : Nat} {P : Program} {K : Act → World → Prop} {Q : Exit → Act → World → Prop} {a : Act} {w : World} (h : c.wp P (Only K) a w) : c.wpIn Fence.wide n P (Exit.then K Q) a w :=
  wpIn_mono ((wpIn_wide (n := n)).2 h) (fun e a w hq => by cases e <;> first | exact hq | exact hq.elim)
end Go.Proofs.YtjoapeeljigjcaaDoor.Ro
