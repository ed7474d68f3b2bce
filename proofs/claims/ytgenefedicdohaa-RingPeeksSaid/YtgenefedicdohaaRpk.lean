/-
  RingPeeks: the walk.
-/
import Derived.Test.YtgenefedicdohaaRsl
import Derived.Deep.RegionHeld
namespace Go.Proofs.Ytgenefedicdohaa.Rpk
open Go Go.RowKit Go.Shelf Kit Bk Rgm Rgt Rgw Rgp Rgn Rst Ral Rop Rac Rsl
set_option linter.unusedVariables false
attribute [local go_sem ↓] min_wrap sl_wrap

/-- The law's call in its box, and its ring. -/
structure St (w W : World) (X r C : Nat) (kind n : Int) (bv : Value) (xs : List Nat) : Prop where
  bel : Below w.heap.size w W
  ring : Rg W r C xs
  box : Blk W X #[.int .i64 kind, bv, .int .i64 n] 33
  lr : w.heap.size ≤ r
theorem St.below {w W W' : World} {X r C : Nat} {kind n : Int} {bv : Value} {xs : List Nat} (h : St w W X r C kind n bv xs) (hb : Below W.heap.size W W') : St w W' X r C kind n bv xs :=
  ⟨h.bel.trans (hb.mono h.bel.size), h.ring.below hb, h.box.below hb, h.lr⟩
theorem St.ne {w W : World} {X r C : Nat} {kind n : Int} {bv : Value} {xs : List Nat} (h : St w W X r C kind n bv xs) : X ≠ r := by
  obtain ⟨cs, f, h1, _⟩ := h.ring
  exact Blk.ne h.box h1 (by decide)
theorem St.kr {w W W' : World} {X r C : Nat} {kind n : Int} {bv : Value} {xs ys : List Nat} (h : St w W X r C kind n bv xs) (hk : Kp (fun j => j = r) W W') (hr : Rg W' r C ys) : St w W' X r C kind n bv ys :=
  ⟨h.bel.trans (hk.below h.bel.size (fun j e => by have := h.lr; omega)), hr, h.box.kept hk h.ne, h.lr⟩
theorem St.x1 {w W : World} {X r C : Nat} {kind n : Int} {bv : Value} {xs : List Nat} (h : St w W X r C kind n bv xs) : W.cell? ⟨X, 1, none⟩ = some bv := h.box.cell 1
theorem St.x2 {w W : World} {X r C : Nat} {kind n : Int} {bv : Value} {xs : List Nat} (h : St w W X r C kind n bv xs) : W.cell? ⟨X, 2, none⟩ = some (.int .i64 n) := h.box.cell 2

/-- The law ends early. -/
def Far (l : List Opr) (o : Opr) : Prop := ¬ Fine l ∨ 300 < o.xs.length ∨ o.n < 0 ∨ 300 < o.n
set_option maxRecDepth 100000 in
set_option maxHeartbeats 2000000 in
theorem peeks_far (ct : Int) (v1 : Value) (l : List Opr) (o : Opr) (bv : Value) (w : World) (h1 : OpsAt w v1 l) (hs : Slc .u8 w bv o.xs) (hf : Far l o) :
    Calls Try.prog 7 #[.int .u8 ct, v1, .agg #[.int .i64 o.kind, bv, .int .i64 o.n]] w fun e w' => e = .returned (.bool true) ∧ Below w.heap.size w w' := by
  obtain ⟨kind, ys, n⟩ := o
  obtain ⟨a, cap, rfl, -⟩ := hs
  unfold Far at hf
  dsimp only at hf ⊢
  obtain ⟨wb, hwb⟩ : ∃ wb, w.alloc (.cells #[.int .i64 kind, .slice a ys.length cap, .int .i64 n] 33) = wb := ⟨_, rfl⟩
  have hb : Below w.heap.size w wb := by rw [← hwb]; exact (Below.refl _ _).alloc (Nat.le_refl _) _
  have hx : Blk wb w.heap.size #[.int .i64 kind, .slice a ys.length cap, .int .i64 n] 33 := by rw [← hwb]; exact Blk.new _ _ _
  have HO := Lib.hid (h1.below hb)
  have HB := Lib.hid hb
  have HX := Lib.hid hx
  clear h1 hb hx
  by_cases g : Fine l
  · have HG := Lib.hid g
    by_cases g1 : 300 < ys.length
    · have d : decide ((300 : Int) < (ys.length : Int)) = true := decide_eq_true (by omega)
      clear hf g g1
      go_enter Try.func7, Try.ntmps7
      go_wp2_with (first | (go_at_call 23; (with_reducible refine (alive_any _).mono ?_); rintro e w1 ⟨rfl, b1⟩; have x1 := (HX.out.below b1).cell 1; have x2 := (HX.out.below b1).cell 2) | (go_at_call 8; (with_reducible refine (great_fine _ l _ (OpsAt.below HO.out b1) HG.out).mono ?_); rintro e w2 ⟨rfl, rfl⟩))
      go_ret
      exact ⟨rfl, HB.out.trans (b1.mono HB.out.size)⟩
    · have d : decide ((300 : Int) < (ys.length : Int)) = false := decide_eq_false (by omega)
      by_cases g2 : n < 0
      · have d2 : decide (n < 0) = true := decide_eq_true g2
        clear hf g g1 g2
        go_enter Try.func7, Try.ntmps7
        go_wp2_with (first | (go_at_call 23; (with_reducible refine (alive_any _).mono ?_); rintro e w1 ⟨rfl, b1⟩; have x1 := (HX.out.below b1).cell 1; have x2 := (HX.out.below b1).cell 2) | (go_at_call 8; (with_reducible refine (great_fine _ l _ (OpsAt.below HO.out b1) HG.out).mono ?_); rintro e w2 ⟨rfl, rfl⟩))
        go_ret
        exact ⟨rfl, HB.out.trans (b1.mono HB.out.size)⟩
      · have d2 : decide (n < 0) = false := decide_eq_false g2
        have d3 : decide (300 < n) = true := decide_eq_true (by rcases hf with h | h | h | h; exact absurd g h; omega; omega; exact h)
        clear hf g g1 g2
        go_enter Try.func7, Try.ntmps7
        go_wp2_with (first | (go_at_call 23; (with_reducible refine (alive_any _).mono ?_); rintro e w1 ⟨rfl, b1⟩; have x1 := (HX.out.below b1).cell 1; have x2 := (HX.out.below b1).cell 2) | (go_at_call 8; (with_reducible refine (great_fine _ l _ (OpsAt.below HO.out b1) HG.out).mono ?_); rintro e w2 ⟨rfl, rfl⟩))
        go_ret
        exact ⟨rfl, HB.out.trans (b1.mono HB.out.size)⟩
  · clear hf
    go_enter Try.func7, Try.ntmps7
    go_wp2_with (first | (go_at_call 23; (with_reducible refine (alive_any _).mono ?_); rintro e w1 ⟨rfl, b1⟩) | (go_at_call 8; (with_reducible refine (great_any _ l _ (OpsAt.below HO.out b1) g).mono ?_); rintro e w2 ⟨rfl, rfl⟩))
    go_ret
    exact ⟨rfl, HB.out.trans (b1.mono HB.out.size)⟩
end Go.Proofs.Ytgenefedicdohaa.Rpk
