/-
  The document's own pipe: Of, Read, Write, Open, Close, Ready.
-/
import Derived.Test.YtfpdbcjnhgddoaaRfb
namespace Go.Proofs.Ytfpdbcjnhgddoaa.Qm
open Go Go.RowKit Go.Shelf Kit Bk Rgm Rgt Rgp Rgn Rst Pm Pw Pr Ps Po Pn Psl Rfa Rfb
set_option linter.unusedVariables false

/-- The document's pipe at block p, its ring at block q. -/
structure QP (w : World) (base p q C : Nat) (xs : List Nat) (R U : Nat) : Prop where
  blk : Blk w p #[.pointer (some ⟨q, 0, none⟩), .int .i64 (R : Int), .int .i64 (U : Int)] 56
  ring : RB w base q C xs
  hx : xs.length ≤ C
  hC : C ≤ 64
  hR : R ≤ 64
  hU : U ≤ 64
theorem QP.below {w w' : World} {base p q C : Nat} {xs : List Nat} {R U : Nat} (h : QP w base p q C xs R U) (hb : Below w.heap.size w w') : QP w' base p q C xs R U := ⟨h.blk.below hb, h.ring.below hb, h.hx, h.hC, h.hR, h.hU⟩
theorem QP.base {w : World} {base b p q C : Nat} {xs : List Nat} {R U : Nat} (h : QP w base p q C xs R U) (hb : b ≤ base) : QP w b p q C xs R U := ⟨h.blk, h.ring.base hb, h.hx, h.hC, h.hR, h.hU⟩
theorem QP.ne {w : World} {base p q C : Nat} {xs : List Nat} {R U : Nat} (h : QP w base p q C xs R U) : p ≠ q := by
  obtain ⟨v, h1, _⟩ := h.ring
  exact Blk.ne h.blk h1 (by decide)
/-- Its cells. -/
theorem QP.cells {w : World} {base p q C : Nat} {xs : List Nat} {R U : Nat} (h : QP w base p q C xs R U) : w.cell? ⟨p, 0, none⟩ = some (.pointer (some ⟨q, 0, none⟩)) ∧ w.cell? ⟨p, 1, none⟩ = some (.int .i64 (R : Int)) ∧ w.cell? ⟨p, 2, none⟩ = some (.int .i64 (U : Int)) ∧ w.cell? ⟨q, 0, none⟩ = some (.int .i64 (C : Int)) ∧ ∃ a cap, w.cell? ⟨q, 1, none⟩ = some (.slice a xs.length cap) := by
  obtain ⟨v, h1, h2⟩ := h.ring
  obtain ⟨ad, cap, rfl⟩ := row_form h2
  exact ⟨h.blk.cell 0, h.blk.cell 1, h.blk.cell 2, h1.cell 0, ad, cap, h1.cell 1⟩
/-- What Read leaves behind. -/
def QReadR (w : World) (base p q C : Nat) (xs : List Nat) (R U : Nat) (n : Int) (e : Ending) (w' : World) : Prop :=
  Kr p q w w' ∧ QP w' (min base w.heap.size) p q C (rX xs R n) R U ∧ ∃ rv, e = .returned (.tuple #[rv, .int .i64 (rW xs R U n), .int .i64 (rE R n)]) ∧ w'.ownsRow w.heap.size 5 1 rv (rO xs R n).length (u8s (rO xs R n))
set_option maxHeartbeats 1000000 in
theorem qread_any (w : World) (base p q C : Nat) (xs : List Nat) (R U : Nat) (n : Int) (h : QP w base p q C xs R U) :
    Calls Try.prog 15 #[.pointer (some ⟨p, 0, none⟩), .int .i64 n] w (QReadR w base p q C xs R U n) := by
  obtain ⟨c0, c1, c2, c3, a, cap, c4⟩ := h.cells
  have HP := Lib.hid h
  have hx64 : (xs.length : Int) ≤ 64 := by have := h.hx; have := h.hC; omega
  by_cases hb : R = 0 ∨ n < 0
  · have hE : Hid (QReadR w base p q C xs R U n (.returned (.tuple #[.slice none 0 0, .int .i64 0, .int .i64 90])) w) := Lib.hid (by
      unfold QReadR rX rW rE rO
      simp only [if_pos hb]
      exact ⟨Kr.refl _ _ _, h.base (Nat.min_le_left _ _), _, rfl, World.ownsRow_nil _ _ _ _⟩)
    by_cases h0 : R = 0
    · subst h0
      clear h hb hx64
      go_enter Try.func15, Try.ntmps15
      go_wp2
      go_ret3
      exact hE.out
    · have d0 : ((R : Int) == 0) = false := beq_eq_false_iff_ne.2 (by omega)
      have d1 : decide (n < 0) = true := decide_eq_true (hb.resolve_left h0)
      clear h hb hx64 h0
      go_enter Try.func15, Try.ntmps15
      go_wp2
      go_ret3
      exact hE.out
  · have h0 : ¬ R = 0 := fun e => hb (.inl e)
    have d0 : ((R : Int) == 0) = false := beq_eq_false_iff_ne.2 (by omega)
    have d1 : decide (n < 0) = false := decide_eq_false (fun e => hb (.inr e))
    by_cases hn : n = 0
    · subst hn
      have hE : Hid (QReadR w base p q C xs R U 0 (.returned (.tuple #[.slice none 0 0, .int .i64 0, .int .i64 0])) w) := Lib.hid (by
        unfold QReadR rX rW rE rO
        simp only [if_neg hb, true_or, if_true, Int.toNat_zero, List.take_zero, List.drop_zero]
        exact ⟨Kr.refl _ _ _, h.base (Nat.min_le_left _ _), _, rfl, World.ownsRow_nil _ _ _ _⟩)
      clear h hb hx64 h0
      go_enter Try.func15, Try.ntmps15
      go_wp2
      go_ret3
      exact hE.out
    · have d2 : (n == 0) = false := beq_eq_false_iff_ne.2 hn
      by_cases hx : xs = []
      · subst hx
        have hd : ¬ (n = 0 ∨ ([] : List Nat) ≠ []) := by simp [hn]
        have hE : Hid (QReadR w base p q C [] R U n (.returned (.tuple #[.slice none 0 0, .int .i64 (if U = 0 then 2 else 1), .int .i64 0])) w) := Lib.hid (by
          unfold QReadR rX rW rE rO
          simp only [if_neg hb, if_neg hd]
          refine ⟨Kr.refl _ _ _, by simpa using h.base (Nat.min_le_left _ _), _, rfl, ?_⟩
          rw [List.take_nil]
          exact World.ownsRow_nil _ _ _ _)
        by_cases hU0 : U = 0
        · subst hU0
          clear h hb h0 hd hn
          go_enter Try.func15, Try.ntmps15
          go_wp2
          go_ret3
          exact hE.out
        · have d3 : decide ((0 : Int) < (U : Int)) = true := decide_eq_true (by omega)
          have d4 : decide (0 < U) = true := decide_eq_true (by omega)
          rw [if_neg hU0] at hE
          clear h hb h0 hd hn hU0
          go_enter Try.func15, Try.ntmps15
          go_wp2
          go_ret3
          exact hE.out
      · have hl := len_zero hx
        have d3 : decide ((0 : Int) < (xs.length : Int)) = true := decide_eq_true (by omega)
        have d4 : decide (0 < xs.length) = true := decide_eq_true (by omega)
        have HRd := Lib.hid (rread_any w base q C xs n h.ring (by omega))
        have hE : Hid (∀ w' rv, Kp (fun j => j = q) w w' → RB w' w.heap.size q C (xs.drop n.toNat) → w'.ownsRow w.heap.size 5 1 rv (xs.take n.toNat).length (u8s (xs.take n.toNat)) → QReadR w base p q C xs R U n (.returned (.tuple #[rv, .int .i64 0, .int .i64 0])) w') := Lib.hid (fun w' rv k1 k2 k3 => by
          unfold QReadR rX rW rE rO
          simp only [if_neg hb, if_pos (show n = 0 ∨ xs ≠ [] from .inr hx)]
          refine ⟨Kr.ring k1, ⟨HP.out.blk.kept k1 HP.out.ne, k2.base (Nat.min_le_right _ _), ?_, HP.out.hC, HP.out.hR, HP.out.hU⟩, _, rfl, k3⟩
          have := HP.out.hx
          rw [List.length_drop]
          omega)
        clear h hb h0 hn hx hl
        go_enter Try.func15, Try.ntmps15
        go_wp2_with (go_at_call 41; (with_reducible refine HRd.out.mono ?_); rintro e w1 ⟨k1, k2, rv, rfl, k3⟩)
        go_ret3
        exact hE.out _ _ k1 k2 k3
/-- What Write leaves behind. -/
def QWriteR (w : World) (base p q C : Nat) (xs : List Nat) (R U : Nat) (ys : List Nat) (e : Ending) (w' : World) : Prop :=
  e = .returned (.tuple #[.int .i64 (wN C xs R U ys : Int), .int .i64 (wW C xs R U ys), .int .i64 (wE U)]) ∧ Kr p q w w' ∧ QP w' (min base w.heap.size) p q C (wX C xs R U ys) R U
set_option maxHeartbeats 1000000 in
theorem qwrite_any (w : World) (base p q C : Nat) (xs : List Nat) (R U : Nat) (v : Value) (ys : List Nat) (h : QP w base p q C xs R U) (hv : Slc .u8 w v ys) :
    Calls Try.prog 13 #[.pointer (some ⟨p, 0, none⟩), v] w (QWriteR w base p q C xs R U ys) := by
  obtain ⟨c0, c1, c2, c3, a, cap, c4⟩ := h.cells
  have HP := Lib.hid h
  have HWr : Hid (∀ W, Below w.heap.size w W → W.cell? ⟨p, 0, none⟩ = some (.pointer (some ⟨q, 0, none⟩)) ∧ _) := Lib.hid (fun W hb => ⟨(h.below hb).blk.cell 0, rwrite_any W base q C xs v ys (h.below hb).ring h.hx h.hC (hv.below hb)⟩)
  have hx64 : (xs.length : Int) ≤ 64 := by have := h.hx; have := h.hC; omega
  have hx := h.hx
  have hC64 := h.hC
  obtain ⟨a2, cap2, rfl, hc1, hc2, -⟩ := hv
  unfold maxLen at hc2
  by_cases hU : U = 0
  · subst hU
    have hE : Hid (QWriteR w base p q C xs R 0 ys (.returned (.tuple #[.int .i64 0, .int .i64 0, .int .i64 90])) w) := Lib.hid (by
      unfold QWriteR wN wW wE wX
      simp only [true_or, if_true]
      exact ⟨rfl, Kr.refl _ _ _, h.base (Nat.min_le_left _ _)⟩)
    clear h hx hC64 hc1 hc2
    go_enter Try.func13, Try.ntmps13
    go_wp2
    go_ret3
    exact hE.out
  · have d0 : ((U : Int) == 0) = false := beq_eq_false_iff_ne.2 (by omega)
    by_cases hR : R = 0
    · subst hR
      have hE : Hid (QWriteR w base p q C xs 0 U ys (.returned (.tuple #[.int .i64 0, .int .i64 3, .int .i64 0])) w) := Lib.hid (by
        unfold QWriteR wN wW wE wX
        simp only [or_true, if_true, if_neg hU]
        exact ⟨rfl, Kr.refl _ _ _, h.base (Nat.min_le_left _ _)⟩)
      clear h hx hC64 hc1 hc2 hU
      go_enter Try.func13, Try.ntmps13
      go_wp2
      go_ret3
      exact hE.out
    · have d1 : ((R : Int) == 0) = false := beq_eq_false_iff_ne.2 (by omega)
      have hno : ¬ (U = 0 ∨ R = 0) := by omega
      by_cases hf : ys ≠ [] ∧ xs.length = C
      · have hE : Hid (∀ w', Below w.heap.size w w' → QWriteR w base p q C xs R U ys (.returned (.tuple #[.int .i64 0, .int .i64 1, .int .i64 0])) w') := Lib.hid (fun w' k => by
          unfold QWriteR wN wW wE wX
          simp only [if_neg hno, if_neg hU, if_neg hR, if_pos hf]
          rw [hf.2, Nat.sub_self]
          exact ⟨by simp, Kr.of_below k, by simpa using (HP.out.below k).base (Nat.min_le_left _ _)⟩)
        have hl := len_zero hf.1
        have d2 : decide ((0 : Int) < (ys.length : Int)) = true := decide_eq_true (by omega)
        have d3 : decide (0 < ys.length) = true := decide_eq_true (by omega)
        have d4 : ((xs.length : Int) == (C : Int)) = true := beq_iff_eq.2 (by omega)
        have d5 : (xs.length == C) = true := beq_iff_eq.2 hf.2
        have d6 : decide (xs.length = C) = true := decide_eq_true hf.2
        clear h hx hC64 hc1 hU hR hno hf hl HWr
        go_enter Try.func13, Try.ntmps13
        go_wp2
        go_quiet (fail)
        go_wp2
        go_ret3
        exact hE.out _ (below_drewN (Below.refl _ _) _)
      · have hE : Hid (∀ W w', Below w.heap.size w W → Kp (fun j => j = q) W w' → RB w' W.heap.size q C (xs ++ ys.take (C - xs.length)) → QWriteR w base p q C xs R U ys (.returned (.tuple #[.int .i64 ((min ys.length (C - xs.length) : Nat) : Int), .int .i64 0, .int .i64 0])) w') := Lib.hid (fun W w' k0 k1 k2 => by
          unfold QWriteR wN wW wE wX
          simp only [if_neg hno, if_neg hU, if_neg hR, if_neg hf]
          refine ⟨trivial, (Kr.of_below k0).trans (Kr.ring k1), ⟨(HP.out.below k0).blk.kept k1 HP.out.ne, k2.base (by have := k0.size; omega), ?_, HP.out.hC, HP.out.hR, HP.out.hU⟩⟩
          rw [List.length_append, List.length_take]
          omega)
        have hfd : (ys = [] ∨ (ys.length ≠ 0 ∧ xs.length ≠ C)) := by
          by_cases e : ys = []
          · exact .inl e
          · exact .inr ⟨len_zero e, fun e2 => hf ⟨e, e2⟩⟩
        generalize xs ++ ys.take (C - xs.length) = xs2 at *
        obtain ⟨N, hN⟩ : ∃ N : Int, ((min ys.length (C - xs.length) : Nat) : Int) = N := ⟨_, rfl⟩
        rw [hN] at HWr hE
        clear hN
        rcases hfd with rfl | ⟨hl, hne⟩
        · dsimp only [List.length_nil] at *
          clear h hx hC64 hc1 hU hR hno hf
          go_enter Try.func13, Try.ntmps13
          go_wp2
          go_quiet (fail)
          have hb1 := below_drewN (Below.refl w.heap.size w) nq
          obtain ⟨c0', hw1⟩ := HWr.out _ hb1
          have HW1 := Lib.hid hw1
          have HB1 := Lib.hid hb1
          clear c0 c1 c2 c3 c4 hw1 hb1 HWr
          generalize w.drewN nq = W1 at *
          go_wp2_with (go_at_call 38; (with_reducible refine HW1.out.mono ?_); rintro e w1 ⟨rfl, k1, k2⟩)
          go_ret3
          exact hE.out _ _ HB1.out k1 k2
        · have d2 : decide ((0 : Int) < (ys.length : Int)) = true := decide_eq_true (by omega)
          have d3 : decide (0 < ys.length) = true := decide_eq_true (by omega)
          have d4 : ((xs.length : Int) == (C : Int)) = false := beq_eq_false_iff_ne.2 (by omega)
          have d5 : (xs.length == C) = false := beq_eq_false_iff_ne.2 hne
          have d6 : decide (xs.length = C) = false := decide_eq_false hne
          clear h hx hC64 hc1 hU hR hno hf hl hne
          go_enter Try.func13, Try.ntmps13
          go_wp2
          go_quiet (fail)
          have hb1 := below_drewN (Below.refl w.heap.size w) nq
          obtain ⟨c0', hw1⟩ := HWr.out _ hb1
          have HW1 := Lib.hid hw1
          have HB1 := Lib.hid hb1
          clear c0 c1 c2 c3 c4 hw1 hb1 HWr
          generalize w.drewN nq = W1 at *
          go_wp2_with (go_at_call 38; (with_reducible refine HW1.out.mono ?_); rintro e w1 ⟨rfl, k1, k2⟩)
          go_ret3
          exact hE.out _ _ HB1.out k1 k2
/-- Ready. -/
theorem qready_any (w : World) (base p q C : Nat) (xs : List Nat) (R U : Nat) (s : Bool) (h : QP w base p q C xs R U) :
    Calls Try.prog 27 #[.pointer (some ⟨p, 0, none⟩), .bool s] w fun e w' => e = .returned (.bool (rdy C xs R U s)) ∧ Below w.heap.size w w' := by
  obtain ⟨c0, c1, c2, c3, a, cap, c4⟩ := h.cells
  have hx := h.hx
  have hx64 : (xs.length : Int) ≤ 64 := by have := h.hC; omega
  have hC64 : (C : Int) ≤ 64 := by have := h.hC; omega
  have HB : Hid (∀ n, Below w.heap.size w (w.drewN n)) := Lib.hid (fun n => below_drewN (Below.refl _ _) n)
  cases s
  · have hv : rdy C xs R U false = (decide (0 < R) && (U == 0 || decide (0 < xs.length))) := by
      unfold rdy mr sc
      cases xs <;> cases U <;> simp
      omega
    rw [hv]
    clear hv h hx
    by_cases h0 : 0 < R
    · have d0 : decide ((0 : Int) < (R : Int)) = true := decide_eq_true (by omega)
      have d1 : decide (0 < R) = true := decide_eq_true h0
      rw [d1, Bool.true_and]
      by_cases h1 : U = 0
      · subst h1
        clear h0
        go_enter Try.func27, Try.ntmps27
        go_wp2
        go_ret
        exact ⟨by simp, Below.refl _ _⟩
      · have d2 : ((U : Int) == 0) = false := beq_eq_false_iff_ne.2 (by omega)
        have d3 : (U == 0) = false := beq_eq_false_iff_ne.2 h1
        rw [d3, Bool.false_or]
        clear h0 h1
        go_enter Try.func27, Try.ntmps27
        go_wp2
        go_ret
        exact ⟨by simp, Below.refl _ _⟩
    · have d0 : decide ((0 : Int) < (R : Int)) = false := decide_eq_false (by omega)
      have d1 : decide (0 < R) = false := decide_eq_false h0
      rw [d1, Bool.false_and]
      clear h0
      go_enter Try.func27, Try.ntmps27
      go_wp2
      go_ret
      exact ⟨by simp, Below.refl _ _⟩
  · have hv : rdy C xs R U true = (decide (0 < U) && (R == 0 || decide (xs.length < C))) := by
      unfold rdy mw sc
      by_cases e : xs.length = C
      · have : ¬ xs.length < C := by omega
        cases R <;> simp [e]
      · have h1 : xs.length < C := by omega
        cases R <;> simp [h1]
        omega
    rw [hv]
    clear hv h hx
    by_cases h0 : 0 < U
    · have d0 : decide ((0 : Int) < (U : Int)) = true := decide_eq_true (by omega)
      have d1 : decide (0 < U) = true := decide_eq_true h0
      rw [d1, Bool.true_and]
      by_cases h1 : R = 0
      · subst h1
        clear h0
        go_enter Try.func27, Try.ntmps27
        go_wp2
        go_quiet (fail)
        go_wp2
        go_ret
        exact ⟨by simp, HB.out _⟩
      · have d2 : ((R : Int) == 0) = false := beq_eq_false_iff_ne.2 (by omega)
        have d3 : (R == 0) = false := beq_eq_false_iff_ne.2 h1
        rw [d3, Bool.false_or]
        clear h0 h1
        go_enter Try.func27, Try.ntmps27
        go_wp2
        go_quiet (fail)
        go_wp2
        go_ret
        exact ⟨by simp, HB.out _⟩
    · have d0 : decide ((0 : Int) < (U : Int)) = false := decide_eq_false (by omega)
      have d1 : decide (0 < U) = false := decide_eq_false h0
      rw [d1, Bool.false_and]
      clear h0
      go_enter Try.func27, Try.ntmps27
      go_wp2
      go_quiet (fail)
      go_wp2
      go_ret
      exact ⟨by simp, HB.out _⟩
end Go.Proofs.Ytfpdbcjnhgddoaa.Qm
