/-
  Write, Ready, Open and Close of a pipe.
-/
import Derived.Test.YtfpdbcjnhgddoaaPr
namespace Go.Proofs.Ytfpdbcjnhgddoaa.Ps
open Go Go.RowKit Go.Shelf Kit Bk Rgm Rgt Rgw Rgp Rgn Rst Pm Pw Px Pr
set_option linter.unusedVariables false

/-- What Write leaves behind. -/
def WriteR (w : World) (p r C : Nat) (xs : List Nat) (R U : Nat) (ys : List Nat) (e : Ending) (w' : World) : Prop :=
  e = .returned (.tuple #[.int .i64 (wN C xs R U ys : Int), .int .i64 (wW C xs R U ys), .int .i64 (wE U)]) ∧ Kr p r w w' ∧ Pp w' p r C (wX C xs R U ys) R U
set_option maxHeartbeats 1000000 in
theorem pwrite_any (w : World) (p r C : Nat) (xs : List Nat) (R U : Nat) (v : Value) (ys : List Nat) (h : Pp w p r C xs R U) (hv : Src w r v ys) :
    Calls Try.prog 12 #[.pointer (some ⟨p, 0, none⟩), v] w (WriteR w p r C xs R U ys) := by
  have HM := Lib.hid (made_ok w p r _ _ h.blk)
  have HC0 := Lib.hid (count_rd w p r _ _ h.blk)
  have HC1 := Lib.hid (count_wr w p r _ _ h.blk)
  have HW := Lib.hid (waits_any w p r C xs R U true h)
  have HP := Lib.hid h
  have c0 : w.cell? ⟨p, 0, none⟩ = some (.pointer (some ⟨r, 0, none⟩)) := h.blk.cell 0
  have hcl := h.ring.cap_le
  have HV := Lib.hid hv
  obtain ⟨a, cap, rfl, hc1, hc2, -⟩ := hv
  unfold maxLen at hc2
  by_cases hU : U = 0
  · subst hU
    have hE : Hid (WriteR w p r C xs R 0 ys (.returned (.tuple #[.int .i64 0, .int .i64 0, .int .i64 90])) w) := Lib.hid (by
      unfold WriteR wN wW wE wX
      simp only [true_or, if_true]
      exact ⟨rfl, Kr.refl _ _ _, h⟩)
    clear h c0 hcl hc1 hc2
    go_enter Try.func12, Try.ntmps12
    go_wp2_with (first | (go_at_call 34; (with_reducible refine HM.out.mono ?_); rintro e w1 ⟨rfl, rfl⟩) | (go_at_call 35; (with_reducible refine HC0.out.mono ?_); rintro e w1 ⟨rfl, rfl⟩) | (go_at_call 35; (with_reducible refine HC1.out.mono ?_); rintro e w1 ⟨rfl, rfl⟩))
    go_ret3
    exact hE.out
  · have d0 : ((U : Int) == 0) = false := by simp; omega
    by_cases hR : R = 0
    · subst hR
      have hE : Hid (WriteR w p r C xs 0 U ys (.returned (.tuple #[.int .i64 0, .int .i64 3, .int .i64 0])) w) := Lib.hid (by
        unfold WriteR wN wW wE wX
        simp only [or_true, if_true, if_neg hU]
        exact ⟨rfl, Kr.refl _ _ _, h⟩)
      clear h c0 hcl hc1 hc2 hU
      go_enter Try.func12, Try.ntmps12
      go_wp2_with (first | (go_at_call 34; (with_reducible refine HM.out.mono ?_); rintro e w1 ⟨rfl, rfl⟩) | (go_at_call 35; (with_reducible refine HC0.out.mono ?_); rintro e w1 ⟨rfl, rfl⟩) | (go_at_call 35; (with_reducible refine HC1.out.mono ?_); rintro e w1 ⟨rfl, rfl⟩))
      go_ret3
      exact hE.out
    · have d1 : ((R : Int) == 0) = false := by simp; omega
      have hno : ¬ (U = 0 ∨ R = 0) := by omega
      by_cases hy : ys = []
      · subst hy
        have HWr := Lib.hid (write_any w r C xs _ [] h.ring HV.out)
        have hE : Hid (∀ w', Kp (fun j => j = r) w w' → Rg w' r C (xs ++ [].take (C - xs.length)) → WriteR w p r C xs R U [] (.returned (.tuple #[.int .i64 ((min ([] : List Nat).length (C - xs.length) : Nat) : Int), .int .i64 0, .int .i64 0])) w') := Lib.hid (fun w' k1 k2 => by
          unfold WriteR wN wW wE wX
          simp only [if_neg hno, if_neg hU, if_neg hR]
          refine ⟨?_, Kr.ring k1, HP.out.turn k1 k2⟩
          simp)
        generalize xs ++ [].take (C - xs.length) = xs2 at *
        generalize ((min ([] : List Nat).length (C - xs.length) : Nat) : Int) = N at *
        clear h hcl hU hR hno
        dsimp only [List.length_nil] at *
        go_enter Try.func12, Try.ntmps12
        go_wp2_with (first | (go_at_call 34; (with_reducible refine HM.out.mono ?_); rintro e w1 ⟨rfl, rfl⟩) | (go_at_call 35; (with_reducible refine HC0.out.mono ?_); rintro e w1 ⟨rfl, rfl⟩) | (go_at_call 35; (with_reducible refine HC1.out.mono ?_); rintro e w1 ⟨rfl, rfl⟩) | (go_at_call 37; (with_reducible refine HWr.out.mono ?_); rintro e w1 ⟨rfl, k1, k2⟩))
        go_ret3
        exact hE.out _ k1 k2
      · have hl := len_zero hy
        have d2 : decide (0 < (ys.length : Int)) = true := decide_eq_true (by omega)
        have d3 : decide (0 < ys.length) = true := decide_eq_true (by omega)
        by_cases hf : xs.length = C
        · have hm : mw C xs R = true := by
            unfold mw
            simp
            omega
          rw [show (if true = true then mw C xs R else mr xs U) = true from hm] at HW
          have hE : Hid (∀ w', Below w.heap.size w w' → WriteR w p r C xs R U ys (.returned (.tuple #[.int .i64 0, .int .i64 1, .int .i64 0])) w') := Lib.hid (fun w' k1 => by
            unfold WriteR wN wW wE wX
            simp only [if_neg hno, if_neg hU, if_neg hR, if_pos (show ys ≠ [] ∧ xs.length = C from ⟨hy, hf⟩)]
            rw [hf, Nat.sub_self]
            refine ⟨by simp, Kr.of_below k1, by simpa using HP.out.below k1⟩)
          clear h hcl hU hR hno hy hl hf hm
          go_enter Try.func12, Try.ntmps12
          go_wp2_with (first | (go_at_call 34; (with_reducible refine HM.out.mono ?_); rintro e w1 ⟨rfl, rfl⟩) | (go_at_call 35; (with_reducible refine HC0.out.mono ?_); rintro e w1 ⟨rfl, rfl⟩) | (go_at_call 35; (with_reducible refine HC1.out.mono ?_); rintro e w1 ⟨rfl, rfl⟩) | (go_at_call 36; refine HW.out.mono ?_; rintro e w1 ⟨rfl, k1⟩))
          go_ret3
          exact hE.out _ k1
        · have hm : mw C xs R = false := by
            unfold mw
            simp
            omega
          rw [show (if true = true then mw C xs R else mr xs U) = false from hm] at HW
          have HWr : Hid (∀ w1, Below w.heap.size w w1 → w1.cell? ⟨p, 0, none⟩ = some (.pointer (some ⟨r, 0, none⟩)) ∧ Calls Try.prog 37 #[.pointer (some ⟨r, 0, none⟩), .slice a ys.length cap] w1 fun e w' => e = .returned (.int .i64 ((min ys.length (C - xs.length) : Nat) : Int)) ∧ Kp (fun j => j = r) w1 w' ∧ Rg w' r C (xs ++ ys.take (C - xs.length))) := Lib.hid (fun w1 k1 => ⟨(HP.out.below k1).blk.cell 0, write_any w1 r C xs _ ys (HP.out.below k1).ring (Src.kept (S := fun _ => False) HV.out (Kp.of_below k1) (fun j _ e => e.elim))⟩)
          have hE : Hid (∀ w1 w', Below w.heap.size w w1 → Kp (fun j => j = r) w1 w' → Rg w' r C (xs ++ ys.take (C - xs.length)) → WriteR w p r C xs R U ys (.returned (.tuple #[.int .i64 ((min ys.length (C - xs.length) : Nat) : Int), .int .i64 0, .int .i64 0])) w') := Lib.hid (fun w1 w' k0 k1 k2 => by
            unfold WriteR wN wW wE wX
            simp only [if_neg hno, if_neg hU, if_neg hR, if_neg (show ¬ (ys ≠ [] ∧ xs.length = C) from fun e => hf e.2)]
            exact ⟨trivial, (Kr.of_below k0).trans (Kr.ring k1), (HP.out.below k0).turn k1 k2⟩)
          generalize xs ++ ys.take (C - xs.length) = xs2 at *
          generalize ((min ys.length (C - xs.length) : Nat) : Int) = N at *
          clear h hcl hU hR hno hy hl hf hm c0
          go_enter Try.func12, Try.ntmps12
          go_wp2_with (first | (go_at_call 34; (with_reducible refine HM.out.mono ?_); rintro e w1 ⟨rfl, rfl⟩) | (go_at_call 35; (with_reducible refine HC0.out.mono ?_); rintro e w1 ⟨rfl, rfl⟩) | (go_at_call 35; (with_reducible refine HC1.out.mono ?_); rintro e w1 ⟨rfl, rfl⟩) | (go_at_call 36; refine HW.out.mono ?_; rintro e w1 ⟨rfl, k0⟩; have c0 := (HWr.out _ k0).1) | (go_at_call 37; (with_reducible refine (HWr.out _ k0).2.mono ?_); rintro e w2 ⟨rfl, k1, k2⟩))
          go_ret3
          exact hE.out _ _ k0 k1 k2

/-- Need a side not wait? -/
def rdy (C : Nat) (xs : List Nat) (R U : Nat) (s : Bool) : Bool := decide (0 < sc s R U) && !(if s then mw C xs R else mr xs U)
theorem pready_any (w : World) (p r C : Nat) (xs : List Nat) (R U : Nat) (s : Bool) (h : Pp w p r C xs R U) :
    Calls Try.prog 26 #[.pointer (some ⟨p, 0, none⟩), .bool s] w fun e w' => e = .returned (.bool (rdy C xs R U s)) ∧ Below w.heap.size w w' := by
  have HC := Lib.hid (count_any w p r C xs R U s h)
  have HW := Lib.hid (waits_any w p r C xs R U s h)
  have HS := Lib.hid (fun w => side_any w s)
  unfold rdy
  generalize (if s then mw C xs R else mr xs U) = m at *
  generalize sc s R U = c at *
  generalize sd s = z at *
  clear h
  by_cases h0 : 0 < c
  · have d0 : decide (0 < (c : Int)) = true := decide_eq_true (by omega)
    have d1 : decide (0 < c) = true := decide_eq_true h0
    rw [d1, Bool.true_and]
    clear h0
    go_enter Try.func26, Try.ntmps26
    go_wp2_with (first | (go_at_call 43; (with_reducible refine (HS.out _).mono ?_); rintro e w1 ⟨rfl, rfl⟩) | (go_at_call 35; (with_reducible refine HC.out.mono ?_); rintro e w1 ⟨rfl, rfl⟩) | (go_at_call 36; (with_reducible refine HW.out.mono ?_); rintro e w1 ⟨rfl, k1⟩))
    go_ret
    exact ⟨rfl, k1⟩
  · have d0 : decide (0 < (c : Int)) = false := decide_eq_false (by omega)
    have d1 : decide (0 < c) = false := decide_eq_false h0
    rw [d1, Bool.false_and]
    clear h0
    go_enter Try.func26, Try.ntmps26
    go_wp2_with (first | (go_at_call 43; (with_reducible refine (HS.out _).mono ?_); rintro e w1 ⟨rfl, rfl⟩) | (go_at_call 35; (with_reducible refine HC.out.mono ?_); rintro e w1 ⟨rfl, rfl⟩))
    go_ret
    exact ⟨rfl, Below.refl _ _⟩
theorem pready_nil (w : World) (s : Bool) : Calls Try.prog 26 #[.pointer none, .bool s] w fun e w' => e = .returned (.bool false) ∧ w = w' := by
  have HS := Lib.hid (fun w => side_any w s)
  go_enter Try.func26, Try.ntmps26
  go_wp2_with (first | (go_at_call 43; (with_reducible refine (HS.out _).mono ?_); rintro e w1 ⟨rfl, rfl⟩) | (go_at_call 35; (with_reducible refine (count_nil _ _).mono ?_); rintro e w1 ⟨rfl, rfl⟩))
  go_ret
  exact ⟨rfl, rfl⟩
end Go.Proofs.Ytfpdbcjnhgddoaa.Ps
