/-
  The document's own pipe: Open, Close, Of.
-/
import Derived.Test.YtfpdbcjnhgddoaaQm
namespace Go.Proofs.Ytfpdbcjnhgddoaa.Qo
open Go Go.RowKit Go.Shelf Kit Bk Rgm Rgt Rgp Rgn Rst Pm Pw Pr Ps Po Pn Psl Rfa Rfb Qm
set_option linter.unusedVariables false

theorem QP.le {w : World} {base p q C : Nat} {xs : List Nat} {R U : Nat} (s : Bool) (h : QP w base p q C xs R U) : sc s R U ≤ 64 := by cases s; exact h.hR; exact h.hU
theorem nR_eq {s : Bool} {R U c : Nat} (h : sc s R U = c) : nR s R c = R := by subst h; exact nR_same s R U
theorem nU_eq {s : Bool} {R U c : Nat} (h : sc s R U = c) : nU s U c = U := by subst h; exact nU_same s R U
/-- One of its counts is turned. -/
theorem QP.set {w : World} {base p q C : Nat} {xs : List Nat} {R U : Nat} (h : QP w base p q C xs R U) (s : Bool) (m : Nat) (hm : m ≤ 64) :
    Kr p q w (w.setCell ⟨p, if s then 2 else 1, none⟩ (.int .i64 (m : Int))) ∧ QP (w.setCell ⟨p, if s then 2 else 1, none⟩ (.int .i64 (m : Int))) base p q C xs (nR s R m) (nU s U m) := by
  have hk : ∀ i, Kp (fun j => j = p) w (w.setCell ⟨p, i, none⟩ (.int .i64 (m : Int))) := fun i => Kp.set w p i _ rfl
  have hr : ∀ i, RB (w.setCell ⟨p, i, none⟩ (.int .i64 (m : Int))) base q C xs := fun i => h.ring.kept (hk i) (fun e => h.ne e.symm) (fun j cs e hj => absurd e (Blk.ne hj h.blk (by decide)))
  cases s
  · refine ⟨Kr.pipe (hk _), ?_, hr _, h.hx, h.hC, hm, h.hU⟩
    simpa [nR, nU] using h.blk.set 1 (.int .i64 (m : Int))
  · refine ⟨Kr.pipe (hk _), ?_, hr _, h.hx, h.hC, h.hR, hm⟩
    simpa [nR, nU] using h.blk.set 2 (.int .i64 (m : Int))
/-- What Open leaves behind. -/
def OpenR (w : World) (base p q C : Nat) (xs : List Nat) (R U : Nat) (s : Bool) (e : Ending) (w' : World) : Prop :=
  e = .returned (.int .i64 (oE (sc s R U))) ∧ Kr p q w w' ∧ QP w' base p q C xs (nR s R (oN (sc s R U))) (nU s U (oN (sc s R U)))
set_option maxHeartbeats 1000000 in
theorem qopen_any (w : World) (base p q C : Nat) (xs : List Nat) (R U : Nat) (s : Bool) (h : QP w base p q C xs R U) :
    Calls Try.prog 17 #[.pointer (some ⟨p, 0, none⟩), .bool s] w (OpenR w base p q C xs R U s) := by
  obtain ⟨c0, c1, c2, -⟩ := h.cells
  cases s
  · -- false
    by_cases h0 : R = 0
    · have hE : Hid (OpenR w base p q C xs R U false (.returned (.int .i64 90)) w) := Lib.hid (by
        unfold OpenR
        rw [show sc false R U = R from rfl, h0]
        refine ⟨rfl, Kr.refl _ _ _, ?_⟩
        have hq : QP w base p q C xs (nR false R 0) (nU false U 0) := by rw [nR_eq (show sc false R U = 0 from h0), nU_eq (show sc false R U = 0 from h0)]; exact h
        exact hq)
      subst h0
      clear h
      go_enter Try.func17, Try.ntmps17
      go_wp2
      go_ret
      exact hE.out
    · have d0 : ((R : Int) == 0) = false := beq_eq_false_iff_ne.2 (by omega)
      by_cases h1 : R = 64
      · have hE : Hid (OpenR w base p q C xs R U false (.returned (.int .i64 90)) w) := Lib.hid (by
          unfold OpenR
          rw [show sc false R U = R from rfl, h1]
          refine ⟨rfl, Kr.refl _ _ _, ?_⟩
          have hq : QP w base p q C xs (nR false R 64) (nU false U 64) := by rw [nR_eq (show sc false R U = 64 from h1), nU_eq (show sc false R U = 64 from h1)]; exact h
          exact hq)
        have d1 : ((R : Int) == 64) = true := beq_iff_eq.2 (by omega)
        have d2 : (R == 64) = true := beq_iff_eq.2 h1
        have d3 : decide (R = 64) = true := decide_eq_true h1
        clear h h0 h1
        go_enter Try.func17, Try.ntmps17
        go_wp2
        go_ret
        exact hE.out
      · have d1 : ((R : Int) == 64) = false := beq_eq_false_iff_ne.2 (by omega)
        have d2 : (R == 64) = false := beq_eq_false_iff_ne.2 h1
        have d3 : decide (R = 64) = false := decide_eq_false h1
        have hle : R ≤ 64 := QP.le false h
        have hs := QP.set h false (R + 1) (by omega)
        have hE : Hid (OpenR w base p q C xs R U false (.returned (.int .i64 0)) (w.setCell ⟨p, 1, none⟩ (.int .i64 ((R : Int) + 1)))) := Lib.hid (by
          unfold OpenR
          have hno : ¬ (R = 0 ∨ R = 64) := by omega
          rw [show sc false R U = R from rfl, show oE R = 0 by unfold oE; rw [if_neg hno], show oN R = R + 1 by unfold oN; rw [if_neg hno]]
          have hc : ((R : Int) + 1) = ((R + 1 : Nat) : Int) := by omega
          rw [hc]
          exact ⟨rfl, hs.1, hs.2⟩)
        have f1 := h.blk.free 1
        have hVI : (R : Int) ≤ 64 := by omega
        clear h h0 h1 hle hs
        go_enter Try.func17, Try.ntmps17
        go_wp2
        go_ret
        exact hE.out
  · -- true
    by_cases h0 : U = 0
    · have hE : Hid (OpenR w base p q C xs R U true (.returned (.int .i64 90)) w) := Lib.hid (by
        unfold OpenR
        rw [show sc true R U = U from rfl, h0]
        refine ⟨rfl, Kr.refl _ _ _, ?_⟩
        have hq : QP w base p q C xs (nR true R 0) (nU true U 0) := by rw [nR_eq (show sc true R U = 0 from h0), nU_eq (show sc true R U = 0 from h0)]; exact h
        exact hq)
      subst h0
      clear h
      go_enter Try.func17, Try.ntmps17
      go_wp2
      go_ret
      exact hE.out
    · have d0 : ((U : Int) == 0) = false := beq_eq_false_iff_ne.2 (by omega)
      by_cases h1 : U = 64
      · have hE : Hid (OpenR w base p q C xs R U true (.returned (.int .i64 90)) w) := Lib.hid (by
          unfold OpenR
          rw [show sc true R U = U from rfl, h1]
          refine ⟨rfl, Kr.refl _ _ _, ?_⟩
          have hq : QP w base p q C xs (nR true R 64) (nU true U 64) := by rw [nR_eq (show sc true R U = 64 from h1), nU_eq (show sc true R U = 64 from h1)]; exact h
          exact hq)
        have d1 : ((U : Int) == 64) = true := beq_iff_eq.2 (by omega)
        have d2 : (U == 64) = true := beq_iff_eq.2 h1
        have d3 : decide (U = 64) = true := decide_eq_true h1
        clear h h0 h1
        go_enter Try.func17, Try.ntmps17
        go_wp2
        go_ret
        exact hE.out
      · have d1 : ((U : Int) == 64) = false := beq_eq_false_iff_ne.2 (by omega)
        have d2 : (U == 64) = false := beq_eq_false_iff_ne.2 h1
        have d3 : decide (U = 64) = false := decide_eq_false h1
        have hle : U ≤ 64 := QP.le true h
        have hs := QP.set h true (U + 1) (by omega)
        have hE : Hid (OpenR w base p q C xs R U true (.returned (.int .i64 0)) (w.setCell ⟨p, 2, none⟩ (.int .i64 ((U : Int) + 1)))) := Lib.hid (by
          unfold OpenR
          have hno : ¬ (U = 0 ∨ U = 64) := by omega
          rw [show sc true R U = U from rfl, show oE U = 0 by unfold oE; rw [if_neg hno], show oN U = U + 1 by unfold oN; rw [if_neg hno]]
          have hc : ((U : Int) + 1) = ((U + 1 : Nat) : Int) := by omega
          rw [hc]
          exact ⟨rfl, hs.1, hs.2⟩)
        have f1 := h.blk.free 2
        have hVI : (U : Int) ≤ 64 := by omega
        clear h h0 h1 hle hs
        go_enter Try.func17, Try.ntmps17
        go_wp2
        go_ret
        exact hE.out
/-- What Close leaves behind. -/
def CloseR (w : World) (base p q C : Nat) (xs : List Nat) (R U : Nat) (s : Bool) (e : Ending) (w' : World) : Prop :=
  e = .returned (.tuple #[.bool (sc s R U == 1), .int .i64 (cE (sc s R U))]) ∧ Kr p q w w' ∧ QP w' base p q C xs (nR s R (sc s R U - 1)) (nU s U (sc s R U - 1))
set_option maxHeartbeats 1000000 in
theorem qclose_any (w : World) (base p q C : Nat) (xs : List Nat) (R U : Nat) (s : Bool) (h : QP w base p q C xs R U) :
    Calls Try.prog 19 #[.pointer (some ⟨p, 0, none⟩), .bool s] w (CloseR w base p q C xs R U s) := by
  obtain ⟨c0, c1, c2, -⟩ := h.cells
  cases s
  · -- false
    by_cases h0 : R = 0
    · have hE : Hid (CloseR w base p q C xs R U false (.returned (.tuple #[.bool false, .int .i64 90])) w) := Lib.hid (by
        unfold CloseR
        rw [show sc false R U = R from rfl, h0]
        refine ⟨rfl, Kr.refl _ _ _, ?_⟩
        have hq : QP w base p q C xs (nR false R 0) (nU false U 0) := by rw [nR_eq (show sc false R U = 0 from h0), nU_eq (show sc false R U = 0 from h0)]; exact h
        exact hq)
      subst h0
      clear h
      go_enter Try.func19, Try.ntmps19
      go_wp2
      go_ret2
      exact hE.out
    · have d0 : ((R : Int) == 0) = false := beq_eq_false_iff_ne.2 (by omega)
      have hle : R ≤ 64 := QP.le false h
      have hs := QP.set h false (R - 1) (by omega)
      obtain ⟨B, hB⟩ : ∃ B, (R == 1) = B := ⟨_, rfl⟩
      have d1 : ((R : Int) - 1 == 0) = B := by
        rw [← hB]
        by_cases e : R = 1
        · rw [e]; rfl
        · rw [show (R == 1) = false from beq_eq_false_iff_ne.2 e]
          exact beq_eq_false_iff_ne.2 (by omega)
      have hE : Hid (CloseR w base p q C xs R U false (.returned (.tuple #[.bool B, .int .i64 0])) (w.setCell ⟨p, 1, none⟩ (.int .i64 ((R : Int) - 1)))) := Lib.hid (by
        unfold CloseR
        rw [show sc false R U = R from rfl, hB, show cE R = 0 by unfold cE; rw [if_neg h0]]
        have hc : ((R : Int) - 1) = ((R - 1 : Nat) : Int) := by omega
        rw [hc]
        exact ⟨rfl, hs.1, hs.2⟩)
      have f1 := h.blk.free 1
      have hVI : (R : Int) ≤ 64 := by omega
      clear h h0 hle hs hB
      go_enter Try.func19, Try.ntmps19
      go_wp2
      go_ret2
      exact hE.out
  · -- true
    by_cases h0 : U = 0
    · have hE : Hid (CloseR w base p q C xs R U true (.returned (.tuple #[.bool false, .int .i64 90])) w) := Lib.hid (by
        unfold CloseR
        rw [show sc true R U = U from rfl, h0]
        refine ⟨rfl, Kr.refl _ _ _, ?_⟩
        have hq : QP w base p q C xs (nR true R 0) (nU true U 0) := by rw [nR_eq (show sc true R U = 0 from h0), nU_eq (show sc true R U = 0 from h0)]; exact h
        exact hq)
      subst h0
      clear h
      go_enter Try.func19, Try.ntmps19
      go_wp2
      go_ret2
      exact hE.out
    · have d0 : ((U : Int) == 0) = false := beq_eq_false_iff_ne.2 (by omega)
      have hle : U ≤ 64 := QP.le true h
      have hs := QP.set h true (U - 1) (by omega)
      obtain ⟨B, hB⟩ : ∃ B, (U == 1) = B := ⟨_, rfl⟩
      have d1 : ((U : Int) - 1 == 0) = B := by
        rw [← hB]
        by_cases e : U = 1
        · rw [e]; rfl
        · rw [show (U == 1) = false from beq_eq_false_iff_ne.2 e]
          exact beq_eq_false_iff_ne.2 (by omega)
      have hE : Hid (CloseR w base p q C xs R U true (.returned (.tuple #[.bool B, .int .i64 0])) (w.setCell ⟨p, 2, none⟩ (.int .i64 ((U : Int) - 1)))) := Lib.hid (by
        unfold CloseR
        rw [show sc true R U = U from rfl, hB, show cE U = 0 by unfold cE; rw [if_neg h0]]
        have hc : ((U : Int) - 1) = ((U - 1 : Nat) : Int) := by omega
        rw [hc]
        exact ⟨rfl, hs.1, hs.2⟩)
      have f1 := h.blk.free 2
      have hVI : (U : Int) ≤ 64 := by omega
      clear h h0 hle hs hB
      go_enter Try.func19, Try.ntmps19
      go_wp2
      go_ret2
      exact hE.out
theorem qof_ring (w : World) (c : Int) (a : Option Addr) (L cap : Nat) (R U : Int) (h : ¬ (1 ≤ c ∧ c ≤ 64 ∧ (L : Int) ≤ c)) :
    Calls Try.prog 11 #[.int .i64 c, .slice a L cap, .int .i64 R, .int .i64 U] w fun e w' => e = .returned (.tuple #[.pointer none, .int .i64 80]) ∧ w = w' := by
  have HO := Lib.hid (rof_bad w c a L cap h)
  clear h
  go_enter Try.func11, Try.ntmps11
  go_wp2_with (first | (go_at_call 33; (with_reducible refine HO.out.mono ?_); rintro e w1 ⟨rfl, rfl⟩))
  go_ret2
  exact ⟨rfl, rfl⟩
set_option maxHeartbeats 1000000 in
theorem qof_bad (w : World) (C : Nat) (v : Value) (ys : List Nat) (R U : Int) (hs : Slc .u8 w v ys) (hC : 1 ≤ C ∧ C ≤ 64) (hy : ys.length ≤ C) (h : ¬ Mays R U) :
    Calls Try.prog 11 #[.int .i64 (C : Int), v, .int .i64 R, .int .i64 U] w fun e w' => e = .returned (.tuple #[.pointer none, .int .i64 90]) ∧ Below w.heap.size w w' := by
  have HO := Lib.hid (rof_ok w C v ys hs hC hy)
  clear hs
  have hbad : R < 0 ∨ (0 ≤ R ∧ U < 0) ∨ (0 ≤ R ∧ 0 ≤ U ∧ 64 < R) ∨ (0 ≤ R ∧ 0 ≤ U ∧ R ≤ 64 ∧ 64 < U) ∨ (R = 0 ∧ U = 0) := by
    unfold Mays at h
    omega
  rcases hbad with hbad | hbad | hbad | hbad | ⟨rfl, rfl⟩
  · have e0 : decide (R < 0) = true := decide_eq_true (by omega)
    clear h hbad
    go_enter Try.func11, Try.ntmps11
    go_wp2_with (first | (go_at_call 33; (with_reducible refine HO.out.mono ?_); rintro e w1 ⟨rfl, hb, hr⟩))
    go_ret2
    exact ⟨rfl, hb⟩
  · have e0 : decide (R < 0) = false := decide_eq_false (by omega)
    have e1 : decide (U < 0) = true := decide_eq_true (by omega)
    clear h hbad
    go_enter Try.func11, Try.ntmps11
    go_wp2_with (first | (go_at_call 33; (with_reducible refine HO.out.mono ?_); rintro e w1 ⟨rfl, hb, hr⟩))
    go_ret2
    exact ⟨rfl, hb⟩
  · have e0 : decide (R < 0) = false := decide_eq_false (by omega)
    have e1 : decide (U < 0) = false := decide_eq_false (by omega)
    have e2 : decide (64 < R) = true := decide_eq_true (by omega)
    clear h hbad
    go_enter Try.func11, Try.ntmps11
    go_wp2_with (first | (go_at_call 33; (with_reducible refine HO.out.mono ?_); rintro e w1 ⟨rfl, hb, hr⟩))
    go_ret2
    exact ⟨rfl, hb⟩
  · have e0 : decide (R < 0) = false := decide_eq_false (by omega)
    have e1 : decide (U < 0) = false := decide_eq_false (by omega)
    have e2 : decide (64 < R) = false := decide_eq_false (by omega)
    have e3 : decide (64 < U) = true := decide_eq_true (by omega)
    clear h hbad
    go_enter Try.func11, Try.ntmps11
    go_wp2_with (first | (go_at_call 33; (with_reducible refine HO.out.mono ?_); rintro e w1 ⟨rfl, hb, hr⟩))
    go_ret2
    exact ⟨rfl, hb⟩
  · clear h
    go_enter Try.func11, Try.ntmps11
    go_wp2_with (first | (go_at_call 33; (with_reducible refine HO.out.mono ?_); rintro e w1 ⟨rfl, hb, hr⟩))
    go_ret2
    exact ⟨rfl, hb⟩
set_option maxHeartbeats 1000000 in
theorem qof_ok (w : World) (C : Nat) (v : Value) (ys : List Nat) (R U : Nat) (hs : Slc .u8 w v ys) (hC : 1 ≤ C ∧ C ≤ 64) (hy : ys.length ≤ C) (h : Mays (R : Int) (U : Int)) :
    Calls Try.prog 11 #[.int .i64 (C : Int), v, .int .i64 (R : Int), .int .i64 (U : Int)] w fun e w' => ∃ p q, e = .returned (.tuple #[.pointer (some ⟨p, 0, none⟩), .int .i64 0]) ∧ Below w.heap.size w w' ∧ w.heap.size ≤ p ∧ w.heap.size ≤ q ∧ QP w' w.heap.size p q C ys R U := by
  have HO := Lib.hid (rof_ok w C v ys hs hC hy)
  obtain ⟨m1, m2, m3, m4, m5⟩ := h
  have HN : Hid (ys.length ≤ C ∧ C ≤ 64 ∧ R ≤ 64 ∧ U ≤ 64) := Lib.hid ⟨hy, hC.2, by omega, by omega⟩
  have e0 : decide ((R : Int) < 0) = false := decide_eq_false (by omega)
  have e1 : decide ((U : Int) < 0) = false := decide_eq_false (by omega)
  have e2 : decide (64 < (R : Int)) = false := decide_eq_false (by omega)
  have e3 : decide (64 < (U : Int)) = false := decide_eq_false (by omega)
  have e4 : decide (64 < R) = false := decide_eq_false (by omega)
  have e5 : decide (64 < U) = false := decide_eq_false (by omega)
  by_cases hR : R = 0
  · have f1 : ((U : Int) == 0) = false := beq_eq_false_iff_ne.2 (by omega)
    subst hR
    clear hs hC hy m1 m2 m3 m4 m5
    go_enter Try.func11, Try.ntmps11
    go_wp2_with (first | (go_at_call 33; (with_reducible refine HO.out.mono ?_); rintro e w1 ⟨rfl, hb, hr⟩; replace hr := Lib.hid hr))
    go_ret2
    exact ⟨w1.heap.size, w.heap.size, rfl, hb.alloc hb.size _, hb.size, Nat.le_refl _, Blk.new _ _ _, hr.out.below ((Below.refl _ _).alloc (Nat.le_refl _) _), HN.out.1, HN.out.2.1, HN.out.2.2.1, HN.out.2.2.2⟩
  · have f0 : ((R : Int) == 0) = false := beq_eq_false_iff_ne.2 (by omega)
    clear hs hC hy m1 m2 m3 m4 m5 hR
    go_enter Try.func11, Try.ntmps11
    go_wp2_with (first | (go_at_call 33; (with_reducible refine HO.out.mono ?_); rintro e w1 ⟨rfl, hb, hr⟩; replace hr := Lib.hid hr))
    go_ret2
    exact ⟨w1.heap.size, w.heap.size, rfl, hb.alloc hb.size _, hb.size, Nat.le_refl _, Blk.new _ _ _, hr.out.below ((Below.refl _ _).alloc (Nat.le_refl _) _), HN.out.1, HN.out.2.1, HN.out.2.2.1, HN.out.2.2.2⟩
end Go.Proofs.Ytfpdbcjnhgddoaa.Qo
