/-
  PipeSides: the walk.
-/
import Derived.Test.YtfpdbcjnhgddoaaPac
import Derived.Deep.CutBlock
import Derived.Deep.DeepCutAuto
namespace Go.Proofs.Ytfpdbcjnhgddoaa.Psd
open Go Go.RowKit Go.Shelf Kit Bk Rgm Rgt Rgw Rgp Rgn Rst Pm Pw Px Pr Ps Po Pn Pal Pop Pac
set_option linter.unusedVariables false

abbrev stv (st : Str) (bv : Value) : Value := .agg #[.int .i64 st.c, bv, .int .i64 st.r, .int .i64 st.u]
/-- The law's box. -/
theorem one_box (w : World) (c r u : Int) (b1 : Value) :
    ∃ wb, w.alloc (.cells #[.int .i64 c, b1, .int .i64 r, .int .i64 u] 24) = wb ∧ Below w.heap.size w wb ∧ Blk wb w.heap.size #[.int .i64 c, b1, .int .i64 r, .int .i64 u] 24 :=
  ⟨_, rfl, (Below.refl _ _).alloc (Nat.le_refl _) _, Blk.new w _ _⟩

set_option maxRecDepth 100000 in
set_option maxHeartbeats 1000000 in
theorem sides_great (st : Str) (bv v : Value) (l : List Opr) (w : World) (h1 : OpsAt w v l) (hf : ¬ Fine l) :
    Calls Try.prog 6 #[stv st bv, v] w fun e w' => e = .returned (.bool true) ∧ Below w.heap.size w w' := by
  obtain ⟨wb, hwb, hb, hs⟩ := one_box w st.c st.r st.u bv
  have HO := Lib.hid (h1.below hb)
  have HB := Lib.hid hb
  clear h1 hb hs
  go_enter Try.func6, Try.ntmps6
  go_wp2_with (first | (go_at_call 29; (with_reducible refine (alive_any _).mono ?_); rintro e w1 ⟨rfl, b1⟩) | (go_at_call 9; (with_reducible refine (great_any _ l _ (OpsAt.below HO.out b1) hf).mono ?_); rintro e w2 ⟨rfl, rfl⟩))
  go_ret
  exact ⟨rfl, HB.out.trans (b1.mono HB.out.size)⟩
set_option maxRecDepth 100000 in
set_option maxHeartbeats 1000000 in
theorem sides_far (st : Str) (bv v : Value) (l : List Opr) (w : World) (h0 : Slc .u8 w bv st.xs) (h1 : OpsAt w v l) (hf : Fine l) (hl : 200 < st.xs.length) :
    Calls Try.prog 6 #[stv st bv, v] w fun e w' => e = .returned (.bool true) ∧ Below w.heap.size w w' := by
  obtain ⟨wb, hwb, hb, hs⟩ := one_box w st.c st.r st.u bv
  have HO := Lib.hid (h1.below hb)
  have HB := Lib.hid hb
  obtain ⟨a, cap, rfl, c1, c2, -⟩ := h0
  have HS : Hid (∀ W, Below wb.heap.size wb W → W.cell? ⟨w.heap.size, 1, none⟩ = some (.slice a st.xs.length cap)) := Lib.hid (fun W h => (hs.below h).cell 1)
  have d0 : decide (200 < (st.xs.length : Int)) = true := decide_eq_true (by omega)
  have d1 : decide (200 < st.xs.length) = true := decide_eq_true (by omega)
  clear h1 hb hs hl c1 c2
  go_enter Try.func6, Try.ntmps6
  go_wp2_with (first | (go_at_call 29; (with_reducible refine (alive_any _).mono ?_); rintro e w1 ⟨rfl, b1⟩; have x1 := HS.out _ b1) | (go_at_call 9; (with_reducible refine (great_fine _ l _ (OpsAt.below HO.out b1) hf).mono ?_); rintro e w2 ⟨rfl, rfl⟩))
  go_ret
  exact ⟨rfl, HB.out.trans (b1.mono HB.out.size)⟩
set_option maxRecDepth 100000 in
set_option maxHeartbeats 1000000 in
theorem sides_bad (st : Str) (bv v : Value) (l : List Opr) (w : World) (h0 : Slc .u8 w bv st.xs) (h1 : OpsAt w v l) (hf : Fine l) (hl : st.xs.length ≤ 200) (hg : ¬ GoodS st) :
    Calls Try.prog 6 #[stv st bv, v] w fun e w' => e = .returned (.bool true) ∧ Below w.heap.size w w' := by
  obtain ⟨wb, hwb, hb, hs⟩ := one_box w st.c st.r st.u bv
  have HO := Lib.hid (h1.below hb)
  have HB := Lib.hid hb
  have HF : Hid (∀ W, Below wb.heap.size wb W → _) := Lib.hid (fun W h => start_bad W st bv (h0.below (hb.trans (h.mono hb.size))) hg)
  obtain ⟨a, cap, rfl, c1, c2, -⟩ := h0
  have HS : Hid (∀ W, Below wb.heap.size wb W → W.cell? ⟨w.heap.size, 0, none⟩ = some (.int .i64 st.c) ∧ W.cell? ⟨w.heap.size, 1, none⟩ = some (.slice a st.xs.length cap) ∧ W.cell? ⟨w.heap.size, 2, none⟩ = some (.int .i64 st.r) ∧ W.cell? ⟨w.heap.size, 3, none⟩ = some (.int .i64 st.u)) := Lib.hid (fun W h => ⟨(hs.below h).cell 0, (hs.below h).cell 1, (hs.below h).cell 2, (hs.below h).cell 3⟩)
  have d0 : decide (200 < (st.xs.length : Int)) = false := decide_eq_false (by omega)
  have d1 : decide (200 < st.xs.length) = false := decide_eq_false (by omega)
  clear h1 hb hs hl c1 c2 hg
  go_enter Try.func6, Try.ntmps6
  go_wp2_with (first | (go_at_call 29; (with_reducible refine (alive_any _).mono ?_); rintro e w1 ⟨rfl, b1⟩; obtain ⟨x0, x1, x2, x3⟩ := HS.out _ b1; refine Hid.out ?_))
  refine Lib.hid ?_
  obtain ⟨E, hE0, hE1, hE2⟩ := HF.out _ b1
  have HE := Lib.hid hE2
  clear hE1 hE2 HF
  go_wp2_with (first | (go_at_call 9; (with_reducible refine (great_fine _ l _ (OpsAt.below HO.out b1) hf).mono ?_); rintro e w2 ⟨rfl, rfl⟩) | (go_at_call 10; (with_reducible refine HE.out.mono ?_); rintro e w3 ⟨rfl, b3⟩))
  go_ret
  exact ⟨rfl, HB.out.trans ((b1.trans (b3.mono b1.size)).mono HB.out.size)⟩

/-- A copy, beside its pipe. -/
theorem ons_beside {w W W' : World} {p r q t C : Nat} {s : Sta} (h : Ons w W p r C s) (hk : Kr q t W W') (hq : w.heap.size ≤ q) (ht : w.heap.size ≤ t) (h1 : p ≠ q ∧ p ≠ t) (h2 : r ≠ q ∧ r ≠ t) : Ons w W' p r C s :=
  ⟨h.bel.trans (hk.below h.bel.size hq ht), h.pp.kept hk (fun e => e.elim h1.1 h1.2) (fun e => e.elim h2.1 h2.2), h.lp, h.lr⟩
/-- What the iterator says of Ready, beside what Read and Write tell. -/
theorem side_rd {C : Nat} (s : Sta) : (rE s.R 1 = 90 ∧ rdy C s.xs s.R s.U false = false) ∨ (rE s.R 1 = 0 ∧ rW s.xs s.R s.U 1 = 1 ∧ rdy C s.xs s.R s.U false = false ∧ ((s.U : Int) == 0) = false) ∨ (rE s.R 1 = 0 ∧ (rW s.xs s.R s.U 1 == 1) = false ∧ rdy C s.xs s.R s.U false = true) := by
  obtain ⟨xs, R, U⟩ := s
  dsimp only
  unfold rE rW rdy mr sc
  by_cases hR : R = 0
  · left
    simp [hR]
  · have h1 : ¬ (R = 0 ∨ (1 : Int) < 0) := by omega
    simp only [if_neg h1]
    by_cases hx : xs = []
    · subst hx
      by_cases hU : U = 0
      · right; right
        simp [hU]
        omega
      · right; left
        simp [hU]
        omega
    · right; right
      have := len_zero hx
      simp [hx]
      omega
theorem side_wr {C : Nat} (s : Sta) (hC : s.xs.length ≤ C) : (wE s.U = 90 ∧ rdy C s.xs s.R s.U true = false) ∨ (wE s.U = 0 ∧ wW C s.xs s.R s.U [97] = 1 ∧ rdy C s.xs s.R s.U true = false ∧ ((s.R : Int) == 0) = false) ∨ (wE s.U = 0 ∧ (wW C s.xs s.R s.U [97] == 1) = false ∧ rdy C s.xs s.R s.U true = true) := by
  obtain ⟨xs, R, U⟩ := s
  dsimp only at *
  unfold wE wW rdy mw sc
  by_cases hU : U = 0
  · left
    simp [hU]
  · simp only [if_neg hU]
    by_cases hR : R = 0
    · right; right
      simp [hR]
      omega
    · by_cases hx : xs.length = C
      · right; left
        simp [hR, hx]
        omega
      · right; right
        simp [hR, hx]
        omega
end Go.Proofs.Ytfpdbcjnhgddoaa.Psd
