/-
  Copy, Of and New of a pipe.
-/
import Derived.Test.YtfpdbcjnhgddoaaPo
import Derived.Deep.RegionHeld
namespace Go.Proofs.Ytfpdbcjnhgddoaa.Pn
open Go Go.RowKit Go.Shelf Kit Bk Rgm Rgt Rgw Rgp Rgn Rst Pm Pw Px Pr Ps Po
set_option linter.unusedVariables false

theorem pcopy_nil (w : World) : Calls Try.prog 20 #[.pointer none] w fun e w' => e = .returned (.pointer none) ∧ w = w' := by
  go_enter Try.func20, Try.ntmps20
  go_wp2_with (go_at_call 34; (with_reducible refine (made_nil _).mono ?_); rintro e w1 ⟨rfl, rfl⟩)
  go_ret
  exact ⟨rfl, rfl⟩
set_option maxHeartbeats 1000000 in
theorem pcopy_any (w : World) (p r C : Nat) (xs : List Nat) (R U : Nat) (h : Pp w p r C xs R U) :
    Calls Try.prog 20 #[.pointer (some ⟨p, 0, none⟩)] w fun e w' => ∃ q s, e = .returned (.pointer (some ⟨q, 0, none⟩)) ∧ Below w.heap.size w w' ∧ w.heap.size ≤ q ∧ w.heap.size ≤ s ∧ Pp w' q s C xs R U := by
  have HM := Lib.hid (made_ok w p r _ _ h.blk)
  have HC := Lib.hid (copy_any w.drew r C xs (h.ring.below (w' := w.drew) (Below.refl _ _).drew) h.hC)
  have HS : Hid (∀ W, Below w.heap.size w W → W.cell? ⟨p, 0, none⟩ = some (.pointer (some ⟨r, 0, none⟩)) ∧ W.cell? ⟨p, 1, none⟩ = some (.int .i64 (R : Int)) ∧ W.cell? ⟨p, 2, none⟩ = some (.int .i64 (U : Int))) := Lib.hid (fun W hb => ⟨(h.below hb).blk.cell 0, (h.below hb).blk.cell 1, (h.below hb).blk.cell 2⟩)
  have B0 : Hid (Below w.heap.size w w.drew) := Lib.hid (Below.refl _ _).drew
  have HP := Lib.hid (And.intro h.hC (And.intro h.hR h.hU))
  clear h
  go_enter Try.func20, Try.ntmps20
  go_wp2_with (first | (go_at_call 34; (with_reducible refine HM.out.mono ?_); rintro e w1 ⟨rfl, rfl⟩))
  go_region_held (fun W => W.cell? ⟨p, 0, none⟩ = some (.pointer (some ⟨r, 0, none⟩)) ∧ W.cell? ⟨p, 1, none⟩ = some (.int .i64 (R : Int)) ∧ W.cell? ⟨p, 2, none⟩ = some (.int .i64 (U : Int))) (first | exact HS.out _ B2.out | exact HS.out _ (B2.out.alloc B2.out.size _) | exact HS.out _ B0.out) (first | (go_at_call 44; (with_reducible refine HC.out.mono ?_); rintro e w2 ⟨rfl, hb2, hr2⟩; have B2 : Hid (Below w.heap.size w w2) := Lib.hid (B0.out.trans hb2); replace hr2 := Lib.hid hr2))
  go_wp2
  go_ret
  have hb3 := B2.out.alloc B2.out.size (.cells #[.pointer (some ⟨w.heap.size, 0, none⟩), .int .i64 (R : Int), .int .i64 (U : Int)] 65)
  exact ⟨_, w.heap.size, rfl, hb3, B2.out.size, Nat.le_refl _, Blk.new _ _ _, hr2.out.below ((Below.refl _ _).alloc (Nat.le_refl _) _), HP.out.1, HP.out.2.1, HP.out.2.2⟩
/-- Counts that a pipe may have. -/
def Mays (R U : Int) : Prop := 0 ≤ R ∧ R ≤ 64 ∧ 0 ≤ U ∧ U ≤ 64 ∧ ¬ (R = 0 ∧ U = 0)
theorem pof_ring (w : World) (c : Int) (a : Option Addr) (L cap : Nat) (R U : Int) (h : ¬ (1 ≤ c ∧ c ≤ 64 ∧ (L : Int) ≤ c)) :
    Calls Try.prog 10 #[.int .i64 c, .slice a L cap, .int .i64 R, .int .i64 U] w fun e w' => e = .returned (.tuple #[.pointer none, .int .i64 80]) ∧ w = w' := by
  have HO := Lib.hid (of_bad w c a L cap h)
  clear h
  go_enter Try.func10, Try.ntmps10
  go_wp2_with (first | (go_at_call 31; (with_reducible refine HO.out.mono ?_); rintro e w1 ⟨rfl, rfl⟩))
  go_ret2
  exact ⟨rfl, rfl⟩
theorem may_dec (c : Int) : (decide (0 ≤ c) && decide (c ≤ 64)) = true ↔ 0 ≤ c ∧ c ≤ 64 := by simp
set_option maxHeartbeats 1000000 in
theorem pof_bad (w : World) (C : Nat) (v : Value) (ys : List Nat) (R U : Int) (hs : Slc .u8 w v ys) (hC : 1 ≤ C ∧ C ≤ 64) (hy : ys.length ≤ C) (h : ¬ Mays R U) :
    Calls Try.prog 10 #[.int .i64 (C : Int), v, .int .i64 R, .int .i64 U] w fun e w' => e = .returned (.tuple #[.pointer none, .int .i64 90]) ∧ Below w.heap.size w w' := by
  have HO := Lib.hid (of_ok w C v ys hs hC hy)
  have HYR := Lib.hid (fun w => may_any w R)
  have HYU := Lib.hid (fun w => may_any w U)
  clear hs
  by_cases h1 : (decide (0 ≤ R) && decide (R ≤ 64)) = true
  · by_cases h2 : (decide (0 ≤ U) && decide (U ≤ 64)) = true
    · have h3 : R = 0 ∧ U = 0 := by
        rw [may_dec] at h1 h2
        by_cases e : R = 0 ∧ U = 0
        · exact e
        · exact absurd ⟨h1.1, h1.2, h2.1, h2.2, e⟩ h
      obtain ⟨rfl, rfl⟩ := h3
      have HG : Hid (∀ w' p r, Blk w' p #[.pointer (some ⟨r, 0, none⟩), .int .i64 0, .int .i64 0] 65 → _) := Lib.hid (fun w' p r hb => gone_blk w' p r 0 0 (by omega) (by omega) hb)
      clear h h1 h2
      go_enter Try.func10, Try.ntmps10
      go_wp2_with (first | (go_at_call 31; (with_reducible refine HO.out.mono ?_); rintro e w1 ⟨rfl, hb, hr⟩; have hG := HG.out _ _ _ (Blk.new w1 #[.pointer (some ⟨w.heap.size, 0, none⟩), .int .i64 0, .int .i64 0] 65); replace hG := Lib.hid hG) | (go_at_call 32; (with_reducible refine (HYR.out _).mono ?_); rintro e w2 ⟨rfl, rfl⟩) | (go_at_call 32; (with_reducible refine (HYU.out _).mono ?_); rintro e w2 ⟨rfl, rfl⟩) | (go_at_call 25; (with_reducible refine hG.out.mono ?_); rintro e w3 ⟨rfl, rfl⟩))
      go_ret2
      exact ⟨rfl, hb.alloc hb.size _⟩
    · rw [h1] at HYR
      rw [Bool.not_eq_true] at h2
      rw [h2] at HYU
      clear h h1 h2
      go_enter Try.func10, Try.ntmps10
      go_wp2_with (first | (go_at_call 31; (with_reducible refine HO.out.mono ?_); rintro e w1 ⟨rfl, hb, hr⟩) | (go_at_call 32; (with_reducible refine (HYR.out _).mono ?_); rintro e w2 ⟨rfl, rfl⟩) | (go_at_call 32; (with_reducible refine (HYU.out _).mono ?_); rintro e w2 ⟨rfl, rfl⟩))
      go_ret2
      exact ⟨rfl, hb.alloc hb.size _⟩
  · rw [Bool.not_eq_true] at h1
    rw [h1] at HYR
    clear h h1
    go_enter Try.func10, Try.ntmps10
    go_wp2_with (first | (go_at_call 31; (with_reducible refine HO.out.mono ?_); rintro e w1 ⟨rfl, hb, hr⟩) | (go_at_call 32; (with_reducible refine (HYR.out _).mono ?_); rintro e w2 ⟨rfl, rfl⟩))
    go_ret2
    exact ⟨rfl, hb.alloc hb.size _⟩
set_option maxHeartbeats 1000000 in
theorem pof_ok (w : World) (C : Nat) (v : Value) (ys : List Nat) (R U : Nat) (hs : Slc .u8 w v ys) (hC : 1 ≤ C ∧ C ≤ 64) (hy : ys.length ≤ C) (h : Mays (R : Int) (U : Int)) :
    Calls Try.prog 10 #[.int .i64 (C : Int), v, .int .i64 (R : Int), .int .i64 (U : Int)] w fun e w' => ∃ q s, e = .returned (.tuple #[.pointer (some ⟨q, 0, none⟩), .int .i64 0]) ∧ Below w.heap.size w w' ∧ w.heap.size ≤ q ∧ w.heap.size ≤ s ∧ Pp w' q s C ys R U := by
  have HO := Lib.hid (of_ok w C v ys hs hC hy)
  obtain ⟨m1, m2, m3, m4, m5⟩ := h
  have hYR := fun w => may_any w (R : Int)
  have hYU := fun w => may_any w (U : Int)
  rw [(may_dec _).2 ⟨m1, m2⟩] at hYR
  rw [(may_dec _).2 ⟨m3, m4⟩] at hYU
  have HYR := Lib.hid hYR
  have HYU := Lib.hid hYU
  have hg : ((R : Int) == 0 && (U : Int) == 0) = false := by
    rw [Bool.and_eq_false_iff]
    by_cases e : R = 0
    · right
      simp
      omega
    · left
      simp
      omega
  have hGG := fun w' p r (hb : Blk w' p #[.pointer (some ⟨r, 0, none⟩), .int .i64 (R : Int), .int .i64 (U : Int)] 65) => gone_blk w' p r R U ⟨m1, m2⟩ ⟨m3, m4⟩ hb
  rw [hg] at hGG
  have HG := Lib.hid hGG
  have HN : Hid (1 ≤ C ∧ R ≤ 64 ∧ U ≤ 64) := Lib.hid ⟨hC.1, by omega, by omega⟩
  clear hs hYR hYU hg hGG hC hy m1 m2 m3 m4 m5
  go_enter Try.func10, Try.ntmps10
  go_wp2_with (first | (go_at_call 31; (with_reducible refine HO.out.mono ?_); rintro e w1 ⟨rfl, hb, hr⟩; have hG := HG.out _ _ _ (Blk.new w1 #[.pointer (some ⟨w.heap.size, 0, none⟩), .int .i64 (R : Int), .int .i64 (U : Int)] 65); replace hG := Lib.hid hG; replace hr := Lib.hid hr) | (go_at_call 32; (with_reducible refine (HYR.out _).mono ?_); rintro e w2 ⟨rfl, rfl⟩) | (go_at_call 32; (with_reducible refine (HYU.out _).mono ?_); rintro e w2 ⟨rfl, rfl⟩) | (go_at_call 25; (with_reducible refine hG.out.mono ?_); rintro e w3 ⟨rfl, rfl⟩))
  go_ret2
  exact ⟨w1.heap.size, w.heap.size, rfl, hb.alloc hb.size _, hb.size, Nat.le_refl _, Blk.new _ _ _, hr.out.below ((Below.refl _ _).alloc (Nat.le_refl _) _), HN.out.1, HN.out.2.1, HN.out.2.2⟩
theorem pnew_ok (w : World) (C : Nat) (N : Int) (hN : N = (C : Int)) (hC : 1 ≤ C ∧ C ≤ 64) :
    Calls Try.prog 28 #[.int .i64 N] w fun e w' => ∃ q s, e = .returned (.tuple #[.pointer (some ⟨q, 0, none⟩), .int .i64 0]) ∧ Below w.heap.size w w' ∧ w.heap.size ≤ q ∧ w.heap.size ≤ s ∧ Pp w' q s C [] 1 1 := by
  subst hN
  have HO := Lib.hid (pof_ok w C (.slice none 0 0) [] 1 1 ⟨none, 0, rfl, Nat.le_refl _, Nat.zero_le _, .inl rfl⟩ hC (Nat.zero_le _) ⟨by omega, by omega, by omega, by omega, by omega⟩)
  clear hC
  go_enter Try.func28, Try.ntmps28
  go_wp2_with (first | (go_at_call 10; refine HO.out.mono ?_; rintro e w1 ⟨q, s, rfl, hb, h1, h2, h3⟩; replace h3 := Lib.hid h3))
  go_ret2
  exact ⟨_, _, rfl, hb, h1, h2, h3.out⟩
theorem pnew_bad (w : World) (c : Int) (h : ¬ (1 ≤ c ∧ c ≤ 64)) :
    Calls Try.prog 28 #[.int .i64 c] w fun e w' => e = .returned (.tuple #[.pointer none, .int .i64 80]) ∧ w = w' := by
  have HO := Lib.hid (pof_ring w c none 0 0 1 1 (fun e => h ⟨e.1, e.2.1⟩))
  clear h
  go_enter Try.func28, Try.ntmps28
  go_wp2_with (first | (go_at_call 10; (with_reducible refine HO.out.mono ?_); rintro e w1 ⟨rfl, rfl⟩))
  go_ret2
  exact ⟨rfl, rfl⟩
end Go.Proofs.Ytfpdbcjnhgddoaa.Pn
