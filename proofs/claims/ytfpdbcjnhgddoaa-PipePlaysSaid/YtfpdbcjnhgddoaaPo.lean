/-
  Open and Close of a pipe.
-/
import Derived.Test.YtfpdbcjnhgddoaaPs
namespace Go.Proofs.Ytfpdbcjnhgddoaa.Po
open Go Go.RowKit Go.Shelf Kit Bk Rgm Rgt Rgw Rgp Rgn Rst Pm Pw Px Pr Ps
set_option linter.unusedVariables false

/-- Counts behind a change of one side. -/
def nR (s : Bool) (R m : Nat) : Nat := if s then R else m
def nU (s : Bool) (U m : Nat) : Nat := if s then m else U
theorem nR_same (s : Bool) (R U : Nat) : nR s R (sc s R U) = R := by cases s <;> rfl
theorem nU_same (s : Bool) (R U : Nat) : nU s U (sc s R U) = U := by cases s <;> rfl
theorem sc_new (s : Bool) (R U m : Nat) : sc s (nR s R m) (nU s U m) = m := by cases s <;> rfl

theorem change_nil (w : World) (a b : Value) : Calls Try.prog 42 #[.pointer none, a, b] w fun e w' => e = .returned (.int .i64 1) ∧ w = w' := by
  go_enter Try.func42, Try.ntmps42
  go_wp2_with (first | (go_at_call 35; (with_reducible refine (count_nil _ _).mono ?_); rintro e w1 ⟨rfl, rfl⟩) | (go_at_call 34; (with_reducible refine (made_nil _).mono ?_); rintro e w1 ⟨rfl, rfl⟩))
  go_ret
  exact ⟨rfl, rfl⟩
theorem change_zero (w : World) (p : Nat) (x y a b : Value) (hb : Blk w p #[.pointer none, x, y] 65) : Calls Try.prog 42 #[.pointer (some ⟨p, 0, none⟩), a, b] w fun e w' => e = .returned (.int .i64 1) ∧ w = w' := by
  have HC := Lib.hid (count_zero w p a x y hb)
  have HM := Lib.hid (made_zero w p x y hb)
  clear hb
  go_enter Try.func42, Try.ntmps42
  go_wp2_with (first | (go_at_call 35; (with_reducible refine HC.out.mono ?_); rintro e w1 ⟨rfl, rfl⟩) | (go_at_call 34; (with_reducible refine HM.out.mono ?_); rintro e w1 ⟨rfl, rfl⟩))
  go_ret
  exact ⟨rfl, rfl⟩
/-- Nobody is there, or too many would be. -/
theorem change_bad (w : World) (p r C : Nat) (xs : List Nat) (R U : Nat) (s : Bool) (by_ : Int) (h : Pp w p r C xs R U) (hby : by_ = 1 ∨ by_ = -1) (hbad : sc s R U = 0 ∨ 64 < (sc s R U : Int) + by_) :
    Calls Try.prog 42 #[.pointer (some ⟨p, 0, none⟩), .int .i64 (sd s), .int .i64 by_] w fun e w' => e = .returned (.int .i64 90) ∧ w = w' := by
  have HC := Lib.hid (count_any w p r C xs R U s h)
  have HM := Lib.hid (made_ok w p r _ _ h.blk)
  have HY := Lib.hid (fun w => may_any w ((sc s R U : Int) + by_))
  have hc64 : sc s R U ≤ 64 := by cases s; exact h.hR; exact h.hU
  generalize sc s R U = c at *
  generalize sd s = z at *
  clear h
  by_cases h0 : c = 0
  · subst h0
    clear hby hbad hc64
    go_enter Try.func42, Try.ntmps42
    go_wp2_with (first | (go_at_call 35; (with_reducible refine HC.out.mono ?_); rintro e w1 ⟨rfl, rfl⟩) | (go_at_call 34; (with_reducible refine HM.out.mono ?_); rintro e w1 ⟨rfl, rfl⟩))
    go_ret
    exact ⟨rfl, rfl⟩
  · have d0 : ((c : Int) == 0) = false := by simp; omega
    have hm : (decide (0 ≤ (c : Int) + by_) && decide ((c : Int) + by_ ≤ 64)) = false := by
      rw [Bool.and_eq_false_iff]
      right
      exact decide_eq_false (by omega)
    rw [hm] at HY
    have hcI : (c : Int) ≤ 64 := by omega
    have hb1 : by_ ≤ 1 := by omega
    have hb2 : -1 ≤ by_ := by omega
    clear hby hbad hc64 h0 hm
    go_enter Try.func42, Try.ntmps42
    go_wp2_with (first | (go_at_call 35; (with_reducible refine HC.out.mono ?_); rintro e w1 ⟨rfl, rfl⟩) | (go_at_call 34; (with_reducible refine HM.out.mono ?_); rintro e w1 ⟨rfl, rfl⟩) | (go_at_call 32; (with_reducible refine (HY.out _).mono ?_); rintro e w1 ⟨rfl, rfl⟩))
    go_ret
    exact ⟨rfl, rfl⟩
theorem change_ok (w : World) (p r C : Nat) (xs : List Nat) (R U : Nat) (s : Bool) (by_ : Int) (m : Nat) (h : Pp w p r C xs R U) (hby : by_ = 1 ∨ by_ = -1) (h0 : sc s R U ≠ 0) (hm : (m : Int) = (sc s R U : Int) + by_) (hm64 : m ≤ 64) :
    Calls Try.prog 42 #[.pointer (some ⟨p, 0, none⟩), .int .i64 (sd s), .int .i64 by_] w fun e w' => e = .returned (.int .i64 0) ∧ Kr p r w w' ∧ Pp w' p r C xs (nR s R m) (nU s U m) := by
  have HC := Lib.hid (count_any w p r C xs R U s h)
  have HM := Lib.hid (made_ok w p r _ _ h.blk)
  have HY := Lib.hid (fun w => may_any w ((sc s R U : Int) + by_))
  have hc64 : sc s R U ≤ 64 := by cases s; exact h.hR; exact h.hU
  have hmy : (decide (0 ≤ (sc s R U : Int) + by_) && decide ((sc s R U : Int) + by_ ≤ 64)) = true := by
    rw [Bool.and_eq_true]
    exact ⟨decide_eq_true (by omega), decide_eq_true (by omega)⟩
  rw [hmy] at HY
  have d0 : ((sc s R U : Int) == 0) = false := by simp; omega
  have hcI : (sc s R U : Int) ≤ 64 := by omega
  have hb1 : by_ ≤ 1 := by omega
  have hb2 : -1 ≤ by_ := by omega
  have hK : ∀ i, Kr p r w (w.setCell ⟨p, i, none⟩ (.int .i64 ((sc s R U : Int) + by_))) := fun i => Kr.pipe (Kp.set w p i _ rfl)
  cases s
  · have f1 : w.frozen? ⟨p, 1, none⟩ = false := h.blk.free 1
    have c1 : w.cell? ⟨p, 1, none⟩ = some (.int .i64 (R : Int)) := h.blk.cell 1
    have hb := h.blk.set 1 (.int .i64 ((sc false R U : Int) + by_))
    have HE : Hid (Kr p r w (w.setCell ⟨p, 1, none⟩ (.int .i64 ((sc false R U : Int) + by_))) ∧ Pp (w.setCell ⟨p, 1, none⟩ (.int .i64 ((sc false R U : Int) + by_))) p r C xs (nR false R m) (nU false U m)) := Lib.hid ⟨hK 1, by rw [← hm] at hb ⊢; simpa [nR, nU] using hb, h.ring.kept (S := fun j => j = p) (Kp.set w p 1 _ rfl) (fun e => h.ne e.symm), h.hC, hm64, h.hU⟩
    simp only [show sd false = 0 from rfl, show sc false R U = R from rfl] at *
    clear h hb hK hm hmy h0 hm64 hc64 hby
    go_enter Try.func42, Try.ntmps42
    go_wp2_with (first | (go_at_call 35; (with_reducible refine HC.out.mono ?_); rintro e w1 ⟨rfl, rfl⟩) | (go_at_call 34; (with_reducible refine HM.out.mono ?_); rintro e w1 ⟨rfl, rfl⟩) | (go_at_call 32; (with_reducible refine (HY.out _).mono ?_); rintro e w1 ⟨rfl, rfl⟩))
    go_ret
    exact ⟨rfl, HE.out.1, HE.out.2⟩
  · have f1 : w.frozen? ⟨p, 2, none⟩ = false := h.blk.free 2
    have c1 : w.cell? ⟨p, 2, none⟩ = some (.int .i64 (U : Int)) := h.blk.cell 2
    have hb := h.blk.set 2 (.int .i64 ((sc true R U : Int) + by_))
    have HE : Hid (Kr p r w (w.setCell ⟨p, 2, none⟩ (.int .i64 ((sc true R U : Int) + by_))) ∧ Pp (w.setCell ⟨p, 2, none⟩ (.int .i64 ((sc true R U : Int) + by_))) p r C xs (nR true R m) (nU true U m)) := Lib.hid ⟨hK 2, by rw [← hm] at hb ⊢; simpa [nR, nU] using hb, h.ring.kept (S := fun j => j = p) (Kp.set w p 2 _ rfl) (fun e => h.ne e.symm), h.hC, h.hR, hm64⟩
    simp only [show sd true = 1 from rfl, show sc true R U = U from rfl] at *
    clear h hb hK hm hmy h0 hm64 hc64 hby
    go_enter Try.func42, Try.ntmps42
    go_wp2_with (first | (go_at_call 35; (with_reducible refine HC.out.mono ?_); rintro e w1 ⟨rfl, rfl⟩) | (go_at_call 34; (with_reducible refine HM.out.mono ?_); rintro e w1 ⟨rfl, rfl⟩) | (go_at_call 32; (with_reducible refine (HY.out _).mono ?_); rintro e w1 ⟨rfl, rfl⟩))
    go_ret
    exact ⟨rfl, HE.out.1, HE.out.2⟩

/-- What Open answers, and how many there are behind it. -/
def oE (c : Nat) : Int := if c = 0 ∨ c = 64 then 90 else 0
def oN (c : Nat) : Nat := if c = 0 ∨ c = 64 then c else c + 1
/-- What Close answers. -/
def cE (c : Nat) : Int := if c = 0 then 90 else 0
theorem sc_le {w : World} {p r C : Nat} {xs : List Nat} {R U : Nat} (s : Bool) (h : Pp w p r C xs R U) : sc s R U ≤ 64 := by cases s; exact h.hR; exact h.hU
theorem popen_nil (w : World) (s : Bool) : Calls Try.prog 16 #[.pointer none, .bool s] w fun e w' => e = .returned (.int .i64 1) ∧ w = w' := by
  have HS := Lib.hid (fun w => side_any w s)
  go_enter Try.func16, Try.ntmps16
  go_wp2_with (first | (go_at_call 43; (with_reducible refine (HS.out _).mono ?_); rintro e w1 ⟨rfl, rfl⟩) | (go_at_call 42; (with_reducible refine (change_nil _ _ _).mono ?_); rintro e w1 ⟨rfl, rfl⟩))
  go_ret
  exact ⟨rfl, rfl⟩
theorem popen_zero (w : World) (p : Nat) (x y : Value) (s : Bool) (hb : Blk w p #[.pointer none, x, y] 65) : Calls Try.prog 16 #[.pointer (some ⟨p, 0, none⟩), .bool s] w fun e w' => e = .returned (.int .i64 1) ∧ w = w' := by
  have HS := Lib.hid (fun w => side_any w s)
  have HC := Lib.hid (fun a b => change_zero w p x y a b hb)
  clear hb
  go_enter Try.func16, Try.ntmps16
  go_wp2_with (first | (go_at_call 43; (with_reducible refine (HS.out _).mono ?_); rintro e w1 ⟨rfl, rfl⟩) | (go_at_call 42; (with_reducible refine (HC.out _ _).mono ?_); rintro e w1 ⟨rfl, rfl⟩))
  go_ret
  exact ⟨rfl, rfl⟩
theorem popen_any (w : World) (p r C : Nat) (xs : List Nat) (R U : Nat) (s : Bool) (h : Pp w p r C xs R U) :
    Calls Try.prog 16 #[.pointer (some ⟨p, 0, none⟩), .bool s] w fun e w' => e = .returned (.int .i64 (oE (sc s R U))) ∧ Kr p r w w' ∧ Pp w' p r C xs (nR s R (oN (sc s R U))) (nU s U (oN (sc s R U))) := by
  have HS := Lib.hid (fun w => side_any w s)
  have hle := sc_le s h
  have HC : Hid (Calls Try.prog 42 #[.pointer (some ⟨p, 0, none⟩), .int .i64 (sd s), .int .i64 1] w fun e w' => e = .returned (.int .i64 (oE (sc s R U))) ∧ Kr p r w w' ∧ Pp w' p r C xs (nR s R (oN (sc s R U))) (nU s U (oN (sc s R U)))) := Lib.hid (by
    unfold oE oN
    by_cases hb : sc s R U = 0 ∨ sc s R U = 64
    · simp only [if_pos hb]
      refine (change_bad w p r C xs R U s 1 h (.inl rfl) (by omega)).mono fun e w' ⟨h1, h2⟩ => ?_
      subst h2
      exact ⟨h1, Kr.refl _ _ _, by rw [nR_same, nU_same]; exact h⟩
    · simp only [if_neg hb]
      exact change_ok w p r C xs R U s 1 _ h (.inl rfl) (by omega) (by omega) (by omega))
  clear h hle
  generalize sd s = z at *
  generalize oE (sc s R U) = E at *
  go_enter Try.func16, Try.ntmps16
  go_wp2_with (first | (go_at_call 43; (with_reducible refine (HS.out _).mono ?_); rintro e w1 ⟨rfl, rfl⟩) | (go_at_call 42; (with_reducible refine HC.out.mono ?_); rintro e w1 ⟨rfl, k1, k2⟩))
  go_ret
  exact ⟨rfl, k1, k2⟩
theorem pclose_nil (w : World) (s : Bool) : Calls Try.prog 18 #[.pointer none, .bool s] w fun e w' => e = .returned (.tuple #[.bool false, .int .i64 1]) ∧ w = w' := by
  have HS := Lib.hid (fun w => side_any w s)
  go_enter Try.func18, Try.ntmps18
  go_wp2_with (first | (go_at_call 43; (with_reducible refine (HS.out _).mono ?_); rintro e w1 ⟨rfl, rfl⟩) | (go_at_call 42; (with_reducible refine (change_nil _ _ _).mono ?_); rintro e w1 ⟨rfl, rfl⟩))
  go_ret2
  exact ⟨rfl, rfl⟩
theorem pclose_any (w : World) (p r C : Nat) (xs : List Nat) (R U : Nat) (s : Bool) (h : Pp w p r C xs R U) :
    Calls Try.prog 18 #[.pointer (some ⟨p, 0, none⟩), .bool s] w fun e w' => e = .returned (.tuple #[.bool (sc s R U == 1), .int .i64 (cE (sc s R U))]) ∧ Kr p r w w' ∧ Pp w' p r C xs (nR s R (sc s R U - 1)) (nU s U (sc s R U - 1)) := by
  have HS := Lib.hid (fun w => side_any w s)
  have hle := sc_le s h
  by_cases h0 : sc s R U = 0
  · have HC := Lib.hid (change_bad w p r C xs R U s (-1) h (.inr rfl) (.inl h0))
    have hE : Hid (Pp w p r C xs (nR s R (sc s R U - 1)) (nU s U (sc s R U - 1)) ∧ (sc s R U == 1) = false ∧ cE (sc s R U) = 90) := Lib.hid ⟨by rw [show sc s R U - 1 = sc s R U by omega, nR_same, nU_same]; exact h, by rw [h0]; rfl, by rw [h0]; rfl⟩
    rw [hE.out.2.1, hE.out.2.2]
    clear h hle h0
    generalize sd s = z at *
    go_enter Try.func18, Try.ntmps18
    go_wp2_with (first | (go_at_call 43; (with_reducible refine (HS.out _).mono ?_); rintro e w1 ⟨rfl, rfl⟩) | (go_at_call 42; (with_reducible refine HC.out.mono ?_); rintro e w1 ⟨rfl, rfl⟩))
    go_ret2
    exact ⟨rfl, Kr.refl _ _ _, hE.out.1⟩
  · have HC := Lib.hid (change_ok w p r C xs R U s (-1) (sc s R U - 1) h (.inr rfl) h0 (by omega) (by omega))
    have hE : Hid ((((sc s R U - 1 : Nat) : Int) == 0) = (sc s R U == 1) ∧ cE (sc s R U) = 0) := Lib.hid ⟨by
      by_cases e : sc s R U = 1
      · rw [e]; rfl
      · rw [show (sc s R U == 1) = false by simp [e]]
        simp
        omega, by unfold cE; rw [if_neg h0]⟩
    have HK := Lib.hid (fun w' (h : Pp w' p r C xs (nR s R (sc s R U - 1)) (nU s U (sc s R U - 1))) => count_any w' p r C xs _ _ s h)
    simp only [sc_new] at HK
    rw [hE.out.2]
    clear h hle h0
    have h1 := hE.out.1
    generalize (sc s R U == 1) = b at *
    generalize sd s = z at *
    generalize sc s R U - 1 = m at *
    clear hE
    go_enter Try.func18, Try.ntmps18
    go_wp2_with (first | (go_at_call 43; (with_reducible refine (HS.out _).mono ?_); rintro e w1 ⟨rfl, rfl⟩) | (go_at_call 42; (with_reducible refine HC.out.mono ?_); rintro e w1 ⟨rfl, k1, k2⟩) | (go_at_call 35; (with_reducible refine (HK.out _ k2).mono ?_); rintro e w2 ⟨rfl, rfl⟩))
    go_ret2
    exact ⟨rfl, k1, k2⟩
end Go.Proofs.Ytfpdbcjnhgddoaa.Po
