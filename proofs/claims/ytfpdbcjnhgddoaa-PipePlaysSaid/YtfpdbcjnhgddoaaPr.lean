/-
  Read, Write and Ready of a pipe.
-/
import Derived.Test.YtfpdbcjnhgddoaaPx
namespace Go.Proofs.Ytfpdbcjnhgddoaa.Pr
open Go Go.RowKit Go.Shelf Kit Bk Rgm Rgt Rgw Rgp Rgn Rst Pm Pw Px
set_option linter.unusedVariables false

/-- What Read answers: its error, what becomes of it, its bytes; the pipe's bytes behind it. -/
def rE (R : Nat) (n : Int) : Int := if R = 0 ∨ n < 0 then 90 else 0
def rW (xs : List Nat) (R U : Nat) (n : Int) : Int := if R = 0 ∨ n < 0 then 0 else if n = 0 ∨ xs ≠ [] then 0 else if U = 0 then 2 else 1
def rO (xs : List Nat) (R : Nat) (n : Int) : List Nat := if R = 0 ∨ n < 0 then [] else xs.take n.toNat
def rX (xs : List Nat) (R : Nat) (n : Int) : List Nat := if R = 0 ∨ n < 0 then xs else xs.drop n.toNat
/-- What Write answers. -/
def wE (U : Nat) : Int := if U = 0 then 90 else 0
def wW (C : Nat) (xs : List Nat) (R U : Nat) (ys : List Nat) : Int := if U = 0 then 0 else if R = 0 then 3 else if ys ≠ [] ∧ xs.length = C then 1 else 0
def wN (C : Nat) (xs : List Nat) (R U : Nat) (ys : List Nat) : Nat := if U = 0 ∨ R = 0 then 0 else min ys.length (C - xs.length)
def wX (C : Nat) (xs : List Nat) (R U : Nat) (ys : List Nat) : List Nat := if U = 0 ∨ R = 0 then xs else xs ++ ys.take (C - xs.length)
theorem len_zero {xs : List Nat} (h : ¬ xs = []) : xs.length ≠ 0 := fun e => h (List.eq_nil_of_length_eq_zero e)

/-- What Read leaves behind. -/
def ReadR (w : World) (p r C : Nat) (xs : List Nat) (R U : Nat) (n : Int) (e : Ending) (w' : World) : Prop :=
  Kr p r w w' ∧ Pp w' p r C (rX xs R n) R U ∧ ∃ rv, e = .returned (.tuple #[rv, .int .i64 (rW xs R U n), .int .i64 (rE R n)]) ∧ w'.ownsRow w.heap.size 5 1 rv (rO xs R n).length (u8s (rO xs R n))
set_option maxHeartbeats 1000000 in
theorem pread_any (w : World) (p r C : Nat) (xs : List Nat) (R U : Nat) (n : Int) (h : Pp w p r C xs R U) :
    Calls Try.prog 14 #[.pointer (some ⟨p, 0, none⟩), .int .i64 n] w (ReadR w p r C xs R U n) := by
  have HM := Lib.hid (made_ok w p r _ _ h.blk)
  have HC := Lib.hid (count_rd w p r _ _ h.blk)
  have HL := Lib.hid (len_any w r C xs h.ring)
  have HP := Lib.hid h
  have hU := h.hU
  have c0 : w.cell? ⟨p, 0, none⟩ = some (.pointer (some ⟨r, 0, none⟩)) := h.blk.cell 0
  have hx64 : (xs.length : Int) ≤ 64 := by have := h.ring.cap_le; omega
  by_cases hb : R = 0 ∨ n < 0
  · have hE : Hid (ReadR w p r C xs R U n (.returned (.tuple #[.slice none 0 0, .int .i64 0, .int .i64 90])) w) := Lib.hid (by
      unfold ReadR rX rW rE rO
      simp only [if_pos hb]
      exact ⟨Kr.refl _ _ _, h, _, rfl, World.ownsRow_nil _ _ _ _⟩)
    by_cases h0 : R = 0
    · subst h0
      clear h hb c0 hx64 hU
      go_enter Try.func14, Try.ntmps14
      go_wp2_with (first | (go_at_call 34; (with_reducible refine HM.out.mono ?_); rintro e w1 ⟨rfl, rfl⟩) | (go_at_call 35; (with_reducible refine HC.out.mono ?_); rintro e w1 ⟨rfl, rfl⟩))
      go_ret3
      exact hE.out
    · have d0 : ((R : Int) == 0) = false := by simp; omega
      have d1 : decide (n < 0) = true := decide_eq_true (hb.resolve_left h0)
      clear h hb c0 hx64 hU h0
      go_enter Try.func14, Try.ntmps14
      go_wp2_with (first | (go_at_call 34; (with_reducible refine HM.out.mono ?_); rintro e w1 ⟨rfl, rfl⟩) | (go_at_call 35; (with_reducible refine HC.out.mono ?_); rintro e w1 ⟨rfl, rfl⟩))
      go_ret3
      exact hE.out
  · have h0 : ¬ R = 0 := fun e => hb (.inl e)
    have d0 : ((R : Int) == 0) = false := by simp; omega
    have d1 : decide (n < 0) = false := decide_eq_false (fun e => hb (.inr e))
    by_cases hd : n = 0 ∨ xs ≠ []
    · have HRd := Lib.hid (read_any w r C xs n h.ring)
      have hE : Hid (∀ w' rv, Kp (fun j => j = r) w w' → Rg w' r C (xs.drop n.toNat) → w'.ownsRow w.heap.size 5 1 rv (xs.take n.toNat).length (u8s (xs.take n.toNat)) → ReadR w p r C xs R U n (.returned (.tuple #[rv, .int .i64 0, .int .i64 0])) w') := Lib.hid (fun w' rv k1 k2 k3 => by
        unfold ReadR rX rW rE rO
        simp only [if_neg hb, if_pos hd]
        exact ⟨Kr.ring k1, HP.out.turn k1 k2, _, rfl, k3⟩)
      by_cases hn : n = 0
      · subst hn
        clear h hb hx64 hU h0 hd HL
        go_enter Try.func14, Try.ntmps14
        go_wp2_with (first | (go_at_call 34; (with_reducible refine HM.out.mono ?_); rintro e w1 ⟨rfl, rfl⟩) | (go_at_call 35; (with_reducible refine HC.out.mono ?_); rintro e w1 ⟨rfl, rfl⟩) | (go_at_call 40; (with_reducible refine HRd.out.mono ?_); rintro e w1 ⟨k1, k2, rv, rfl, k3⟩))
        go_ret3
        exact hE.out _ _ k1 k2 k3
      · have d2 : (n == 0) = false := by simp [hn]
        have d3 : decide (0 < (xs.length : Int)) = true := decide_eq_true (by have := len_zero (hd.resolve_left hn); omega)
        have d4 : decide (0 < xs.length) = true := decide_eq_true (by have := len_zero (hd.resolve_left hn); omega)
        clear h hb hU h0 hd hn
        go_enter Try.func14, Try.ntmps14
        go_wp2_with (first | (go_at_call 34; (with_reducible refine HM.out.mono ?_); rintro e w1 ⟨rfl, rfl⟩) | (go_at_call 35; (with_reducible refine HC.out.mono ?_); rintro e w1 ⟨rfl, rfl⟩) | (go_at_call 39; (with_reducible refine HL.out.mono ?_); rintro e w1 ⟨rfl, rfl⟩) | (go_at_call 40; (with_reducible refine HRd.out.mono ?_); rintro e w1 ⟨k1, k2, rv, rfl, k3⟩))
        go_ret3
        exact hE.out _ _ k1 k2 k3
    · have hn : ¬ n = 0 := fun e => hd (.inl e)
      have hx : xs = [] := by
        by_cases e : xs = []
        · exact e
        · exact absurd (.inr e) hd
      subst hx
      have d2 : (n == 0) = false := by simp [hn]
      have HW := Lib.hid (waits_any w p r C [] R U false h)
      have hE : Hid (∀ w', Below w.heap.size w w' → ReadR w p r C [] R U n (.returned (.tuple #[.slice none 0 0, .int .i64 (if U = 0 then 2 else 1), .int .i64 0])) w') := Lib.hid (fun w' k1 => by
        unfold ReadR rX rW rE rO
        simp only [if_neg hb, if_neg hd]
        refine ⟨Kr.of_below k1, by simpa using HP.out.below k1, _, rfl, ?_⟩
        rw [List.take_nil]
        exact World.ownsRow_nil _ _ _ _)
      by_cases hU0 : U = 0
      · subst hU0
        clear h hb hU h0 hd hn
        go_enter Try.func14, Try.ntmps14
        go_wp2_with (first | (go_at_call 34; (with_reducible refine HM.out.mono ?_); rintro e w1 ⟨rfl, rfl⟩) | (go_at_call 35; (with_reducible refine HC.out.mono ?_); rintro e w1 ⟨rfl, rfl⟩) | (go_at_call 39; (with_reducible refine HL.out.mono ?_); rintro e w1 ⟨rfl, rfl⟩) | (go_at_call 36; refine HW.out.mono ?_; rintro e w1 ⟨rfl, k1⟩))
        go_ret3
        exact hE.out _ k1
      · have hm : mr [] U = true := by
          unfold mr
          simp
          omega
        rw [show (if false = true then mw C [] R else mr [] U) = true from hm] at HW
        rw [if_neg hU0] at hE
        clear h hb hU h0 hd hn hU0 hm
        go_enter Try.func14, Try.ntmps14
        go_wp2_with (first | (go_at_call 34; (with_reducible refine HM.out.mono ?_); rintro e w1 ⟨rfl, rfl⟩) | (go_at_call 35; (with_reducible refine HC.out.mono ?_); rintro e w1 ⟨rfl, rfl⟩) | (go_at_call 39; (with_reducible refine HL.out.mono ?_); rintro e w1 ⟨rfl, rfl⟩) | (go_at_call 36; refine HW.out.mono ?_; rintro e w1 ⟨rfl, k1⟩))
        go_ret3
        exact hE.out _ k1
end Go.Proofs.Ytfpdbcjnhgddoaa.Pr
