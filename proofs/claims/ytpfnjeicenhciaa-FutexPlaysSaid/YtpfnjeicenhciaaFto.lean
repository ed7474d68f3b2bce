/-
  alive of stage 11: the chapter's first examples.
-/
import Derived.Test.YtpfnjeicenhciaaFtn
namespace Go.Proofs.Ytpfnjeicenhciaa.Fto
open Go Go.RowKit Kit Bk Fta Ftb Ftc Ftd Fte Ftf Ftg Fth Fti Ftj Ftk Ftl Ftm Ftn
set_option linter.unusedVariables false

theorem Nr.lit1 (w : World) (x : Int) : Nr (w.alloc (.cells #[.int .i64 x] 3)) (.slice (some ⟨w.heap.size, 0, none⟩) 1 1) [x] :=
  World.ownsRow_lit (base := 0) (e := 3) (size := 1) w #[.int .i64 x] 1 (Nat.zero_le _) (by decide) rfl
theorem nr_own {w : World} {base : Nat} {v : Value} {l : List Int} (h : w.ownsRow base 3 1 v l.length (ints l)) : Nr w v l := own_base h (Nat.zero_le _)
variable {W0 w : World} {f r : Nat}
theorem wk1 (h : On W0 w f r A3) : Calls Try.prog 11 #[.pointer (some ⟨f, 0, none⟩), kv k1, .int .i64 1] w fun e w' => Kp (fr f r) w w' ∧ On W0 w' f r A4 ∧ ∃ a c, e = .returned (.slice a 1 c) ∧ Nr w' (.slice a 1 c) [3] := by
  refine (h.wake A3_wf (by decide) k1 k1_wf 1).mono ?_
  rintro e w' ⟨h1, h2, u, rfl, h3⟩
  obtain ⟨a, c, rfl⟩ := own_form h3
  exact ⟨h1, h2, a, c, rfl, nr_own h3⟩
theorem wk2 (h : On W0 w f r A4) : Calls Try.prog 11 #[.pointer (some ⟨f, 0, none⟩), kv k1, .int .i64 9] w fun e w' => Kp (fr f r) w w' ∧ On W0 w' f r A5 ∧ ∃ a c, e = .returned (.slice a 1 c) ∧ Nr w' (.slice a 1 c) [2] := by
  refine (h.wake A4_wf (by decide) k1 k1_wf 9).mono ?_
  rintro e w' ⟨h1, h2, u, rfl, h3⟩
  obtain ⟨a, c, rfl⟩ := own_form h3
  exact ⟨h1, h2, a, c, rfl, nr_own h3⟩
theorem wk3 (h : On W0 w f r A5) : Calls Try.prog 11 #[.pointer (some ⟨f, 0, none⟩), kv k1, .int .i64 1] w fun e w' => Kp (fr f r) w w' ∧ On W0 w' f r A5 ∧ ∃ a c, e = .returned (.slice a 0 c) := by
  refine (h.wake A5_wf (by decide) k1 k1_wf 1).mono ?_
  rintro e w' ⟨h1, h2, u, rfl, h3⟩
  obtain ⟨a, c, rfl⟩ := own_form h3
  exact ⟨h1, h2, a, c, rfl⟩
theorem wk0 (h : On W0 w f r A3) : Calls Try.prog 11 #[.pointer (some ⟨f, 0, none⟩), kv k1, .int .i64 0] w fun e w' => Kp (fr f r) w w' ∧ On W0 w' f r A3 ∧ ∃ a c, e = .returned (.slice a 0 c) := by
  refine (h.wake A3_wf (by decide) k1 k1_wf 0).mono ?_
  rintro e w' ⟨h1, h2, u, rfl, h3⟩
  obtain ⟨a, c, rfl⟩ := own_form h3
  exact ⟨h1, h2, a, c, rfl⟩
theorem wt3 (h : On W0 w f r A3) : Calls Try.prog 9 #[.pointer (some ⟨f, 0, none⟩), .int .i64 3, kv k1] w fun e w' => e = .returned (.int .i64 110) ∧ ∃ r', On W0 w' f r' A3 := by
  refine (h.wait (by decide) 3 k1).mono ?_
  rintro e w' ⟨rfl, -, r', h2, -⟩
  exact ⟨rfl, r', h2⟩

set_option maxRecDepth 100000 in
set_option maxHeartbeats 2000000 in
theorem alive_any (w : World) : Calls Try.prog 28 #[] w fun e w' => e = .returned (.bool true) ∧ Below w.heap.size w w' := by
  have HB := Lib.hid (fun w : World => one_any w)
  go_enter Try.func28, Try.ntmps28
  go_wp2_with (first
    | (go_at_call 26; (with_reducible refine (some_any _).mono ?_); rintro e w0 ⟨f, r, rfl, ho⟩; have HO := Lib.hid ho; clear ho)
    | (go_at_call 27; (with_reducible refine (HB.out _).mono ?_); rintro e w1 ⟨rfl, hb⟩; first
      | (have X := HN2.out; replace HN2 := Lib.hid (X.below hb); replace HN1 := Lib.hid (HN1.out.below hb); replace HO := Lib.hid (HO.out.below hb); clear X hb)
      | (have X := HN1.out; replace HN1 := Lib.hid (X.below hb); replace HO := Lib.hid (HO.out.below hb); clear X hb)
      | (replace HO := Lib.hid (HO.out.below hb); clear hb))
    | (go_at_call 9; (with_reducible refine (wt3 HO.out).mono ?_); rintro e w1 ⟨rfl, r1, ho⟩; replace HO := Lib.hid ho; clear ho)
    | (go_at_call 11; first
      | ((with_reducible refine (wk1 HO.out).mono ?_); rintro e w1 ⟨hk, ho, a1, c1, rfl, hn⟩; have HN1 := Lib.hid hn; replace HO := Lib.hid ho; clear ho hn hk)
      | ((with_reducible refine (wk2 HO.out).mono ?_); rintro e w1 ⟨hk, ho, a2, c2, rfl, hn⟩; have HN2 := Lib.hid hn; replace HN1 := Lib.hid (HO.out.nr hk HN1.out); replace HO := Lib.hid ho; clear ho hn hk)
      | ((with_reducible refine (wk3 HO.out).mono ?_); rintro e w1 ⟨hk, ho, a3, c3, rfl⟩; replace HN1 := Lib.hid (HO.out.nr hk HN1.out); replace HN2 := Lib.hid (HO.out.nr hk HN2.out); replace HO := Lib.hid ho; clear ho hk))
    | (go_at_call 12; first
      | ((with_reducible refine (same_nr _ _ [3] _ (by decide) (HN1.out.below ((Below.refl _ _).alloc (Nat.le_refl _) _)) (Nr.lit1 _ 3)).mono ?_); rintro e w2 ⟨rfl, hb⟩; have hb2 := ((Below.refl _ _).alloc (Nat.le_refl _) _).trans (hb.mono (by simp)); replace HN2 := Lib.hid (HN2.out.below hb2); replace HO := Lib.hid (HO.out.below hb2); clear hb hb2)
      | ((with_reducible refine (same_nr _ _ [2] _ (by decide) (HN2.out.below ((Below.refl _ _).alloc (Nat.le_refl _) _)) (Nr.lit1 _ 2)).mono ?_); rintro e w2 ⟨rfl, hb⟩; have hb2 := ((Below.refl _ _).alloc (Nat.le_refl _) _).trans (hb.mono (by simp)); replace HO := Lib.hid (HO.out.below hb2); clear hb hb2))
    | (go_at_call 24; (with_reducible refine (flen_any _ f r1 A5 HO.out.lx).mono ?_); rintro e w2 ⟨rfl, rfl⟩))
  go_ret
  exact ⟨rfl, HO.out.bel⟩
end Go.Proofs.Ytpfnjeicenhciaa.Fto
