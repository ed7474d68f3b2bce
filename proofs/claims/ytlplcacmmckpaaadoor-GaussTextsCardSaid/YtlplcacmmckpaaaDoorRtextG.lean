/-
  The document's own text of a number, and its words.
-/
import Derived.Test.YtlplcacmmckpaaaDoorRdig
import Derived.Test.YtlplcacmmckpaaaDoorGref
import Derived.Test.YtlplcacmmckpaaaDoorWordsG
namespace Go.Proofs.YtlplcacmmckpaaaDoor.RtextG
open Go Go.RowKit Kit Fl Whole Gleaf Gparts Gwhole Gnums Gref Gg TextG TxtNums Rdig WordsG
set_option linter.unusedVariables false

theorem st_itoa (n : Int) : it n = st (Lib.itoa n) := rfl
theorem itoa_pos {p : Int} (h : 0 ≤ p) : Lib.itoa p = Lib.decDigits p.toNat := by unfold Lib.itoa; rw [if_neg (by omega)]
theorem itoa_neg {p : Int} (h : p < 0) : Lib.itoa p = 45 :: Lib.decDigits (-p).toNat := by
  unfold Lib.itoa
  rw [if_pos h]
  congr 2
  omega
theorem txt_st (p q : Int) : txt p q = st (bd p q ++ [105]) := txt_eq p q
theorem dec_size {n : Nat} (h : n ≤ 524288) : (st (Lib.decDigits n)).size ≤ 21 := by
  have h1 := Lib.itoa_length_le (n : Int) (by omega) (by omega)
  rw [Lib.itoa_nonneg] at h1
  rw [st_size]
  exact h1

set_option maxHeartbeats 1000000 in
theorem rtext_pp (a b m n : Nat) (hm : m ≤ 524288) (hn : n ≤ 524288) (hN : isN a b = true) (hp : re a b = (m : Int)) (hq : im a b = (n : Int)) (w : World) :
    Calls Tryd.prog 15 #[.complex .f64 a b] w fun e w' => e = .returned (.string (textS a b)) ∧ Below w.heap.size w w' := by
  have hs : textS a b = st (Lib.decDigits m ++ (43 :: Lib.decDigits n) ++ [105]) := by
    unfold textS
    rw [hN, if_pos rfl, hp, hq, txt_st]
    unfold bd sq
    rw [Lib.itoa_nonneg m]
    rw [if_pos (by omega), Lib.itoa_nonneg n]
  rw [hs]
  have hW : ∀ wx, Calls Tryd.prog 24 #[.complex .f64 a b] wx fun e w' => e = .returned (.tuple #[.int .i64 ((m : Int)), .int .i64 ((n : Int)), .bool true]) ∧ wx = w' := fun wx => by
    have := rparts_any a b wx
    rwa [hN, hp, hq] at this
  have HW := Lib.hid hW
  have FM := Lib.hid (fun wx => digits_any m hm wx)
  have FN := Lib.hid (fun wx => digits_any n hn wx)
  have zm := dec_size hm
  have zn := dec_size hn
  clear hW hs hp hq hN
  obtain ⟨M, hM⟩ : ∃ M, st (Lib.decDigits m) = M := ⟨_, rfl⟩
  obtain ⟨N, hNN⟩ : ∃ N, st (Lib.decDigits n) = N := ⟨_, rfl⟩
  rw [hM] at zm FM
  rw [hNN] at zn FN
  have HM := Lib.hid hM
  have HN := Lib.hid hNN
  clear hM hNN
  go_enter Tryd.func15, Tryd.ntmps15
  go_wp2_with (first
    | (go_at_call 24; ((with_reducible refine (HW.out _).mono ?_); rintro e w1 ⟨rfl, rfl⟩))
    | (go_at_call 30; ((with_reducible refine (FM.out _).mono ?_); rintro e w1 ⟨rfl, hb1⟩))
    | (go_at_call 30; ((with_reducible refine (FN.out _).mono ?_); rintro e w2 ⟨rfl, hb2⟩)))
  all_goals go_ret
  all_goals refine ⟨?_, bel' hb1 hb2⟩
  all_goals
    show Ending.returned (.string _) = _
    rw [← HM.out, ← HN.out]
    exact congrArg (fun x => Ending.returned (.string x)) (by
      apply ByteArray.ext
      simp [st])

set_option maxHeartbeats 1000000 in
theorem rtext_pn (a b m n : Nat) (hm : m ≤ 524288) (hn : n ≤ 524288) (hn1 : 0 < n) (hN : isN a b = true) (hp : re a b = (m : Int)) (hq : im a b = -(n : Int)) (w : World) :
    Calls Tryd.prog 15 #[.complex .f64 a b] w fun e w' => e = .returned (.string (textS a b)) ∧ Below w.heap.size w w' := by
  have hs : textS a b = st (Lib.decDigits m ++ (45 :: Lib.decDigits n) ++ [105]) := by
    unfold textS
    rw [hN, if_pos rfl, hp, hq, txt_st]
    unfold bd sq
    rw [Lib.itoa_nonneg m]
    rw [if_neg (by omega), Lib.itoa_neg n hn1]
  rw [hs]
  have hW : ∀ wx, Calls Tryd.prog 24 #[.complex .f64 a b] wx fun e w' => e = .returned (.tuple #[.int .i64 ((m : Int)), .int .i64 (-(n : Int)), .bool true]) ∧ wx = w' := fun wx => by
    have := rparts_any a b wx
    rwa [hN, hp, hq] at this
  have HW := Lib.hid hW
  have FM := Lib.hid (fun wx => digits_any m hm wx)
  have FN := Lib.hid (fun wx => digits_any n hn wx)
  have zm := dec_size hm
  have zn := dec_size hn
  clear hW hs hp hq hN
  obtain ⟨M, hM⟩ : ∃ M, st (Lib.decDigits m) = M := ⟨_, rfl⟩
  obtain ⟨N, hNN⟩ : ∃ N, st (Lib.decDigits n) = N := ⟨_, rfl⟩
  rw [hM] at zm FM
  rw [hNN] at zn FN
  have HM := Lib.hid hM
  have HN := Lib.hid hNN
  clear hM hNN
  go_enter Tryd.func15, Tryd.ntmps15
  go_wp2_with (first
    | (go_at_call 24; ((with_reducible refine (HW.out _).mono ?_); rintro e w1 ⟨rfl, rfl⟩))
    | (go_at_call 30; ((with_reducible refine (FM.out _).mono ?_); rintro e w1 ⟨rfl, hb1⟩))
    | (go_at_call 30; ((with_reducible refine (FN.out _).mono ?_); rintro e w2 ⟨rfl, hb2⟩)))
  all_goals go_ret
  all_goals refine ⟨?_, bel' hb1 hb2⟩
  all_goals
    show Ending.returned (.string _) = _
    rw [← HM.out, ← HN.out]
    exact congrArg (fun x => Ending.returned (.string x)) (by
      apply ByteArray.ext
      simp [st])

set_option maxHeartbeats 1000000 in
theorem rtext_np (a b m n : Nat) (hm : m ≤ 524288) (hn : n ≤ 524288) (hm1 : 0 < m) (hN : isN a b = true) (hp : re a b = -(m : Int)) (hq : im a b = (n : Int)) (w : World) :
    Calls Tryd.prog 15 #[.complex .f64 a b] w fun e w' => e = .returned (.string (textS a b)) ∧ Below w.heap.size w w' := by
  have hs : textS a b = st (45 :: Lib.decDigits m ++ (43 :: Lib.decDigits n) ++ [105]) := by
    unfold textS
    rw [hN, if_pos rfl, hp, hq, txt_st]
    unfold bd sq
    rw [Lib.itoa_neg m hm1]
    rw [if_pos (by omega), Lib.itoa_nonneg n]
  rw [hs]
  have hW : ∀ wx, Calls Tryd.prog 24 #[.complex .f64 a b] wx fun e w' => e = .returned (.tuple #[.int .i64 (-(m : Int)), .int .i64 ((n : Int)), .bool true]) ∧ wx = w' := fun wx => by
    have := rparts_any a b wx
    rwa [hN, hp, hq] at this
  have HW := Lib.hid hW
  have FM := Lib.hid (fun wx => digits_any m hm wx)
  have FN := Lib.hid (fun wx => digits_any n hn wx)
  have zm := dec_size hm
  have zn := dec_size hn
  clear hW hs hp hq hN
  obtain ⟨M, hM⟩ : ∃ M, st (Lib.decDigits m) = M := ⟨_, rfl⟩
  obtain ⟨N, hNN⟩ : ∃ N, st (Lib.decDigits n) = N := ⟨_, rfl⟩
  rw [hM] at zm FM
  rw [hNN] at zn FN
  have HM := Lib.hid hM
  have HN := Lib.hid hNN
  clear hM hNN
  go_enter Tryd.func15, Tryd.ntmps15
  go_wp2_with (first
    | (go_at_call 24; ((with_reducible refine (HW.out _).mono ?_); rintro e w1 ⟨rfl, rfl⟩))
    | (go_at_call 30; ((with_reducible refine (FM.out _).mono ?_); rintro e w1 ⟨rfl, hb1⟩))
    | (go_at_call 30; ((with_reducible refine (FN.out _).mono ?_); rintro e w2 ⟨rfl, hb2⟩)))
  all_goals go_ret
  all_goals refine ⟨?_, bel' hb1 hb2⟩
  all_goals
    show Ending.returned (.string _) = _
    rw [← HM.out, ← HN.out]
    exact congrArg (fun x => Ending.returned (.string x)) (by
      apply ByteArray.ext
      simp [st])

set_option maxHeartbeats 1000000 in
theorem rtext_nn (a b m n : Nat) (hm : m ≤ 524288) (hn : n ≤ 524288) (hm1 : 0 < m) (hn1 : 0 < n) (hN : isN a b = true) (hp : re a b = -(m : Int)) (hq : im a b = -(n : Int)) (w : World) :
    Calls Tryd.prog 15 #[.complex .f64 a b] w fun e w' => e = .returned (.string (textS a b)) ∧ Below w.heap.size w w' := by
  have hs : textS a b = st (45 :: Lib.decDigits m ++ (45 :: Lib.decDigits n) ++ [105]) := by
    unfold textS
    rw [hN, if_pos rfl, hp, hq, txt_st]
    unfold bd sq
    rw [Lib.itoa_neg m hm1]
    rw [if_neg (by omega), Lib.itoa_neg n hn1]
  rw [hs]
  have hW : ∀ wx, Calls Tryd.prog 24 #[.complex .f64 a b] wx fun e w' => e = .returned (.tuple #[.int .i64 (-(m : Int)), .int .i64 (-(n : Int)), .bool true]) ∧ wx = w' := fun wx => by
    have := rparts_any a b wx
    rwa [hN, hp, hq] at this
  have HW := Lib.hid hW
  have FM := Lib.hid (fun wx => digits_any m hm wx)
  have FN := Lib.hid (fun wx => digits_any n hn wx)
  have zm := dec_size hm
  have zn := dec_size hn
  clear hW hs hp hq hN
  obtain ⟨M, hM⟩ : ∃ M, st (Lib.decDigits m) = M := ⟨_, rfl⟩
  obtain ⟨N, hNN⟩ : ∃ N, st (Lib.decDigits n) = N := ⟨_, rfl⟩
  rw [hM] at zm FM
  rw [hNN] at zn FN
  have HM := Lib.hid hM
  have HN := Lib.hid hNN
  clear hM hNN
  go_enter Tryd.func15, Tryd.ntmps15
  go_wp2_with (first
    | (go_at_call 24; ((with_reducible refine (HW.out _).mono ?_); rintro e w1 ⟨rfl, rfl⟩))
    | (go_at_call 30; ((with_reducible refine (FM.out _).mono ?_); rintro e w1 ⟨rfl, hb1⟩))
    | (go_at_call 30; ((with_reducible refine (FN.out _).mono ?_); rintro e w2 ⟨rfl, hb2⟩)))
  all_goals go_ret
  all_goals refine ⟨?_, bel' hb1 hb2⟩
  all_goals
    show Ending.returned (.string _) = _
    rw [← HM.out, ← HN.out]
    exact congrArg (fun x => Ending.returned (.string x)) (by
      apply ByteArray.ext
      simp [st])

theorem rtext_none (a b : Nat) (hN : isN a b = false) (w : World) :
    Calls Tryd.prog 15 #[.complex .f64 a b] w fun e w' => e = .returned (.string (textS a b)) ∧ Below w.heap.size w w' := by
  have hs : textS a b = ⟨#[]⟩ := by unfold textS; rw [hN]; rfl
  have hr : re a b = 0 := by unfold re; rw [hN]; rfl
  have hi : im a b = 0 := by unfold im; rw [hN]; rfl
  rw [hs]
  have hW : ∀ wx, Calls Tryd.prog 24 #[.complex .f64 a b] wx fun e w' => e = .returned (.tuple #[.int .i64 0, .int .i64 0, .bool false]) ∧ wx = w' := fun wx => by
    have := rparts_any a b wx
    rwa [hN, hr, hi] at this
  have HW := Lib.hid hW
  clear hW hs hr hi hN
  go_enter Tryd.func15, Tryd.ntmps15
  go_wp2_with (first | (go_at_call 24; ((with_reducible refine (HW.out _).mono ?_); rintro e w1 ⟨rfl, rfl⟩)))
  go_ret
  exact ⟨rfl, Below.refl _ _⟩

theorem rtext_any (a b : Nat) (w : World) :
    Calls Tryd.prog 15 #[.complex .f64 a b] w fun e w' => e = .returned (.string (textS a b)) ∧ Below w.heap.size w w' := by
  cases hN : isN a b with
  | false => exact rtext_none a b hN w
  | true =>
    have h1 := re_range a b
    have h2 := im_range a b
    by_cases hp : 0 ≤ re a b
    · obtain ⟨m, hm⟩ := Int.eq_ofNat_of_zero_le hp
      by_cases hq : 0 ≤ im a b
      · obtain ⟨n, hn⟩ := Int.eq_ofNat_of_zero_le hq
        exact rtext_pp a b m n (by omega) (by omega) hN hm hn w
      · obtain ⟨n, hn⟩ := Int.eq_ofNat_of_zero_le (show 0 ≤ -(im a b) by omega)
        exact rtext_pn a b m n (by omega) (by omega) (by omega) hN hm (by omega) w
    · obtain ⟨m, hm⟩ := Int.eq_ofNat_of_zero_le (show 0 ≤ -(re a b) by omega)
      by_cases hq : 0 ≤ im a b
      · obtain ⟨n, hn⟩ := Int.eq_ofNat_of_zero_le hq
        exact rtext_np a b m n (by omega) (by omega) (by omega) hN (by omega) hn w
      · obtain ⟨n, hn⟩ := Int.eq_ofNat_of_zero_le (show 0 ≤ -(im a b) by omega)
        exact rtext_nn a b m n (by omega) (by omega) (by omega) (by omega) hN (by omega) (by omega) w

theorem rwords_any (a b : Nat) (w : World) :
    Calls Tryd.prog 9 #[.complex .f64 a b] w fun e w' => e = .returned (.tuple #[.int .u32 (wd (re a b)), .int .u32 (wd (im a b))]) ∧ w = w' := by
  obtain ⟨h1, h1'⟩ := re_range a b
  obtain ⟨h2, h2'⟩ := im_range a b
  by_cases hp : re a b < 0
  all_goals by_cases hq : im a b < 0
  all_goals
    go_enter Tryd.func9, Tryd.ntmps9
    go_wp2_with (first | (go_at_call 24; refine (rparts_any _ _ _).mono ?_; rintro e w1 ⟨rfl, rfl⟩))
    go_ret2
    refine ⟨ret_ii ?_ ?_, rfl⟩
    all_goals (unfold wd; omega)

theorem rfrom_any (x y : Int) (hx : 0 ≤ x ∧ x < 4294967296) (hy : 0 ≤ y ∧ y < 4294967296) (w : World) :
    Calls Tryd.prog 13 #[.int .u32 x, .int .u32 y] w fun e w' => e = .returned (zv (gm (sx x) (sx y))) ∧ w = w' := by
  obtain ⟨h1, h1'⟩ := hx
  obtain ⟨h2, h2'⟩ := hy
  by_cases hp : 2147483648 ≤ x
  all_goals by_cases hq : 2147483648 ≤ y
  all_goals
    go_enter Tryd.func13, Tryd.ntmps13
    go_wp2_with (first | (go_at_call 27; refine (rmake_any _ _ _ (by omega) (by omega)).mono ?_; rintro e w1 ⟨rfl, rfl⟩))
    go_ret
    refine ⟨?_, rfl⟩
    show Ending.returned (zv (gm _ _)) = _
    refine congrArg Ending.returned ?_
    congr 2
    all_goals (unfold sx wrap32; omega)
end Go.Proofs.YtlplcacmmckpaaaDoor.RtextG
