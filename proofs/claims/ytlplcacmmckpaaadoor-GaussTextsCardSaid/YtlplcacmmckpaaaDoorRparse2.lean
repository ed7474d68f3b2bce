/-
  The document's Parse, of texts with no minus ahead; of any.
-/
import Derived.Test.YtlplcacmmckpaaaDoorRparse
namespace Go.Proofs.YtlplcacmmckpaaaDoor.Rparse
open Go Go.RowKit Kit Fl Whole Gleaf Gparts Gwhole Gnums Gref Gg TextG TxtNums ReadG Rdig Rnum RtextG
set_option linter.unusedVariables false

set_option maxRecDepth 100000 in
set_option maxHeartbeats 4000000 in
theorem rparse_pos (s : ByteArray) (hs : s.size ≤ 1000) (b : UInt8) (r : List UInt8) (hb : b.toNat ≠ 45) (hl : s.data.toList = b :: r) (w : World) :
    Calls Tryd.prog 11 #[.string s] w fun e w' => PR s e ∧ Below w.heap.size w w' := by
  have hsh := shape_pos (s := s) (.inr ⟨b, r, hb, hl⟩)
  have SH := Lib.hid hsh
  have hz : 0 < s.size := by
    have := len_eq s
    rw [hl] at this
    simp at this
    omega
  have hy0 : s[0]'hz = b := by
    have h1 : s.data.toList[0]? = some b := by rw [hl]; rfl
    rw [List.getElem?_eq_getElem (by have := len_eq s; omega)] at h1
    exact Option.some.inj h1
  have tb : ((b.toNat : Int) == 45) = false := by simp; omega
  clear hb hl
  clear hsh
  go_enter Tryd.func11, Tryd.ntmps11
  go_wp2_with (go_at_call 26; refine (number_at s 0 _ rfl hs (by omega) _).mono ?_; rintro e w1 ⟨⟨rfl, hno⟩ | ⟨I, v, hk1, hk2, hv, rfl, hyes⟩, rfl⟩ <;> refine Hid.out ?_)
  all_goals refine Lib.hid ?_
  · have HA := Lib.hid (pr_no (s := s) (fun p q hp hq e => by
      obtain ⟨m, n, c, a1, _⟩ := SH.out p q hp hq e
      exact hno m a1))
    clear hno
    go_wp2
    go_ret2
    exact ⟨HA.out, Below.refl _ _⟩
  · have HY1 := Lib.hid hyes
    clear hyes
    by_cases hI : I < s.size
    · obtain ⟨y, hy⟩ : ∃ y : UInt8, s[I]'hI = y := ⟨_, rfl⟩
      have hyc : s.data.toList[I]'(by have := len_eq s; omega) = y := by rw [← hy]; rfl
      have HYC := Lib.hid hyc
      have hyb : y.toNat < 256 := y.toNat_lt
      clear hyc
      by_cases hpm : y.toNat = 43 ∨ y.toNat = 45
      · have hcase : (((y.toNat : Int) == 45) = true ∧ ((y.toNat : Int) != 43) = true ∧ ((y.toNat : Int) != 45) = false ∧ y.toNat = 45) ∨ (((y.toNat : Int) == 45) = false ∧ ((y.toNat : Int) != 43) = false ∧ ((y.toNat : Int) == 43) = true ∧ y.toNat = 43) := by
          rcases hpm with h | h
          · right
            simp
            omega
          · left
            simp
            omega
        clear hpm
        rcases hcase with ⟨t1, t2, t3, t4⟩ | ⟨t1, t2, t3, t4⟩
        · have T4 := Lib.hid t4
          clear t4
          go_wp2_with (go_at_call 26; refine (number_at s (I + 1) _ (by omega) hs (by omega) _).mono ?_; rintro e w1 ⟨⟨rfl, hno⟩ | ⟨J, v2, hk3, hk4, hv2, rfl, hyes2⟩, rfl⟩ <;> refine Hid.out ?_)
          all_goals refine Lib.hid ?_
          · have HA := Lib.hid (pr_no (s := s) (fun p q hp hq e => by
              obtain ⟨m, n, c, a1, a2, ⟨h5, a3⟩, a4, a5, _⟩ := SH.out p q hp hq e
              obtain ⟨b1, b2⟩ := HY1.out m a1
              rw [← b1] at a5
              exact hno n a5))
            clear hno
            go_wp2
            go_ret2
            exact ⟨HA.out, Below.refl _ _⟩
          · have HY2 := Lib.hid hyes2
            clear hyes2
            by_cases hsl : s.data.toList.drop J = [105]
            · have hsx : ((s.extract J s.size).toList == [105]) = true := by rw [slice_i, hsl]; simp
              clear hsl
              have hAB : ∀ p q, InR p → InR q → s = txt p q → (v : Int) = p ∧ -(v2 : Int) = q := fun p q hp hq e => by
                obtain ⟨m, n, c, a1, a2, ⟨h5, a3⟩, a4, a5, a6⟩ := SH.out p q hp hq e
                obtain ⟨b1, b2⟩ := HY1.out m a1
                rw [← b1] at a5
                obtain ⟨b3, b4⟩ := HY2.out n a5
                have a3' := HYC.out
                have t4 := T4.out
                simp only [← b1] at a3
                rw [a3] at a3'
                rw [a3'] at a4
                omega
              have HAB := Lib.hid hAB
              clear hAB
              obtain ⟨X, hX⟩ : ∃ X, txt (wr ((v : Int))) (wr (-(v2 : Int))) = X := ⟨_, rfl⟩
              have hTX := fun wx => rtext_g (gm ((v : Int)) (-(v2 : Int))) wx
              have e1 : txt (wr (gm ((v : Int)) (-(v2 : Int))).1) (wr (gm ((v : Int)) (-(v2 : Int))).2) = X := hX
              rw [e1] at hTX
              have HTX := Lib.hid hTX
              have HXX := Lib.hid hX
              clear hTX e1 hX
              by_cases heq : X = s
              · have HA := Lib.hid (show PR s (.returned (.tuple #[zv (gm ((v : Int)) (-(v2 : Int))), .int .i64 0])) from .inl ⟨wr ((v : Int)), wr (-(v2 : Int)), wr_range _, wr_range _, by rw [← heq, ← HXX.out], by rw [zv_wr]⟩)
                have hne : (X.toList == s.toList) = true := by rw [heq]; simp
                clear heq
                go_wp2_with (first
                  | (go_at_call 27; refine (rmake_g _ _ _ (by omega) (by omega)).mono ?_; rintro e w2 ⟨rfl, rfl⟩)
                  | (go_at_call 15; ((with_reducible refine (HTX.out _).mono ?_); rintro e w3 ⟨rfl, hb3⟩)))
                go_ret2
                exact ⟨HA.out, hb3⟩
              · have HA := Lib.hid (pr_no (s := s) (fun p q hp hq e => by
                  obtain ⟨f1, f2⟩ := HAB.out p q hp hq e
                  apply heq
                  rw [← HXX.out, f1, f2, wr_id hp, wr_id hq]
                  exact e.symm))
                have hne : (X.toList == s.toList) = false := by
                  rw [beq_eq_false_iff_ne]
                  intro h
                  rw [ByteArray.toList_eq, ByteArray.toList_eq] at h
                  exact heq (ByteArray.ext (Array.ext' h))
                clear heq
                go_wp2_with (first
                  | (go_at_call 27; refine (rmake_g _ _ _ (by omega) (by omega)).mono ?_; rintro e w2 ⟨rfl, rfl⟩)
                  | (go_at_call 15; ((with_reducible refine (HTX.out _).mono ?_); rintro e w3 ⟨rfl, hb3⟩)))
                go_ret2
                exact ⟨HA.out, hb3⟩
            · have HA := Lib.hid (pr_no (s := s) (fun p q hp hq e => by
                obtain ⟨m, n, c, a1, a2, ⟨h5, a3⟩, a4, a5, a6⟩ := SH.out p q hp hq e
                obtain ⟨b1, b2⟩ := HY1.out m a1
                rw [← b1] at a5 a6
                obtain ⟨b3, b4⟩ := HY2.out n a5
                rw [← b3] at a6
                exact hsl a6))
              have hsx : ((s.extract J s.size).toList == [105]) = false := by rw [slice_i, beq_eq_false_iff_ne]; exact hsl
              clear hsl
              go_wp2
              go_ret2
              exact ⟨HA.out, Below.refl _ _⟩
        · have T4 := Lib.hid t4
          clear t4
          go_wp2_with (go_at_call 26; refine (number_at s (I + 1) _ (by omega) hs (by omega) _).mono ?_; rintro e w1 ⟨⟨rfl, hno⟩ | ⟨J, v2, hk3, hk4, hv2, rfl, hyes2⟩, rfl⟩ <;> refine Hid.out ?_)
          all_goals refine Lib.hid ?_
          · have HA := Lib.hid (pr_no (s := s) (fun p q hp hq e => by
              obtain ⟨m, n, c, a1, a2, ⟨h5, a3⟩, a4, a5, _⟩ := SH.out p q hp hq e
              obtain ⟨b1, b2⟩ := HY1.out m a1
              rw [← b1] at a5
              exact hno n a5))
            clear hno
            go_wp2
            go_ret2
            exact ⟨HA.out, Below.refl _ _⟩
          · have HY2 := Lib.hid hyes2
            clear hyes2
            by_cases hsl : s.data.toList.drop J = [105]
            · have hsx : ((s.extract J s.size).toList == [105]) = true := by rw [slice_i, hsl]; simp
              clear hsl
              have hAB : ∀ p q, InR p → InR q → s = txt p q → (v : Int) = p ∧ (v2 : Int) = q := fun p q hp hq e => by
                obtain ⟨m, n, c, a1, a2, ⟨h5, a3⟩, a4, a5, a6⟩ := SH.out p q hp hq e
                obtain ⟨b1, b2⟩ := HY1.out m a1
                rw [← b1] at a5
                obtain ⟨b3, b4⟩ := HY2.out n a5
                have a3' := HYC.out
                have t4 := T4.out
                simp only [← b1] at a3
                rw [a3] at a3'
                rw [a3'] at a4
                omega
              have HAB := Lib.hid hAB
              clear hAB
              obtain ⟨X, hX⟩ : ∃ X, txt (wr ((v : Int))) (wr ((v2 : Int))) = X := ⟨_, rfl⟩
              have hTX := fun wx => rtext_g (gm ((v : Int)) ((v2 : Int))) wx
              have e1 : txt (wr (gm ((v : Int)) ((v2 : Int))).1) (wr (gm ((v : Int)) ((v2 : Int))).2) = X := hX
              rw [e1] at hTX
              have HTX := Lib.hid hTX
              have HXX := Lib.hid hX
              clear hTX e1 hX
              by_cases heq : X = s
              · have HA := Lib.hid (show PR s (.returned (.tuple #[zv (gm ((v : Int)) ((v2 : Int))), .int .i64 0])) from .inl ⟨wr ((v : Int)), wr ((v2 : Int)), wr_range _, wr_range _, by rw [← heq, ← HXX.out], by rw [zv_wr]⟩)
                have hne : (X.toList == s.toList) = true := by rw [heq]; simp
                clear heq
                go_wp2_with (first
                  | (go_at_call 27; refine (rmake_g _ _ _ (by omega) (by omega)).mono ?_; rintro e w2 ⟨rfl, rfl⟩)
                  | (go_at_call 15; ((with_reducible refine (HTX.out _).mono ?_); rintro e w3 ⟨rfl, hb3⟩)))
                go_ret2
                exact ⟨HA.out, hb3⟩
              · have HA := Lib.hid (pr_no (s := s) (fun p q hp hq e => by
                  obtain ⟨f1, f2⟩ := HAB.out p q hp hq e
                  apply heq
                  rw [← HXX.out, f1, f2, wr_id hp, wr_id hq]
                  exact e.symm))
                have hne : (X.toList == s.toList) = false := by
                  rw [beq_eq_false_iff_ne]
                  intro h
                  rw [ByteArray.toList_eq, ByteArray.toList_eq] at h
                  exact heq (ByteArray.ext (Array.ext' h))
                clear heq
                go_wp2_with (first
                  | (go_at_call 27; refine (rmake_g _ _ _ (by omega) (by omega)).mono ?_; rintro e w2 ⟨rfl, rfl⟩)
                  | (go_at_call 15; ((with_reducible refine (HTX.out _).mono ?_); rintro e w3 ⟨rfl, hb3⟩)))
                go_ret2
                exact ⟨HA.out, hb3⟩
            · have HA := Lib.hid (pr_no (s := s) (fun p q hp hq e => by
                obtain ⟨m, n, c, a1, a2, ⟨h5, a3⟩, a4, a5, a6⟩ := SH.out p q hp hq e
                obtain ⟨b1, b2⟩ := HY1.out m a1
                rw [← b1] at a5 a6
                obtain ⟨b3, b4⟩ := HY2.out n a5
                rw [← b3] at a6
                exact hsl a6))
              have hsx : ((s.extract J s.size).toList == [105]) = false := by rw [slice_i, beq_eq_false_iff_ne]; exact hsl
              clear hsl
              go_wp2
              go_ret2
              exact ⟨HA.out, Below.refl _ _⟩
      · have HA := Lib.hid (pr_no (s := s) (fun p q hp hq e => by
          obtain ⟨m, n, c, a1, a2, ⟨h5, a3⟩, a4, _⟩ := SH.out p q hp hq e
          obtain ⟨b1, b2⟩ := HY1.out m a1
          have a3' := HYC.out
          simp only [← b1] at a3
          rw [a3] at a3'
          rw [a3'] at a4
          omega))
        have t1 : ((y.toNat : Int) != 43) = true := by simp; omega
        have t2 : ((y.toNat : Int) != 45) = true := by simp; omega
        clear hpm
        go_wp2
        go_ret2
        exact ⟨HA.out, Below.refl _ _⟩
    · have HA := Lib.hid (pr_no (s := s) (fun p q hp hq e => by
        obtain ⟨m, n, c, a1, a2, ⟨h5, a3⟩, _⟩ := SH.out p q hp hq e
        obtain ⟨b1, b2⟩ := HY1.out m a1
        have := len_eq s
        omega))
      go_wp2
      go_ret2
      exact ⟨HA.out, Below.refl _ _⟩

theorem rparse_empty (w : World) :
    Calls Tryd.prog 11 #[.string ⟨#[]⟩] w fun e w' => PR ⟨#[]⟩ e ∧ Below w.heap.size w w' := by
  have HA := Lib.hid (pr_no (s := ⟨#[]⟩) (fun p q hp hq e => by
    have h := txt_list p q
    rw [← e] at h
    simp at h))
  go_enter Tryd.func11, Tryd.ntmps11
  go_wp2_with (go_at_call 26; refine (number_at ⟨#[]⟩ 0 _ rfl (by decide) (by decide) _).mono ?_; rintro e w1 ⟨⟨rfl, hno⟩ | ⟨I, v, hk1, hk2, hv, rfl, hyes⟩, rfl⟩ <;> refine Hid.out ?_)
  all_goals refine Lib.hid ?_
  · clear hno
    go_wp2
    go_ret2
    exact ⟨HA.out, Below.refl _ _⟩
  · exfalso
    have : (⟨#[]⟩ : ByteArray).size = 0 := rfl
    omega

theorem rparse_any (s : ByteArray) (hs : s.size ≤ 1000) (w : World) :
    Calls Tryd.prog 11 #[.string s] w fun e w' => ParseR (.int .i64 0) (.int .i64 20) s e ∧ Below w.heap.size w w' := by
  cases hl : s.data.toList with
  | nil =>
    obtain rfl : s = ⟨#[]⟩ := ByteArray.ext (Array.ext' hl)
    exact rparse_empty w
  | cons b r =>
    by_cases hb : b.toNat = 45
    · exact rparse_neg s hs b r hb hl w
    · exact rparse_pos s hs b r hb hl w
#print axioms rparse_any
end Go.Proofs.YtlplcacmmckpaaaDoor.Rparse
