/-
  The document's Parse, of any text of at most 1,000 bytes.
-/
import Derived.Test.YtlplcacmmckpaaaDoorRnum2
import Derived.Test.YtlplcacmmckpaaaDoorRtextG
import Derived.Test.YtlplcacmmckpaaaDoorReadG
namespace Go.Proofs.YtlplcacmmckpaaaDoor.Rparse
open Go Go.RowKit Kit Fl Whole Gleaf Gparts Gwhole Gnums Gref Gg TextG TxtNums ReadG Rdig Rnum RtextG
set_option linter.unusedVariables false

/-- What number answers, its end by a letter. -/
def NumR2 (s : ByteArray) (at' : Nat) (e : Ending) : Prop :=
  (e = .returned (.tuple #[.int .i64 0, .int .i64 (-1)]) ∧ ∀ u, ¬ At s at' u) ∨
  (∃ J v : Nat, at' < J ∧ J ≤ s.size ∧ v ≤ 9999999 ∧ e = .returned (.tuple #[.int .i64 v, .int .i64 (J : Int)]) ∧ ∀ u, At s at' u → J = at' + (Lib.decDigits u).length ∧ v = u)
theorem number_at (s : ByteArray) (at' : Nat) (A : Int) (hA : A = (at' : Int)) (hs : s.size ≤ 1000) (ha : at' ≤ s.size) (w : World) :
    Calls Tryd.prog 26 #[.string s, .int .i64 A] w fun e w' => NumR2 s at' e ∧ w = w' := by
  subst hA
  refine (number_any s at' hs ha w).mono fun e w' ⟨hr, hw⟩ => ⟨?_, hw⟩
  rcases hr with ⟨he, hn⟩ | ⟨k, v, h1, h2, h3, he, h4⟩
  · exact .inl ⟨he, hn⟩
  · exact .inr ⟨at' + k, v, by omega, h2, h3, he, fun u hu => ⟨by have := (h4 u hu).1; omega, (h4 u hu).2⟩⟩

/-- A number's text, from its first digit on. -/
def Shape (s : ByteArray) (at' : Nat) (p q : Int) : Prop :=
  ∃ (m n : Nat) (c : UInt8), At s at' m ∧ (at' = 1 ∧ p = -(m : Int) ∨ at' = 0 ∧ p = (m : Int)) ∧ (∃ h : at' + (Lib.decDigits m).length < s.data.toList.length, s.data.toList[at' + (Lib.decDigits m).length]'h = c) ∧
    (c.toNat = 43 ∧ q = (n : Int) ∨ c.toNat = 45 ∧ q = -(n : Int)) ∧ At s (at' + (Lib.decDigits m).length + 1) n ∧ s.data.toList.drop (at' + (Lib.decDigits m).length + 1 + (Lib.decDigits n).length) = [105]
theorem shape_of {s : ByteArray} {pre : List UInt8} {m n : Nat} {c : UInt8} (hm : m ≤ 524288) (hn : n ≤ 524288) (hc : ¬ isD c) (e : s.data.toList = pre ++ (Lib.decDigits m ++ c :: (Lib.decDigits n ++ [105]))) :
    At s pre.length m ∧ (∃ h : pre.length + (Lib.decDigits m).length < s.data.toList.length, s.data.toList[pre.length + (Lib.decDigits m).length]'h = c) ∧ At s (pre.length + (Lib.decDigits m).length + 1) n ∧ s.data.toList.drop (pre.length + (Lib.decDigits m).length + 1 + (Lib.decDigits n).length) = [105] := by
  have e1 : s.data.toList.drop pre.length = Lib.decDigits m ++ c :: (Lib.decDigits n ++ [105]) := by rw [e]; simp
  have e2 : s.data.toList.drop (pre.length + (Lib.decDigits m).length) = c :: (Lib.decDigits n ++ [105]) := by
    rw [← List.drop_drop, e1]
    simp
  have e3 : s.data.toList.drop (pre.length + (Lib.decDigits m).length + 1) = Lib.decDigits n ++ 105 :: [] := by
    rw [← List.drop_drop, e2]
    rfl
  have hlt : pre.length + (Lib.decDigits m).length < s.data.toList.length := by
    rw [e]
    simp
  refine ⟨⟨hm, c, _, hc, e1⟩, ⟨hlt, ?_⟩, ⟨hn, 105, [], by unfold isD; decide, e3⟩, ?_⟩
  · have h1 : (s.data.toList.drop (pre.length + (Lib.decDigits m).length))[0]? = some c := by rw [e2]; rfl
    rw [List.getElem?_drop, Nat.add_zero, List.getElem?_eq_getElem hlt] at h1
    exact Option.some.inj h1
  · rw [← List.drop_drop, e3]
    simp
theorem sq_parts {q : Int} (h : InR q) : ∃ (n : Nat) (c : UInt8), n ≤ 524288 ∧ ¬ isD c ∧ (c.toNat = 43 ∧ q = (n : Int) ∨ c.toNat = 45 ∧ q = -(n : Int)) ∧ sq q = c :: Lib.decDigits n := by
  unfold InR at h
  unfold sq
  by_cases h0 : 0 ≤ q
  · rw [if_pos h0, itoa_pos h0]
    exact ⟨q.toNat, 43, by omega, by unfold isD; decide, .inl ⟨by decide, by omega⟩, rfl⟩
  · rw [if_neg h0, itoa_neg (by omega)]
    exact ⟨(-q).toNat, 45, by omega, by unfold isD; decide, .inr ⟨by decide, by omega⟩, rfl⟩
theorem txt_list (p q : Int) : (txt p q).data.toList = Lib.itoa p ++ sq q ++ [105] := by rw [txt_eq]; rfl
/-- A text that begins with a minus. -/
theorem shape_neg {s : ByteArray} {r : List UInt8} {b : UInt8} (hb : b.toNat = 45) (hs : s.data.toList = b :: r) : ∀ p q, InR p → InR q → s = txt p q → Shape s 1 p q := fun p q hp hq e => by
  obtain ⟨n, c, hn, hc, hcq, hsq⟩ := sq_parts hq
  have e1 : s.data.toList = Lib.itoa p ++ sq q ++ [105] := by rw [e, txt_list]
  have hp' := hp
  unfold InR at hp'
  by_cases h0 : 0 ≤ p
  · exfalso
    rw [itoa_pos h0, hs] at e1
    cases hd : Lib.decDigits p.toNat with
    | nil => exact dec_ne _ hd
    | cons c' r' =>
      rw [hd] at e1
      have h1 : b = c' := by
        simp only [List.cons_append, List.cons.injEq] at e1
        exact e1.1
      have := dec_digit p.toNat c' (by rw [hd]; simp)
      rw [← h1] at this
      omega
  · rw [itoa_neg (by omega), hsq] at e1
    have e2 : s.data.toList = [45] ++ (Lib.decDigits (-p).toNat ++ c :: (Lib.decDigits n ++ [105])) := by rw [e1]; simp
    obtain ⟨a1, a2, a3, a4⟩ := shape_of (by omega) hn hc e2
    exact ⟨(-p).toNat, n, c, a1, .inl ⟨rfl, by omega⟩, a2, hcq, a3, a4⟩
/-- A text that does not. -/
theorem shape_pos {s : ByteArray} (hs : s.data.toList = [] ∨ ∃ b r, b.toNat ≠ 45 ∧ s.data.toList = b :: r) : ∀ p q, InR p → InR q → s = txt p q → Shape s 0 p q := fun p q hp hq e => by
  obtain ⟨n, c, hn, hc, hcq, hsq⟩ := sq_parts hq
  have e1 : s.data.toList = Lib.itoa p ++ sq q ++ [105] := by rw [e, txt_list]
  have hp' := hp
  unfold InR at hp'
  by_cases h0 : 0 ≤ p
  · rw [itoa_pos h0, hsq] at e1
    have e2 : s.data.toList = [] ++ (Lib.decDigits p.toNat ++ c :: (Lib.decDigits n ++ [105])) := by rw [e1]; simp
    obtain ⟨a1, a2, a3, a4⟩ := shape_of (by omega) hn hc e2
    exact ⟨p.toNat, n, c, a1, .inr ⟨rfl, by omega⟩, a2, hcq, a3, a4⟩
  · exfalso
    rw [itoa_neg (by omega)] at e1
    rcases hs with hs | ⟨b, r, hb, hs⟩
    · rw [hs] at e1
      simp at e1
    · rw [hs] at e1
      simp only [List.cons_append, List.cons.injEq] at e1
      rw [e1.1] at hb
      exact hb (by decide)

theorem rtext_g (g : Int × Int) (w : World) :
    Calls Tryd.prog 15 #[zv g] w fun e w' => e = .returned (.string (txt (wr g.1) (wr g.2))) ∧ Below w.heap.size w w' :=
  (rtext_any _ _ w).mono fun e w' ⟨he, hb⟩ => ⟨by rw [he]; unfold textS; rw [isN_wr, if_pos rfl, re_wr, im_wr], hb⟩
theorem rmake_g (p q : Int) (w : World) (hp : -9223372036854775808 ≤ p ∧ p ≤ 9223372036854775807) (hq : -9223372036854775808 ≤ q ∧ q ≤ 9223372036854775807) :
    Calls Tryd.prog 27 #[.int .i64 p, .int .i64 q] w fun e w' => e = .returned (zv (gm p q)) ∧ w = w' := rmake_any p q w hp hq

abbrev NoV : Value := .tuple #[.complex .f64 0 0, .int .i64 20]
def PR (s : ByteArray) (e : Ending) : Prop := ParseR (.int .i64 0) (.int .i64 20) s e
theorem pr_no {s : ByteArray} (h : ∀ p q, InR p → InR q → s ≠ txt p q) : PR s (.returned (.tuple #[.complex .f64 0 0, .int .i64 20])) := .inr ⟨h, rfl⟩
theorem slice_i (s : ByteArray) (J : Nat) : (s.extract J s.size).toList = s.data.toList.drop J := by
  rw [ByteArray.toList_eq, ByteArray.data_extract, Array.toList_extract]
  simp only [List.extract_eq_take_drop]
  rw [List.take_of_length_le (by simp)]

set_option maxRecDepth 100000 in
set_option maxHeartbeats 4000000 in
theorem rparse_neg (s : ByteArray) (hs : s.size ≤ 1000) (b : UInt8) (r : List UInt8) (hb : b.toNat = 45) (hl : s.data.toList = b :: r) (w : World) :
    Calls Tryd.prog 11 #[.string s] w fun e w' => PR s e ∧ Below w.heap.size w w' := by
  have hsh := shape_neg hb hl
  have SH := Lib.hid hsh
  have hz : 0 < s.size := by
    have := len_eq s
    rw [hl] at this
    simp at this
    omega
  have hy0 : s[0]'hz = b := by
    have h1 : s.data.toList[0]? = some b := by rw [hl]; rfl
    rw [List.getElem?_eq_getElem (by have := len_eq s; omega)] at h1
    exact Option.some.inj h1
  have tb : ((b.toNat : Int) == 45) = true := by simp; omega
  clear hb hl
  clear hsh
  go_enter Tryd.func11, Tryd.ntmps11
  go_wp2_with (go_at_call 26; refine (number_at s 1 _ rfl hs (by omega) _).mono ?_; rintro e w1 ⟨⟨rfl, hno⟩ | ⟨I, v, hk1, hk2, hv, rfl, hyes⟩, rfl⟩ <;> refine Hid.out ?_)
  all_goals refine Lib.hid ?_
  · have HA := Lib.hid (pr_no (s := s) (fun p q hp hq e => by
      obtain ⟨m, n, c, a1, _⟩ := SH.out p q hp hq e
      exact hno m a1))
    clear hno
    go_wp2
    go_ret2
    exact ⟨HA.out, Below.refl _ _⟩
  · have HY1 := Lib.hid hyes
    clear hyes
    by_cases hI : I < s.size
    · obtain ⟨y, hy⟩ : ∃ y : UInt8, s[I]'hI = y := ⟨_, rfl⟩
      have hyc : s.data.toList[I]'(by have := len_eq s; omega) = y := by rw [← hy]; rfl
      have HYC := Lib.hid hyc
      have hyb : y.toNat < 256 := y.toNat_lt
      clear hyc
      by_cases hpm : y.toNat = 43 ∨ y.toNat = 45
      · have hcase : (((y.toNat : Int) == 45) = true ∧ ((y.toNat : Int) != 43) = true ∧ ((y.toNat : Int) != 45) = false ∧ y.toNat = 45) ∨ (((y.toNat : Int) == 45) = false ∧ ((y.toNat : Int) != 43) = false ∧ ((y.toNat : Int) == 43) = true ∧ y.toNat = 43) := by
          rcases hpm with h | h
          · right
            simp
            omega
          · left
            simp
            omega
        clear hpm
        rcases hcase with ⟨t1, t2, t3, t4⟩ | ⟨t1, t2, t3, t4⟩
        · have T4 := Lib.hid t4
          clear t4
          go_wp2_with (go_at_call 26; refine (number_at s (I + 1) _ (by omega) hs (by omega) _).mono ?_; rintro e w1 ⟨⟨rfl, hno⟩ | ⟨J, v2, hk3, hk4, hv2, rfl, hyes2⟩, rfl⟩ <;> refine Hid.out ?_)
          all_goals refine Lib.hid ?_
          · have HA := Lib.hid (pr_no (s := s) (fun p q hp hq e => by
              obtain ⟨m, n, c, a1, a2, ⟨h5, a3⟩, a4, a5, _⟩ := SH.out p q hp hq e
              obtain ⟨b1, b2⟩ := HY1.out m a1
              rw [← b1] at a5
              exact hno n a5))
            clear hno
            go_wp2
            go_ret2
            exact ⟨HA.out, Below.refl _ _⟩
          · have HY2 := Lib.hid hyes2
            clear hyes2
            by_cases hsl : s.data.toList.drop J = [105]
            · have hsx : ((s.extract J s.size).toList == [105]) = true := by rw [slice_i, hsl]; simp
              clear hsl
              have hAB : ∀ p q, InR p → InR q → s = txt p q → -(v : Int) = p ∧ -(v2 : Int) = q := fun p q hp hq e => by
                obtain ⟨m, n, c, a1, a2, ⟨h5, a3⟩, a4, a5, a6⟩ := SH.out p q hp hq e
                obtain ⟨b1, b2⟩ := HY1.out m a1
                rw [← b1] at a5
                obtain ⟨b3, b4⟩ := HY2.out n a5
                have a3' := HYC.out
                have t4 := T4.out
                simp only [← b1] at a3
                rw [a3] at a3'
                rw [a3'] at a4
                omega
              have HAB := Lib.hid hAB
              clear hAB
              obtain ⟨X, hX⟩ : ∃ X, txt (wr (-(v : Int))) (wr (-(v2 : Int))) = X := ⟨_, rfl⟩
              have hTX := fun wx => rtext_g (gm (-(v : Int)) (-(v2 : Int))) wx
              have e1 : txt (wr (gm (-(v : Int)) (-(v2 : Int))).1) (wr (gm (-(v : Int)) (-(v2 : Int))).2) = X := hX
              rw [e1] at hTX
              have HTX := Lib.hid hTX
              have HXX := Lib.hid hX
              clear hTX e1 hX
              by_cases heq : X = s
              · have HA := Lib.hid (show PR s (.returned (.tuple #[zv (gm (-(v : Int)) (-(v2 : Int))), .int .i64 0])) from .inl ⟨wr (-(v : Int)), wr (-(v2 : Int)), wr_range _, wr_range _, by rw [← heq, ← HXX.out], by rw [zv_wr]⟩)
                have hne : (X.toList == s.toList) = true := by rw [heq]; simp
                clear heq
                go_wp2_with (first
                  | (go_at_call 27; refine (rmake_g _ _ _ (by omega) (by omega)).mono ?_; rintro e w2 ⟨rfl, rfl⟩)
                  | (go_at_call 15; ((with_reducible refine (HTX.out _).mono ?_); rintro e w3 ⟨rfl, hb3⟩)))
                go_ret2
                exact ⟨HA.out, hb3⟩
              · have HA := Lib.hid (pr_no (s := s) (fun p q hp hq e => by
                  obtain ⟨f1, f2⟩ := HAB.out p q hp hq e
                  apply heq
                  rw [← HXX.out, f1, f2, wr_id hp, wr_id hq]
                  exact e.symm))
                have hne : (X.toList == s.toList) = false := by
                  rw [beq_eq_false_iff_ne]
                  intro h
                  rw [ByteArray.toList_eq, ByteArray.toList_eq] at h
                  exact heq (ByteArray.ext (Array.ext' h))
                clear heq
                go_wp2_with (first
                  | (go_at_call 27; refine (rmake_g _ _ _ (by omega) (by omega)).mono ?_; rintro e w2 ⟨rfl, rfl⟩)
                  | (go_at_call 15; ((with_reducible refine (HTX.out _).mono ?_); rintro e w3 ⟨rfl, hb3⟩)))
                go_ret2
                exact ⟨HA.out, hb3⟩
            · have HA := Lib.hid (pr_no (s := s) (fun p q hp hq e => by
                obtain ⟨m, n, c, a1, a2, ⟨h5, a3⟩, a4, a5, a6⟩ := SH.out p q hp hq e
                obtain ⟨b1, b2⟩ := HY1.out m a1
                rw [← b1] at a5 a6
                obtain ⟨b3, b4⟩ := HY2.out n a5
                rw [← b3] at a6
                exact hsl a6))
              have hsx : ((s.extract J s.size).toList == [105]) = false := by rw [slice_i, beq_eq_false_iff_ne]; exact hsl
              clear hsl
              go_wp2
              go_ret2
              exact ⟨HA.out, Below.refl _ _⟩
        · have T4 := Lib.hid t4
          clear t4
          go_wp2_with (go_at_call 26; refine (number_at s (I + 1) _ (by omega) hs (by omega) _).mono ?_; rintro e w1 ⟨⟨rfl, hno⟩ | ⟨J, v2, hk3, hk4, hv2, rfl, hyes2⟩, rfl⟩ <;> refine Hid.out ?_)
          all_goals refine Lib.hid ?_
          · have HA := Lib.hid (pr_no (s := s) (fun p q hp hq e => by
              obtain ⟨m, n, c, a1, a2, ⟨h5, a3⟩, a4, a5, _⟩ := SH.out p q hp hq e
              obtain ⟨b1, b2⟩ := HY1.out m a1
              rw [← b1] at a5
              exact hno n a5))
            clear hno
            go_wp2
            go_ret2
            exact ⟨HA.out, Below.refl _ _⟩
          · have HY2 := Lib.hid hyes2
            clear hyes2
            by_cases hsl : s.data.toList.drop J = [105]
            · have hsx : ((s.extract J s.size).toList == [105]) = true := by rw [slice_i, hsl]; simp
              clear hsl
              have hAB : ∀ p q, InR p → InR q → s = txt p q → -(v : Int) = p ∧ (v2 : Int) = q := fun p q hp hq e => by
                obtain ⟨m, n, c, a1, a2, ⟨h5, a3⟩, a4, a5, a6⟩ := SH.out p q hp hq e
                obtain ⟨b1, b2⟩ := HY1.out m a1
                rw [← b1] at a5
                obtain ⟨b3, b4⟩ := HY2.out n a5
                have a3' := HYC.out
                have t4 := T4.out
                simp only [← b1] at a3
                rw [a3] at a3'
                rw [a3'] at a4
                omega
              have HAB := Lib.hid hAB
              clear hAB
              obtain ⟨X, hX⟩ : ∃ X, txt (wr (-(v : Int))) (wr ((v2 : Int))) = X := ⟨_, rfl⟩
              have hTX := fun wx => rtext_g (gm (-(v : Int)) ((v2 : Int))) wx
              have e1 : txt (wr (gm (-(v : Int)) ((v2 : Int))).1) (wr (gm (-(v : Int)) ((v2 : Int))).2) = X := hX
              rw [e1] at hTX
              have HTX := Lib.hid hTX
              have HXX := Lib.hid hX
              clear hTX e1 hX
              by_cases heq : X = s
              · have HA := Lib.hid (show PR s (.returned (.tuple #[zv (gm (-(v : Int)) ((v2 : Int))), .int .i64 0])) from .inl ⟨wr (-(v : Int)), wr ((v2 : Int)), wr_range _, wr_range _, by rw [← heq, ← HXX.out], by rw [zv_wr]⟩)
                have hne : (X.toList == s.toList) = true := by rw [heq]; simp
                clear heq
                go_wp2_with (first
                  | (go_at_call 27; refine (rmake_g _ _ _ (by omega) (by omega)).mono ?_; rintro e w2 ⟨rfl, rfl⟩)
                  | (go_at_call 15; ((with_reducible refine (HTX.out _).mono ?_); rintro e w3 ⟨rfl, hb3⟩)))
                go_ret2
                exact ⟨HA.out, hb3⟩
              · have HA := Lib.hid (pr_no (s := s) (fun p q hp hq e => by
                  obtain ⟨f1, f2⟩ := HAB.out p q hp hq e
                  apply heq
                  rw [← HXX.out, f1, f2, wr_id hp, wr_id hq]
                  exact e.symm))
                have hne : (X.toList == s.toList) = false := by
                  rw [beq_eq_false_iff_ne]
                  intro h
                  rw [ByteArray.toList_eq, ByteArray.toList_eq] at h
                  exact heq (ByteArray.ext (Array.ext' h))
                clear heq
                go_wp2_with (first
                  | (go_at_call 27; refine (rmake_g _ _ _ (by omega) (by omega)).mono ?_; rintro e w2 ⟨rfl, rfl⟩)
                  | (go_at_call 15; ((with_reducible refine (HTX.out _).mono ?_); rintro e w3 ⟨rfl, hb3⟩)))
                go_ret2
                exact ⟨HA.out, hb3⟩
            · have HA := Lib.hid (pr_no (s := s) (fun p q hp hq e => by
                obtain ⟨m, n, c, a1, a2, ⟨h5, a3⟩, a4, a5, a6⟩ := SH.out p q hp hq e
                obtain ⟨b1, b2⟩ := HY1.out m a1
                rw [← b1] at a5 a6
                obtain ⟨b3, b4⟩ := HY2.out n a5
                rw [← b3] at a6
                exact hsl a6))
              have hsx : ((s.extract J s.size).toList == [105]) = false := by rw [slice_i, beq_eq_false_iff_ne]; exact hsl
              clear hsl
              go_wp2
              go_ret2
              exact ⟨HA.out, Below.refl _ _⟩
      · have HA := Lib.hid (pr_no (s := s) (fun p q hp hq e => by
          obtain ⟨m, n, c, a1, a2, ⟨h5, a3⟩, a4, _⟩ := SH.out p q hp hq e
          obtain ⟨b1, b2⟩ := HY1.out m a1
          have a3' := HYC.out
          simp only [← b1] at a3
          rw [a3] at a3'
          rw [a3'] at a4
          omega))
        have t1 : ((y.toNat : Int) != 43) = true := by simp; omega
        have t2 : ((y.toNat : Int) != 45) = true := by simp; omega
        clear hpm
        go_wp2
        go_ret2
        exact ⟨HA.out, Below.refl _ _⟩
    · have HA := Lib.hid (pr_no (s := s) (fun p q hp hq e => by
        obtain ⟨m, n, c, a1, a2, ⟨h5, a3⟩, _⟩ := SH.out p q hp hq e
        obtain ⟨b1, b2⟩ := HY1.out m a1
        have := len_eq s
        omega))
      go_wp2
      go_ret2
      exact ⟨HA.out, Below.refl _ _⟩
end Go.Proofs.YtlplcacmmckpaaaDoor.Rparse
