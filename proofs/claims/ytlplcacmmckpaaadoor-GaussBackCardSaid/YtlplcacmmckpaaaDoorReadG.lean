/-
  read of package gauss: what any text of at most 1,000 bytes is read as; a number's text is read as that number.
-/
import Derived.Test.YtlplcacmmckpaaaDoorTxtNums
import Derived.Test.YtlplcacmmckpaaaDoorLast2
import Derived.WalkSpells
namespace Go.Proofs.YtlplcacmmckpaaaDoor.ReadG
open Go Go.RowKit Kit Fl Whole Gleaf Gparts Gwhole Gnums Gg Tabs TextG LastG TxtNums
set_option linter.unusedVariables false

theorem pint_ok (s : ByteArray) (hs : s.size ≤ 1000) (v : Int) (h : Lib.parseIntB 64 s.data.toList = .ok v) (w : World) :
    Calls Tryd.prog 35 #[.string s, .int .i64 10, .int .i64 64] w fun e w' => e = .returned (.tuple #[.int .i64 v, .nilIface]) ∧ Below w.heap.size w w' :=
  (Shl.strconv_ParseInt_10_at64_ok s (by omega) v h w).mono fun e w' ⟨he, hw⟩ => ⟨he, by
    rcases hw with hw | ⟨t, hw⟩
    · rw [hw]; exact Below.refl _ _
    · rw [hw]; exact Lib.bytesWorld_below _ _ _⟩
theorem pint_no (s : ByteArray) (hs : s.size ≤ 1000) (h : ∀ v, Lib.parseIntB 64 s.data.toList ≠ .ok v) (w : World) (hT : Tabs w) :
    Calls Tryd.prog 35 #[.string s, .int .i64 10, .int .i64 64] w fun e w' => (∃ n N, e = .returned (.tuple #[.int .i64 n, .iface 101 (.pointer (some ⟨N, 0, none⟩))])) ∧ Below w.heap.size w w' := by
  rcases hp : Lib.parseIntB 64 s.data.toList with v | _ | _
  · exact absurd hp (h v)
  · obtain ⟨tp, p, hv⟩ := hT.syn
    exact (Shl.strconv_ParseInt_10_at64_syntax_var s (by omega) hp tp p w hv).mono fun e w' ⟨N, he, _, _, hb⟩ => ⟨⟨_, N, he⟩, hb⟩
  · obtain ⟨tp, p, hv⟩ := hT.rng
    exact (Shl.strconv_ParseInt_10_at64_range_var s (by omega) hp tp p w hv).mono fun e w' ⟨N, he, _, _, hb⟩ => ⟨⟨_, N, he⟩, hb⟩

theorem cut_i (s : ByteArray) (hs : s.size ≤ 1000) (w : World) :
    Calls Tryd.prog 33 #[.string s, .string ⟨#[105]⟩] w fun e w' => e = .returned (.tuple #[.string ⟨(Lib.trimSuffix s.data.toList [105]).toArray⟩, .bool (Lib.hasSuffix s.data.toList [105])]) ∧ w = w' :=
  (Shl.strings_CutSuffix s ⟨#[105]⟩ w (by omega)).mono fun e w' ⟨he, hw⟩ => ⟨he, hw.symm⟩

/-- What read answers: nothing, of what is no number's text; or the number of two parts, which are that text's. -/
def ReadR (s : ByteArray) (e : Ending) : Prop :=
  (e = .returned (.tuple #[.complex .f64 0 0, .bool false]) ∧ ∀ p q, InR p → InR q → s ≠ txt p q) ∨
  (∃ a b, e = .returned (.tuple #[zv (gm a b), .bool true]) ∧ ∀ p q, InR p → InR q → s = txt p q → a = p ∧ b = q)

theorem trim_size (l : List UInt8) : (Lib.trimSuffix l [105]).length ≤ l.length := by
  unfold Lib.trimSuffix
  split
  · simp
  · omega

set_option maxHeartbeats 4000000 in
theorem read_any (s : ByteArray) (hs : s.size ≤ 1000) (w : World) (hT : Tabs w) :
    Calls Tryd.prog 25 #[.string s] w fun e w' => ReadR s e ∧ Below w.heap.size w w' := by
  obtain ⟨T, hTT⟩ : ∃ T : ByteArray, (⟨(Lib.trimSuffix s.data.toList [105]).toArray⟩ : ByteArray) = T := ⟨_, rfl⟩
  have hTs : T.size ≤ s.size := by
    rw [← hTT]
    show (Lib.trimSuffix s.data.toList [105]).toArray.size ≤ s.size
    have := trim_size s.data.toList
    simpa using this
  have hTd : T.data.toList = Lib.trimSuffix s.data.toList [105] := by rw [← hTT]
  have hC := fun wx => cut_i s hs wx
  rw [hTT] at hC
  -- of a number's text
  have hN : ∀ p q, InR p → InR q → s = txt p q → Lib.hasSuffix s.data.toList [105] = true ∧ T.data.toList = bd p q := fun p q hp hq e => by
    have e1 : s.data.toList = bd p q ++ [105] := by rw [e, txt_eq]
    exact ⟨by rw [e1]; exact suf_bd _, by rw [hTd, e1]; exact trim_bd _⟩
  have HN := Lib.hid hN
  clear hN hTd hTT
  cases hok : Lib.hasSuffix s.data.toList [105] with
  | false =>
    rw [hok] at hC
    have HC := Lib.hid hC
    have hA : ReadR s (.returned (.tuple #[.complex .f64 0 0, .bool false])) := .inl ⟨rfl, fun p q hp hq e => by have := (HN.out p q hp hq e).1; rw [hok] at this; cases this⟩
    have HA := Lib.hid hA
    clear hC hA hok
    go_enter Tryd.func25, Tryd.ntmps25
    go_wp2_with (first
      | (go_at_call 33; ((with_reducible refine (HC.out _).mono ?_); rintro e w1 ⟨rfl, rfl⟩))
      | (go_at_call 34; refine (last_any T (by omega) _ hT).mono ?_; rintro e w2 ⟨⟨v, rfl, h1, h2, h3⟩, hb2⟩; clear h3))
    go_ret2
    exact ⟨HA.out, hb2⟩
  | true =>
    rw [hok] at hC
    have HC := Lib.hid hC
    clear hC hok
    go_enter Tryd.func25, Tryd.ntmps25
    go_wp2_with (first
      | (go_at_call 33; ((with_reducible refine (HC.out _).mono ?_); rintro e w1 ⟨rfl, rfl⟩))
      | (go_at_call 34; refine (last_any T (by omega) _ hT).mono ?_; rintro e w2 ⟨⟨v, rfl, h1, h2, h3⟩, hb2⟩; have H3 := Lib.hid h3; clear h3; refine Hid.out ?_))
    refine Lib.hid ?_
    by_cases h0 : v < 0
    · have hA : ReadR s (.returned (.tuple #[.complex .f64 0 0, .bool false])) := .inl ⟨rfl, fun p q hp hq e => by
        have hb := (HN.out p q hp hq e).2
        have hl := H3.out (by rw [hb]; exact bd_asc p q)
        have hsz : T.size = (bd p q).length := by rw [← hb]; simp
        rw [hb, hsz, lx_bd] at hl
        omega⟩
      have HA := Lib.hid hA
      clear hA
      go_wp2
      go_ret2
      exact ⟨HA.out, hb2⟩
    · obtain ⟨n, rfl⟩ := Int.eq_ofNat_of_zero_le (show 0 ≤ v by omega)
      have hn : n ≤ T.size := by omega
      have hX : ∀ p q, InR p → InR q → s = txt p q → Lib.parseIntB 64 (T.data.toList.take n) = .ok p ∧ Lib.parseIntB 64 (T.data.toList.drop n) = .ok q := fun p q hp hq e => by
        have hb := (HN.out p q hp hq e).2
        have hl := H3.out (by rw [hb]; exact bd_asc p q)
        have hsz : T.size = (bd p q).length := by rw [← hb]; simp
        rw [hb, hsz, lx_bd] at hl
        have hn : n = (Lib.itoa p).length := by omega
        rw [hb, hn, bd_take, bd_drop]
        exact ⟨parse_itoa hp, parse_sq hq⟩
      have HX := Lib.hid hX
      have d1 : (T.extract 0 n).data.toList = T.data.toList.take n := by rw [ByteArray.data_extract, Array.toList_extract]; simp
      have d2 : (T.extract n T.size).data.toList = T.data.toList.drop n := by
        rw [ByteArray.data_extract, Array.toList_extract]
        simp only [List.extract_eq_take_drop]
        rw [List.take_of_length_le (by simp)]
      have z1 : (T.extract 0 n).size ≤ 1000 := by rw [ByteArray.size_extract]; omega
      have z2 : (T.extract n T.size).size ≤ 1000 := by rw [ByteArray.size_extract]; omega
      clear hX H3 HN HC h1 h2 h0
      by_cases ok1 : ∃ a, Lib.parseIntB 64 (T.data.toList.take n) = .ok a
      · obtain ⟨a, ha⟩ := ok1
        by_cases ok2 : ∃ b, Lib.parseIntB 64 (T.data.toList.drop n) = .ok b
        · obtain ⟨b, hb⟩ := ok2
          have P1 := Lib.hid (fun wx => pint_ok (T.extract 0 n) z1 a (by rw [d1]; exact ha) wx)
          have P2 := Lib.hid (fun wx => pint_ok (T.extract n T.size) z2 b (by rw [d2]; exact hb) wx)
          have hA : ReadR s (.returned (.tuple #[zv (gm a b), .bool true])) := .inr ⟨a, b, rfl, fun p q hp hq e => by
            obtain ⟨e1, e2⟩ := HX.out p q hp hq e
            rw [ha] at e1
            rw [hb] at e2
            exact ⟨Lib.NumEnd.ok.inj e1, Lib.NumEnd.ok.inj e2⟩⟩
          have HA := Lib.hid hA
          clear hA ha hb d1 d2 HX z1 z2
          go_wp2_with (first
            | (go_at_call 35; ((with_reducible refine (P1.out _).mono ?_); rintro e w3 ⟨rfl, hb3⟩))
            | (go_at_call 35; ((with_reducible refine (P2.out _).mono ?_); rintro e w4 ⟨rfl, hb4⟩))
            | (go_at_call 16; refine (make_g _ _ _).mono ?_; rintro e w5 ⟨rfl, rfl⟩))
          go_ret2
          exact ⟨HA.out, bel' (bel' hb2 hb3) hb4⟩
        · have n2 : ∀ v, Lib.parseIntB 64 (T.extract n T.size).data.toList ≠ .ok v := fun v hv => ok2 ⟨v, by rw [← d2]; exact hv⟩
          have P1 := Lib.hid (fun wx => pint_ok (T.extract 0 n) z1 a (by rw [d1]; exact ha) wx)
          have P2 := Lib.hid (fun wx (h : Tabs wx) => pint_no (T.extract n T.size) z2 n2 wx h)
          have hA : ReadR s (.returned (.tuple #[.complex .f64 0 0, .bool false])) := .inl ⟨rfl, fun p q hp hq e => ok2 ⟨q, (HX.out p q hp hq e).2⟩⟩
          have HA := Lib.hid hA
          have T2 := hT.below hb2
          clear hA ha ok2 n2 d1 d2 HX z1 z2
          go_wp2_with (first
            | (go_at_call 35; ((with_reducible refine (P1.out _).mono ?_); rintro e w3 ⟨rfl, hb3⟩))
            | (go_at_call 35; ((with_reducible refine (P2.out _ (T2.below hb3)).mono ?_); rintro e w4 ⟨⟨m, N, rfl⟩, hb4⟩)))
          go_ret2
          exact ⟨HA.out, bel' (bel' hb2 hb3) hb4⟩
      · have n1 : ∀ v, Lib.parseIntB 64 (T.extract 0 n).data.toList ≠ .ok v := fun v hv => ok1 ⟨v, by rw [← d1]; exact hv⟩
        have P1 := Lib.hid (fun wx (h : Tabs wx) => pint_no (T.extract 0 n) z1 n1 wx h)
        have hA : ReadR s (.returned (.tuple #[.complex .f64 0 0, .bool false])) := .inl ⟨rfl, fun p q hp hq e => ok1 ⟨p, (HX.out p q hp hq e).1⟩⟩
        have HA := Lib.hid hA
        have T2 := hT.below hb2
        by_cases ok2 : ∃ b, Lib.parseIntB 64 (T.data.toList.drop n) = .ok b
        · obtain ⟨b, hb⟩ := ok2
          have P2 := Lib.hid (fun wx => pint_ok (T.extract n T.size) z2 b (by rw [d2]; exact hb) wx)
          clear hA hb ok1 n1 d1 d2 HX z1 z2
          go_wp2_with (first
            | (go_at_call 35; ((with_reducible refine (P1.out _ T2).mono ?_); rintro e w3 ⟨⟨m, N, rfl⟩, hb3⟩))
            | (go_at_call 35; ((with_reducible refine (P2.out _).mono ?_); rintro e w4 ⟨rfl, hb4⟩)))
          go_ret2
          exact ⟨HA.out, bel' (bel' hb2 hb3) hb4⟩
        · have n2 : ∀ v, Lib.parseIntB 64 (T.extract n T.size).data.toList ≠ .ok v := fun v hv => ok2 ⟨v, by rw [← d2]; exact hv⟩
          have P2 := Lib.hid (fun wx (h : Tabs wx) => pint_no (T.extract n T.size) z2 n2 wx h)
          clear hA ok1 ok2 n1 n2 d1 d2 HX z1 z2
          go_wp2_with (first
            | (go_at_call 35; ((with_reducible refine (P1.out _ T2).mono ?_); rintro e w3 ⟨⟨m, N, rfl⟩, hb3⟩))
            | (go_at_call 35; ((with_reducible refine (P2.out _ (T2.below hb3)).mono ?_); rintro e w4 ⟨⟨m', N', rfl⟩, hb4⟩)))
          go_ret2
          exact ⟨HA.out, bel' (bel' hb2 hb3) hb4⟩

/-- What Parse answers: the number whose text it is, or the error. -/
def ParseR (ok no : Value) (s : ByteArray) (e : Ending) : Prop :=
  (∃ p q, InR p ∧ InR q ∧ s = txt p q ∧ e = .returned (.tuple #[zv (gm p q), ok])) ∨
  ((∀ p q, InR p → InR q → s ≠ txt p q) ∧ e = .returned (.tuple #[.complex .f64 0 0, no]))

theorem text_g (g : Int × Int) (w : World) (hT : Tabs w) :
    Calls Tryd.prog 14 #[zv g] w fun e w' => e = .returned (.string (txt (wr g.1) (wr g.2))) ∧ Below w.heap.size w w' :=
  (text_any _ _ w hT).mono fun e w' ⟨he, hb⟩ => ⟨by rw [he]; unfold textS; rw [isN_wr, if_pos rfl, re_wr, im_wr], hb⟩
theorem zv_wr (a b : Int) : zv (gm a b) = zv (gm (wr a) (wr b)) := by
  unfold zv gm
  dsimp only
  rw [wr_id (wr_range a), wr_id (wr_range b)]

set_option maxHeartbeats 4000000 in
theorem parse_any (s : ByteArray) (hs : s.size ≤ 1000) (w : World) (hT : Tabs w) :
    Calls Tryd.prog 10 #[.string s] w fun e w' => ParseR (.int .i64 0) (.int .i64 20) s e ∧ Below w.heap.size w w' := by
  go_enter Tryd.func10, Tryd.ntmps10
  go_wp2_with (go_at_call 25; refine (read_any s hs _ hT).mono ?_; rintro e w1 ⟨⟨rfl, hno⟩ | ⟨a, b, rfl, hyes⟩, hb1⟩ <;> refine Hid.out ?_)
  all_goals refine Lib.hid ?_
  · have hA : ParseR (.int .i64 0) (.int .i64 20) s (.returned (.tuple #[.complex .f64 0 0, .int .i64 20])) := .inr ⟨hno, rfl⟩
    have HA := Lib.hid hA
    clear hA hno
    go_wp2
    go_ret2
    exact ⟨HA.out, hb1⟩
  · obtain ⟨X, hX⟩ : ∃ X, txt (wr a) (wr b) = X := ⟨_, rfl⟩
    have hTX := fun wx h => text_g (gm a b) wx h
    have e1 : txt (wr (gm a b).1) (wr (gm a b).2) = X := hX
    rw [e1] at hTX
    have HT := Lib.hid hTX
    have T1 := hT.below hb1
    clear hTX e1
    by_cases heq : s = X
    · have hA : ParseR (.int .i64 0) (.int .i64 20) s (.returned (.tuple #[zv (gm a b), .int .i64 0])) := .inl ⟨wr a, wr b, wr_range a, wr_range b, by rw [heq, hX], by rw [zv_wr]⟩
      have HA := Lib.hid hA
      clear hA hyes hX
      subst heq
      have hne : (s.toList == s.toList) = true := by simp
      go_wp2_with (go_at_call 14; ((with_reducible refine (HT.out _ T1).mono ?_); rintro e w2 ⟨rfl, hb2⟩))
      go_ret2
      exact ⟨HA.out, bel' hb1 hb2⟩
    · have hA : ParseR (.int .i64 0) (.int .i64 20) s (.returned (.tuple #[.complex .f64 0 0, .int .i64 20])) := .inr ⟨fun p q hp hq e => by
        obtain ⟨rfl, rfl⟩ := hyes p q hp hq e
        exact heq (by rw [← hX, wr_id hp, wr_id hq]; exact e), rfl⟩
      have HA := Lib.hid hA
      have hne : (X.toList == s.toList) = false := by
        rw [beq_eq_false_iff_ne]
        intro h
        rw [ByteArray.toList_eq, ByteArray.toList_eq] at h
        exact heq (ByteArray.ext (Array.ext' h.symm))
      clear hA hyes hX heq
      go_wp2_with (go_at_call 14; ((with_reducible refine (HT.out _ T1).mono ?_); rintro e w2 ⟨rfl, hb2⟩))
      go_ret2
      exact ⟨HA.out, bel' hb1 hb2⟩
#print axioms parse_any
end Go.Proofs.YtlplcacmmckpaaaDoor.ReadG
