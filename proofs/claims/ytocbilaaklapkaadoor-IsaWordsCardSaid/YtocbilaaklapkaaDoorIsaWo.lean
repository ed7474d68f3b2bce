/-
  IsaWords: the walk, and the statement for any instruction, word, line and number of one.
-/
import Derived.Test.YtocbilaaklapkaaDoorRr
import Derived.Test.YtocbilaaklapkaaDoorIsaZz
namespace Go.Proofs.YtocbilaaklapkaaDoor.IsaWo
open Go Go.RowKit Go.Shelf Kit IsaM IsaT IsaL IsaC IsaE IsaN IsaP IsaR IsaX IsaO IsaZ IsaZz Ra Rb Rc Rli Rt Rr
set_option linter.unusedVariables false

set_option maxRecDepth 100000 in
set_option maxHeartbeats 4000000 in
theorem words_walk (op a b i A E0 p0 p1 p2 p3 G n q0 q1 q2 q3 K o C : Int) (M : Bool) (L N s : ByteArray) (hs : s.size ≤ 80)
    (hMy : Ans 10 #[.agg #[.int .i64 op, .int .i64 a, .int .i64 b, .int .i64 i]] (.bool M)) (hC : Ans 11 #[.agg #[.int .i64 op, .int .i64 a, .int .i64 b, .int .i64 i]] (.int .i64 C))
    (hE : Ans 12 #[.agg #[.int .i64 op, .int .i64 a, .int .i64 b, .int .i64 i]] (.tuple #[.int .u32 A, .int .i64 E0])) (hF : Ans 13 #[.agg #[.int .i64 op, .int .i64 a, .int .i64 b, .int .i64 i]] (.tuple #[.int .u32 A, .int .i64 E0]))
    (hD : Ans 14 #[.int .u32 n] (.tuple #[.agg #[.int .i64 p0, .int .i64 p1, .int .i64 p2, .int .i64 p3], .int .i64 G])) (hH : Ans 15 #[.int .u32 n] (.tuple #[.agg #[.int .i64 p0, .int .i64 p1, .int .i64 p2, .int .i64 p3], .int .i64 G]))
    (hL : Ans 16 #[.agg #[.int .i64 op, .int .i64 a, .int .i64 b, .int .i64 i]] (.tuple #[.string L, .int .i64 E0])) (hJ : Ans 17 #[.agg #[.int .i64 op, .int .i64 a, .int .i64 b, .int .i64 i]] (.tuple #[.string L, .int .i64 E0]))
    (hR : Ans 18 #[.string s] (.tuple #[.agg #[.int .i64 q0, .int .i64 q1, .int .i64 q2, .int .i64 q3], .int .i64 K])) (hU : Ans 19 #[.string s] (.tuple #[.agg #[.int .i64 q0, .int .i64 q1, .int .i64 q2, .int .i64 q3], .int .i64 K]))
    (hN : Ans 20 #[.int .i64 o] (.string N)) (hV : Ans 21 #[.int .i64 o] (.string N))
    (h1 : (M = true ∧ C = 0) ∨ (M = false ∧ C = 30))
    (w : World) (hT : Tabs w) (hMl : Ml w) :
    Calls Tryd.prog 3 #[.agg #[.int .i64 op, .int .i64 a, .int .i64 b, .int .i64 i], .int .u32 n, .string s, .int .i64 o] w fun e w' => e = .returned (.bool true) ∧ Below w.heap.size w w' := by
  have HMy := Lib.hid hMy
  have HC := Lib.hid hC
  have HE := Lib.hid hE
  have HF := Lib.hid hF
  have HD := Lib.hid hD
  have HH := Lib.hid hH
  have HL := Lib.hid hL
  have HJ := Lib.hid hJ
  have HR := Lib.hid hR
  have HU := Lib.hid hU
  have HN := Lib.hid hN
  have HV := Lib.hid hV
  have H1 := Lib.hid h1
  have HT := Lib.hid hT
  have HMl := Lib.hid hMl
  clear hMy hC hE hF hD hH hL hJ hR hU hN hV h1 hT hMl
  have hsz : (s.size : Int) ≤ 80 := by omega
  have B0 := (Below.refl w.heap.size w).alloc (Nat.le_refl _) (.cells #[.int .i64 op, .int .i64 a, .int .i64 b, .int .i64 i] 23)
  have KX0 := Blk.new w #[.int .i64 op, .int .i64 a, .int .i64 b, .int .i64 i] 23
  go_enter Tryd.func3, Tryd.ntmps3
  go_wp2_with (first | (go_at_call 10; ((with_reducible refine (HMy.out _ (HT.out.below B0) (HMl.out.below B0)).mono ?_); rintro e w1 ⟨rfl, hb0⟩; refine Hid.out ?_)))
  refine Lib.hid ?_
  have D0 := B0.trans (hb0.mono B0.size)
  have KX0a := KX0.below hb0
  have x0_0 := KX0a.cell 0
  have x0_1 := KX0a.cell 1
  have x0_2 := KX0a.cell 2
  have x0_3 := KX0a.cell 3
  go_wp2_with (first | (go_at_call 11; ((with_reducible refine (HC.out _ (HT.out.below D0) (HMl.out.below D0)).mono ?_); rintro e w2 ⟨rfl, hb1⟩; refine Hid.out ?_)))
  refine Lib.hid ?_
  clear x0_0 x0_1 x0_2 x0_3
  have D1 := D0.trans (hb1.mono D0.size)
  have KX1a := KX0a.below hb1
  have x1_0 := KX1a.cell 0
  have x1_1 := KX1a.cell 1
  have x1_2 := KX1a.cell 2
  have x1_3 := KX1a.cell 3
  go_wp2_with (first | (go_at_call 12; ((with_reducible refine (HE.out _ (HT.out.below D1) (HMl.out.below D1)).mono ?_); rintro e w3 ⟨rfl, hb2⟩; refine Hid.out ?_)))
  refine Lib.hid ?_
  clear x1_0 x1_1 x1_2 x1_3
  have D2 := D1.trans (hb2.mono D1.size)
  have KX2a := KX1a.below hb2
  have x2_0 := KX2a.cell 0
  have x2_1 := KX2a.cell 1
  have x2_2 := KX2a.cell 2
  have x2_3 := KX2a.cell 3
  go_wp2_with (first | (go_at_call 13; ((with_reducible refine (HF.out _ (HT.out.below D2) (HMl.out.below D2)).mono ?_); rintro e w4 ⟨rfl, hb3⟩; refine Hid.out ?_)))
  refine Lib.hid ?_
  clear x2_0 x2_1 x2_2 x2_3
  have D3 := D2.trans (hb3.mono D2.size)
  have KX3a := KX2a.below hb3
  go_wp2_with (first | (go_at_call 14; ((with_reducible refine (HD.out _ (HT.out.below D3) (HMl.out.below D3)).mono ?_); rintro e w5 ⟨rfl, hb4⟩; refine Hid.out ?_)))
  refine Lib.hid ?_
  have D4 := D3.trans (hb4.mono D3.size)
  have KX4a := KX3a.below hb4
  have KX4b := KX4a.below ((Below.refl _ w5).alloc (Nat.le_refl _) (.cells #[.int .i64 p0, .int .i64 p1, .int .i64 p2, .int .i64 p3] 23))
  have KP4b := Blk.new w5 #[.int .i64 p0, .int .i64 p1, .int .i64 p2, .int .i64 p3] 23
  have E4 := D4.alloc D4.size (.cells #[.int .i64 p0, .int .i64 p1, .int .i64 p2, .int .i64 p3] 23)
  go_wp2_with (first | (go_at_call 15; ((with_reducible refine (HH.out _ (HT.out.below E4) (HMl.out.below E4)).mono ?_); rintro e w6 ⟨rfl, hb5⟩; refine Hid.out ?_)))
  refine Lib.hid ?_
  have D5 := E4.trans (hb5.mono E4.size)
  have KX5a := KX4b.below hb5
  have KP5a := KP4b.below hb5
  have KX5b := KX5a.below ((Below.refl _ w6).alloc (Nat.le_refl _) (.cells #[.int .i64 p0, .int .i64 p1, .int .i64 p2, .int .i64 p3] 23))
  have KP5b := KP5a.below ((Below.refl _ w6).alloc (Nat.le_refl _) (.cells #[.int .i64 p0, .int .i64 p1, .int .i64 p2, .int .i64 p3] 23))
  have KP25b := Blk.new w6 #[.int .i64 p0, .int .i64 p1, .int .i64 p2, .int .i64 p3] 23
  have E5 := D5.alloc D5.size (.cells #[.int .i64 p0, .int .i64 p1, .int .i64 p2, .int .i64 p3] 23)
  have x5_0 := KX5b.cell 0
  have x5_1 := KX5b.cell 1
  have x5_2 := KX5b.cell 2
  have x5_3 := KX5b.cell 3
  go_wp2_with (first | (go_at_call 16; ((with_reducible refine (HL.out _ (HT.out.below E5) (HMl.out.below E5)).mono ?_); rintro e w7 ⟨rfl, hb6⟩; refine Hid.out ?_)))
  refine Lib.hid ?_
  clear x5_0 x5_1 x5_2 x5_3
  have D6 := E5.trans (hb6.mono E5.size)
  have KX6a := KX5b.below hb6
  have KP6a := KP5b.below hb6
  have KP26a := KP25b.below hb6
  have x6_0 := KX6a.cell 0
  have x6_1 := KX6a.cell 1
  have x6_2 := KX6a.cell 2
  have x6_3 := KX6a.cell 3
  go_wp2_with (first | (go_at_call 17; ((with_reducible refine (HJ.out _ (HT.out.below D6) (HMl.out.below D6)).mono ?_); rintro e w8 ⟨rfl, hb7⟩; refine Hid.out ?_)))
  refine Lib.hid ?_
  clear x6_0 x6_1 x6_2 x6_3
  have D7 := D6.trans (hb7.mono D6.size)
  have KX7a := KX6a.below hb7
  have KP7a := KP6a.below hb7
  have KP27a := KP26a.below hb7
  go_wp2_with (first | (go_at_call 18; ((with_reducible refine (HR.out _ (HT.out.below D7) (HMl.out.below D7)).mono ?_); rintro e w9 ⟨rfl, hb8⟩; refine Hid.out ?_)))
  refine Lib.hid ?_
  have D8 := D7.trans (hb8.mono D7.size)
  have KX8a := KX7a.below hb8
  have KP8a := KP7a.below hb8
  have KP28a := KP27a.below hb8
  have KX8b := KX8a.below ((Below.refl _ w9).alloc (Nat.le_refl _) (.cells #[.int .i64 q0, .int .i64 q1, .int .i64 q2, .int .i64 q3] 23))
  have KP8b := KP8a.below ((Below.refl _ w9).alloc (Nat.le_refl _) (.cells #[.int .i64 q0, .int .i64 q1, .int .i64 q2, .int .i64 q3] 23))
  have KP28b := KP28a.below ((Below.refl _ w9).alloc (Nat.le_refl _) (.cells #[.int .i64 q0, .int .i64 q1, .int .i64 q2, .int .i64 q3] 23))
  have KQ8b := Blk.new w9 #[.int .i64 q0, .int .i64 q1, .int .i64 q2, .int .i64 q3] 23
  have E8 := D8.alloc D8.size (.cells #[.int .i64 q0, .int .i64 q1, .int .i64 q2, .int .i64 q3] 23)
  go_wp2_with (first | (go_at_call 19; ((with_reducible refine (HU.out _ (HT.out.below E8) (HMl.out.below E8)).mono ?_); rintro e w10 ⟨rfl, hb9⟩; refine Hid.out ?_)))
  refine Lib.hid ?_
  have D9 := E8.trans (hb9.mono E8.size)
  have KX9a := KX8b.below hb9
  have KP9a := KP8b.below hb9
  have KP29a := KP28b.below hb9
  have KQ9a := KQ8b.below hb9
  have KX9b := KX9a.below ((Below.refl _ w10).alloc (Nat.le_refl _) (.cells #[.int .i64 q0, .int .i64 q1, .int .i64 q2, .int .i64 q3] 23))
  have KP9b := KP9a.below ((Below.refl _ w10).alloc (Nat.le_refl _) (.cells #[.int .i64 q0, .int .i64 q1, .int .i64 q2, .int .i64 q3] 23))
  have KP29b := KP29a.below ((Below.refl _ w10).alloc (Nat.le_refl _) (.cells #[.int .i64 q0, .int .i64 q1, .int .i64 q2, .int .i64 q3] 23))
  have KQ9b := KQ9a.below ((Below.refl _ w10).alloc (Nat.le_refl _) (.cells #[.int .i64 q0, .int .i64 q1, .int .i64 q2, .int .i64 q3] 23))
  have KQ29b := Blk.new w10 #[.int .i64 q0, .int .i64 q1, .int .i64 q2, .int .i64 q3] 23
  have E9 := D9.alloc D9.size (.cells #[.int .i64 q0, .int .i64 q1, .int .i64 q2, .int .i64 q3] 23)
  have fP0 := KP9b.cell 0
  have fP1 := KP9b.cell 1
  have fP2 := KP9b.cell 2
  have fP3 := KP9b.cell 3
  have fP20 := KP29b.cell 0
  have fP21 := KP29b.cell 1
  have fP22 := KP29b.cell 2
  have fP23 := KP29b.cell 3
  have fQ0 := KQ9b.cell 0
  have fQ1 := KQ9b.cell 1
  have fQ2 := KQ9b.cell 2
  have fQ3 := KQ9b.cell 3
  have fQ20 := KQ29b.cell 0
  have fQ21 := KQ29b.cell 1
  have fQ22 := KQ29b.cell 2
  have fQ23 := KQ29b.cell 3
  rcases H1.out with ⟨rfl, rfl⟩ | ⟨rfl, rfl⟩
  all_goals go_wp2_with (first | (go_at_call 20; ((with_reducible refine (HN.out _ (HT.out.below E9) (HMl.out.below E9)).mono ?_); rintro e wn ⟨rfl, hbn⟩; refine Hid.out ?_)))
  all_goals refine Lib.hid ?_
  all_goals have DN := E9.trans (hbn.mono E9.size)
  all_goals go_wp2_with (first | (go_at_call 21; ((with_reducible refine (HV.out _ (HT.out.below DN) (HMl.out.below DN)).mono ?_); rintro e wm ⟨rfl, hbm⟩; refine Hid.out ?_)))
  all_goals refine Lib.hid ?_
  all_goals go_wp2
  all_goals go_ret
  all_goals exact ⟨rfl, DN.trans (hbm.mono DN.size)⟩

theorem words_in (op a b i : Int) (n : Nat) (hn : n < 4294967296) (s : ByteArray) (hs : s.size ≤ 80) (o : Int) (w : World) (hT : Tabs w) (hM : Ml w) :
    Calls Tryd.prog 3 #[.agg #[.int .i64 op, .int .i64 a, .int .i64 b, .int .i64 i], .int .u32 (n : Int), .string s, .int .i64 o] w fun e w' => e = .returned (.bool true) ∧ Below w.heap.size w w' := by
  obtain ⟨A, E0, C, L, hC, hE, hF, hL, hJ, h1⟩ : ∃ (A E0 C : Int) (L : ByteArray), Ans 11 #[.agg #[.int .i64 op, .int .i64 a, .int .i64 b, .int .i64 i]] (.int .i64 C) ∧
      Ans 12 #[.agg #[.int .i64 op, .int .i64 a, .int .i64 b, .int .i64 i]] (.tuple #[.int .u32 A, .int .i64 E0]) ∧ Ans 13 #[.agg #[.int .i64 op, .int .i64 a, .int .i64 b, .int .i64 i]] (.tuple #[.int .u32 A, .int .i64 E0]) ∧
      Ans 16 #[.agg #[.int .i64 op, .int .i64 a, .int .i64 b, .int .i64 i]] (.tuple #[.string L, .int .i64 E0]) ∧ Ans 17 #[.agg #[.int .i64 op, .int .i64 a, .int .i64 b, .int .i64 i]] (.tuple #[.string L, .int .i64 E0]) ∧
      ((mayB op a b i = true ∧ C = 0) ∨ (mayB op a b i = false ∧ C = 30)) := by
    by_cases h : May op a b i
    · obtain ⟨k, rfl, hk⟩ := op_nat h
      have hm : mayB k a b i = true := decide_eq_true h
      refine ⟨enc k a b i, 0, 0, st (line k a b i), fun wx h1 _ => ?_, fun wx h1 _ => encode_yes k a b i h wx h1, fun wx _ _ => renc_yes k a b i h wx, ans_line hk rfl, fun wx _ _ => rline_yes k a b i hk wx, .inl ⟨hm, rfl⟩⟩
      have := check_any k a b i wx h1
      rw [hm] at this
      exact this
    · have hm : mayB op a b i = false := decide_eq_false h
      refine ⟨0, 30, 30, ⟨#[]⟩, fun wx h1 _ => ?_, fun wx h1 _ => encode_no op a b i h wx h1, fun wx _ _ => renc_no op a b i h wx, fun wx h1 _ => line_no op a b i h wx h1, fun wx _ _ => rline_no op a b i h wx, .inr ⟨hm, rfl⟩⟩
      have := check_any op a b i wx h1
      rw [hm] at this
      exact this
  obtain ⟨p0, p1, p2, p3, G, hp⟩ : ∃ (p0 p1 p2 p3 G : Int), decV n = .tuple #[.agg #[.int .i64 p0, .int .i64 p1, .int .i64 p2, .int .i64 p3], .int .i64 G] := by
    unfold decV
    split
    · exact ⟨_, _, _, _, _, rfl⟩
    · exact ⟨_, _, _, _, _, rfl⟩
  obtain ⟨q0, q1, q2, q3, K, hq⟩ : ∃ (q0 q1 q2 q3 K : Int), readV (parse s.data.toList) = .tuple #[.agg #[.int .i64 q0, .int .i64 q1, .int .i64 q2, .int .i64 q3], .int .i64 K] := by
    unfold readV
    split
    · exact ⟨_, _, _, _, _, rfl⟩
    · exact ⟨_, _, _, _, _, rfl⟩
  obtain ⟨N, hN, hV⟩ : ∃ N : ByteArray, Ans 20 #[.int .i64 o] (.string N) ∧ Ans 21 #[.int .i64 o] (.string N) := by
    by_cases ho : 0 ≤ o ∧ o < 30
    · obtain ⟨k, rfl⟩ := Int.eq_ofNat_of_zero_le ho.1
      exact ⟨⟨(nm k).toArray⟩, fun wx h1 _ => (name_yes k (by omega) wx h1).mono fun e w' ⟨he, hw⟩ => ⟨he, by subst hw; exact Below.refl _ _⟩, fun wx _ _ => rname_yes k (by omega) wx⟩
    · exact ⟨⟨#[]⟩, fun wx _ _ => (name_no o ho wx).mono fun e w' ⟨he, hw⟩ => ⟨he, by subst hw; exact Below.refl _ _⟩, fun wx _ _ => rname_no o ho wx⟩
  exact words_walk op a b i A E0 p0 p1 p2 p3 G n q0 q1 q2 q3 K o C (mayB op a b i) L N s hs (fun wx _ _ => rmay_any op a b i wx) hC hE hF (ans_dec hn rfl hp) (fun wx _ _ => by have := rdec_any n hn wx; rwa [hp] at this) hL hJ (ans_read (by omega) hq) (fun wx _ _ => by have := rread_any s (by omega) wx; rwa [hq] at this) hN hV h1 w hT hM
theorem words_long (op a b i : Int) (n : Int) (s : ByteArray) (hs : ¬ s.size ≤ 80) (o : Int) (w : World) (hT : Tabs w) (hM : Ml w) :
    Calls Tryd.prog 3 #[.agg #[.int .i64 op, .int .i64 a, .int .i64 b, .int .i64 i], .int .u32 n, .string s, .int .i64 o] w fun e w' => e = .returned (.bool true) ∧ Below w.heap.size w w' := by
  have hsz : (80 : Int) < (s.size : Int) := by omega
  have B0 := (Below.refl w.heap.size w).alloc (Nat.le_refl _) (.cells #[.int .i64 op, .int .i64 a, .int .i64 b, .int .i64 i] 23)
  go_enter Tryd.func3, Tryd.ntmps3
  go_wp2
  go_ret
  exact ⟨rfl, B0⟩
end Go.Proofs.YtocbilaaklapkaaDoor.IsaWo
namespace Go.Proofs.YtocbilaaklapkaaDoor.Walk
set_option linter.unusedVariables false
open Go Go.RowKit Kit IsaT IsaP
theorem isaWords (op a b i : Int) (n : Int) (s : ByteArray) (o : Int) (w : World) (w0 : (Lit.int .i64 op).wf = true) (w1 : (Lit.int .i64 a).wf = true) (w2 : (Lit.int .i64 b).wf = true) (w3 : (Lit.int .i64 i).wf = true) (w4 : (Lit.int .u32 n).wf = true) (w5 : s.size ≤ maxLen) (w6 : (Lit.int .i64 o).wf = true) (hT : Tabs w) (hM : Ml w) :
    Calls Tryd.prog 3 #[.agg #[.int .i64 op, .int .i64 a, .int .i64 b, .int .i64 i], .int .u32 n, .string s, .int .i64 o] w fun e w' => e = .returned (.bool true) ∧ Below w.heap.size w w' := by
  by_cases hs : s.size ≤ 80
  · obtain ⟨n, rfl, hn⟩ := u32_nat w4
    exact IsaWo.words_in op a b i n hn s hs o w hT hM
  · exact IsaWo.words_long op a b i n s hs o w hT hM
#print axioms isaWords
end Go.Proofs.YtocbilaaklapkaaDoor.Walk
