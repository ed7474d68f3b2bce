/-
  IsaApart: for any two instructions.
-/
import Derived.Test.YtocbilaaklapkaaDoorIsaAp
namespace Go.Proofs.YtocbilaaklapkaaDoor.IsaAq
open Go Go.RowKit Go.Shelf Kit IsaM IsaT IsaL IsaC IsaE IsaN IsaD IsaA IsaW IsaS IsaP IsaR IsaB IsaF IsaG IsaH IsaI IsaJ IsaK IsaQ IsaU IsaV IsaX IsaO IsaZ IsaZz IsaAp
set_option linter.unusedVariables false

set_option maxRecDepth 100000 in
set_option maxHeartbeats 2000000 in
theorem apart_no (op a b i op' a' b' i' A A' E0 F0 : Int) (hE : Ans 12 #[.agg #[.int .i64 op, .int .i64 a, .int .i64 b, .int .i64 i]] (.tuple #[.int .u32 A, .int .i64 E0])) (hE' : Ans 12 #[.agg #[.int .i64 op', .int .i64 a', .int .i64 b', .int .i64 i']] (.tuple #[.int .u32 A', .int .i64 F0]))
    (hx : E0 = 30 ∨ (E0 = 0 ∧ F0 = 30)) (w : World) (hT : Tabs w) (hMl : Ml w) :
    Calls Tryd.prog 9 #[.agg #[.int .i64 op, .int .i64 a, .int .i64 b, .int .i64 i], .agg #[.int .i64 op', .int .i64 a', .int .i64 b', .int .i64 i']] w fun e w' => e = .returned (.bool true) ∧ Below w.heap.size w w' := by
  have HE := Lib.hid hE
  have HE' := Lib.hid hE'
  have HA := Lib.hid alive_any
  have HT := Lib.hid hT
  have HMl := Lib.hid hMl
  have HX := Lib.hid hx
  clear hE hE' hT hMl hx
  have B0 := ((Below.refl w.heap.size w).alloc (Nat.le_refl _) (.cells #[.int .i64 op, .int .i64 a, .int .i64 b, .int .i64 i] 23)).alloc (by simp) (.cells #[.int .i64 op', .int .i64 a', .int .i64 b', .int .i64 i'] 23)
  have KX0 := (Blk.new w #[.int .i64 op, .int .i64 a, .int .i64 b, .int .i64 i] 23).below ((Below.refl _ (w.alloc (.cells #[.int .i64 op, .int .i64 a, .int .i64 b, .int .i64 i] 23))).alloc (Nat.le_refl _) (.cells #[.int .i64 op', .int .i64 a', .int .i64 b', .int .i64 i'] 23))
  have KY0 := Blk.new (w.alloc (.cells #[.int .i64 op, .int .i64 a, .int .i64 b, .int .i64 i] 23)) #[.int .i64 op', .int .i64 a', .int .i64 b', .int .i64 i'] 23
  rw [World.size_alloc] at KY0
  go_enter Tryd.func9, Tryd.ntmps9
  go_wp2_with (first | (go_at_call 28; ((with_reducible refine (HA.out _ (HT.out.below B0) (HMl.out.below B0)).mono ?_); rintro e w1 ⟨rfl, hb0⟩; refine Hid.out ?_)))
  refine Lib.hid ?_
  have D0 := B0.trans (hb0.mono B0.size)
  have KX1 := KX0.below hb0
  have KY1 := KY0.below hb0
  have x1_0 := KX1.cell 0
  have x1_1 := KX1.cell 1
  have x1_2 := KX1.cell 2
  have x1_3 := KX1.cell 3
  go_wp2_with (first | (go_at_call 12; ((with_reducible refine (HE.out _ (HT.out.below D0) (HMl.out.below D0)).mono ?_); rintro e w2 ⟨rfl, hb1⟩; refine Hid.out ?_)))
  refine Lib.hid ?_
  have D1 := D0.trans (hb1.mono D0.size)
  have KY2 := KY1.below hb1
  have y2_0 := KY2.cell 0
  have y2_1 := KY2.cell 1
  have y2_2 := KY2.cell 2
  have y2_3 := KY2.cell 3
  clear x1_0 x1_1 x1_2 x1_3
  go_wp2_with (first | (go_at_call 12; ((with_reducible refine (HE'.out _ (HT.out.below D1) (HMl.out.below D1)).mono ?_); rintro e w3 ⟨rfl, hb2⟩; refine Hid.out ?_)))
  refine Lib.hid ?_
  have D2 := D1.trans (hb2.mono D1.size)
  rcases HX.out with rfl | ⟨rfl, rfl⟩
  all_goals go_wp2
  all_goals go_ret
  all_goals exact ⟨rfl, D2⟩

theorem pre_line (k : Nat) (a b i : Int) : (st (line k a b i)).extract 0 (nm k).length = ⟨(nm k).toArray⟩ ∧ (nm k).length ≤ (st (line k a b i)).size := by
  have e : line k a b i = nm k ++ (fld (mA k) a ++ (fld (mB k) b ++ fld (mI k) i)) := by unfold line; simp only [List.append_assoc]
  refine ⟨?_, by rw [st_size, e, List.length_append]; omega⟩
  have h := ext_take (st (line k a b i)) 0 (nm k).length
  rw [Nat.zero_add, st_data, List.drop_zero, e, List.take_left] at h
  rw [e, h]
  rfl
theorem imm_of {A : Nat} {i : Int} (h : dI (A : Int) = i) : 32768 ≤ (A : Int) % 65536 ∧ (A : Int) % 65536 - 65536 = i ∨ (A : Int) % 65536 < 32768 ∧ (A : Int) % 65536 = i := by
  unfold dI at h
  split at h
  · exact .inl ⟨by omega, h⟩
  · exact .inr ⟨by omega, h⟩
theorem apart_yes (op a b i op' a' b' i' : Int) (h : May op a b i) (h' : May op' a' b' i') (w : World) (hT : Tabs w) (hMl : Ml w) :
    Calls Tryd.prog 9 #[.agg #[.int .i64 op, .int .i64 a, .int .i64 b, .int .i64 i], .agg #[.int .i64 op', .int .i64 a', .int .i64 b', .int .i64 i']] w fun e w' => e = .returned (.bool true) ∧ Below w.heap.size w w' := by
  obtain ⟨k, rfl, hk⟩ := op_nat h
  obtain ⟨k', rfl, hk'⟩ := op_nat h'
  have hf := hk.2
  have hF : Fits k a b i := by simpa using hf
  obtain ⟨d1, d2, d3, d4⟩ := dec_enc h
  obtain ⟨d1', d2', d3', d4'⟩ := dec_enc h'
  have hb := enc_bd h
  have hb' := enc_bd h'
  obtain ⟨A, hA⟩ := Int.eq_ofNat_of_zero_le hb.1
  obtain ⟨A', hA'⟩ := Int.eq_ofNat_of_zero_le hb'.1
  have hE : Ans 12 #[.agg #[.int .i64 (k : Int), .int .i64 a, .int .i64 b, .int .i64 i]] (.tuple #[.int .u32 (A : Int), .int .i64 0]) := fun wx h1 _ => by rw [← hA]; exact encode_yes k a b i h wx h1
  have hE' : Ans 12 #[.agg #[.int .i64 (k' : Int), .int .i64 a', .int .i64 b', .int .i64 i']] (.tuple #[.int .u32 (A' : Int), .int .i64 0]) := fun wx h1 _ => by rw [← hA']; exact encode_yes k' a' b' i' h' wx h1
  rw [hA] at d1 d2 d3 d4 hb
  rw [hA'] at d1' d2' d3' d4' hb'
  obtain ⟨p1, p2⟩ := pre_line k a b i
  have hl := line_len hk
  refine apart_walk k hF.k30 a b i k' a' b' i' A A' (by omega) (by omega) (st (line k a b i)) (st (line k' a' b' i')) p1 p2 (by rw [st_size]; omega) hE hE' (ans_line hk rfl) (ans_line hk' rfl) d1 d2 d3 (imm_of d4) ?_ w hT hMl
  by_cases hx : (k : Int) = k' ∧ a = a' ∧ b = b' ∧ i = i'
  · obtain ⟨e1, rfl, rfl, rfl⟩ := hx
    have : k = k' := by omega
    subst this
    have : A = A' := by omega
    subst this
    exact .inl ⟨rfl, rfl, rfl, rfl, rfl, rfl⟩
  · refine .inr ⟨fun e => hx ?_, fun e => hx ?_, by omega⟩
    · subst e
      exact ⟨d1.symm.trans d1', d2.symm.trans d2', d3.symm.trans d3', d4.symm.trans d4'⟩
    · obtain ⟨e1, e2, e3, e4⟩ := line_inj hk hk' (st_inj.1 e)
      exact ⟨by rw [e1], e2, e3, e4⟩
end Go.Proofs.YtocbilaaklapkaaDoor.IsaAq
namespace Go.Proofs.YtocbilaaklapkaaDoor.Walk
set_option linter.unusedVariables false
open Go Go.RowKit Kit IsaT IsaP IsaM IsaE
theorem isaApart (op a b i op' a' b' i' : Int) (w : World) (w0 : (Lit.int .i64 op).wf = true) (w1 : (Lit.int .i64 a).wf = true) (w2 : (Lit.int .i64 b).wf = true) (w3 : (Lit.int .i64 i).wf = true) (w4 : (Lit.int .i64 op').wf = true) (w5 : (Lit.int .i64 a').wf = true) (w6 : (Lit.int .i64 b').wf = true) (w7 : (Lit.int .i64 i').wf = true) (hT : Tabs w) (hM : Ml w) :
    Calls Tryd.prog 9 #[.agg #[.int .i64 op, .int .i64 a, .int .i64 b, .int .i64 i], .agg #[.int .i64 op', .int .i64 a', .int .i64 b', .int .i64 i']] w fun e w' => e = .returned (.bool true) ∧ Below w.heap.size w w' := by
  by_cases h : May op a b i
  · by_cases h' : May op' a' b' i'
    · exact IsaAq.apart_yes op a b i op' a' b' i' h h' w hT hM
    · exact IsaAq.apart_no op a b i op' a' b' i' _ _ 0 30 (fun wx h1 _ => encode_yes op a b i h wx h1) (fun wx h1 _ => encode_no op' a' b' i' h' wx h1) (.inr ⟨rfl, rfl⟩) w hT hM
  · by_cases h' : May op' a' b' i'
    · exact IsaAq.apart_no op a b i op' a' b' i' _ _ 30 0 (fun wx h1 _ => encode_no op a b i h wx h1) (fun wx h1 _ => encode_yes op' a' b' i' h' wx h1) (.inl rfl) w hT hM
    · exact IsaAq.apart_no op a b i op' a' b' i' _ _ 30 30 (fun wx h1 _ => encode_no op a b i h wx h1) (fun wx h1 _ => encode_no op' a' b' i' h' wx h1) (.inl rfl) w hT hM
#print axioms isaApart
end Go.Proofs.YtocbilaaklapkaaDoor.Walk
