/-
  IsaApart: the walk.
-/
import Derived.Test.YtocbilaaklapkaaDoorIsaZz
import Derived.BigQuiet
namespace Go.Proofs.YtocbilaaklapkaaDoor.IsaAp
open Go Go.RowKit Go.Shelf Kit IsaM IsaT IsaL IsaC IsaE IsaN IsaD IsaA IsaW IsaS IsaP IsaR IsaB IsaF IsaG IsaH IsaI IsaJ IsaK IsaQ IsaU IsaV IsaX IsaO IsaZ IsaZz
set_option linter.unusedVariables false

theorem wrapN {x : Int} (h0 : 0 ≤ x) (h1 : x ≤ 9223372036854775807) : IntKind.i64.wrap x = x := by
  have e : IntKind.i64.wrap x = if 9223372036854775808 ≤ x % 18446744073709551616 then x % 18446744073709551616 - 18446744073709551616 else x % 18446744073709551616 := by simp [IntKind.wrap, IntKind.bits, IntKind.signed]
  rw [e]
  split <;> omega

set_option maxRecDepth 100000 in
set_option maxHeartbeats 4000000 in
theorem apart_walk (k : Nat) (hk : k < 30) (a b i op' a' b' i' : Int) (A A' : Nat) (hA : A < 4294967296) (hA' : A' < 4294967296) (L L' : ByteArray) (hpre : L.extract 0 (nm k).length = ⟨(nm k).toArray⟩) (hlen : (nm k).length ≤ L.size) (hL : L.size ≤ 1000)
    (hE : Ans 12 #[.agg #[.int .i64 (k : Int), .int .i64 a, .int .i64 b, .int .i64 i]] (.tuple #[.int .u32 (A : Int), .int .i64 0])) (hE' : Ans 12 #[.agg #[.int .i64 op', .int .i64 a', .int .i64 b', .int .i64 i']] (.tuple #[.int .u32 (A' : Int), .int .i64 0]))
    (hLi : Ans 16 #[.agg #[.int .i64 (k : Int), .int .i64 a, .int .i64 b, .int .i64 i]] (.tuple #[.string L, .int .i64 0])) (hLi' : Ans 16 #[.agg #[.int .i64 op', .int .i64 a', .int .i64 b', .int .i64 i']] (.tuple #[.string L', .int .i64 0]))
    (h1 : (A : Int) / 16777216 = (k : Int)) (h2 : (A : Int) / 1048576 % 16 = a) (h3 : (A : Int) / 65536 % 16 = b) (h4 : 32768 ≤ (A : Int) % 65536 ∧ (A : Int) % 65536 - 65536 = i ∨ (A : Int) % 65536 < 32768 ∧ (A : Int) % 65536 = i)
    (hx : (A = A' ∧ L = L' ∧ (k : Int) = op' ∧ a = a' ∧ b = b' ∧ i = i') ∨ (A ≠ A' ∧ L ≠ L' ∧ ((k : Int) ≠ op' ∨ a ≠ a' ∨ b ≠ b' ∨ i ≠ i')))
    (w : World) (hT : Tabs w) (hMl : Ml w) :
    Calls Tryd.prog 9 #[.agg #[.int .i64 (k : Int), .int .i64 a, .int .i64 b, .int .i64 i], .agg #[.int .i64 op', .int .i64 a', .int .i64 b', .int .i64 i']] w fun e w' => e = .returned (.bool true) ∧ Below w.heap.size w w' := by
  have HE := Lib.hid hE
  have HE' := Lib.hid hE'
  have HL := Lib.hid hLi
  have HL' := Lib.hid hLi'
  have HA := Lib.hid alive_any
  have HT := Lib.hid hT
  have HMl := Lib.hid hMl
  have HX := Lib.hid hx
  have H4 := Lib.hid h4
  have H1 := Lib.hid h1
  have H2 := Lib.hid h2
  have H3 := Lib.hid h3
  clear hE hE' hLi hLi' hT hMl hx h4 h1 h2 h3
  have B0 := ((Below.refl w.heap.size w).alloc (Nat.le_refl _) (.cells #[.int .i64 (k : Int), .int .i64 a, .int .i64 b, .int .i64 i] 23)).alloc (by simp) (.cells #[.int .i64 op', .int .i64 a', .int .i64 b', .int .i64 i'] 23)
  have KX0 := (Blk.new w #[.int .i64 (k : Int), .int .i64 a, .int .i64 b, .int .i64 i] 23).below ((Below.refl _ (w.alloc (.cells #[.int .i64 (k : Int), .int .i64 a, .int .i64 b, .int .i64 i] 23))).alloc (Nat.le_refl _) (.cells #[.int .i64 op', .int .i64 a', .int .i64 b', .int .i64 i'] 23))
  have KY0 := Blk.new (w.alloc (.cells #[.int .i64 (k : Int), .int .i64 a, .int .i64 b, .int .i64 i] 23)) #[.int .i64 op', .int .i64 a', .int .i64 b', .int .i64 i'] 23
  rw [World.size_alloc] at KY0
  go_enter Tryd.func9, Tryd.ntmps9
  go_wp2_with (first | (go_at_call 28; ((with_reducible refine (HA.out _ (HT.out.below B0) (HMl.out.below B0)).mono ?_); rintro e w1 ⟨rfl, hb0⟩; refine Hid.out ?_)))
  refine Lib.hid ?_
  have D0 := B0.trans (hb0.mono B0.size)
  have KX1 := KX0.below hb0
  have KY1 := KY0.below hb0
  have x1_0 := KX1.cell 0
  have x1_1 := KX1.cell 1
  have x1_2 := KX1.cell 2
  have x1_3 := KX1.cell 3
  go_wp2_with (first | (go_at_call 12; ((with_reducible refine (HE.out _ (HT.out.below D0) (HMl.out.below D0)).mono ?_); rintro e w2 ⟨rfl, hb1⟩; refine Hid.out ?_)))
  refine Lib.hid ?_
  have D1 := D0.trans (hb1.mono D0.size)
  have KX2 := KX1.below hb1
  have KY2 := KY1.below hb1
  have y2_0 := KY2.cell 0
  have y2_1 := KY2.cell 1
  have y2_2 := KY2.cell 2
  have y2_3 := KY2.cell 3
  clear x1_0 x1_1 x1_2 x1_3
  go_wp2_with (first | (go_at_call 12; ((with_reducible refine (HE'.out _ (HT.out.below D1) (HMl.out.below D1)).mono ?_); rintro e w3 ⟨rfl, hb2⟩; refine Hid.out ?_)))
  refine Lib.hid ?_
  have D2 := D1.trans (hb2.mono D1.size)
  have KX3 := KX2.below hb2
  have KY3 := KY2.below hb2
  have x3_0 := KX3.cell 0
  have x3_1 := KX3.cell 1
  have x3_2 := KX3.cell 2
  have x3_3 := KX3.cell 3
  clear y2_0 y2_1 y2_2 y2_3
  go_wp2_with (first | (go_at_call 16; ((with_reducible refine (HL.out _ (HT.out.below D2) (HMl.out.below D2)).mono ?_); rintro e w4 ⟨rfl, hb3⟩; refine Hid.out ?_)))
  refine Lib.hid ?_
  have D3 := D2.trans (hb3.mono D2.size)
  have KX4 := KX3.below hb3
  have KY4 := KY3.below hb3
  have y4_0 := KY4.cell 0
  have y4_1 := KY4.cell 1
  have y4_2 := KY4.cell 2
  have y4_3 := KY4.cell 3
  clear x3_0 x3_1 x3_2 x3_3
  go_wp2_with (first | (go_at_call 16; ((with_reducible refine (HL'.out _ (HT.out.below D3) (HMl.out.below D3)).mono ?_); rintro e w5 ⟨rfl, hb4⟩; refine Hid.out ?_)))
  refine Lib.hid ?_
  have D4 := D3.trans (hb4.mono D3.size)
  have KX5 := KX4.below hb4
  have KY5 := KY4.below hb4
  have fX0 := KX5.cell 0
  have fX1 := KX5.cell 1
  have fX2 := KX5.cell 2
  have fX3 := KX5.cell 3
  have fY0 := KY5.cell 0
  have fY1 := KY5.cell 1
  have fY2 := KY5.cell 2
  have fY3 := KY5.cell 3
  clear y4_0 y4_1 y4_2 y4_3
  have HN := Lib.hid (fun wx hx => name_yes k hk wx hx)
  have hlz : (((nm k).length : Nat) : Int) ≤ (L.size : Int) := by omega
  have HT5 := Lib.hid (HT.out.below D4)
  have e1 := H1.out
  have v1 : IntKind.i64.wrap (k : Int) = (k : Int) := wrapN (by omega) (by omega)
  have v2 : IntKind.i64.wrap ((A : Int) / 1048576) = (A : Int) / 1048576 := wrapN (by omega) (by omega)
  have v3 : IntKind.i64.wrap ((A : Int) / 65536) = (A : Int) / 65536 := wrapN (by omega) (by omega)
  have t2 : ((A : Int) / 1048576).tmod 16 = a := by rw [Int.tmod_eq_emod_of_nonneg (by omega)]; exact H2.out
  have t3 : ((A : Int) / 65536).tmod 16 = b := by rw [Int.tmod_eq_emod_of_nonneg (by omega)]; exact H3.out
  have key : (A = A' ∧ L = L' ∧ (k : Int) = op' ∧ a = a' ∧ b = b' ∧ i = i') ∨ (((A : Int) == (A' : Int)) = false ∧ (L.toList == L'.toList) = false ∧ (((k : Int) == op') = false ∨ ((k : Int) = op' ∧ (a == a') = false) ∨ ((k : Int) = op' ∧ a = a' ∧ (b == b') = false) ∨ ((k : Int) = op' ∧ a = a' ∧ b = b' ∧ (i == i') = false))) := by
    rcases HX.out with h | ⟨n1, n2, n3⟩
    · exact .inl h
    · refine .inr ⟨by simp; omega, by rw [beq_eq_false_iff_ne]; intro e; rw [ByteArray.toList_eq, ByteArray.toList_eq] at e; exact n2 (ByteArray.ext (Array.ext' e)), ?_⟩
      simp only [beq_eq_false_iff_ne]
      omega
  have KEY := Lib.hid key
  clear key
  rcases H4.out with ⟨g1, g2⟩ | ⟨g1, g2⟩
  all_goals rcases KEY.out with ⟨rfl, rfl, e0, rfl, rfl, rfl⟩ | ⟨n1, n2, n3 | ⟨e0, n3⟩ | ⟨e0, rfl, n3⟩ | ⟨e0, rfl, rfl, n3⟩⟩
  · subst e0
    go_wp2
    go_quiet ((go_at_call 20; exact quiet ((HN.out _ (by first | exact HT5.out | exact HT5.out.drewN _)))))
    go_wp2
    go_ret
    exact ⟨rfl, D4.trans ⟨rfl, rfl, rfl, Nat.le_refl _, fun _ _ => rfl⟩⟩
  · skip
    go_wp2
    go_quiet ((go_at_call 20; exact quiet ((HN.out _ (by first | exact HT5.out | exact HT5.out.drewN _)))))
    go_wp2
    go_ret
    exact ⟨rfl, D4.trans ⟨rfl, rfl, rfl, Nat.le_refl _, fun _ _ => rfl⟩⟩
  · subst e0
    go_wp2
    go_quiet ((go_at_call 20; exact quiet ((HN.out _ (by first | exact HT5.out | exact HT5.out.drewN _)))))
    go_wp2
    go_ret
    exact ⟨rfl, D4.trans ⟨rfl, rfl, rfl, Nat.le_refl _, fun _ _ => rfl⟩⟩
  · subst e0
    go_wp2
    go_quiet ((go_at_call 20; exact quiet ((HN.out _ (by first | exact HT5.out | exact HT5.out.drewN _)))))
    go_wp2
    go_ret
    exact ⟨rfl, D4.trans ⟨rfl, rfl, rfl, Nat.le_refl _, fun _ _ => rfl⟩⟩
  · subst e0
    go_wp2
    go_quiet ((go_at_call 20; exact quiet ((HN.out _ (by first | exact HT5.out | exact HT5.out.drewN _)))))
    go_wp2
    go_ret
    exact ⟨rfl, D4.trans ⟨rfl, rfl, rfl, Nat.le_refl _, fun _ _ => rfl⟩⟩
  · subst e0
    subst g2
    have gd : decide ((32768 : Int) ≤ (A : Int) % 65536) = false := decide_eq_false (by omega)
    clear g1
    go_wp2
    go_quiet ((go_at_call 20; exact quiet ((HN.out _ (by first | exact HT5.out | exact HT5.out.drewN _)))))
    go_wp2
    go_ret
    exact ⟨rfl, D4.trans ⟨rfl, rfl, rfl, Nat.le_refl _, fun _ _ => rfl⟩⟩
  · skip
    subst g2
    have gd : decide ((32768 : Int) ≤ (A : Int) % 65536) = false := decide_eq_false (by omega)
    clear g1
    go_wp2
    go_quiet ((go_at_call 20; exact quiet ((HN.out _ (by first | exact HT5.out | exact HT5.out.drewN _)))))
    go_wp2
    go_ret
    exact ⟨rfl, D4.trans ⟨rfl, rfl, rfl, Nat.le_refl _, fun _ _ => rfl⟩⟩
  · subst e0
    subst g2
    have gd : decide ((32768 : Int) ≤ (A : Int) % 65536) = false := decide_eq_false (by omega)
    clear g1
    go_wp2
    go_quiet ((go_at_call 20; exact quiet ((HN.out _ (by first | exact HT5.out | exact HT5.out.drewN _)))))
    go_wp2
    go_ret
    exact ⟨rfl, D4.trans ⟨rfl, rfl, rfl, Nat.le_refl _, fun _ _ => rfl⟩⟩
  · subst e0
    subst g2
    have gd : decide ((32768 : Int) ≤ (A : Int) % 65536) = false := decide_eq_false (by omega)
    clear g1
    go_wp2
    go_quiet ((go_at_call 20; exact quiet ((HN.out _ (by first | exact HT5.out | exact HT5.out.drewN _)))))
    go_wp2
    go_ret
    exact ⟨rfl, D4.trans ⟨rfl, rfl, rfl, Nat.le_refl _, fun _ _ => rfl⟩⟩
  · subst e0
    subst g2
    have gd : decide ((32768 : Int) ≤ (A : Int) % 65536) = false := decide_eq_false (by omega)
    clear g1
    go_wp2
    go_quiet ((go_at_call 20; exact quiet ((HN.out _ (by first | exact HT5.out | exact HT5.out.drewN _)))))
    go_wp2
    go_ret
    exact ⟨rfl, D4.trans ⟨rfl, rfl, rfl, Nat.le_refl _, fun _ _ => rfl⟩⟩
#print axioms apart_walk
end Go.Proofs.YtocbilaaklapkaaDoor.IsaAp
