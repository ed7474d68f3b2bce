/-
  IsaBack: the walk.
-/
import Derived.Test.YtocbilaaklapkaaDoorIsaX
import Derived.Test.YtocbilaaklapkaaDoorIsaO
namespace Go.Proofs.YtocbilaaklapkaaDoor.IsaZ
open Go Go.RowKit Go.Shelf Kit IsaM IsaT IsaL IsaC IsaE IsaN IsaD IsaA IsaW IsaS IsaP IsaR IsaB IsaF IsaG IsaH IsaI IsaJ IsaK IsaQ IsaU IsaV IsaX IsaO
set_option linter.unusedVariables false

theorem line_no (op a b i : Int) (h : ¬ May op a b i) (w : World) (hT : Tabs w) :
    Calls Tryd.prog 16 #[insV op a b i] w fun e w' => e = .returned (.tuple #[.string ⟨#[]⟩, .int .i64 30]) ∧ Below w.heap.size w w' := by
  have hck := fun wx hx => check_any op a b i wx hx
  have hm : mayB op a b i = false := decide_eq_false h
  rw [hm] at hck
  have e0 : errOf false = 30 := rfl
  rw [e0] at hck
  unfold insV at hck ⊢
  have HC := Lib.hid hck
  have HT := Lib.hid hT
  clear hck hm e0 h
  go_enter Tryd.func16, Tryd.ntmps16
  go_wp2_with (go_at_call 11; refine (HC.out _ (HT.out.below ((Below.refl _ _).alloc (Nat.le_refl _) _))).mono ?_; rintro e w1 ⟨rfl, hb⟩; obtain ⟨hc, hf⟩ := bcell hb; have hz : w.heap.size < w1.heap.size := (by have := hb.size; simp at this; omega))
  go_ret2
  exact ⟨rfl, ((Below.refl _ _).alloc (Nat.le_refl _) _).trans (hb.mono (by simp))⟩

/-- A function's answer, whatever the world. -/
abbrev Ans (f : Nat) (args : Array Value) (v : Value) : Prop := ∀ wx, Tabs wx → Ml wx → Calls Tryd.prog f args wx fun e w' => e = .returned v ∧ Below wx.heap.size wx w'

set_option maxRecDepth 100000 in
set_option maxHeartbeats 4000000 in
theorem back_walk (op a b i n A E0 y0 y1 y2 y3 z0 z1 z2 z3 H p0 p1 p2 p3 I Bn q0 q1 q2 q3 K : Int) (L T s : ByteArray) (hs : s.size ≤ 80)
    (hE : Ans 12 #[.agg #[.int .i64 op, .int .i64 a, .int .i64 b, .int .i64 i]] (.tuple #[.int .u32 A, .int .i64 E0])) (hD : Ans 14 #[.int .u32 A] (.tuple #[.agg #[.int .i64 y0, .int .i64 y1, .int .i64 y2, .int .i64 y3], .int .i64 0]))
    (hL : Ans 16 #[.agg #[.int .i64 op, .int .i64 a, .int .i64 b, .int .i64 i]] (.tuple #[.string L, .int .i64 E0])) (hR : Ans 18 #[.string L] (.tuple #[.agg #[.int .i64 z0, .int .i64 z1, .int .i64 z2, .int .i64 z3], .int .i64 H]))
    (hP : Ans 14 #[.int .u32 n] (.tuple #[.agg #[.int .i64 p0, .int .i64 p1, .int .i64 p2, .int .i64 p3], .int .i64 I])) (hB : Ans 12 #[.agg #[.int .i64 p0, .int .i64 p1, .int .i64 p2, .int .i64 p3]] (.tuple #[.int .u32 Bn, .int .i64 0]))
    (hQ : Ans 18 #[.string s] (.tuple #[.agg #[.int .i64 q0, .int .i64 q1, .int .i64 q2, .int .i64 q3], .int .i64 K])) (hM : Ans 16 #[.agg #[.int .i64 q0, .int .i64 q1, .int .i64 q2, .int .i64 q3]] (.tuple #[.string T, .int .i64 0]))
    (h1 : E0 = 30 ∨ E0 = 0 ∧ y0 = op ∧ y1 = a ∧ y2 = b ∧ y3 = i ∧ z0 = op ∧ z1 = a ∧ z2 = b ∧ z3 = i ∧ H = 0) (h2 : I = 30 ∨ I = 0 ∧ Bn = n) (h3 : K = 30 ∨ K = 0 ∧ T = s)
    (w : World) (hT : Tabs w) (hMl : Ml w) :
    Calls Tryd.prog 6 #[.agg #[.int .i64 op, .int .i64 a, .int .i64 b, .int .i64 i], .int .u32 n, .string s] w fun e w' => e = .returned (.bool true) ∧ Below w.heap.size w w' := by
  have HE := Lib.hid hE
  have HD := Lib.hid hD
  have HL := Lib.hid hL
  have HR := Lib.hid hR
  have HP := Lib.hid hP
  have HB := Lib.hid hB
  have HQ := Lib.hid hQ
  have HM := Lib.hid hM
  have HA := Lib.hid alive_any
  have H1 := Lib.hid h1
  have H2 := Lib.hid h2
  have H3 := Lib.hid h3
  have HT := Lib.hid hT
  have HMl := Lib.hid hMl
  clear hE hD hL hR hP hB hQ hM h1 h2 h3 hT hMl
  have hsz : (s.size : Int) ≤ 80 := by omega
  have B0 := (Below.refl w.heap.size w).alloc (Nat.le_refl _) (.cells #[.int .i64 op, .int .i64 a, .int .i64 b, .int .i64 i] 23)
  have KX0 := Blk.new w #[.int .i64 op, .int .i64 a, .int .i64 b, .int .i64 i] 23
  go_enter Tryd.func6, Tryd.ntmps6
  go_wp2_with (first | (go_at_call 28; ((with_reducible refine (HA.out _ (HT.out.below B0) (HMl.out.below B0)).mono ?_); rintro e w1 ⟨rfl, hb0⟩; refine Hid.out ?_)))
  refine Lib.hid ?_
  have D0 := B0.trans (hb0.mono B0.size)
  have KX0a := KX0.below hb0
  have x0_0 := KX0a.cell 0
  have x0_1 := KX0a.cell 1
  have x0_2 := KX0a.cell 2
  have x0_3 := KX0a.cell 3
  go_wp2_with (first | (go_at_call 12; ((with_reducible refine (HE.out _ (HT.out.below D0) (HMl.out.below D0)).mono ?_); rintro e w2 ⟨rfl, hb1⟩; refine Hid.out ?_)))
  refine Lib.hid ?_
  have D1 := D0.trans (hb1.mono D0.size)
  have KX1a := KX0a.below hb1
  go_wp2_with (first | (go_at_call 14; ((with_reducible refine (HD.out _ (HT.out.below D1) (HMl.out.below D1)).mono ?_); rintro e w3 ⟨rfl, hb2⟩; refine Hid.out ?_)))
  refine Lib.hid ?_
  have D2 := D1.trans (hb2.mono D1.size)
  have KX2a := KX1a.below hb2
  have KX2b := KX2a.below ((Below.refl _ w3).alloc (Nat.le_refl _) (.cells #[.int .i64 y0, .int .i64 y1, .int .i64 y2, .int .i64 y3] 23))
  have KY2b := Blk.new w3 #[.int .i64 y0, .int .i64 y1, .int .i64 y2, .int .i64 y3] 23
  have E2 := D2.alloc D2.size (.cells #[.int .i64 y0, .int .i64 y1, .int .i64 y2, .int .i64 y3] 23)
  have x2_0 := KX2b.cell 0
  have x2_1 := KX2b.cell 1
  have x2_2 := KX2b.cell 2
  have x2_3 := KX2b.cell 3
  go_wp2_with (first | (go_at_call 16; ((with_reducible refine (HL.out _ (HT.out.below E2) (HMl.out.below E2)).mono ?_); rintro e w4 ⟨rfl, hb3⟩; refine Hid.out ?_)))
  refine Lib.hid ?_
  have D3 := E2.trans (hb3.mono E2.size)
  have KX3a := KX2b.below hb3
  have KY3a := KY2b.below hb3
  go_wp2_with (first | (go_at_call 18; ((with_reducible refine (HR.out _ (HT.out.below D3) (HMl.out.below D3)).mono ?_); rintro e w5 ⟨rfl, hb4⟩; refine Hid.out ?_)))
  refine Lib.hid ?_
  have D4 := D3.trans (hb4.mono D3.size)
  have KX4a := KX3a.below hb4
  have KY4a := KY3a.below hb4
  have KX4b := KX4a.below ((Below.refl _ w5).alloc (Nat.le_refl _) (.cells #[.int .i64 z0, .int .i64 z1, .int .i64 z2, .int .i64 z3] 23))
  have KY4b := KY4a.below ((Below.refl _ w5).alloc (Nat.le_refl _) (.cells #[.int .i64 z0, .int .i64 z1, .int .i64 z2, .int .i64 z3] 23))
  have KZ4b := Blk.new w5 #[.int .i64 z0, .int .i64 z1, .int .i64 z2, .int .i64 z3] 23
  have E4 := D4.alloc D4.size (.cells #[.int .i64 z0, .int .i64 z1, .int .i64 z2, .int .i64 z3] 23)
  go_wp2_with (first | (go_at_call 14; ((with_reducible refine (HP.out _ (HT.out.below E4) (HMl.out.below E4)).mono ?_); rintro e w6 ⟨rfl, hb5⟩; refine Hid.out ?_)))
  refine Lib.hid ?_
  have D5 := E4.trans (hb5.mono E4.size)
  have KX5a := KX4b.below hb5
  have KY5a := KY4b.below hb5
  have KZ5a := KZ4b.below hb5
  have KX5b := KX5a.below ((Below.refl _ w6).alloc (Nat.le_refl _) (.cells #[.int .i64 p0, .int .i64 p1, .int .i64 p2, .int .i64 p3] 23))
  have KY5b := KY5a.below ((Below.refl _ w6).alloc (Nat.le_refl _) (.cells #[.int .i64 p0, .int .i64 p1, .int .i64 p2, .int .i64 p3] 23))
  have KZ5b := KZ5a.below ((Below.refl _ w6).alloc (Nat.le_refl _) (.cells #[.int .i64 p0, .int .i64 p1, .int .i64 p2, .int .i64 p3] 23))
  have KP5b := Blk.new w6 #[.int .i64 p0, .int .i64 p1, .int .i64 p2, .int .i64 p3] 23
  have E5 := D5.alloc D5.size (.cells #[.int .i64 p0, .int .i64 p1, .int .i64 p2, .int .i64 p3] 23)
  go_wp2_with (first | (go_at_call 12; ((with_reducible refine (HB.out _ (HT.out.below E5) (HMl.out.below E5)).mono ?_); rintro e w7 ⟨rfl, hb6⟩; refine Hid.out ?_)))
  refine Lib.hid ?_
  have D6 := E5.trans (hb6.mono E5.size)
  have KX6a := KX5b.below hb6
  have KY6a := KY5b.below hb6
  have KZ6a := KZ5b.below hb6
  have KP6a := KP5b.below hb6
  go_wp2_with (first | (go_at_call 18; ((with_reducible refine (HQ.out _ (HT.out.below D6) (HMl.out.below D6)).mono ?_); rintro e w8 ⟨rfl, hb7⟩; refine Hid.out ?_)))
  refine Lib.hid ?_
  have D7 := D6.trans (hb7.mono D6.size)
  have KX7a := KX6a.below hb7
  have KY7a := KY6a.below hb7
  have KZ7a := KZ6a.below hb7
  have KP7a := KP6a.below hb7
  have KX7b := KX7a.below ((Below.refl _ w8).alloc (Nat.le_refl _) (.cells #[.int .i64 q0, .int .i64 q1, .int .i64 q2, .int .i64 q3] 23))
  have KY7b := KY7a.below ((Below.refl _ w8).alloc (Nat.le_refl _) (.cells #[.int .i64 q0, .int .i64 q1, .int .i64 q2, .int .i64 q3] 23))
  have KZ7b := KZ7a.below ((Below.refl _ w8).alloc (Nat.le_refl _) (.cells #[.int .i64 q0, .int .i64 q1, .int .i64 q2, .int .i64 q3] 23))
  have KP7b := KP7a.below ((Below.refl _ w8).alloc (Nat.le_refl _) (.cells #[.int .i64 q0, .int .i64 q1, .int .i64 q2, .int .i64 q3] 23))
  have KQ7b := Blk.new w8 #[.int .i64 q0, .int .i64 q1, .int .i64 q2, .int .i64 q3] 23
  have E7 := D7.alloc D7.size (.cells #[.int .i64 q0, .int .i64 q1, .int .i64 q2, .int .i64 q3] 23)
  go_wp2_with (first | (go_at_call 16; ((with_reducible refine (HM.out _ (HT.out.below E7) (HMl.out.below E7)).mono ?_); rintro e w9 ⟨rfl, hb8⟩; refine Hid.out ?_)))
  refine Lib.hid ?_
  have D8 := E7.trans (hb8.mono E7.size)
  have KX8a := KX7b.below hb8
  have KY8a := KY7b.below hb8
  have KZ8a := KZ7b.below hb8
  have KP8a := KP7b.below hb8
  have KQ8a := KQ7b.below hb8
  have fX0 := KX8a.cell 0
  have fX1 := KX8a.cell 1
  have fX2 := KX8a.cell 2
  have fX3 := KX8a.cell 3
  have fY0 := KY8a.cell 0
  have fY1 := KY8a.cell 1
  have fY2 := KY8a.cell 2
  have fY3 := KY8a.cell 3
  have fZ0 := KZ8a.cell 0
  have fZ1 := KZ8a.cell 1
  have fZ2 := KZ8a.cell 2
  have fZ3 := KZ8a.cell 3
  rcases H1.out with rfl | ⟨rfl, rfl, rfl, rfl, rfl, rfl, rfl, rfl, rfl, rfl⟩ <;> rcases H2.out with rfl | ⟨rfl, rfl⟩ <;> rcases H3.out with rfl | ⟨rfl, rfl⟩
  all_goals go_wp2
  all_goals go_ret
  all_goals exact ⟨rfl, D8⟩
end Go.Proofs.YtocbilaaklapkaaDoor.IsaZ
