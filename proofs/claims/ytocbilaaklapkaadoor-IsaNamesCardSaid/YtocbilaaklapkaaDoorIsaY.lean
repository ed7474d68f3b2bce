/-
  IsaNames: the closed examples.
-/
import Derived.Test.YtocbilaaklapkaaDoorIsaX
namespace Go.Proofs.YtocbilaaklapkaaDoor.Walk
open Go Go.RowKit Go.Shelf Kit IsaM IsaT IsaL IsaC IsaE IsaN IsaD IsaA IsaW IsaS IsaP IsaR IsaB IsaF IsaG IsaH IsaI IsaJ IsaK IsaQ IsaU IsaV IsaX
set_option linter.unusedVariables false

theorem read_at (s : ByteArray) (v : Value) (hs : s.size < 4294967281) (hv : readV (parse s.data.toList) = v) (w : World) (hT : Tabs w) (hM : Ml w) :
    Calls Tryd.prog 18 #[.string s] w fun e w' => e = .returned v ∧ Below w.heap.size w w' := by
  subst hv
  exact read_any s w hs hT hM
theorem line_at (k : Nat) (z a b i : Int) (hz : (k : Int) = z) (v : ByteArray) (hm : May k a b i) (hv : st (line k a b i) = v) (w : World) (hT : Tabs w) :
    Calls Tryd.prog 16 #[.agg #[.int .i64 z, .int .i64 a, .int .i64 b, .int .i64 i]] w fun e w' => e = .returned (.tuple #[.string v, .int .i64 0]) ∧ Below w.heap.size w w' := by
  subst hv hz
  exact line_in k a b i hm w hT

theorem asm_1 : asm [106, 109, 112, 32, 120, 10] = .inl 1 := by kernel_rfl
theorem asm_2 : asm [97, 58, 10, 97, 58, 10] = .inl 2 := by kernel_rfl
theorem asm_3 : asm [115, 121, 115] = .inl 1 := by kernel_rfl
theorem asm_4 : asm [108, 105, 32, 49, 32, 97, 10] = .inl 1 := by kernel_rfl
theorem asm_5 : asm [119, 111, 114, 100, 32, 52, 50, 57, 52, 57, 54, 55, 50, 57, 53, 10] = .inr [4294967295] := by kernel_rfl
theorem asm_10 : asm [] = .inr [] := by kernel_rfl

set_option maxRecDepth 100000 in
set_option maxHeartbeats 4000000 in
theorem isaNames (W : World) (hT : Tabs W) (hM : Ml W) :
    Calls Tryd.prog 5 #[] W fun e w' => e = .returned (.bool true) ∧ Below W.heap.size W w' := by
  have H0 := Lib.hid (fun wx hx => dec_at 402653185 402653185 (.tuple #[.agg #[.int .i64 0, .int .i64 0, .int .i64 0, .int .i64 0], .int .i64 30]) (by decide) rfl (by kernel_rfl) wx hx)
  have H1 := Lib.hid (fun wx hx hy => asm_no ⟨#[106, 109, 112, 32, 120, 10]⟩ (by decide) _ asm_1 wx hx hy)
  have H2 := Lib.hid (fun wx hx hy => asm_no ⟨#[97, 58, 10, 97, 58, 10]⟩ (by decide) _ asm_2 wx hx hy)
  have H3 := Lib.hid (fun wx hx hy => asm_no ⟨#[115, 121, 115]⟩ (by decide) _ asm_3 wx hx hy)
  have H4 := Lib.hid (fun wx hx hy => asm_no ⟨#[108, 105, 32, 49, 32, 97, 10]⟩ (by decide) _ asm_4 wx hx hy)
  have H5 := Lib.hid (fun wx hx hy => asm_yes ⟨#[119, 111, 114, 100, 32, 52, 50, 57, 52, 57, 54, 55, 50, 57, 53, 10]⟩ (by decide) _ asm_5 wx hx hy)
  have H6 := Lib.hid (fun wx hx hy => read_at ⟨#[122, 115, 101, 116, 32, 49, 32, 55]⟩ (.tuple #[.agg #[.int .i64 0, .int .i64 0, .int .i64 0, .int .i64 0], .int .i64 30]) (by decide) (by kernel_rfl) wx hx hy)
  have H7 := Lib.hid (fun wx hx hy => read_at ⟨#[106, 109, 112, 32, 97]⟩ (.tuple #[.agg #[.int .i64 0, .int .i64 0, .int .i64 0, .int .i64 0], .int .i64 30]) (by decide) (by kernel_rfl) wx hx hy)
  have H8 := Lib.hid (fun wx hx => dec_at 503316480 503316480 (.tuple #[.agg #[.int .i64 0, .int .i64 0, .int .i64 0, .int .i64 0], .int .i64 30]) (by decide) rfl (by kernel_rfl) wx hx)
  have H9 := Lib.hid (fun wx hx => line_at 15 15 2 3 (-4) rfl ⟨#[108, 119, 32, 50, 32, 51, 32, 45, 52]⟩ (by decide) (by kernel_rfl) wx hx)
  have H10 := Lib.hid (fun wx hx hy => asm_yes ⟨#[]⟩ (by decide) _ asm_10 wx hx hy)
  have H11 := Lib.hid (fun wx hx hy => alive_any wx hx hy)
  have H12 := Lib.hid (fun wx => name_no 30 (by decide) wx)
  have H13 := Lib.hid (fun wx => name_no (-1) (by decide) wx)
  have HT := Lib.hid hT
  have HM := Lib.hid hM
  clear hT hM
  have B0 := Below.refl W.heap.size W
  go_enter Tryd.func5, Tryd.ntmps5
  go_wp2_with (first | (go_at_call 14; ((with_reducible refine (H0.out _ (HT.out.below B0)).mono ?_); rintro e w1 ⟨rfl, hb0⟩; refine Hid.out ?_)))
  refine Lib.hid ?_
  have D0 := B0.trans (hb0.mono B0.size)
  have E0 := D0.alloc D0.size (.cells #[.int .i64 0, .int .i64 0, .int .i64 0, .int .i64 0] 23)
  go_wp2_with (first | (go_at_call 22; ((with_reducible refine (H1.out _ (HT.out.below E0) (HM.out.below E0)).mono ?_); rintro e w2 ⟨hb1, rfl⟩; refine Hid.out ?_)))
  refine Lib.hid ?_
  have D1 := E0.trans (hb1.mono E0.size)
  go_wp2_with (first | (go_at_call 22; ((with_reducible refine (H2.out _ (HT.out.below D1) (HM.out.below D1)).mono ?_); rintro e w3 ⟨hb2, rfl⟩; refine Hid.out ?_)))
  refine Lib.hid ?_
  have D2 := D1.trans (hb2.mono D1.size)
  go_wp2_with (first | (go_at_call 22; ((with_reducible refine (H3.out _ (HT.out.below D2) (HM.out.below D2)).mono ?_); rintro e w4 ⟨hb3, rfl⟩; refine Hid.out ?_)))
  refine Lib.hid ?_
  have D3 := D2.trans (hb3.mono D2.size)
  go_wp2_with (first | (go_at_call 22; ((with_reducible refine (H4.out _ (HT.out.below D3) (HM.out.below D3)).mono ?_); rintro e w5 ⟨hb4, rfl⟩; refine Hid.out ?_)))
  refine Lib.hid ?_
  have D4 := D3.trans (hb4.mono D3.size)
  go_wp2_with (first | (go_at_call 22; ((with_reducible refine (H5.out _ (HT.out.below D4) (HM.out.below D4)).mono ?_); rintro e w6 ⟨hb5, r5, rfl, hrow5, -, -⟩; refine Hid.out ?_)))
  refine Lib.hid ?_
  have D5 := D4.trans (hb5.mono D4.size)
  obtain ⟨g, cap, rfl, hg, hcap, hmax, ⟨cur, hbg⟩, hcs⟩ := row_cells hrow5 (by simp)
  have hlt := hbg.lt
  have c5 := hcs 0 _ rfl
  unfold maxLen at hmax
  simp only [List.length_cons, List.length_nil, Nat.reduceAdd] at hcap hmax
  clear hcs hrow5
  go_wp2_with (first | (go_at_call 18; ((with_reducible refine (H6.out _ (HT.out.below D5) (HM.out.below D5)).mono ?_); rintro e w7 ⟨rfl, hb6⟩; refine Hid.out ?_)))
  refine Lib.hid ?_
  have D6 := D5.trans (hb6.mono D5.size)
  have c6 := (hb6.cell (p := ⟨g, 0, none⟩) (by show g < _; omega)).trans c5
  have hs6 := hb6.size
  have E6 := D6.alloc D6.size (.cells #[.int .i64 0, .int .i64 0, .int .i64 0, .int .i64 0] 23)
  have c106 := (World.cell?_alloc_past (w := w7) (.cells #[.int .i64 0, .int .i64 0, .int .i64 0, .int .i64 0] 23) g 0 (by omega)).trans c6
  have hsa6 : (w7.alloc (.cells #[.int .i64 0, .int .i64 0, .int .i64 0, .int .i64 0] 23)).heap.size = w7.heap.size + 1 := World.size_alloc _ _
  go_wp2_with (first | (go_at_call 18; ((with_reducible refine (H7.out _ (HT.out.below E6) (HM.out.below E6)).mono ?_); rintro e w8 ⟨rfl, hb7⟩; refine Hid.out ?_)))
  refine Lib.hid ?_
  have D7 := E6.trans (hb7.mono E6.size)
  have c7 := (hb7.cell (p := ⟨g, 0, none⟩) (by show g < _; omega)).trans c106
  have hs7 := hb7.size
  have E7 := D7.alloc D7.size (.cells #[.int .i64 0, .int .i64 0, .int .i64 0, .int .i64 0] 23)
  have c107 := (World.cell?_alloc_past (w := w8) (.cells #[.int .i64 0, .int .i64 0, .int .i64 0, .int .i64 0] 23) g 0 (by omega)).trans c7
  have hsa7 : (w8.alloc (.cells #[.int .i64 0, .int .i64 0, .int .i64 0, .int .i64 0] 23)).heap.size = w8.heap.size + 1 := World.size_alloc _ _
  go_wp2_with (first | (go_at_call 14; ((with_reducible refine (H8.out _ (HT.out.below E7)).mono ?_); rintro e w9 ⟨rfl, hb8⟩; refine Hid.out ?_)))
  refine Lib.hid ?_
  have D8 := E7.trans (hb8.mono E7.size)
  have c8 := (hb8.cell (p := ⟨g, 0, none⟩) (by show g < _; omega)).trans c107
  have hs8 := hb8.size
  have E8 := D8.alloc D8.size (.cells #[.int .i64 0, .int .i64 0, .int .i64 0, .int .i64 0] 23)
  have c108 := (World.cell?_alloc_past (w := w9) (.cells #[.int .i64 0, .int .i64 0, .int .i64 0, .int .i64 0] 23) g 0 (by omega)).trans c8
  have hsa8 : (w9.alloc (.cells #[.int .i64 0, .int .i64 0, .int .i64 0, .int .i64 0] 23)).heap.size = w9.heap.size + 1 := World.size_alloc _ _
  go_wp2_with (first | (go_at_call 16; ((with_reducible refine (H9.out _ (HT.out.below E8)).mono ?_); rintro e w10 ⟨rfl, hb9⟩; refine Hid.out ?_)))
  refine Lib.hid ?_
  have D9 := E8.trans (hb9.mono E8.size)
  have c9 := (hb9.cell (p := ⟨g, 0, none⟩) (by show g < _; omega)).trans c108
  have hs9 := hb9.size
  go_wp2_with (first | (go_at_call 22; ((with_reducible refine (H10.out _ (HT.out.below D9) (HM.out.below D9)).mono ?_); rintro e w11 ⟨hb10, r10, rfl, hrow10, -, -⟩; refine Hid.out ?_)))
  refine Lib.hid ?_
  have D10 := D9.trans (hb10.mono D9.size)
  have c10 := (hb10.cell (p := ⟨g, 0, none⟩) (by show g < _; omega)).trans c9
  have hs10 := hb10.size
  obtain ⟨ad, cap2, rfl⟩ := row_form hrow10
  clear hrow10
  go_wp2_with (first | (go_at_call 28; ((with_reducible refine (H11.out _ (HT.out.below D10) (HM.out.below D10)).mono ?_); rintro e w12 ⟨rfl, hb11⟩; refine Hid.out ?_)))
  refine Lib.hid ?_
  have D11 := D10.trans (hb11.mono D10.size)
  have c11 := (hb11.cell (p := ⟨g, 0, none⟩) (by show g < _; omega)).trans c10
  have hs11 := hb11.size
  go_wp2_with (first | (go_at_call 20; ((with_reducible refine (H12.out _).mono ?_); rintro e w13 ⟨rfl, rfl⟩; refine Hid.out ?_)))
  refine Lib.hid ?_
  go_wp2_with (first | (go_at_call 20; ((with_reducible refine (H13.out _).mono ?_); rintro e w14 ⟨rfl, rfl⟩; refine Hid.out ?_)))
  refine Lib.hid ?_
  go_wp2
  go_ret
  exact ⟨rfl, D11⟩
#print axioms isaNames
end Go.Proofs.YtocbilaaklapkaaDoor.Walk
