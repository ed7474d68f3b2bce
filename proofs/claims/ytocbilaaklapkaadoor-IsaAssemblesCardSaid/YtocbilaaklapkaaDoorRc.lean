/-
  The document's Encode and Decode.
-/
import Derived.Test.YtocbilaaklapkaaDoorRb
namespace Go.Proofs.YtocbilaaklapkaaDoor.Rc
open Go Go.RowKit Go.Shelf Kit IsaM IsaT IsaL IsaC IsaE IsaN IsaP Ra Rb
set_option linter.unusedVariables false

theorem ret_uv2 {x y z : Int} (h : x = y) : Ending.returned (.tuple #[.int .u32 x, .int .i64 z]) = .returned (.tuple #[.int .u32 y, .int .i64 z]) := by rw [h]
set_option maxHeartbeats 1000000 in
theorem renc_yes (op a b i : Int) (h : May op a b i) (w : World) :
    Calls Tryd.prog 13 #[.agg #[.int .i64 op, .int .i64 a, .int .i64 b, .int .i64 i]] w fun e w' => e = .returned (.tuple #[.int .u32 (enc op a b i), .int .i64 0]) ∧ Below w.heap.size w w' := by
  have hm : mayB op a b i = true := decide_eq_true h
  have HM : Hid (∀ wx, Calls Tryd.prog 10 #[.agg #[.int .i64 op, .int .i64 a, .int .i64 b, .int .i64 i]] wx fun e w' => e = .returned (.bool true) ∧ Below wx.heap.size wx w') := Lib.hid (fun wx => by have := rmay_any op a b i wx; rwa [hm] at this)
  have hb := enc_bd h
  have HE : Hid (enc op a b i = op * 16777216 + a * 1048576 + b * 65536 + (if i < 0 then i + 65536 else i)) := Lib.hid rfl
  have h0 := h.1
  obtain ⟨k30, a0, a7, b0, b7, i0, i1⟩ := h.2.bd
  have k30' : op < 30 := by omega
  have B0 := (Below.refl w.heap.size w).alloc (Nat.le_refl _) (.cells #[.int .i64 op, .int .i64 a, .int .i64 b, .int .i64 i] 23)
  have KX0 := Blk.new w #[.int .i64 op, .int .i64 a, .int .i64 b, .int .i64 i] 23
  clear hm h k30
  by_cases hi : i < 0
  · go_enter Tryd.func13, Tryd.ntmps13
    go_wp2_with (first | (go_at_call 10; ((with_reducible refine (HM.out _).mono ?_); rintro e w1 ⟨rfl, hb1⟩; refine Hid.out ?_)))
    refine Lib.hid ?_
    have D1 := B0.trans (hb1.mono B0.size)
    have KX1 := KX0.below hb1
    have x0 := KX1.cell 0
    have x1 := KX1.cell 1
    have x2 := KX1.cell 2
    have x3 := KX1.cell 3
    go_wp2
    go_ret2
    refine ⟨ret_uv2 ?_, D1⟩
    have he := HE.out
    rw [if_pos hi] at he
    omega
  · go_enter Tryd.func13, Tryd.ntmps13
    go_wp2_with (first | (go_at_call 10; ((with_reducible refine (HM.out _).mono ?_); rintro e w1 ⟨rfl, hb1⟩; refine Hid.out ?_)))
    refine Lib.hid ?_
    have D1 := B0.trans (hb1.mono B0.size)
    have KX1 := KX0.below hb1
    have x0 := KX1.cell 0
    have x1 := KX1.cell 1
    have x2 := KX1.cell 2
    have x3 := KX1.cell 3
    go_wp2
    go_ret2
    refine ⟨ret_uv2 ?_, D1⟩
    have he := HE.out
    rw [if_neg (show ¬ i < 0 by omega)] at he
    omega
theorem renc_no (op a b i : Int) (h : ¬ May op a b i) (w : World) :
    Calls Tryd.prog 13 #[.agg #[.int .i64 op, .int .i64 a, .int .i64 b, .int .i64 i]] w fun e w' => e = .returned (.tuple #[.int .u32 0, .int .i64 30]) ∧ Below w.heap.size w w' := by
  have hm : mayB op a b i = false := decide_eq_false h
  have HM : Hid (∀ wx, Calls Tryd.prog 10 #[.agg #[.int .i64 op, .int .i64 a, .int .i64 b, .int .i64 i]] wx fun e w' => e = .returned (.bool false) ∧ Below wx.heap.size wx w') := Lib.hid (fun wx => by have := rmay_any op a b i wx; rwa [hm] at this)
  have B0 := (Below.refl w.heap.size w).alloc (Nat.le_refl _) (.cells #[.int .i64 op, .int .i64 a, .int .i64 b, .int .i64 i] 23)
  clear hm h
  go_enter Tryd.func13, Tryd.ntmps13
  go_wp2_with (first | (go_at_call 10; ((with_reducible refine (HM.out _).mono ?_); rintro e w1 ⟨rfl, hb1⟩; refine Hid.out ?_)))
  refine Lib.hid ?_
  go_wp2
  go_ret2
  exact ⟨rfl, B0.trans (hb1.mono B0.size)⟩

/-- A word's fields, as the document cuts them out. -/
theorem dI_big {n : Nat} (h : (32767 : Int) < (n : Int) % 65536) : (n : Int) % 65536 - 65536 = dI n := by unfold dI; rw [if_pos h]
theorem dI_small {n : Nat} (h : ¬ (32767 : Int) < (n : Int) % 65536) : (n : Int) % 65536 = dI n := by unfold dI; rw [if_neg h]

set_option maxHeartbeats 2000000 in
theorem rdec_walk (n : Nat) (hn : n < 4294967296) (op a b i : Int) (R : Bool) (w : World)
    (HM : Hid (∀ wx, Calls Tryd.prog 10 #[.agg #[.int .i64 op, .int .i64 a, .int .i64 b, .int .i64 i]] wx fun e w' => e = .returned (.bool R) ∧ Below wx.heap.size wx w'))
    (h1 : (n : Int) / 16777216 = op) (h2 : (n : Int) / 1048576 % 16 = a) (h3 : (n : Int) / 65536 % 16 = b) (h4 : (32767 < (n : Int) % 65536 ∧ (n : Int) % 65536 - 65536 = i) ∨ (¬ 32767 < (n : Int) % 65536 ∧ (n : Int) % 65536 = i)) :
    Calls Tryd.prog 15 #[.int .u32 (n : Int)] w fun e w' => e = .returned (if R then .tuple #[.agg #[.int .i64 op, .int .i64 a, .int .i64 b, .int .i64 i], .int .i64 0] else .tuple #[.agg #[.int .i64 0, .int .i64 0, .int .i64 0, .int .i64 0], .int .i64 30]) ∧ Below w.heap.size w w' := by
  have t2 : ((n : Int) / 1048576).tmod 16 = a := by rw [Int.tmod_eq_emod_of_nonneg (by omega)]; exact h2
  have t3 : ((n : Int) / 65536).tmod 16 = b := by rw [Int.tmod_eq_emod_of_nonneg (by omega)]; exact h3
  have H4 := Lib.hid h4
  clear h4
  rcases H4.out with ⟨g, hi⟩ | ⟨g, hi⟩
  · skip
    have R0 := (Blk.new w #[.int .i64 0, .int .i64 0, .int .i64 0, .int .i64 0] 23).below ((Below.refl _ _).alloc (Nat.le_refl _) (.cells #[.int .i64 op, .int .i64 a, .int .i64 b, .int .i64 i] 23))
    have X0 := Blk.new (w.alloc (.cells #[.int .i64 0, .int .i64 0, .int .i64 0, .int .i64 0] 23)) #[.int .i64 op, .int .i64 a, .int .i64 b, .int .i64 i] 23
    rw [World.size_alloc] at X0
    have B0 := ((Below.refl w.heap.size w).alloc (Nat.le_refl _) (.cells #[.int .i64 0, .int .i64 0, .int .i64 0, .int .i64 0] 23)).alloc (by simp) (.cells #[.int .i64 op, .int .i64 a, .int .i64 b, .int .i64 i] 23)
    have R1 := R0
    have X1 := X0
    have B1 := B0
    clear R0 X0 B0
    go_enter Tryd.func15, Tryd.ntmps15
    go_wp2_with (first | (go_at_call 10; ((with_reducible refine (HM.out _).mono ?_); rintro e w1 ⟨rfl, hb1⟩; refine Hid.out ?_)))
    refine Lib.hid ?_
    have R2 := R1.below hb1
    have X2 := X1.below hb1
    have D2 := B1.trans (hb1.mono B1.size)
    have x0 := X2.cell 0
    have x1 := X2.cell 1
    have x2 := X2.cell 2
    have x3 := X2.cell 3
    have y0 := R2.cell 0
    have y1 := R2.cell 1
    have y2 := R2.cell 2
    have y3 := R2.cell 3
    have f0 := R2.free 0
    have f1 := R2.free 1
    have f2 := R2.free 2
    have f3 := R2.free 3
    clear R1 X1 B1
    cases R with
    | true =>
      obtain ⟨g0, g1, g2, g3⟩ := set4 w1 w.heap.size (.int .i64 0) (.int .i64 0) (.int .i64 0) (.int .i64 0) (.int .i64 op) (.int .i64 a) (.int .i64 b) (.int .i64 i) (R2.cell 0) (R2.cell 1) (R2.cell 2) (R2.cell 3)
      go_wp2
      exact bodyPost_ret (v := .tuple #[.agg #[.int .i64 op, .int .i64 a, .int .i64 b, .int .i64 i], .int .i64 0]) (by simp [results, Tryd.results15, go_sem, g0, g1, g2, g3]) rfl ⟨rfl, (((D2.setCell (p := ⟨w.heap.size, 0, none⟩) (Nat.le_refl _) _).setCell (p := ⟨w.heap.size, 1, none⟩) (Nat.le_refl _) _).setCell (p := ⟨w.heap.size, 2, none⟩) (Nat.le_refl _) _).setCell (p := ⟨w.heap.size, 3, none⟩) (Nat.le_refl _) _⟩
    | false =>
      obtain ⟨g0, g1, g2, g3⟩ := set4 w1 w.heap.size (.int .i64 0) (.int .i64 0) (.int .i64 0) (.int .i64 0) (.int .i64 0) (.int .i64 0) (.int .i64 0) (.int .i64 0) (R2.cell 0) (R2.cell 1) (R2.cell 2) (R2.cell 3)
      go_wp2
      exact bodyPost_ret (v := .tuple #[.agg #[.int .i64 0, .int .i64 0, .int .i64 0, .int .i64 0], .int .i64 30]) (by simp [results, Tryd.results15, go_sem, g0, g1, g2, g3]) rfl ⟨rfl, (((D2.setCell (p := ⟨w.heap.size, 0, none⟩) (Nat.le_refl _) _).setCell (p := ⟨w.heap.size, 1, none⟩) (Nat.le_refl _) _).setCell (p := ⟨w.heap.size, 2, none⟩) (Nat.le_refl _) _).setCell (p := ⟨w.heap.size, 3, none⟩) (Nat.le_refl _) _⟩
  · subst hi
    have gd : decide ((32767 : Int) < (n : Int) % 65536) = false := decide_eq_false g
    clear g
    have R0 := (Blk.new w #[.int .i64 0, .int .i64 0, .int .i64 0, .int .i64 0] 23).below ((Below.refl _ _).alloc (Nat.le_refl _) (.cells #[.int .i64 op, .int .i64 a, .int .i64 b, .int .i64 ((n : Int) % 65536)] 23))
    have X0 := Blk.new (w.alloc (.cells #[.int .i64 0, .int .i64 0, .int .i64 0, .int .i64 0] 23)) #[.int .i64 op, .int .i64 a, .int .i64 b, .int .i64 ((n : Int) % 65536)] 23
    rw [World.size_alloc] at X0
    have B0 := ((Below.refl w.heap.size w).alloc (Nat.le_refl _) (.cells #[.int .i64 0, .int .i64 0, .int .i64 0, .int .i64 0] 23)).alloc (by simp) (.cells #[.int .i64 op, .int .i64 a, .int .i64 b, .int .i64 ((n : Int) % 65536)] 23)
    have R1 := R0
    have X1 := X0
    have B1 := B0
    clear R0 X0 B0
    go_enter Tryd.func15, Tryd.ntmps15
    go_wp2_with (first | (go_at_call 10; ((with_reducible refine (HM.out _).mono ?_); rintro e w1 ⟨rfl, hb1⟩; refine Hid.out ?_)))
    refine Lib.hid ?_
    have R2 := R1.below hb1
    have X2 := X1.below hb1
    have D2 := B1.trans (hb1.mono B1.size)
    have x0 := X2.cell 0
    have x1 := X2.cell 1
    have x2 := X2.cell 2
    have x3 := X2.cell 3
    have y0 := R2.cell 0
    have y1 := R2.cell 1
    have y2 := R2.cell 2
    have y3 := R2.cell 3
    have f0 := R2.free 0
    have f1 := R2.free 1
    have f2 := R2.free 2
    have f3 := R2.free 3
    clear R1 X1 B1
    cases R with
    | true =>
      obtain ⟨g0, g1, g2, g3⟩ := set4 w1 w.heap.size (.int .i64 0) (.int .i64 0) (.int .i64 0) (.int .i64 0) (.int .i64 op) (.int .i64 a) (.int .i64 b) (.int .i64 ((n : Int) % 65536)) (R2.cell 0) (R2.cell 1) (R2.cell 2) (R2.cell 3)
      go_wp2
      exact bodyPost_ret (v := .tuple #[.agg #[.int .i64 op, .int .i64 a, .int .i64 b, .int .i64 ((n : Int) % 65536)], .int .i64 0]) (by simp [results, Tryd.results15, go_sem, g0, g1, g2, g3]) rfl ⟨rfl, (((D2.setCell (p := ⟨w.heap.size, 0, none⟩) (Nat.le_refl _) _).setCell (p := ⟨w.heap.size, 1, none⟩) (Nat.le_refl _) _).setCell (p := ⟨w.heap.size, 2, none⟩) (Nat.le_refl _) _).setCell (p := ⟨w.heap.size, 3, none⟩) (Nat.le_refl _) _⟩
    | false =>
      obtain ⟨g0, g1, g2, g3⟩ := set4 w1 w.heap.size (.int .i64 0) (.int .i64 0) (.int .i64 0) (.int .i64 0) (.int .i64 0) (.int .i64 0) (.int .i64 0) (.int .i64 0) (R2.cell 0) (R2.cell 1) (R2.cell 2) (R2.cell 3)
      go_wp2
      exact bodyPost_ret (v := .tuple #[.agg #[.int .i64 0, .int .i64 0, .int .i64 0, .int .i64 0], .int .i64 30]) (by simp [results, Tryd.results15, go_sem, g0, g1, g2, g3]) rfl ⟨rfl, (((D2.setCell (p := ⟨w.heap.size, 0, none⟩) (Nat.le_refl _) _).setCell (p := ⟨w.heap.size, 1, none⟩) (Nat.le_refl _) _).setCell (p := ⟨w.heap.size, 2, none⟩) (Nat.le_refl _) _).setCell (p := ⟨w.heap.size, 3, none⟩) (Nat.le_refl _) _⟩
/-- The document's Decode answers as Decode does. -/
theorem rdec_any (n : Nat) (hn : n < 4294967296) (w : World) :
    Calls Tryd.prog 15 #[.int .u32 (n : Int)] w fun e w' => e = .returned (decV n) ∧ Below w.heap.size w w' := by
  have h := rdec_walk n hn (dOp n) (dA n) (dB n) (dI n) (mayB (dOp n) (dA n) (dB n) (dI n)) w (Lib.hid (fun wx => rmay_any _ _ _ _ wx)) rfl rfl rfl (by
    unfold dI
    split
    · rename_i h; exact .inl ⟨h, rfl⟩
    · rename_i h; exact .inr ⟨h, rfl⟩)
  refine h.mono fun e w' ⟨he, hb⟩ => ⟨?_, hb⟩
  rw [he]
  unfold decV insV
  rfl
end Go.Proofs.YtocbilaaklapkaaDoor.Rc
