/-
  The document's May: which instructions may be.
-/
import Derived.Test.YtgnpbedhpkmkfaaDoorZRb1
import Derived.Test.YtgnpbedhpkmkfaaDoorZRb2
import Derived.Test.YtgnpbedhpkmkfaaDoorZRb4
namespace Go.Proofs.YtgnpbedhpkmkfaaDoor.Rb
open Go Go.RowKit Go.Shelf Kit IsaM IsaT IsaL IsaC IsaE IsaN IsaP Ra Rb0 Rb1 Rb2 Rb3 Rb4 Rb5
set_option linter.unusedVariables false

theorem rmay_in (k : Nat) (hk : k < 30) (a b i : Int) (w : World) :
    Calls Tryd.prog 49 #[.agg #[.int .i64 (k : Int), .int .i64 a, .int .i64 b, .int .i64 i]] w fun e w' => e = .returned (.bool (mayB k a b i)) ∧ Below w.heap.size w w' := by
  have hn := nms_fin ⟨k, hk⟩
  simp only at hn
  have hc := fits_calc k hk a b i
  have hm : mayB k a b i = true ↔ Fits k a b i := by
    unfold mayB
    rw [decide_eq_true_iff]
    exact ⟨fun h => by have := h.2; simpa using this, fun h => ⟨by omega, by simpa using h⟩⟩
  have hf : ¬ Fits k a b i → mayB k a b i = false := fun h => by rw [Bool.eq_false_iff]; exact fun e => h (hm.1 e)
  have HHa := hb k 97 (by decide) _ hn.1
  have HHb := hb k 98 (by decide) _ hn.2.1
  have HHi := hb k 105 (by decide) _ hn.2.2.1
  have HMa := Lib.hid (fun wx => most_any k 97 (by decide) wx)
  have HMb := Lib.hid (fun wx => most_any k 98 (by decide) wx)
  have tt : ∀ {m : Int}, m ≠ 0 → decide (m ≠ 0) = true := fun h => decide_eq_true h
  have ff : ∀ {m : Int}, ¬ m ≠ 0 → decide (m ≠ 0) = false := fun h => decide_eq_false h
  by_cases h1 : mA k ≠ 0
  · rw [tt h1] at HHa
    by_cases h2 : a < 0
    · rw [hf (fun h => by have := hc.1 h; omega)]
      exact may_0 k hk a b i (mst (k : Int) 97) (mst (k : Int) 98) w (Lib.hid HHa) HMa h2
    · by_cases h3 : mst (k : Int) 97 < a
      · rw [hf (fun h => by have := hc.1 h; omega)]
        exact may_1 k hk a b i (mst (k : Int) 97) (mst (k : Int) 98) w (Lib.hid HHa) HMa (by omega) h3
      · skip
        by_cases g1 : mB k ≠ 0
        · rw [tt g1] at HHb
          by_cases g2 : b < 0
          · rw [hf (fun h => by have := hc.1 h; omega)]
            exact may_30 k hk a b i (mst (k : Int) 97) (mst (k : Int) 98) w (Lib.hid HHa) HMa (by omega) (by omega) (Lib.hid HHb) HMb g2
          · by_cases g3 : mst (k : Int) 98 < b
            · rw [hf (fun h => by have := hc.1 h; omega)]
              exact may_31 k hk a b i (mst (k : Int) 97) (mst (k : Int) 98) w (Lib.hid HHa) HMa (by omega) (by omega) (Lib.hid HHb) HMb (by omega) g3
            · skip
              by_cases e1 : mI k ≠ 0
              · rw [tt e1] at HHi
                by_cases e2 : i < -32768
                · rw [hf (fun h => by have := hc.1 h; omega)]
                  exact may_330 k hk a b i (mst (k : Int) 97) (mst (k : Int) 98) w (Lib.hid HHa) HMa (by omega) (by omega) (Lib.hid HHb) HMb (by omega) (by omega) (Lib.hid HHi) e2
                · by_cases e3 : 32767 < i
                  · rw [hf (fun h => by have := hc.1 h; omega)]
                    exact may_331 k hk a b i (mst (k : Int) 97) (mst (k : Int) 98) w (Lib.hid HHa) HMa (by omega) (by omega) (Lib.hid HHb) HMb (by omega) (by omega) (Lib.hid HHi) (by omega) e3
                  · rw [hm.2 (hc.2 ⟨by omega, by omega, by omega⟩)]
                    exact may_333 k hk a b i (mst (k : Int) 97) (mst (k : Int) 98) w (Lib.hid HHa) HMa (by omega) (by omega) (Lib.hid HHb) HMb (by omega) (by omega) (Lib.hid HHi) (by omega) (by omega)
              · rw [ff e1] at HHi
                by_cases e4 : i = 0
                · subst e4
                  rw [hm.2 (hc.2 ⟨by omega, by omega, by omega⟩)]
                  exact may_334 k hk a b 0 (mst (k : Int) 97) (mst (k : Int) 98) w (Lib.hid HHa) HMa (by omega) (by omega) (Lib.hid HHb) HMb (by omega) (by omega) (Lib.hid HHi)
                · rw [hf (fun h => by have := hc.1 h; omega)]
                  exact may_332 k hk a b i (mst (k : Int) 97) (mst (k : Int) 98) w (Lib.hid HHa) HMa (by omega) (by omega) (Lib.hid HHb) HMb (by omega) (by omega) (Lib.hid HHi) e4
        · rw [ff g1] at HHb
          by_cases g4 : b = 0
          · subst g4
            by_cases e1 : mI k ≠ 0
            · rw [tt e1] at HHi
              by_cases e2 : i < -32768
              · rw [hf (fun h => by have := hc.1 h; omega)]
                exact may_340 k hk a 0 i (mst (k : Int) 97) (mst (k : Int) 98) w (Lib.hid HHa) HMa (by omega) (by omega) (Lib.hid HHb) HMb (Lib.hid HHi) e2
              · by_cases e3 : 32767 < i
                · rw [hf (fun h => by have := hc.1 h; omega)]
                  exact may_341 k hk a 0 i (mst (k : Int) 97) (mst (k : Int) 98) w (Lib.hid HHa) HMa (by omega) (by omega) (Lib.hid HHb) HMb (Lib.hid HHi) (by omega) e3
                · rw [hm.2 (hc.2 ⟨by omega, by omega, by omega⟩)]
                  exact may_343 k hk a 0 i (mst (k : Int) 97) (mst (k : Int) 98) w (Lib.hid HHa) HMa (by omega) (by omega) (Lib.hid HHb) HMb (Lib.hid HHi) (by omega) (by omega)
            · rw [ff e1] at HHi
              by_cases e4 : i = 0
              · subst e4
                rw [hm.2 (hc.2 ⟨by omega, by omega, by omega⟩)]
                exact may_344 k hk a 0 0 (mst (k : Int) 97) (mst (k : Int) 98) w (Lib.hid HHa) HMa (by omega) (by omega) (Lib.hid HHb) HMb (Lib.hid HHi)
              · rw [hf (fun h => by have := hc.1 h; omega)]
                exact may_342 k hk a 0 i (mst (k : Int) 97) (mst (k : Int) 98) w (Lib.hid HHa) HMa (by omega) (by omega) (Lib.hid HHb) HMb (Lib.hid HHi) e4
          · rw [hf (fun h => by have := hc.1 h; omega)]
            exact may_32 k hk a b i (mst (k : Int) 97) (mst (k : Int) 98) w (Lib.hid HHa) HMa (by omega) (by omega) (Lib.hid HHb) HMb g4
  · rw [ff h1] at HHa
    by_cases h4 : a = 0
    · subst h4
      by_cases g1 : mB k ≠ 0
      · rw [tt g1] at HHb
        by_cases g2 : b < 0
        · rw [hf (fun h => by have := hc.1 h; omega)]
          exact may_40 k hk 0 b i (mst (k : Int) 97) (mst (k : Int) 98) w (Lib.hid HHa) HMa (Lib.hid HHb) HMb g2
        · by_cases g3 : mst (k : Int) 98 < b
          · rw [hf (fun h => by have := hc.1 h; omega)]
            exact may_41 k hk 0 b i (mst (k : Int) 97) (mst (k : Int) 98) w (Lib.hid HHa) HMa (Lib.hid HHb) HMb (by omega) g3
          · skip
            by_cases e1 : mI k ≠ 0
            · rw [tt e1] at HHi
              by_cases e2 : i < -32768
              · rw [hf (fun h => by have := hc.1 h; omega)]
                exact may_430 k hk 0 b i (mst (k : Int) 97) (mst (k : Int) 98) w (Lib.hid HHa) HMa (Lib.hid HHb) HMb (by omega) (by omega) (Lib.hid HHi) e2
              · by_cases e3 : 32767 < i
                · rw [hf (fun h => by have := hc.1 h; omega)]
                  exact may_431 k hk 0 b i (mst (k : Int) 97) (mst (k : Int) 98) w (Lib.hid HHa) HMa (Lib.hid HHb) HMb (by omega) (by omega) (Lib.hid HHi) (by omega) e3
                · rw [hm.2 (hc.2 ⟨by omega, by omega, by omega⟩)]
                  exact may_433 k hk 0 b i (mst (k : Int) 97) (mst (k : Int) 98) w (Lib.hid HHa) HMa (Lib.hid HHb) HMb (by omega) (by omega) (Lib.hid HHi) (by omega) (by omega)
            · rw [ff e1] at HHi
              by_cases e4 : i = 0
              · subst e4
                rw [hm.2 (hc.2 ⟨by omega, by omega, by omega⟩)]
                exact may_434 k hk 0 b 0 (mst (k : Int) 97) (mst (k : Int) 98) w (Lib.hid HHa) HMa (Lib.hid HHb) HMb (by omega) (by omega) (Lib.hid HHi)
              · rw [hf (fun h => by have := hc.1 h; omega)]
                exact may_432 k hk 0 b i (mst (k : Int) 97) (mst (k : Int) 98) w (Lib.hid HHa) HMa (Lib.hid HHb) HMb (by omega) (by omega) (Lib.hid HHi) e4
      · rw [ff g1] at HHb
        by_cases g4 : b = 0
        · subst g4
          by_cases e1 : mI k ≠ 0
          · rw [tt e1] at HHi
            by_cases e2 : i < -32768
            · rw [hf (fun h => by have := hc.1 h; omega)]
              exact may_440 k hk 0 0 i (mst (k : Int) 97) (mst (k : Int) 98) w (Lib.hid HHa) HMa (Lib.hid HHb) HMb (Lib.hid HHi) e2
            · by_cases e3 : 32767 < i
              · rw [hf (fun h => by have := hc.1 h; omega)]
                exact may_441 k hk 0 0 i (mst (k : Int) 97) (mst (k : Int) 98) w (Lib.hid HHa) HMa (Lib.hid HHb) HMb (Lib.hid HHi) (by omega) e3
              · rw [hm.2 (hc.2 ⟨by omega, by omega, by omega⟩)]
                exact may_443 k hk 0 0 i (mst (k : Int) 97) (mst (k : Int) 98) w (Lib.hid HHa) HMa (Lib.hid HHb) HMb (Lib.hid HHi) (by omega) (by omega)
          · rw [ff e1] at HHi
            by_cases e4 : i = 0
            · subst e4
              rw [hm.2 (hc.2 ⟨by omega, by omega, by omega⟩)]
              exact may_444 k hk 0 0 0 (mst (k : Int) 97) (mst (k : Int) 98) w (Lib.hid HHa) HMa (Lib.hid HHb) HMb (Lib.hid HHi)
            · rw [hf (fun h => by have := hc.1 h; omega)]
              exact may_442 k hk 0 0 i (mst (k : Int) 97) (mst (k : Int) 98) w (Lib.hid HHa) HMa (Lib.hid HHb) HMb (Lib.hid HHi) e4
        · rw [hf (fun h => by have := hc.1 h; omega)]
          exact may_42 k hk 0 b i (mst (k : Int) 97) (mst (k : Int) 98) w (Lib.hid HHa) HMa (Lib.hid HHb) HMb g4
    · rw [hf (fun h => by have := hc.1 h; omega)]
      exact may_2 k hk a b i (mst (k : Int) 97) (mst (k : Int) 98) w (Lib.hid HHa) HMa h4
theorem rmay_out (op a b i : Int) (h : ¬ (0 ≤ op ∧ op < 30)) (w : World) :
    Calls Tryd.prog 49 #[.agg #[.int .i64 op, .int .i64 a, .int .i64 b, .int .i64 i]] w fun e w' => e = .returned (.bool false) ∧ Below w.heap.size w w' := by
  have HN := Lib.hid (fun wx => rname_no op h wx)
  have B0 := (Below.refl w.heap.size w).alloc (Nat.le_refl _) (.cells #[.int .i64 op, .int .i64 a, .int .i64 b, .int .i64 i] 61)
  clear h
  go_enter Tryd.func49, Tryd.ntmps49
  go_wp2_with (first | (go_at_call 70; ((with_reducible refine (HN.out _).mono ?_); rintro e w1 ⟨rfl, hb1⟩; refine Hid.out ?_)))
  refine Lib.hid ?_
  go_wp2
  go_ret
  exact ⟨rfl, B0.trans (hb1.mono B0.size)⟩
/-- The document's May is the plain word. -/
theorem rmay_any (op a b i : Int) (w : World) :
    Calls Tryd.prog 49 #[.agg #[.int .i64 op, .int .i64 a, .int .i64 b, .int .i64 i]] w fun e w' => e = .returned (.bool (mayB op a b i)) ∧ Below w.heap.size w w' := by
  by_cases h : 0 ≤ op ∧ op < 30
  · obtain ⟨k, rfl⟩ := Int.eq_ofNat_of_zero_le h.1
    exact rmay_in k (by omega) a b i w
  · have hm : mayB op a b i = false := by
      unfold mayB
      rw [decide_eq_false_iff_not]
      rintro ⟨h1, h2⟩
      have := h2.k30
      omega
    rw [hm]
    exact rmay_out op a b i h w
end Go.Proofs.YtgnpbedhpkmkfaaDoor.Rb

/-
  The document's Encode and Decode.
-/
namespace Go.Proofs.YtgnpbedhpkmkfaaDoor.Rc
open Go Go.RowKit Go.Shelf Kit IsaM IsaT IsaL IsaC IsaE IsaN IsaP Ra Rb
set_option linter.unusedVariables false

/-- A word's fields, as the document cuts them out. -/
theorem dI_big {n : Nat} (h : (32767 : Int) < (n : Int) % 65536) : (n : Int) % 65536 - 65536 = dI n := by unfold dI; rw [if_pos h]
theorem dI_small {n : Nat} (h : ¬ (32767 : Int) < (n : Int) % 65536) : (n : Int) % 65536 = dI n := by unfold dI; rw [if_neg h]

set_option maxHeartbeats 2000000 in
theorem rdec_walk (n : Nat) (hn : n < 4294967296) (op a b i : Int) (R : Bool) (w : World)
    (HM : Hid (∀ wx, Calls Tryd.prog 49 #[.agg #[.int .i64 op, .int .i64 a, .int .i64 b, .int .i64 i]] wx fun e w' => e = .returned (.bool R) ∧ Below wx.heap.size wx w'))
    (h1 : (n : Int) / 16777216 = op) (h2 : (n : Int) / 1048576 % 16 = a) (h3 : (n : Int) / 65536 % 16 = b) (h4 : (32767 < (n : Int) % 65536 ∧ (n : Int) % 65536 - 65536 = i) ∨ (¬ 32767 < (n : Int) % 65536 ∧ (n : Int) % 65536 = i)) :
    Calls Tryd.prog 26 #[.int .u32 (n : Int)] w fun e w' => e = .returned (if R then .tuple #[.agg #[.int .i64 op, .int .i64 a, .int .i64 b, .int .i64 i], .int .i64 0] else .tuple #[.agg #[.int .i64 0, .int .i64 0, .int .i64 0, .int .i64 0], .int .i64 30]) ∧ Below w.heap.size w w' := by
  have t2 : ((n : Int) / 1048576).tmod 16 = a := by rw [Int.tmod_eq_emod_of_nonneg (by omega)]; exact h2
  have t3 : ((n : Int) / 65536).tmod 16 = b := by rw [Int.tmod_eq_emod_of_nonneg (by omega)]; exact h3
  have H4 := Lib.hid h4
  clear h4
  rcases H4.out with ⟨g, hi⟩ | ⟨g, hi⟩
  · skip
    have R0 := (Blk.new w #[.int .i64 0, .int .i64 0, .int .i64 0, .int .i64 0] 61).below ((Below.refl _ _).alloc (Nat.le_refl _) (.cells #[.int .i64 op, .int .i64 a, .int .i64 b, .int .i64 i] 61))
    have X0 := Blk.new (w.alloc (.cells #[.int .i64 0, .int .i64 0, .int .i64 0, .int .i64 0] 61)) #[.int .i64 op, .int .i64 a, .int .i64 b, .int .i64 i] 61
    rw [World.size_alloc] at X0
    have B0 := ((Below.refl w.heap.size w).alloc (Nat.le_refl _) (.cells #[.int .i64 0, .int .i64 0, .int .i64 0, .int .i64 0] 61)).alloc (by simp) (.cells #[.int .i64 op, .int .i64 a, .int .i64 b, .int .i64 i] 61)
    have R1 := R0
    have X1 := X0
    have B1 := B0
    clear R0 X0 B0
    go_enter Tryd.func26, Tryd.ntmps26
    go_wp2_with (first | (go_at_call 49; ((with_reducible refine (HM.out _).mono ?_); rintro e w1 ⟨rfl, hb1⟩; refine Hid.out ?_)))
    refine Lib.hid ?_
    have R2 := R1.below hb1
    have X2 := X1.below hb1
    have D2 := B1.trans (hb1.mono B1.size)
    have x0 := X2.cell 0
    have x1 := X2.cell 1
    have x2 := X2.cell 2
    have x3 := X2.cell 3
    have y0 := R2.cell 0
    have y1 := R2.cell 1
    have y2 := R2.cell 2
    have y3 := R2.cell 3
    have f0 := R2.free 0
    have f1 := R2.free 1
    have f2 := R2.free 2
    have f3 := R2.free 3
    clear R1 X1 B1
    cases R with
    | true =>
      obtain ⟨g0, g1, g2, g3⟩ := set4 w1 w.heap.size (.int .i64 0) (.int .i64 0) (.int .i64 0) (.int .i64 0) (.int .i64 op) (.int .i64 a) (.int .i64 b) (.int .i64 i) (R2.cell 0) (R2.cell 1) (R2.cell 2) (R2.cell 3)
      go_wp2
      exact bodyPost_ret (v := .tuple #[.agg #[.int .i64 op, .int .i64 a, .int .i64 b, .int .i64 i], .int .i64 0]) (by simp [results, Tryd.results26, go_sem, g0, g1, g2, g3]) rfl ⟨rfl, (((D2.setCell (p := ⟨w.heap.size, 0, none⟩) (Nat.le_refl _) _).setCell (p := ⟨w.heap.size, 1, none⟩) (Nat.le_refl _) _).setCell (p := ⟨w.heap.size, 2, none⟩) (Nat.le_refl _) _).setCell (p := ⟨w.heap.size, 3, none⟩) (Nat.le_refl _) _⟩
    | false =>
      obtain ⟨g0, g1, g2, g3⟩ := set4 w1 w.heap.size (.int .i64 0) (.int .i64 0) (.int .i64 0) (.int .i64 0) (.int .i64 0) (.int .i64 0) (.int .i64 0) (.int .i64 0) (R2.cell 0) (R2.cell 1) (R2.cell 2) (R2.cell 3)
      go_wp2
      exact bodyPost_ret (v := .tuple #[.agg #[.int .i64 0, .int .i64 0, .int .i64 0, .int .i64 0], .int .i64 30]) (by simp [results, Tryd.results26, go_sem, g0, g1, g2, g3]) rfl ⟨rfl, (((D2.setCell (p := ⟨w.heap.size, 0, none⟩) (Nat.le_refl _) _).setCell (p := ⟨w.heap.size, 1, none⟩) (Nat.le_refl _) _).setCell (p := ⟨w.heap.size, 2, none⟩) (Nat.le_refl _) _).setCell (p := ⟨w.heap.size, 3, none⟩) (Nat.le_refl _) _⟩
  · subst hi
    have gd : decide ((32767 : Int) < (n : Int) % 65536) = false := decide_eq_false g
    clear g
    have R0 := (Blk.new w #[.int .i64 0, .int .i64 0, .int .i64 0, .int .i64 0] 61).below ((Below.refl _ _).alloc (Nat.le_refl _) (.cells #[.int .i64 op, .int .i64 a, .int .i64 b, .int .i64 ((n : Int) % 65536)] 61))
    have X0 := Blk.new (w.alloc (.cells #[.int .i64 0, .int .i64 0, .int .i64 0, .int .i64 0] 61)) #[.int .i64 op, .int .i64 a, .int .i64 b, .int .i64 ((n : Int) % 65536)] 61
    rw [World.size_alloc] at X0
    have B0 := ((Below.refl w.heap.size w).alloc (Nat.le_refl _) (.cells #[.int .i64 0, .int .i64 0, .int .i64 0, .int .i64 0] 61)).alloc (by simp) (.cells #[.int .i64 op, .int .i64 a, .int .i64 b, .int .i64 ((n : Int) % 65536)] 61)
    have R1 := R0
    have X1 := X0
    have B1 := B0
    clear R0 X0 B0
    go_enter Tryd.func26, Tryd.ntmps26
    go_wp2_with (first | (go_at_call 49; ((with_reducible refine (HM.out _).mono ?_); rintro e w1 ⟨rfl, hb1⟩; refine Hid.out ?_)))
    refine Lib.hid ?_
    have R2 := R1.below hb1
    have X2 := X1.below hb1
    have D2 := B1.trans (hb1.mono B1.size)
    have x0 := X2.cell 0
    have x1 := X2.cell 1
    have x2 := X2.cell 2
    have x3 := X2.cell 3
    have y0 := R2.cell 0
    have y1 := R2.cell 1
    have y2 := R2.cell 2
    have y3 := R2.cell 3
    have f0 := R2.free 0
    have f1 := R2.free 1
    have f2 := R2.free 2
    have f3 := R2.free 3
    clear R1 X1 B1
    cases R with
    | true =>
      obtain ⟨g0, g1, g2, g3⟩ := set4 w1 w.heap.size (.int .i64 0) (.int .i64 0) (.int .i64 0) (.int .i64 0) (.int .i64 op) (.int .i64 a) (.int .i64 b) (.int .i64 ((n : Int) % 65536)) (R2.cell 0) (R2.cell 1) (R2.cell 2) (R2.cell 3)
      go_wp2
      exact bodyPost_ret (v := .tuple #[.agg #[.int .i64 op, .int .i64 a, .int .i64 b, .int .i64 ((n : Int) % 65536)], .int .i64 0]) (by simp [results, Tryd.results26, go_sem, g0, g1, g2, g3]) rfl ⟨rfl, (((D2.setCell (p := ⟨w.heap.size, 0, none⟩) (Nat.le_refl _) _).setCell (p := ⟨w.heap.size, 1, none⟩) (Nat.le_refl _) _).setCell (p := ⟨w.heap.size, 2, none⟩) (Nat.le_refl _) _).setCell (p := ⟨w.heap.size, 3, none⟩) (Nat.le_refl _) _⟩
    | false =>
      obtain ⟨g0, g1, g2, g3⟩ := set4 w1 w.heap.size (.int .i64 0) (.int .i64 0) (.int .i64 0) (.int .i64 0) (.int .i64 0) (.int .i64 0) (.int .i64 0) (.int .i64 0) (R2.cell 0) (R2.cell 1) (R2.cell 2) (R2.cell 3)
      go_wp2
      exact bodyPost_ret (v := .tuple #[.agg #[.int .i64 0, .int .i64 0, .int .i64 0, .int .i64 0], .int .i64 30]) (by simp [results, Tryd.results26, go_sem, g0, g1, g2, g3]) rfl ⟨rfl, (((D2.setCell (p := ⟨w.heap.size, 0, none⟩) (Nat.le_refl _) _).setCell (p := ⟨w.heap.size, 1, none⟩) (Nat.le_refl _) _).setCell (p := ⟨w.heap.size, 2, none⟩) (Nat.le_refl _) _).setCell (p := ⟨w.heap.size, 3, none⟩) (Nat.le_refl _) _⟩
/-- The document's Decode answers as Decode does. -/
theorem rdec_any (n : Nat) (hn : n < 4294967296) (w : World) :
    Calls Tryd.prog 26 #[.int .u32 (n : Int)] w fun e w' => e = .returned (decV n) ∧ Below w.heap.size w w' := by
  have h := rdec_walk n hn (dOp n) (dA n) (dB n) (dI n) (mayB (dOp n) (dA n) (dB n) (dI n)) w (Lib.hid (fun wx => rmay_any _ _ _ _ wx)) rfl rfl rfl (by
    unfold dI
    split
    · rename_i h; exact .inl ⟨h, rfl⟩
    · rename_i h; exact .inr ⟨h, rfl⟩)
  refine h.mono fun e w' ⟨he, hb⟩ => ⟨?_, hb⟩
  rw [he]
  unfold decV insV
  rfl
end Go.Proofs.YtgnpbedhpkmkfaaDoor.Rc
