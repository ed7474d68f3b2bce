/-
  The document's May: which instructions may be.
-/
import Derived.Test.YtocbilaaklapkaaDoorRb1
import Derived.Test.YtocbilaaklapkaaDoorRb2
import Derived.Test.YtocbilaaklapkaaDoorRb4
namespace Go.Proofs.YtocbilaaklapkaaDoor.Rb
open Go Go.RowKit Go.Shelf Kit IsaM IsaT IsaL IsaC IsaE IsaN IsaP Ra Rb0 Rb1 Rb2 Rb3 Rb4 Rb5
set_option linter.unusedVariables false

theorem rmay_in (k : Nat) (hk : k < 30) (a b i : Int) (w : World) :
    Calls Tryd.prog 10 #[.agg #[.int .i64 (k : Int), .int .i64 a, .int .i64 b, .int .i64 i]] w fun e w' => e = .returned (.bool (mayB k a b i)) ∧ Below w.heap.size w w' := by
  have hn := nms_fin ⟨k, hk⟩
  simp only at hn
  have hc := fits_calc k hk a b i
  have hm : mayB k a b i = true ↔ Fits k a b i := by
    unfold mayB
    rw [decide_eq_true_iff]
    exact ⟨fun h => by have := h.2; simpa using this, fun h => ⟨by omega, by simpa using h⟩⟩
  have hf : ¬ Fits k a b i → mayB k a b i = false := fun h => by rw [Bool.eq_false_iff]; exact fun e => h (hm.1 e)
  have HHa := hb k 97 (by decide) _ hn.1
  have HHb := hb k 98 (by decide) _ hn.2.1
  have HHi := hb k 105 (by decide) _ hn.2.2.1
  have HMa := Lib.hid (fun wx => most_any k 97 (by decide) wx)
  have HMb := Lib.hid (fun wx => most_any k 98 (by decide) wx)
  have tt : ∀ {m : Int}, m ≠ 0 → decide (m ≠ 0) = true := fun h => decide_eq_true h
  have ff : ∀ {m : Int}, ¬ m ≠ 0 → decide (m ≠ 0) = false := fun h => decide_eq_false h
  by_cases h1 : mA k ≠ 0
  · rw [tt h1] at HHa
    by_cases h2 : a < 0
    · rw [hf (fun h => by have := hc.1 h; omega)]
      exact may_0 k hk a b i (mst (k : Int) 97) (mst (k : Int) 98) w (Lib.hid HHa) HMa h2
    · by_cases h3 : mst (k : Int) 97 < a
      · rw [hf (fun h => by have := hc.1 h; omega)]
        exact may_1 k hk a b i (mst (k : Int) 97) (mst (k : Int) 98) w (Lib.hid HHa) HMa (by omega) h3
      · skip
        by_cases g1 : mB k ≠ 0
        · rw [tt g1] at HHb
          by_cases g2 : b < 0
          · rw [hf (fun h => by have := hc.1 h; omega)]
            exact may_30 k hk a b i (mst (k : Int) 97) (mst (k : Int) 98) w (Lib.hid HHa) HMa (by omega) (by omega) (Lib.hid HHb) HMb g2
          · by_cases g3 : mst (k : Int) 98 < b
            · rw [hf (fun h => by have := hc.1 h; omega)]
              exact may_31 k hk a b i (mst (k : Int) 97) (mst (k : Int) 98) w (Lib.hid HHa) HMa (by omega) (by omega) (Lib.hid HHb) HMb (by omega) g3
            · skip
              by_cases e1 : mI k ≠ 0
              · rw [tt e1] at HHi
                by_cases e2 : i < -32768
                · rw [hf (fun h => by have := hc.1 h; omega)]
                  exact may_330 k hk a b i (mst (k : Int) 97) (mst (k : Int) 98) w (Lib.hid HHa) HMa (by omega) (by omega) (Lib.hid HHb) HMb (by omega) (by omega) (Lib.hid HHi) e2
                · by_cases e3 : 32767 < i
                  · rw [hf (fun h => by have := hc.1 h; omega)]
                    exact may_331 k hk a b i (mst (k : Int) 97) (mst (k : Int) 98) w (Lib.hid HHa) HMa (by omega) (by omega) (Lib.hid HHb) HMb (by omega) (by omega) (Lib.hid HHi) (by omega) e3
                  · rw [hm.2 (hc.2 ⟨by omega, by omega, by omega⟩)]
                    exact may_333 k hk a b i (mst (k : Int) 97) (mst (k : Int) 98) w (Lib.hid HHa) HMa (by omega) (by omega) (Lib.hid HHb) HMb (by omega) (by omega) (Lib.hid HHi) (by omega) (by omega)
              · rw [ff e1] at HHi
                by_cases e4 : i = 0
                · subst e4
                  rw [hm.2 (hc.2 ⟨by omega, by omega, by omega⟩)]
                  exact may_334 k hk a b 0 (mst (k : Int) 97) (mst (k : Int) 98) w (Lib.hid HHa) HMa (by omega) (by omega) (Lib.hid HHb) HMb (by omega) (by omega) (Lib.hid HHi)
                · rw [hf (fun h => by have := hc.1 h; omega)]
                  exact may_332 k hk a b i (mst (k : Int) 97) (mst (k : Int) 98) w (Lib.hid HHa) HMa (by omega) (by omega) (Lib.hid HHb) HMb (by omega) (by omega) (Lib.hid HHi) e4
        · rw [ff g1] at HHb
          by_cases g4 : b = 0
          · subst g4
            by_cases e1 : mI k ≠ 0
            · rw [tt e1] at HHi
              by_cases e2 : i < -32768
              · rw [hf (fun h => by have := hc.1 h; omega)]
                exact may_340 k hk a 0 i (mst (k : Int) 97) (mst (k : Int) 98) w (Lib.hid HHa) HMa (by omega) (by omega) (Lib.hid HHb) HMb (Lib.hid HHi) e2
              · by_cases e3 : 32767 < i
                · rw [hf (fun h => by have := hc.1 h; omega)]
                  exact may_341 k hk a 0 i (mst (k : Int) 97) (mst (k : Int) 98) w (Lib.hid HHa) HMa (by omega) (by omega) (Lib.hid HHb) HMb (Lib.hid HHi) (by omega) e3
                · rw [hm.2 (hc.2 ⟨by omega, by omega, by omega⟩)]
                  exact may_343 k hk a 0 i (mst (k : Int) 97) (mst (k : Int) 98) w (Lib.hid HHa) HMa (by omega) (by omega) (Lib.hid HHb) HMb (Lib.hid HHi) (by omega) (by omega)
            · rw [ff e1] at HHi
              by_cases e4 : i = 0
              · subst e4
                rw [hm.2 (hc.2 ⟨by omega, by omega, by omega⟩)]
                exact may_344 k hk a 0 0 (mst (k : Int) 97) (mst (k : Int) 98) w (Lib.hid HHa) HMa (by omega) (by omega) (Lib.hid HHb) HMb (Lib.hid HHi)
              · rw [hf (fun h => by have := hc.1 h; omega)]
                exact may_342 k hk a 0 i (mst (k : Int) 97) (mst (k : Int) 98) w (Lib.hid HHa) HMa (by omega) (by omega) (Lib.hid HHb) HMb (Lib.hid HHi) e4
          · rw [hf (fun h => by have := hc.1 h; omega)]
            exact may_32 k hk a b i (mst (k : Int) 97) (mst (k : Int) 98) w (Lib.hid HHa) HMa (by omega) (by omega) (Lib.hid HHb) HMb g4
  · rw [ff h1] at HHa
    by_cases h4 : a = 0
    · subst h4
      by_cases g1 : mB k ≠ 0
      · rw [tt g1] at HHb
        by_cases g2 : b < 0
        · rw [hf (fun h => by have := hc.1 h; omega)]
          exact may_40 k hk 0 b i (mst (k : Int) 97) (mst (k : Int) 98) w (Lib.hid HHa) HMa (Lib.hid HHb) HMb g2
        · by_cases g3 : mst (k : Int) 98 < b
          · rw [hf (fun h => by have := hc.1 h; omega)]
            exact may_41 k hk 0 b i (mst (k : Int) 97) (mst (k : Int) 98) w (Lib.hid HHa) HMa (Lib.hid HHb) HMb (by omega) g3
          · skip
            by_cases e1 : mI k ≠ 0
            · rw [tt e1] at HHi
              by_cases e2 : i < -32768
              · rw [hf (fun h => by have := hc.1 h; omega)]
                exact may_430 k hk 0 b i (mst (k : Int) 97) (mst (k : Int) 98) w (Lib.hid HHa) HMa (Lib.hid HHb) HMb (by omega) (by omega) (Lib.hid HHi) e2
              · by_cases e3 : 32767 < i
                · rw [hf (fun h => by have := hc.1 h; omega)]
                  exact may_431 k hk 0 b i (mst (k : Int) 97) (mst (k : Int) 98) w (Lib.hid HHa) HMa (Lib.hid HHb) HMb (by omega) (by omega) (Lib.hid HHi) (by omega) e3
                · rw [hm.2 (hc.2 ⟨by omega, by omega, by omega⟩)]
                  exact may_433 k hk 0 b i (mst (k : Int) 97) (mst (k : Int) 98) w (Lib.hid HHa) HMa (Lib.hid HHb) HMb (by omega) (by omega) (Lib.hid HHi) (by omega) (by omega)
            · rw [ff e1] at HHi
              by_cases e4 : i = 0
              · subst e4
                rw [hm.2 (hc.2 ⟨by omega, by omega, by omega⟩)]
                exact may_434 k hk 0 b 0 (mst (k : Int) 97) (mst (k : Int) 98) w (Lib.hid HHa) HMa (Lib.hid HHb) HMb (by omega) (by omega) (Lib.hid HHi)
              · rw [hf (fun h => by have := hc.1 h; omega)]
                exact may_432 k hk 0 b i (mst (k : Int) 97) (mst (k : Int) 98) w (Lib.hid HHa) HMa (Lib.hid HHb) HMb (by omega) (by omega) (Lib.hid HHi) e4
      · rw [ff g1] at HHb
        by_cases g4 : b = 0
        · subst g4
          by_cases e1 : mI k ≠ 0
          · rw [tt e1] at HHi
            by_cases e2 : i < -32768
            · rw [hf (fun h => by have := hc.1 h; omega)]
              exact may_440 k hk 0 0 i (mst (k : Int) 97) (mst (k : Int) 98) w (Lib.hid HHa) HMa (Lib.hid HHb) HMb (Lib.hid HHi) e2
            · by_cases e3 : 32767 < i
              · rw [hf (fun h => by have := hc.1 h; omega)]
                exact may_441 k hk 0 0 i (mst (k : Int) 97) (mst (k : Int) 98) w (Lib.hid HHa) HMa (Lib.hid HHb) HMb (Lib.hid HHi) (by omega) e3
              · rw [hm.2 (hc.2 ⟨by omega, by omega, by omega⟩)]
                exact may_443 k hk 0 0 i (mst (k : Int) 97) (mst (k : Int) 98) w (Lib.hid HHa) HMa (Lib.hid HHb) HMb (Lib.hid HHi) (by omega) (by omega)
          · rw [ff e1] at HHi
            by_cases e4 : i = 0
            · subst e4
              rw [hm.2 (hc.2 ⟨by omega, by omega, by omega⟩)]
              exact may_444 k hk 0 0 0 (mst (k : Int) 97) (mst (k : Int) 98) w (Lib.hid HHa) HMa (Lib.hid HHb) HMb (Lib.hid HHi)
            · rw [hf (fun h => by have := hc.1 h; omega)]
              exact may_442 k hk 0 0 i (mst (k : Int) 97) (mst (k : Int) 98) w (Lib.hid HHa) HMa (Lib.hid HHb) HMb (Lib.hid HHi) e4
        · rw [hf (fun h => by have := hc.1 h; omega)]
          exact may_42 k hk 0 b i (mst (k : Int) 97) (mst (k : Int) 98) w (Lib.hid HHa) HMa (Lib.hid HHb) HMb g4
    · rw [hf (fun h => by have := hc.1 h; omega)]
      exact may_2 k hk a b i (mst (k : Int) 97) (mst (k : Int) 98) w (Lib.hid HHa) HMa h4
theorem rmay_out (op a b i : Int) (h : ¬ (0 ≤ op ∧ op < 30)) (w : World) :
    Calls Tryd.prog 10 #[.agg #[.int .i64 op, .int .i64 a, .int .i64 b, .int .i64 i]] w fun e w' => e = .returned (.bool false) ∧ Below w.heap.size w w' := by
  have HN := Lib.hid (fun wx => rname_no op h wx)
  have B0 := (Below.refl w.heap.size w).alloc (Nat.le_refl _) (.cells #[.int .i64 op, .int .i64 a, .int .i64 b, .int .i64 i] 23)
  clear h
  go_enter Tryd.func10, Tryd.ntmps10
  go_wp2_with (first | (go_at_call 21; ((with_reducible refine (HN.out _).mono ?_); rintro e w1 ⟨rfl, hb1⟩; refine Hid.out ?_)))
  refine Lib.hid ?_
  go_wp2
  go_ret
  exact ⟨rfl, B0.trans (hb1.mono B0.size)⟩
/-- The document's May is the plain word. -/
theorem rmay_any (op a b i : Int) (w : World) :
    Calls Tryd.prog 10 #[.agg #[.int .i64 op, .int .i64 a, .int .i64 b, .int .i64 i]] w fun e w' => e = .returned (.bool (mayB op a b i)) ∧ Below w.heap.size w w' := by
  by_cases h : 0 ≤ op ∧ op < 30
  · obtain ⟨k, rfl⟩ := Int.eq_ofNat_of_zero_le h.1
    exact rmay_in k (by omega) a b i w
  · have hm : mayB op a b i = false := by
      unfold mayB
      rw [decide_eq_false_iff_not]
      rintro ⟨h1, h2⟩
      have := h2.k30
      omega
    rw [hm]
    exact rmay_out op a b i h w
end Go.Proofs.YtocbilaaklapkaaDoor.Rb
