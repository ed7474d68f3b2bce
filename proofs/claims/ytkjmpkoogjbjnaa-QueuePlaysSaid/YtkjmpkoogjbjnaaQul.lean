/-
  All: Concat of all queues, sorted.
-/
import Derived.Test.YtkjmpkoogjbjnaaQuk
import Derived.Deep.Upon
import Derived.Lib.AppendZeros
namespace Go.Proofs.Ytkjmpkoogjbjnaa.Qul
open Go Go.RowKit Go.Shelf Kit Bk Qua Qub Quc Qud Que Quf Qug Quh Qui Quj Quk
set_option linter.unusedVariables false
attribute [local go_sem ↓] app_wrap

theorem rw_src {w : World} {u : Value} {G : Option Nat} {M : List Int} (h : Rw w u G M) : Src Try.prog 1 44 u M.length (ints M) w := by
  rcases h with ⟨rfl, rfl, _⟩ | ⟨g, o, cap, cs, rfl, _, hb, h1, h2, h3, h4⟩
  · exact Src.ofNil _ Try.underlying44 0
  · refine Src.ofSlice _ Try.underlying44 ⟨g, o, none⟩ M.length cap (ints M) (by rw [ints_len]; omega) (fun j x hj => ?_) (by intro x hx; simp [ints] at hx; obtain ⟨y, _, rfl⟩ := hx; rfl)
    have hjl : j < M.length := by rw [← ints_len]; exact (List.getElem?_eq_some_iff.1 hj).1
    rw [Addr.add_lit, hb.cell, h4 j hjl, ← ints_get _ _ hjl]
    exact hj
/-- A row behind another one. -/
theorem app_any (w : World) (v : Value) (G : Option Nat) (l : List Int) (u : Value) (G2 : Option Nat) (M : List Int) (h : Rw w v G l) (hu : Rw w u G2 M) (hl : l.length + M.length ≤ 100000) :
    ∃ v' w' G', (appO #[44, 44] 44 #[v, u]).run Try.prog w = .ok v' w' ∧ Rw w' v' G' (l ++ M) ∧ Kp (fun j => some j = G) w w' ∧ (G' = G ∨ G' = some w.heap.size) := by
  by_cases hM : M = []
  · subst hM
    obtain ⟨i0, hi, hz0, hz1, hz2⟩ := info_parts' infoI
    obtain ⟨a, c, rfl, h1, h2⟩ := h.form
    have hs := rw_src hu
    refine ⟨_, w, G, run_append_nothing (P := Try.prog) w 44 44 44 3 i0 Try.underlying44 hi a l.length c h1 u (by rw [hz1]; exact hs), ?_, Kp.refl _ _, .inl rfl⟩
    rw [List.append_nil]
    exact h
  · exact app_src w v G l u M h (rw_src hu) hM hl

theorem grow_zero (w : World) : Calls Try.prog 42 #[.slice none 0 0, .int .i64 0] w fun e w' => e = .returned (.slice none 0 0) ∧ w = w' := by
  go_enter Try.func42, Try.ntmps42
  go_wp2
  go_ret
  exact ⟨rfl, rfl⟩
theorem app_zeros (w : World) (n : Nat) (h0 : 0 < n) (hn : n ≤ 100000) : ∃ c cs, (appO #[44, 3] 44 #[.slice none 0 0, .int .i64 (n : Int)]).run Try.prog w = .ok (.slice (some ⟨w.heap.size, 0, none⟩) n c) (w.drew.alloc (.cells cs 3)) ∧ cs.size = c ∧ n ≤ c ∧ c ≤ maxLen := by
  obtain ⟨i0, hi, hz0, hz1, hz2⟩ := info_parts' infoI
  have hge := grownCap_ge w n 0 3
  have hcm := grownCap_le_maxLen w n 0 3 (by unfold maxLen; omega)
  refine ⟨_, _, Lib.run_append_nil_zeros (P := Try.prog) w 44 3 44 3 i0 (.int .i64 0) .i64 .i64 Try.underlying44 Try.underlying3 hi hz0 n h0 (by rw [hz1]; decide) (by omega) (by rw [hz2]; omega), ?_, hge, hcm⟩
  rw [Array.size_append, size_zeroCells, size_zeroCells]
  simp [Value.cells]
  omega
set_option maxHeartbeats 1000000 in
theorem grow_some (w : World) (n : Nat) (h0 : 0 < n) (hn : n ≤ 100000) : Calls Try.prog 42 #[.slice none 0 0, .int .i64 (n : Int)] w fun e w' => Below w.heap.size w w' ∧ ∃ u, e = .returned u ∧ Rw w' u (some w.heap.size) [] := by
  obtain ⟨c, cs, hrun, hcs, hc1, hc2⟩ := app_zeros w n h0 hn
  have d0 : decide ((n : Int) < 0) = false := decide_eq_false (by omega)
  have d1 : decide ((0 : Int) < (n : Int)) = true := decide_eq_true (by omega)
  have d2 : decide (0 < n) = true := decide_eq_true h0
  have HE : Hid (Below w.heap.size w (w.drew.alloc (.cells cs 3)) ∧ Rw (w.drew.alloc (.cells cs 3)) (.slice (some ⟨w.heap.size, 0, none⟩) 0 c) (some w.heap.size) []) := Lib.hid ⟨(Below.refl _ _).drew.alloc (Nat.le_refl _) _, .inr ⟨w.heap.size, 0, c, cs, rfl, rfl, Blk.new w.drew cs _, Nat.zero_le _, hc2, by omega, fun i hi => absurd hi (Nat.not_lt_zero _)⟩⟩
  clear hcs
  go_enter Try.func42, Try.ntmps42
  go_wp2
  go_ret
  exact ⟨HE.out.1, _, rfl, HE.out.2⟩

/-- The first j queues, one behind the other. -/
def fl (l : Ls) : Nat → List Int
  | 0 => []
  | j + 1 => fl l j ++ l j
theorem fl_eight (l : Ls) : fl l 8 = flat l := rfl
theorem fl_le (l : Ls) (j : Nat) : ∀ k, j ≤ k → (fl l j).length ≤ (fl l k).length
  | 0, h => by obtain rfl : j = 0 := by omega
               exact Nat.le_refl _
  | k + 1, h => by
    by_cases e : j = k + 1
    · rw [e]; exact Nat.le_refl _
    · refine Nat.le_trans (fl_le l j k (by omega)) ?_
      show _ ≤ (fl l k ++ l k).length
      rw [List.length_append]
      omega
theorem grow_any (w : World) (n : Nat) (hn : n ≤ 100000) : Calls Try.prog 42 #[.slice none 0 0, .int .i64 (n : Int)] w fun e w' => Below w.heap.size w w' ∧ ∃ u G, e = .returned u ∧ Rw w' u G [] ∧ ∀ g, G = some g → w.heap.size ≤ g := by
  by_cases h0 : n = 0
  · subst h0
    refine (grow_zero w).mono ?_
    rintro e w' ⟨rfl, rfl⟩
    exact ⟨Below.refl _ _, _, none, rfl, Rw.nil _, fun g e => (by cases e)⟩
  · refine (grow_some w n (by omega) hn).mono ?_
    rintro e w' ⟨hb, u, rfl, hr⟩
    exact ⟨hb, u, _, rfl, hr, fun g e => by cases e; exact Nat.le_refl _⟩
set_option maxHeartbeats 2000000 in
theorem concat_any (w : World) (q c : Nat) (S : Nat → Prop) (l : Ls) (vs : Nat → Value) (G : Nat → Option Nat) (h : Qv w q S c l vs G) (hl : (flat l).length ≤ 90000) :
    Calls Try.prog 38 #[.slice (some ⟨q, 1, none⟩) 8 8] w fun e w' => Below w.heap.size w w' ∧ ∃ u G', e = .returned u ∧ Rw w' u G' (flat l) ∧ ∀ g, G' = some g → w.heap.size ≤ g := by
  have HQ := Lib.hid h
  have HL := Lib.hid hl
  have HG := Lib.hid (grow_any w (flat l).length (by omega))
  clear h hl
  go_enter Try.func38, Try.ntmps38
  go_wp2
  go_loop [11, 3, 5] (fun i s x => ∃ j : Nat, j ≤ 8 ∧ i = .int .i64 (j : Int) ∧ s = .int .i64 ((fl l j).length : Int)) (fun i _ _ => 8 - (intOf i).toNat)
  case atStart => exact ⟨0, Nat.zero_le _, rfl, rfl⟩
  case round =>
    obtain ⟨j, hj, rfl, rfl⟩ := hrel
    by_cases hlt : j < 8
    · have hltI : (j : Int) < 8 := by omega
      have ck := HQ.out.ck j hlt
      obtain ⟨a, n, e, _⟩ := (HQ.out.row j hlt).form
      rw [e] at ck
      have hle := fl_le l (j + 1) 8 (by omega)
      have hfl : (fl l (j + 1)).length = (fl l j).length + (l j).length := List.length_append
      rw [fl_eight] at hle
      have hl := HL.out
      have ew : IntKind.wrap .i64 (((fl l j).length : Int) + ((l j).length : Int)) = ((fl l j).length : Int) + ((l j).length : Int) := by
        simp [IntKind.wrap, IntKind.bits, IntKind.signed]
        omega
      have hadd : ((fl l j).length : Int) + ((l j).length : Int) = ((fl l (j + 1)).length : Int) := by omega
      have d0 : decide (((fl l j).length : Int) + ((l j).length : Int) < 0) = false := decide_eq_false (by omega)
      have HA := Lib.hid hadd
      generalize (fl l j).length = n1 at *
      generalize (l j).length = n3 at *
      clear hle hfl hadd e
      go_wp2
      go_round
      case rel => exact ⟨j + 1, by omega, by go_num, by rw [HA.out]⟩
      case measure => simp [intOf]; omega
    · obtain rfl : j = 8 := by omega
      rw [fl_eight]
      clear hj hlt
      go_wp2_with (go_at_call 42; (with_reducible refine HG.out.mono ?_); rintro e w1 ⟨hb, u, G0, rfl, hr, hG⟩; have H1 := Lib.hid (And.intro hb (And.intro hr hG)); clear hb hr hG)
      go_loopw [27, 6, 8] (fun i v x wr => ∃ (j : Nat) (G' : Option Nat), j ≤ 8 ∧ i = .int .i64 (j : Int) ∧ Rw wr v G' (fl l j) ∧ Below w.heap.size w wr ∧ ∀ g, G' = some g → w.heap.size ≤ g) (fun i _ _ _ => 8 - (intOf i).toNat)
      case atStart => exact ⟨0, G0, Nat.zero_le _, rfl, H1.out.2.1, H1.out.1, H1.out.2.2⟩
      case round =>
        obtain ⟨j, G', hj, rfl, hr, hb, hg⟩ := hrel
        by_cases hlt : j < 8
        · have hltI : (j : Int) < 8 := by omega
          have hQ := HQ.out.below hb
          have ck := hQ.ck j hlt
          have hle := fl_le l (j + 1) 8 (by omega)
          have hfl : (fl l (j + 1)).length = (fl l j).length + (l j).length := List.length_append
          rw [fl_eight] at hle
          have hl := HL.out
          obtain ⟨v', w4, G4, q1, q2, q3, q4⟩ := app_any wr _ G' _ _ (G j) (l j) hr (hQ.row j hlt) (by omega)
          obtain ⟨a, n, e, _⟩ := (hQ.row j hlt).form
          obtain ⟨a2, n2, e2, _⟩ := hr.form
          obtain ⟨a3, n3, e3, _⟩ := q2.form
          rw [e] at ck q1
          rw [e2] at q1
          rw [e3] at q1 q2
          subst e2
          have H4 : Hid (Rw w4 (.slice a3 (fl l j ++ l j).length n3) G4 (fl l (j + 1)) ∧ Below w.heap.size w w4 ∧ ∀ g, G4 = some g → w.heap.size ≤ g) := Lib.hid ⟨q2, hb.trans (q3.below hb.size (fun i e => hg i e.symm)), fun g e => by
            rcases q4 with h | h
            · rw [h] at e; exact hg g e
            · rw [h] at e; cases e; exact hb.size⟩
          generalize (fl l j ++ l j).length = m3 at *
          generalize (fl l j).length = m1 at *
          generalize (l j).length = m2 at *
          clear hQ hle hfl hl hr hb hg q2 q3 q4 e e3
          go_wp2
          go_roundw
          case rel => exact ⟨j + 1, G4, by omega, by go_num, H4.out.1, H4.out.2.1, H4.out.2.2⟩
          case measure => simp [intOf]; omega
        · obtain rfl : j = 8 := by omega
          obtain ⟨a2, n2, e2, _⟩ := hr.form
          subst e2
          have H4 := Lib.hid (And.intro hr (And.intro hb hg))
          clear hr hb hg
          go_wp2
          go_ret
          exact ⟨H4.out.2.1, _, G', rfl, H4.out.1, H4.out.2.2⟩
end Go.Proofs.Ytkjmpkoogjbjnaa.Qul
