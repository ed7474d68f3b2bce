/-
  Hole of the document's own table; its Same of numbers.
-/
import Derived.Test.YtcmlcepdcpbdaaaRg
import Derived.BigQuiet
namespace Go.Proofs.Ytcmlcepdcpbdaaa.Rh
open Go Go.RowKit Kit Bk Tm Ts Tc Ti Tl Th Td Tq Tr Tn En Ov Gd Ho Pt Rg
set_option linter.unusedVariables false

set_option maxRecDepth 100000 in
set_option maxHeartbeats 4000000 in
theorem rhole_any (w : World) (q : Nat) (T : Nat → Option En) (hR : Rf w q T) (i : Int) (hi : i ≤ 9223372036854775807) :
    Calls Try.prog 34 #[.pointer (some ⟨q, 0, none⟩), .int .i64 i] w fun e w' => (∃ a b, e = .returned (.tuple #[.int .i64 a, .bool b]) ∧ HoleIs T i a b) ∧ Below w.heap.size w w' := by
  by_cases h1 : i < 1
  · have d : decide (i < 1) = true := decide_eq_true h1
    have HH : Hid (HoleIs T i 0 false) := Lib.hid (.inr ⟨rfl, rfl, .inl h1⟩)
    clear hR h1
    go_enter Try.func34, Try.ntmps34
    go_wp2
    go_ret2
    exact ⟨⟨0, false, rfl, HH.out⟩, Below.refl _ _⟩
  · obtain ⟨m, rfl⟩ := Int.eq_ofNat_of_zero_le (show 0 ≤ i by omega)
    have d : decide ((m : Int) < 1) = false := decide_eq_false h1
    have hm1 : 1 ≤ m := by omega
    have HR := Lib.hid hR
    clear h1 hR
    go_enter Try.func34, Try.ntmps34
    go_wp2
    go_loopw [6] (fun c wr => ∃ f : Nat, f ≤ 64 ∧ c = .int .i64 (f : Int) ∧ (∀ q', q' < f → q' + m ≤ 64 → ¬ free T q' m) ∧ Below w.heap.size w wr) (fun c _ => 64 - (intOf c).toNat)
    case atStart => exact ⟨0, by omega, rfl, fun q hq => absurd hq (Nat.not_lt_zero _), Below.refl _ _⟩
    case round =>
      obtain ⟨f, hf, rfl, hno, hbr⟩ := hrel
      have HNo := Lib.hid hno
      have HBr := Lib.hid hbr
      have hf64 : (f : Int) ≤ 64 := by omega
      clear hno hbr
      by_cases hlt : f < 64
      · have d1 : decide ((f : Int) < 64) = true := decide_eq_true (by omega)
        by_cases hfit : f + m ≤ 64
        · have d2 : decide ((m : Int) ≤ 64 - (f : Int)) = true := decide_eq_true (by omega)
          have hm64 : (m : Int) ≤ 64 := by omega
          go_wp2
          go_loopw [7, 8] (fun a c ws => ∃ (j : Nat) (b : Bool), j ≤ m ∧ a = .bool b ∧ c = .int .i64 (j : Int) ∧ (b = true ↔ ∀ i, i < j → T (f + i) = none) ∧ Below w.heap.size w ws) (fun _ c _ => m - (intOf c).toNat)
          case atStart => exact ⟨0, true, Nat.zero_le _, rfl, rfl, by simp, HBr.out⟩
          case round =>
            obtain ⟨j, b, hj, rfl, rfl, hb, hbs⟩ := hrel
            by_cases hlt2 : j < m
            · have hg := rget_any _ q T (HR.out.below hbs) ((f : Int) + (j : Int))
              have hat : atI T ((f : Int) + (j : Int)) = T (f + j) := atI_nat (k := f + j) (by omega)
              rw [hat] at hg
              have hjm : (j : Int) < (m : Int) := by omega
              have HBs := Lib.hid hbs
              cases hx : T (f + j) with
              | none =>
                rw [hx] at hg
                have HG := Lib.hid hg
                have HB : Hid (b = true ↔ ∀ i, i < j + 1 → T (f + i) = none) := Lib.hid (hb.trans ⟨fun h i hi => by
                  by_cases e : i = j
                  · subst e; exact hx
                  · exact h i (by omega), fun h i hi => h i (by omega)⟩)
                clear hg hx hb hbs hat
                go_wp2_with (first | (go_at_call 32; (with_reducible refine HG.out.mono ?_); rintro e w5 ⟨rfl, hb5⟩; have HB5 := Lib.hid hb5; clear hb5))
                go_roundw
                case rel => exact ⟨j + 1, b, by omega, rfl, by go_num, HB.out, (HBs.out.trans (HB5.out.mono HBs.out.size)).alloc (Nat.le_trans HBs.out.size HB5.out.size) _⟩
                case measure => simp [intOf]; omega
              | some e1 =>
                rw [hx] at hg
                have HG := Lib.hid hg
                have HB : Hid (false = true ↔ ∀ i, i < j + 1 → T (f + i) = none) := Lib.hid ⟨fun e => (by cases e), fun h => by
                  have := h j (by omega)
                  rw [hx] at this
                  cases this⟩
                clear hg hx hb hbs hat
                go_wp2_with (first | (go_at_call 32; (with_reducible refine HG.out.mono ?_); rintro e w5 ⟨rfl, hb5⟩; have HB5 := Lib.hid hb5; clear hb5))
                go_roundw
                case rel => exact ⟨j + 1, false, by omega, rfl, by go_num, HB.out, (HBs.out.trans (HB5.out.mono HBs.out.size)).alloc (Nat.le_trans HBs.out.size HB5.out.size) _⟩
                case measure => simp [intOf]; omega
            · obtain rfl : j = m := by omega
              have HBs := Lib.hid hbs
              cases b with
              | true =>
                have HF := Lib.hid (hb.1 rfl)
                clear hb hbs
                go_wp2
                go_ret2
                exact ⟨⟨f, true, rfl, .inl ⟨rfl, f, j, rfl, rfl, hm1, hfit, HF.out, fun q' hq' => HNo.out q' hq' (by omega)⟩⟩, HBs.out⟩
              | false =>
                have HF : Hid (¬ free T f j) := Lib.hid (fun h => by have := hb.2 h; cases this)
                clear hb hbs
                go_wp2
                go_roundw
                case rel => exact ⟨f + 1, by omega, by go_num, fun q' hq' hle => by
                  by_cases e : q' = f
                  · subst e; exact HF.out
                  · exact HNo.out q' (by omega) hle, HBs.out⟩
                case measure => simp [intOf]; omega
        · have d2 : decide ((m : Int) ≤ 64 - (f : Int)) = false := decide_eq_false (by omega)
          go_wp2
          go_ret2
          exact ⟨⟨0, false, rfl, .inr ⟨rfl, rfl, .inr fun q' m' hm' hle hfr => by
            have : m = m' := by omega
            subst this
            exact HNo.out q' (by omega) hle hfr⟩⟩, HBr.out⟩
      · have d1 : decide ((f : Int) < 64) = false := decide_eq_false (by omega)
        go_wp2
        go_ret2
        exact ⟨⟨0, false, rfl, .inr ⟨rfl, rfl, .inr fun q' m' hm' hle hfr => by
          have : m = m' := by omega
          subst this
          exact HNo.out q' (by omega) hle hfr⟩⟩, HBr.out⟩

theorem bel_dr {B : Nat} {a w : World} (h : Below B a w) (n : Nat) : Below B a (w.drewN n) := ⟨h.os, h.tape, h.output, h.size, h.block⟩
/-- A number of a row that is read. -/
theorem rd_int {w : World} {v : Value} {l : List Nat} {i : Nat} (h : Rd w 3 v 1 l.length (ints l)) (hi : i < l.length) {q : Nat} (he : l[i] = q) :
    ∃ g cap, v = .slice (some ⟨g, 0, none⟩) l.length cap ∧ l.length ≤ cap ∧ cap ≤ maxLen ∧ w.cell? ⟨g, i, none⟩ = some (.int .i64 (q : Int)) := by
  obtain ⟨hl, ad, cap, rfl, h2, h3, h4 | ⟨g, cur, rfl, hb, hc⟩⟩ := h
  · omega
  · refine ⟨g, cap, rfl, h2, h3, ?_⟩
    rw [hb.cell, hc i (by omega), ← he]
    simp [ints, hi]
set_option maxHeartbeats 2000000 in
theorem same_ints (va vb : Value) (L : List Nat) (w : World) (hL : L.length ≤ 1000) (ha : Rd w 3 va 1 L.length (ints L)) (hb : Rd w 3 vb 1 L.length (ints L)) :
    Calls Try.prog 35 #[va, vb] w fun e w' => e = .returned (.bool true) ∧ Below w.heap.size w w' := by
  have HA := Lib.hid ha
  have HB := Lib.hid hb
  obtain ⟨_, ada, capa, rfl, ha1, ha2, _⟩ := ha
  obtain ⟨_, adb, capb, rfl, hb1, hb2, _⟩ := hb
  obtain ⟨n, hn⟩ : ∃ n, L.length = n := ⟨_, rfl⟩
  have HN := Lib.hid hn
  rw [hn] at ha1 hb1 hL ⊢
  have hni : (n : Int) ≤ 1000 := by omega
  clear hn
  go_enter Try.func35, Try.ntmps35
  go_wp2
  go_loopw [5] (fun i wr => ∃ k : Nat, k ≤ n ∧ i = .int .i64 k ∧ Below w.heap.size w wr) (fun i _ => n - (intOf i).toNat)
  case atStart => exact ⟨0, Nat.zero_le _, rfl, Below.refl _ _⟩
  case round =>
    obtain ⟨k, hk, rfl, hbr⟩ := hrel
    by_cases hlt : k < n
    · have hlt2 : k < L.length := by rw [HN.out]; exact hlt
      obtain ⟨q, hq⟩ : ∃ x, L[k] = x := ⟨_, rfl⟩
      have hra := Rd.below HA.out hbr
      have hrb := Rd.below HB.out hbr
      obtain ⟨ga, ca, hea, hca, hca2, a0⟩ := rd_int hra hlt2 hq
      obtain ⟨gb, cb, heb, hcb, hcb2, b0⟩ := rd_int hrb hlt2 hq
      rw [HN.out] at hea heb
      cases hea
      cases heb
      have hlti : (k : Int) < (n : Int) := by omega
      have HBr := Lib.hid hbr
      clear hq hra hrb hca hcb hca2 hcb2 hbr hlt2
      go_wp2
      go_quiet (fail)
      have HB2 := Lib.hid (HBr.out.trans ((bel_dr (Below.refl _ wr) nq).mono HBr.out.size))
      go_wp2
      go_roundw
      case rel => exact ⟨k + 1, by omega, by go_num, HB2.out⟩
      case measure => simp [intOf]; omega
    · obtain rfl : k = n := by omega
      have HBr := Lib.hid hbr
      clear hbr
      go_wp2
      go_ret
      exact ⟨rfl, HBr.out⟩
end Go.Proofs.Ytcmlcepdcpbdaaa.Rh
