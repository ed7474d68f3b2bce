/-
  Hole tells the least stretch: PagesHole.
-/
import Derived.Test.YtcmlcepdcpbdaaaGd
namespace Go.Proofs.Ytcmlcepdcpbdaaa.Ho
open Go Go.RowKit Kit Bk Tm Ts Tc Ti Tl Th Td Tq Tr Tn En Ov Gd
set_option linter.unusedVariables false

theorem list_long (v : Value) (ops : List Opr) (w : World) (h : OpsAt w v ops) : ∃ a cap, v = .slice a ops.length cap := by
  obtain ⟨a, cap, h, _⟩ := h
  exact ⟨a, cap, h⟩
/-- Where the search stands: nothing ahead of p; or found. -/
def Look (T : Nat → Option En) (m : Nat) (p : Nat) (want : Int) (has : Bool) : Prop :=
  (has = false ∧ want = 0 ∧ ∀ q, q < p → q + m ≤ 64 → ¬ free T q m) ∨ (has = true ∧ HoleIs T (m : Int) want true)
theorem Look.hole {T : Nat → Option En} {m p : Nat} {want : Int} {has : Bool} (h : Look T m p want has) (he : has = true ∨ m = 0 ∨ 64 < p + m) : HoleIs T (m : Int) want has := by
  rcases h with ⟨rfl, rfl, h⟩ | ⟨rfl, h⟩
  · refine .inr ⟨rfl, rfl, ?_⟩
    rcases he with he | he | he
    · cases he
    · exact .inl (by omega)
    · refine .inr fun q m' hm hq hf => ?_
      have : m = m' := by omega
      subst this
      exact h q (by omega) hq hf
  · exact h
set_option maxRecDepth 100000 in
set_option maxHeartbeats 4000000 in
theorem hole_law (v : Value) (ops : List Opr) (n : Nat) (w : World) (h : OpsAt w v ops) (hn : n < 256) :
    Calls Try.prog 7 #[v, .int .u8 (n : Int)] w fun e w' => e = .returned (.bool true) ∧ Below w.heap.size w w' := by
  have hva := list_long v ops w h
  by_cases hlen : ops.length ≤ 150
  case neg =>
    obtain ⟨a, cap, rfl⟩ := hva
    have d : decide ((150 : Int) < (ops.length : Int)) = true := decide_eq_true (by omega)
    clear h hlen
    go_enter Try.func7, Try.ntmps7
    go_wp2_with (first | (go_at_call 23; (with_reducible refine (alive_any _).mono ?_); rintro e w1 ⟨rfl, hb⟩))
    go_ret
    exact ⟨rfl, hb⟩
  case pos =>
    have HG : Hid (∀ w1, Below w.heap.size w w1 → Calls Try.prog 28 #[v] w1 fun e w' => ∃ p T, e = .returned (.pointer (some ⟨p, 0, none⟩)) ∧ Below w.heap.size w w' ∧ Mem w' p T) := Lib.hid (fun w1 hb => by
      have h1 : OpsAt w1 v ops := by
        obtain ⟨a, cap, e, h1, h2, h3⟩ := h
        refine ⟨a, cap, e, h1, h2, ?_⟩
        rcases h3 with h3 | ⟨b, off, e2, hlt, h4⟩
        · exact .inl h3
        · exact .inr ⟨b, off, e2, Nat.lt_of_lt_of_le hlt hb.size, fun i hi => OpAt.below (h4 i hi) hb hlt⟩
      exact (grown_any v ops w1 h1 hlen).mono fun e w' ⟨e1, h2⟩ => ⟨_, _, e1, hb.trans (h2.bel.mono hb.size), h2.mem⟩)
    obtain ⟨a, cap, rfl⟩ := hva
    have d : decide ((150 : Int) < (ops.length : Int)) = false := decide_eq_false (by omega)
    have hl : (ops.length : Int) ≤ 150 := by omega
    have hwr : wrap64 ((n : Int) % 70) = (n : Int) % 70 := by rw [wrap64]; omega
    have hn0 : (n : Int) ≤ 255 := by omega
    have HH : Hid (∀ W p T, Mem W p T → Calls Try.prog 22 #[.pointer (some ⟨p, 0, none⟩), .int .i64 ((n : Int) % 70)] W fun e w' => (∃ a b, e = .returned (.tuple #[.int .i64 a, .bool b]) ∧ HoleIs T ((n : Int) % 70) a b) ∧ Below W.heap.size W w') := Lib.hid (fun W p T hM => hole_any W p T (gets_mem hM hM.lt) _ (by omega))
    clear h hlen
    go_enter Try.func7, Try.ntmps7
    go_wp2_with (first | (go_at_call 23; (with_reducible refine (alive_any _).mono ?_); rintro e w1 ⟨rfl, hb⟩; have HB := Lib.hid hb; clear hb) | (go_at_call 28; (with_reducible refine (HG.out _ HB.out).mono ?_); rintro e w2 ⟨p, T, rfl, hb, hm⟩; replace HB := Lib.hid hb; have HM := Lib.hid hm; clear hb hm) | (go_at_call 22; (with_reducible refine (HH.out _ _ _ HM.out).mono ?_); rintro e w3 ⟨⟨at_, is, rfl, hh⟩, hb⟩; have HO := Lib.hid hh; replace HM := Lib.hid (Mem.below HM.out hb); replace HB := Lib.hid (HB.out.trans (hb.mono HB.out.size)); clear hb hh))
    obtain ⟨m, hm⟩ : ∃ m : Nat, (n : Int) % 70 = (m : Int) := ⟨n % 70, rfl⟩
    have hm70 : m < 70 := by omega
    rw [hm] at HO ⊢
    clear hwr hm HG HH
    have hm0 : (m : Int) ≤ 69 := by omega
    go_loopw [10, 11, 12] (fun a b c wr => ∃ (q : Nat) (want : Int) (has : Bool), q ≤ 64 ∧ a = .int .i64 want ∧ b = .bool has ∧ c = .int .i64 (q : Int) ∧ Look T m q want has ∧ Mem wr p T ∧ Below w.heap.size w wr) (fun _ _ c _ => 65 - (intOf c).toNat)
    case atStart => exact ⟨0, 0, false, by omega, rfl, rfl, rfl, .inl ⟨rfl, rfl, fun q hq => absurd hq (Nat.not_lt_zero _)⟩, HM.out, HB.out⟩
    case round =>
      obtain ⟨q, want, has, hq, rfl, rfl, rfl, hlook, hMr, hBr⟩ := hrel
      have hqi : (q : Int) ≤ 64 := by omega
      by_cases hgo : (0 < m ∧ q + m ≤ 64) ∧ has = false
      · obtain ⟨⟨g1, g2⟩, rfl⟩ := hgo
        have d1 : decide (0 < (m : Int)) = true := decide_eq_true (by omega)
        have d2 : decide ((q : Int) + (m : Int) ≤ 64) = true := decide_eq_true (by omega)
        obtain ⟨rfl, hno⟩ : want = 0 ∧ ∀ q', q' < q → q' + m ≤ 64 → ¬ free T q' m := by
          rcases hlook with ⟨_, h1, h2⟩ | ⟨h1, _⟩
          · exact ⟨h1, h2⟩
          · cases h1
        have HNO := Lib.hid hno
        have HMr := Lib.hid hMr
        have HBr := Lib.hid hBr
        clear hno hMr hBr hlook
        go_wp2
        go_loopw [13, 14] (fun a c ws => ∃ (j : Nat) (fb : Bool), q ≤ j ∧ j ≤ q + m ∧ a = .bool fb ∧ c = .int .i64 (j : Int) ∧ ((fb = true ∧ ∀ i, q ≤ i → i < j → T i = none) ∨ (fb = false ∧ ∃ i, q ≤ i ∧ i < q + m ∧ T i ≠ none)) ∧ Mem ws p T ∧ Below w.heap.size w ws) (fun _ c _ => q + m - (intOf c).toNat)
        case atStart => exact ⟨q, true, Nat.le_refl _, by omega, rfl, rfl, .inl ⟨rfl, fun i h1 h2 => by omega⟩, HMr.out, HBr.out⟩
        case round =>
          obtain ⟨j, fb, hj1, hj2, rfl, rfl, hfb, hMs, hBs⟩ := hrel
          have hji : (j : Int) ≤ 64 := by omega
          rcases hfb with ⟨rfl, hall⟩ | ⟨rfl, i, hi1, hi2, hi3⟩
          · by_cases hlt : j < q + m
            · have d3 : decide ((j : Int) < (q : Int) + (m : Int)) = true := decide_eq_true (by omega)
              have hj64 : j < 64 := by omega
              have HG := Lib.hid (get_in _ p T hMs j hj64)
              have HMs := Lib.hid hMs
              have HBs := Lib.hid hBs
              have HAll := Lib.hid hall
              clear hMs hBs hall
              cases hx : T j with
              | none =>
                have hxn : (T j).isSome = false := by rw [hx]; rfl
                have HX := Lib.hid hx
                obtain ⟨e0, he0⟩ : ∃ e0, (T j).getD z0 = e0 := ⟨_, rfl⟩
                rw [hxn, he0] at HG
                clear hx hxn he0
                go_wp2_with (go_at_call 21; (with_reducible refine HG.out.mono ?_); rintro e w5 ⟨rfl, hb5⟩; have HB5 := Lib.hid hb5; clear hb5)
                go_roundw
                case rel => exact ⟨j + 1, true, by omega, by omega, rfl, by go_num, .inl ⟨rfl, fun i h1 h2 => by
                  by_cases e : i = j
                  · subst e; exact HX.out
                  · exact HAll.out i h1 (by omega)⟩, Mem.below (Mem.below HMs.out HB5.out) ((Below.refl _ _).alloc (Nat.le_refl _) _), (HBs.out.trans (HB5.out.mono HBs.out.size)).alloc (Nat.le_trans HBs.out.size HB5.out.size) _⟩
                case measure => simp [intOf]; omega
              | some e1 =>
                have hxn : (T j).isSome = true := by rw [hx]; rfl
                have HX : Hid (T j ≠ none) := Lib.hid (by rw [hx]; exact fun e => by cases e)
                obtain ⟨e0, he0⟩ : ∃ e0, (T j).getD z0 = e0 := ⟨_, rfl⟩
                rw [hxn, he0] at HG
                clear hx hxn he0
                go_wp2_with (go_at_call 21; (with_reducible refine HG.out.mono ?_); rintro e w5 ⟨rfl, hb5⟩; have HB5 := Lib.hid hb5; clear hb5)
                go_roundw
                case rel => exact ⟨j + 1, false, by omega, by omega, rfl, by go_num, .inr ⟨rfl, j, hj1, hlt, HX.out⟩, Mem.below (Mem.below HMs.out HB5.out) ((Below.refl _ _).alloc (Nat.le_refl _) _), (HBs.out.trans (HB5.out.mono HBs.out.size)).alloc (Nat.le_trans HBs.out.size HB5.out.size) _⟩
                case measure => simp [intOf]; omega
            · have d3 : decide ((j : Int) < (q : Int) + (m : Int)) = false := decide_eq_false (by omega)
              have HLk : Hid (HoleIs T (m : Int) (q : Int) true) := Lib.hid (.inl ⟨rfl, q, m, rfl, rfl, g1, g2, fun k hk => hall (q + k) (by omega) (by omega), fun q' hq' => HNO.out q' hq' (by omega)⟩)
              have HMs := Lib.hid hMs
              have HBs := Lib.hid hBs
              clear hMs hBs hall
              go_wp2
              go_roundw
              case rel => exact ⟨q + 1, q, true, by omega, rfl, rfl, by go_num, .inr ⟨rfl, HLk.out⟩, HMs.out, HBs.out⟩
              case measure => simp [intOf]; omega
          · have HLk : Hid (Look T m (q + 1) 0 false) := Lib.hid (.inl ⟨rfl, rfl, fun q' hq' hle hf => by
              by_cases e : q' = q
              · subst e
                exact hi3 (by have := hf (i - q') (by omega); rwa [show q' + (i - q') = i by omega] at this)
              · exact HNO.out q' (by omega) hle hf⟩)
            have HMs := Lib.hid hMs
            have HBs := Lib.hid hBs
            clear hMs hBs hi3
            by_cases hlt : j < q + m
            · have d3 : decide ((j : Int) < (q : Int) + (m : Int)) = true := decide_eq_true (by omega)
              go_wp2
              go_roundw
              case rel => exact ⟨q + 1, 0, false, by omega, rfl, rfl, by go_num, HLk.out, HMs.out, HBs.out⟩
              case measure => simp [intOf]; omega
            · have d3 : decide ((j : Int) < (q : Int) + (m : Int)) = false := decide_eq_false (by omega)
              go_wp2
              go_roundw
              case rel => exact ⟨q + 1, 0, false, by omega, rfl, rfl, by go_num, HLk.out, HMs.out, HBs.out⟩
              case measure => simp [intOf]; omega
      · obtain ⟨rfl, rfl⟩ := HO.out.one (hlook.hole (by
          cases has with
          | true => exact .inl rfl
          | false =>
            by_cases h0 : m = 0
            · exact .inr (.inl h0)
            · exact .inr (.inr (by
                have := fun h1 h2 => hgo ⟨⟨h1, h2⟩, rfl⟩
                have h3 : ¬ q + m ≤ 64 := fun h2 => this (by omega) h2
                omega))))
        have HBs := Lib.hid hBr
        clear hMr hBr hlook HO
        by_cases h0 : 0 < m
        · have d1 : decide (0 < (m : Int)) = true := decide_eq_true (by omega)
          by_cases h1 : q + m ≤ 64
          · have d2 : decide ((q : Int) + (m : Int) ≤ 64) = true := decide_eq_true (by omega)
            cases is with
            | false => exact absurd ⟨⟨h0, h1⟩, rfl⟩ hgo
            | true =>
              clear hgo
              go_wp2
              go_ret
              exact ⟨rfl, HBs.out⟩
          · have d2 : decide ((q : Int) + (m : Int) ≤ 64) = false := decide_eq_false (by omega)
            clear hgo
            go_wp2
            go_ret
            exact ⟨rfl, HBs.out⟩
        · have d1 : decide (0 < (m : Int)) = false := decide_eq_false (by omega)
          clear hgo
          go_wp2
          go_ret
          exact ⟨rfl, HBs.out⟩
end Go.Proofs.Ytcmlcepdcpbdaaa.Ho
namespace Go.Proofs.Ytcmlcepdcpbdaaa.Walk
open Go Go.RowKit Ov
theorem pagesHole (v : Value) (ops : List Opr) (n : Int) (w : World) (h : OpsAt w v ops) (hn : (Lit.int .u8 n).wf = true) :
    Calls Try.prog 7 #[v, .int .u8 n] w fun e w' => e = .returned (.bool true) ∧ Below w.heap.size w w' := by
  have hb : 0 ≤ n ∧ n ≤ 255 := by simpa [Lit.wf, IntKind.min, IntKind.max, IntKind.signed, IntKind.bits] using hn
  obtain ⟨k, rfl⟩ := Int.eq_ofNat_of_zero_le hb.1
  exact Ho.hole_law v ops k w h (by omega)
end Go.Proofs.Ytcmlcepdcpbdaaa.Walk
