/-
  The document's own open files: Open, Used.
-/
import Derived.Test.YtmdldehdlggpkaaJr
namespace Go.Proofs.Ytmdldehdlggpkaa.Jq
open Go Go.RowKit Kit Bk Jp Jm Ji Jo Ju Jd Je Jr
set_option linter.unusedVariables false
attribute [local go_sem ↓] stf_wrap app_wrap

set_option maxRecDepth 100000 in
set_option maxHeartbeats 1000000 in
theorem ropen_any (w : World) (q : Nat) (S : Sf) (h : Rf w q S) (P : Int) (V : Bool) :
    Calls Try.prog 35 #[.pointer (some ⟨q, 0, none⟩), .agg #[.int .i64 P, .bool V]] w fun e w' => e = .returned (.tuple #[.int .i64 (oN S P), .int .i64 (oE S P)]) ∧ Kp (fun j => j = q) w w' ∧ Rf w' q (oS S P V) := by
  have hb0 : Below w.heap.size w (w.alloc (.cells #[.int .i64 P, .bool V] 26)) := (Below.refl _ _).alloc (Nat.le_refl _) _
  have hx : Blk (w.alloc (.cells #[.int .i64 P, .bool V] 26)) w.heap.size #[.int .i64 P, .bool V] 26 := Blk.new _ _ _
  have h0 := h.below hb0
  have hlt := h.lt
  generalize hW0 : w.alloc (.cells #[.int .i64 P, .bool V] 26) = W0 at *
  have x0 := hx.cell 0
  have x1 := hx.cell 1
  have hle := lst_le S.R 64
  by_cases hm : mayP P
  · have d0 : decide (P < 0) = false := decide_eq_false (by have := hm.1; omega)
    have d1 : decide (15 < P) = false := decide_eq_false (by have := hm.2; omega)
    by_cases hl : lst S.R 64 = 64
    · have e1 : oN S P = 0 := by unfold oN; rw [if_neg (fun e => e.2 hl)]
      have e2 : oE S P = 100 := by unfold oE; rw [if_pos hm, if_pos hl]
      have e3 : oS S P V = S := by unfold oS; rw [if_neg (fun e => e.2 hl)]
      rw [e1, e2, e3]
      have hlow : ∀ k, k < 64 → S.R k ≠ 0 := fun k hk => lst_low S.R 64 k (by omega)
      obtain ⟨cs, g1, g2, g3⟩ := id h0
      have hc : ∀ k, k < 64 → W0.cell? ⟨q, 128 + k, none⟩ = some (.int .i64 (S.R k : Int)) := fun k hk => (g1.cell _).trans (g3 k hk).2
      have HE := Lib.hid (And.intro (Kp.of_below (S := fun j => j = q) hb0) h0)
      clear h h0 hb0 hx hm hl e1 e2 e3 hle hlt g1 g2 g3
      go_enter Try.func35, Try.ntmps35
      go_wp2
      go_loop [6] (fun i => ∃ k : Nat, k ≤ 64 ∧ i = .int .i64 (k : Int)) (fun i => 64 - (intOf i).toNat)
      case atStart => exact ⟨0, Nat.zero_le _, rfl⟩
      case round =>
        obtain ⟨k, hk, rfl⟩ := hrel
        by_cases hlt : k < 64
        · have c0 := hc k hlt
          have hk2 : (k : Int) < 64 := by omega
          have hd : ((S.R k : Int) == 0) = false := by have := hlow k hlt; simp; omega
          generalize (S.R k : Int) = r at *
          clear hc hlow
          go_wp2
          go_round
          case rel => exact ⟨k + 1, by omega, by go_num⟩
          case measure => simp [intOf]; omega
        · obtain rfl : k = 64 := by omega
          go_wp2
          go_ret2
          exact ⟨rfl, HE.out.1, HE.out.2⟩
    · have e1 : oN S P = (lst S.R 64 : Int) := by unfold oN; rw [if_pos ⟨hm, hl⟩]
      have e2 : oE S P = 0 := by unfold oE; rw [if_pos hm, if_neg hl]
      have e3 : oS S P V = S.put (lst S.R 64) P V 1 := by unfold oS; rw [if_pos ⟨hm, hl⟩]
      rw [e1, e2, e3]
      have hlow : ∀ k, k < lst S.R 64 → S.R k ≠ 0 := fun k hk => lst_low S.R 64 k hk
      have hat := lst_at S.R 64 (by omega)
      obtain ⟨m, hmm⟩ : ∃ m, lst S.R 64 = m := ⟨_, rfl⟩
      rw [hmm] at hl hle hlow hat ⊢
      have hm64 : m < 64 := by omega
      have hmi : (m : Int) < 64 := by omega
      have hd0 := h0.below ((Below.refl _ _).drew)
      have hp := Rf.put hd0 m hm64 P V
      obtain ⟨cs, g1, g2, g3⟩ := id h0
      obtain ⟨cs', g1', g2', g3'⟩ := id hd0
      have hc : ∀ k, k < 64 → W0.cell? ⟨q, 128 + k, none⟩ = some (.int .i64 (S.R k : Int)) := fun k hk => (g1.cell _).trans (g3 k hk).2
      have hst := run_stF _ _ (m * 2) _ _ g1' (by omega) P V
      have k1 : Kp (fun j => j = q) W0 (W0.drew.setCells q (m * 2) [.int .i64 P, .bool V]) := ((Kp.refl _ _).drew).trans (Kp.sets (S := fun j => j = q) q rfl _ _ _) (fun _ e => .inl e)
      obtain ⟨ds, d5, d6, _⟩ := g1'.sets [.int .i64 P, .bool V] (m * 2)
      generalize W0.drew.setCells q (m * 2) [.int .i64 P, .bool V] = W1 at *
      obtain ⟨u, cw⟩ : ∃ u, W1.cell? ⟨q, 128 + m, none⟩ = some u := ⟨_, (d5.cell (128 + m)).trans (Array.getElem?_eq_getElem (by omega))⟩
      have fw := d5.free (128 + m)
      have HE := Lib.hid (And.intro (((Kp.of_below (S := fun j => j = q) hb0).trans k1 (fun _ e => .inl e)).trans (Kp.set (S := fun j => j = q) W1 q (128 + m) (.int .i64 1) rfl) (fun _ e => .inl e)) hp)
      clear h h0 hb0 hx hm hl e1 e2 e3 hle hlt g1 g2 g3 g1' g2' g3' hd0 hp k1 d5 hmm
      go_enter Try.func35, Try.ntmps35
      go_wp2
      go_loop [6] (fun i => ∃ k : Nat, k ≤ m ∧ i = .int .i64 (k : Int)) (fun i => 64 - (intOf i).toNat)
      case atStart => exact ⟨0, Nat.zero_le _, rfl⟩
      case round =>
        obtain ⟨k, hk, rfl⟩ := hrel
        have c0 := hc k (by omega)
        have hk2 : (k : Int) < 64 := by omega
        by_cases hlt : k < m
        · have hd : ((S.R k : Int) == 0) = false := by have := hlow k hlt; simp; omega
          generalize (S.R k : Int) = r at *
          clear hc hlow hat
          go_wp2
          go_round
          case rel => exact ⟨k + 1, by omega, by go_num⟩
          case measure => simp [intOf]; omega
        · obtain rfl : k = m := by omega
          rw [hat, Int.natCast_zero] at c0
          clear hc hlow hat
          go_wp2
          go_region
          go_wp2
          go_ret2
          exact ⟨rfl, HE.out.1, HE.out.2⟩
  · have e1 : oN S P = 0 := by unfold oN; rw [if_neg (fun e => hm e.1)]
    have e2 : oE S P = 2 := by unfold oE; rw [if_neg hm]
    have e3 : oS S P V = S := by unfold oS; rw [if_neg (fun e => hm e.1)]
    rw [e1, e2, e3]
    have HE := Lib.hid (And.intro (Kp.of_below (S := fun j => j = q) hb0) h0)
    by_cases h1 : P < 0
    · have d0 : decide (P < 0) = true := decide_eq_true h1
      clear h h0 hb0 hx hm e1 e2 e3 hle hlt h1
      go_enter Try.func35, Try.ntmps35
      go_wp2
      go_ret2
      exact ⟨rfl, HE.out.1, HE.out.2⟩
    · have d0 : decide (P < 0) = false := decide_eq_false h1
      have d1 : decide (15 < P) = true := decide_eq_true (by unfold mayP at hm; omega)
      clear h h0 hb0 hx hm e1 e2 e3 hle hlt h1
      go_enter Try.func35, Try.ntmps35
      go_wp2
      go_ret2
      exact ⟨rfl, HE.out.1, HE.out.2⟩

set_option maxRecDepth 100000 in
set_option maxHeartbeats 1000000 in
theorem rused_any (w : World) (q : Nat) (S : Sf) (h : Rf w q S) :
    Calls Try.prog 17 #[.pointer (some ⟨q, 0, none⟩)] w fun e w' => Below w.heap.size w w' ∧ ∃ r, e = .returned r ∧ w'.ownsRow w.heap.size 3 1 r (usd S.R 64).length (ints (usd S.R 64)) := by
  obtain ⟨i0, hi, hz0, hz1, hz2⟩ := info_parts info3
  obtain ⟨cs, g1, g2, g3⟩ := h
  have hc : ∀ k, k < 64 → w.cell? ⟨q, 128 + k, none⟩ = some (.int .i64 (S.R k : Int)) := fun k hk => (g1.cell _).trans (g3 k hk).2
  have hq := g1.lt
  generalize S.R = R at *
  clear g1 g2 g3
  go_enter Try.func17, Try.ntmps17
  go_wp2
  go_loopw [3, 4] (fun v i wr => ∃ (j : Nat) (s3 : Value), s3 = v ∧ j ≤ 64 ∧ i = .int .i64 (j : Int) ∧ wr.ownsRow w.heap.size 3 1 v (usd R j).length (ints (usd R j)) ∧ Below w.heap.size w wr) (fun _ i _ => 64 - (intOf i).toNat)
  case atStart => exact ⟨0, _, rfl, Nat.zero_le _, rfl, World.ownsRow_nil _ _ _ _, Below.refl _ _⟩
  case round =>
    obtain ⟨j, s3, rfl, hj, rfl, hrow, hB⟩ := hrel
    by_cases hlt : j < 64
    · have ccb := (hB.cell (p := ⟨q, 128 + j, none⟩) hq).trans (hc j hlt)
      have hs := hB.size
      have hj2 : (j : Int) < 64 := by omega
      by_cases hz : R j = 0
      · rw [hz, Int.natCast_zero] at ccb
        have hu := usd_no hz
        have HO := Lib.hid (And.intro hrow hB)
        clear hc hrow hB hz
        go_wp2
        go_roundw
        case rel => exact ⟨j + 1, _, rfl, by omega, by go_num, by rw [hu]; exact HO.out.1, HO.out.2⟩
        case measure => simp [intOf]; omega
      · have hu := usd_yes hz
        have hul := usd_len R j
        have hd : decide (0 < (R j : Int)) = true := decide_eq_true (by omega)
        obtain ⟨r, hr⟩ : ∃ r : Int, r = (R j : Int) := ⟨_, rfl⟩
        rw [← hr] at ccb hd
        obtain ⟨v', w2, hrun, hown', hgrow, -⟩ := run_append_own (P := Try.prog) (w := wr.alloc (.cells #[.int .i64 (j : Int)] 3)) w.heap.size 38 38 3 i0 (.int .i64 0) 1 8 Try.underlying38 hi hz0 hz1 hz2 rfl (by decide) s3 (usd R j).length (ints (usd R j)) (hrow.alloc _) ⟨wr.heap.size, 0, none⟩ 1 1 [.int .i64 (j : Int)] rfl
          (by intro j u hj; have hj0 : j = 0 := (by cases j with | zero => rfl | succ j => simp at hj); subst hj0; simp at hj; subst hj; simp [Addr.add]) (by simp [Value.oneCell']) (by unfold maxLen; omega) (by omega) (by simp; omega)
        have hrun' : (appO #[38, 38] 38 #[s3, .slice (some ⟨wr.heap.size, 0, none⟩) 1 1]).run Try.prog (wr.alloc (.cells #[.int .i64 (j : Int)] 3)) = .ok v' w2 := hrun
        have hB2 : Below w.heap.size w w2 := (hB.alloc hs _).grown hgrow (by simp; omega) (fun r e => by
          rcases hrow.2 with ⟨e2, _⟩ | ⟨g2, cap2, cur2, e2, hbs, _⟩
          · rw [e2] at e; cases e
          · rw [e2] at e; cases e; exact hbs)
        have hown2 : w2.ownsRow w.heap.size 3 1 v' (usd R (j + 1)).length (ints (usd R (j + 1))) := by
          rw [hu, List.length_append, List.length_singleton]
          simpa [ints] using hown'
        have HO := Lib.hid (And.intro hown2 hB2)
        clear hrun hown' hgrow hB2 hrow hB hc hr hown2 hu hz
        go_wp2
        go_roundw
        case rel => exact ⟨j + 1, _, rfl, by omega, by go_num, HO.out.1, HO.out.2⟩
        case measure => simp [intOf]; omega
    · obtain rfl : j = 64 := by omega
      have HO := Lib.hid (And.intro hrow hB)
      clear hc hrow hB
      go_wp2
      go_ret
      exact ⟨HO.out.2, _, rfl, HO.out.1⟩
end Go.Proofs.Ytmdldehdlggpkaa.Jq
