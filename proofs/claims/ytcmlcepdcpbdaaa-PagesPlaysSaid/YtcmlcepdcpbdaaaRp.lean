/-
  Parts, Hole of the document's own table.
-/
import Derived.Test.YtcmlcepdcpbdaaaRg
namespace Go.Proofs.Ytcmlcepdcpbdaaa.Rp
open Go Go.RowKit Kit Bk Tm Ts Tc Ti Tl Th Td Tq Tr Tn En Ov Gd Ho Pt Rg
set_option linter.unusedVariables false

/-- Has the part p an entry among its first r pages? -/
def hs (T : Nat → Option En) (p r : Nat) : Bool := (List.range r).any fun a => (T (8 * p + a)).isSome
theorem hs_zero (T : Nat → Option En) (p : Nat) : hs T p 0 = false := rfl
theorem hs_succ (T : Nat → Option En) (p r : Nat) : hs T p (r + 1) = (hs T p r || (T (8 * p + r)).isSome) := by simp [hs, List.range_succ]
def sv (b : Bool) : Int := if b then 1 else 0
def cs (T : Nat → Option En) : Nat → Int
  | 0 => 0
  | j + 1 => cs T j + sv (hs T j 8)
theorem cs_bd (T : Nat → Option En) : ∀ j, 0 ≤ cs T j ∧ cs T j ≤ (j : Int)
  | 0 => ⟨Int.le_refl _, Int.le_refl _⟩
  | j + 1 => by
    have := cs_bd T j
    unfold cs sv
    split <;> omega
def Q (T : Nat → Option En) (j r : Nat) : Prop := (pf (ents T (8 * j + r))).1 = cs T j + sv (hs T j r) ∧ (hs T j r = true → (pf (ents T (8 * j + r))).2 = (j : Int)) ∧ (hs T j r = false → (pf (ents T (8 * j + r))).2 < (j : Int))
theorem q_step {T : Nat → Option En} {j r : Nat} (hj : j < 8) (hr : r < 8) (h : Q T j r) : Q T j (r + 1) := by
  obtain ⟨h1, h2, h3⟩ := h
  unfold Q
  rw [← Nat.add_assoc, hs_succ]
  cases hx : T (8 * j + r) with
  | none =>
    rw [ents_none hx]
    simp only [Option.isSome_none, Bool.or_false]
    exact ⟨h1, h2, h3⟩
  | some e =>
    rw [ents_some hx, pf_app]
    simp only [Option.isSome_some, Bool.or_true]
    unfold pstep
    rw [pg_of (by omega), show (8 * j + r) / 8 = j by omega]
    cases hb : hs T j r with
    | true =>
      rw [hb] at h1
      rw [if_pos (h2 hb).symm]
      exact ⟨h1, fun _ => h2 hb, fun e => (by cases e)⟩
    | false =>
      rw [hb] at h1
      have := h3 hb
      rw [if_neg (by omega)]
      refine ⟨?_, fun _ => rfl, fun e => (by cases e)⟩
      show (pf (ents T (8 * j + r))).1 + 1 = _
      rw [h1]
      simp [sv]
theorem q_all (T : Nat → Option En) : ∀ j, j < 8 → ∀ r, r ≤ 8 → Q T j r
  | 0, hj, 0, _ => by
    refine ⟨rfl, fun e => (by cases e), fun _ => ?_⟩
    show (-1 : Int) < ((0 : Nat) : Int)
    omega
  | j + 1, hj, 0, _ => by
    obtain ⟨h1, h2, h3⟩ := q_all T j (by omega) 8 (Nat.le_refl _)
    unfold Q
    rw [hs_zero, show 8 * (j + 1) + 0 = 8 * j + 8 by omega]
    refine ⟨?_, fun e => (by cases e), fun _ => ?_⟩
    · rw [h1]; simp [cs, sv]
    · cases hb : hs T j 8 with
      | true => have := h2 hb; omega
      | false => have := h3 hb; omega
  | j, hj, r + 1, hr => q_step hj (by omega) (q_all T j hj r (by omega))
theorem parts_cs (T : Nat → Option En) : parts T = cs T 8 := (q_all T 7 (by omega) 8 (Nat.le_refl _)).1
/-- Does an entry of them stand in the part p? -/
def ap (p : Nat) (l : List (Nat × En)) : Bool := l.any fun x => x.1 / 8 == p
theorem ap_app (p : Nat) (l : List (Nat × En)) (x : Nat × En) : ap p (l ++ [x]) = (ap p l || x.1 / 8 == p) := by simp [ap]
theorem ap_hs {T : Nat → Option En} {p : Nat} (hp : p < 8) : ap p (ents T 64) = hs T p 8 := by
  rw [Bool.eq_iff_iff]
  simp only [ap, hs, List.any_eq_true, List.mem_range, beq_iff_eq]
  constructor
  · rintro ⟨⟨k, e⟩, hk, h2⟩
    obtain ⟨h3, h4⟩ := ents_mem.1 hk
    simp only at h2
    exact ⟨k % 8, by omega, by rw [show 8 * p + k % 8 = k by omega, h4]; rfl⟩
  · rintro ⟨a, ha, h2⟩
    cases hx : T (8 * p + a) with
    | none => rw [hx] at h2; cases h2
    | some e => exact ⟨(8 * p + a, e), ents_mem.2 ⟨by omega, hx⟩, by show (8 * p + a) / 8 = p; omega⟩
theorem take_snoc2 {α : Type} {L : List α} {k : Nat} (h : k < L.length) : L.take (k + 1) = L.take k ++ [L[k]] := by rw [List.take_add_one, List.getElem?_eq_getElem h]; rfl

set_option maxRecDepth 100000 in
set_option maxHeartbeats 4000000 in
theorem rparts_any (w : World) (q : Nat) (T : Nat → Option En) (hR : Rf w q T) :
    Calls Try.prog 36 #[.pointer (some ⟨q, 0, none⟩)] w fun e w' => e = .returned (.int .i64 (parts T)) ∧ w = w' := by
  rw [parts_cs]
  obtain ⟨v, h1, h2⟩ := hR
  have HRd := Lib.hid h2
  obtain ⟨_, ad, cap, rfl, hc1, hc2, _⟩ := h2
  have hcq := h1.cell 0
  have hle := ents_len T 64
  have HAp : Hid (∀ p, p < 8 → ap p (ents T 64) = hs T p 8) := Lib.hid (fun p hp => ap_hs hp)
  have HIx : Hid (∀ j (h : j < (ents T 64).length) q e, (ents T 64)[j] = (q, e) → q < 64) := Lib.hid (fun j h q e he => by
    have := List.getElem_mem h
    rw [he] at this
    exact (ents_mem.1 this).1)
  obtain ⟨L, hL⟩ : ∃ L, ents T 64 = L := ⟨_, rfl⟩
  rw [hL] at HRd hc1 hcq hle HAp HIx
  obtain ⟨N, hN⟩ : ∃ N, L.length = N := ⟨_, rfl⟩
  have HN := Lib.hid hN
  rw [hN] at hc1 hcq hle HRd
  have hNi : (N : Int) ≤ 64 := by omega
  clear h1 hL hN
  go_enter Try.func36, Try.ntmps36
  go_wp2
  go_loop [3, 4] (fun a c => ∃ p : Nat, p ≤ 8 ∧ a = .int .i64 (cs T p) ∧ c = .int .i64 (p : Int)) (fun _ c => 8 - (intOf c).toNat)
  case atStart => exact ⟨0, by omega, rfl, rfl⟩
  case round =>
    obtain ⟨p, hp, rfl, rfl⟩ := hrel
    have hcb := cs_bd T p
    by_cases hlt : p < 8
    · have hpi : (p : Int) < 8 := by omega
      have hsc : cs T (p + 1) = cs T p + sv (hs T p 8) := rfl
      rw [← HAp.out p hlt] at hsc
      have HSC := Lib.hid hsc
      obtain ⟨u, hu⟩ : ∃ u, cs T p = u := ⟨_, rfl⟩
      rw [hu] at HSC hcb ⊢
      have hu0 := hcb.1
      have hu1 : u ≤ 8 := by omega
      clear hsc hu hcb
      go_wp2
      go_loop [5, 6] (fun a c => ∃ (j : Nat), j ≤ N ∧ a = .int .i64 (sv (ap p (L.take j))) ∧ c = .int .i64 (j : Int)) (fun _ c => N - (intOf c).toNat)
      case atStart => exact ⟨0, Nat.zero_le _, rfl, rfl⟩
      case round =>
        obtain ⟨j, hj, rfl, rfl⟩ := hrel
        obtain ⟨b, hb⟩ : ∃ b, ap p (L.take j) = b := ⟨_, rfl⟩
        rw [hb]
        by_cases hlt2 : j < N
        · have hlt3 : j < L.length := by rw [HN.out]; omega
          obtain ⟨⟨q2, e2⟩, hq2⟩ : ∃ x, L[j] = x := ⟨_, rfl⟩
          have hq64 := HIx.out j hlt3 q2 e2 hq2
          have ht := ap_app p (L.take j) (q2, e2)
          rw [← hq2, ← take_snoc2 hlt3, hq2, hb] at ht
          have hRa := HRd.out
          rw [← HN.out] at hRa
          obtain ⟨g, cap', he, _, _, c0, _⟩ := Rd.at_ hRa hlt3 hq2
          rw [HN.out] at he
          cases he
          have hjN : (j : Int) < (N : Int) := by omega
          have hwr : wrap64 ((q2 : Int) / 8) = (q2 : Int) / 8 := by rw [wrap64]; omega
          have hq63 : (q2 : Int) ≤ 63 := by omega
          have hqq : (q2 : Int) / 8 = ((q2 / 8 : Nat) : Int) := rfl
          by_cases he8 : q2 / 8 = p
          · have hd : ((q2 : Int) / 8 == (p : Int)) = true := beq_iff_eq.2 (by rw [hqq, he8])
            have HT := Lib.hid (show sv (ap p (L.take (j + 1))) = 1 by rw [ht]; simp [he8, sv])
            clear ht he8 hqq hRa hq2 hq64 hlt3 hb
            go_wp2
            go_round
            case rel => exact ⟨j + 1, by omega, by rw [HT.out], by go_num⟩
            case measure => simp [intOf]; omega
          · have hd : ((q2 : Int) / 8 == (p : Int)) = false := beq_eq_false_iff_ne.2 (by omega)
            have HT := Lib.hid (show sv (ap p (L.take (j + 1))) = sv b by rw [ht]; show sv (b || q2 / 8 == p) = sv b; rw [show (q2 / 8 == p) = false from beq_eq_false_iff_ne.2 he8, Bool.or_false])
            clear ht he8 hqq hRa hq2 hq64 hlt3 hb
            go_wp2
            go_round
            case rel => exact ⟨j + 1, by omega, by rw [HT.out], by go_num⟩
            case measure => simp [intOf]; omega
        · obtain rfl : j = N := by omega
          have hfin : ap p L = b := by rw [← HN.out, List.take_length] at hb; exact hb
          have HF := Lib.hid (HSC.out.trans (by rw [hfin]))
          obtain ⟨s, hs2⟩ : ∃ s, sv b = s := ⟨_, rfl⟩
          have hsb : 0 ≤ s ∧ s ≤ 1 := by rw [← hs2]; unfold sv; split <;> omega
          rw [hs2] at HF ⊢
          have hs0 := hsb.1
          have hs1 := hsb.2
          clear hb hfin hs2 hsb
          go_wp2
          go_round
          case rel => exact ⟨p + 1, by omega, by rw [HF.out], by go_num⟩
          case measure => simp [intOf]; omega
    · obtain rfl : p = 8 := by omega
      go_wp2
      go_ret
      exact ⟨rfl, rfl⟩
end Go.Proofs.Ytcmlcepdcpbdaaa.Rp
