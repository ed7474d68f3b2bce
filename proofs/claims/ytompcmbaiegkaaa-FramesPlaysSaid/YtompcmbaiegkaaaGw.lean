/-
  The document's own New, Used and Same.
-/
import Derived.Test.YtompcmbaiegkaaaGr
import Derived.Test.YtompcmbaiegkaaaFv
namespace Go.Proofs.Ytompcmbaiegkaaa.Gw
open Go Go.RowKit Kit Fm Fo Fr Fw Fx Fu Fv Gm Gr
set_option linter.unusedVariables false
attribute [local go_sem ↓] mk_wrap app_wrap

set_option maxHeartbeats 1000000 in
theorem rused_any (w : World) (q rr rb n : Nat) (R : Nat → Nat) (B : Nat → Nat → Nat) (h : RMem w q rr rb n R B) :
    Calls Try.prog 19 #[.pointer (some ⟨q, 0, none⟩)] w fun e w' => Below w.heap.size w w' ∧ ∃ r, e = .returned r ∧ w'.ownsRow w.heap.size 3 1 r (usd R n).length (ints (usd R n)) := by
  obtain ⟨i0, hi, hz0, hz1, hz2⟩ := info_parts info3
  obtain ⟨⟨c1, c2, a1, a2⟩, ⟨cs, b1, b2, b3⟩, _, ⟨h6, h7⟩, _⟩ := h
  have hcq : w.cell? ⟨q, 0, none⟩ = some (.slice (some ⟨rr, 0, none⟩) n c1) := a1.cell 0
  have hc : ∀ k, k < n → w.cell? ⟨rr, k, none⟩ = some (.int .i64 (R k : Int)) := fun k hk => (b1.cell _).trans (b3 k hk)
  have hq := a1.lt
  have hb := b1.lt
  clear a1 a2 b1 b2 b3
  go_enter Try.func19, Try.ntmps19
  go_wp2
  go_loopw [3, 4] (fun v i wr => ∃ (j : Nat) (s3 : Value), s3 = v ∧ j ≤ n ∧ i = .int .i64 (j : Int) ∧ wr.ownsRow w.heap.size 3 1 v (usd R j).length (ints (usd R j)) ∧ Below w.heap.size w wr) (fun _ i _ => n - (intOf i).toNat)
  case atStart => exact ⟨0, _, rfl, Nat.zero_le _, rfl, World.ownsRow_nil _ _ _ _, Below.refl _ _⟩
  case round =>
    obtain ⟨j, s3, rfl, hj, rfl, hrow, hB⟩ := hrel
    have ccq := (hB.cell (p := ⟨q, 0, none⟩) hq).trans hcq
    by_cases hlt : j < n
    · have ccb := (hB.cell (p := ⟨rr, j, none⟩) hb).trans (hc j hlt)
      have hs := hB.size
      by_cases hz : R j = 0
      · rw [hz, Int.natCast_zero] at ccb
        have hu := usd_no hz
        have HO := Lib.hid (And.intro hrow hB)
        clear hcq hc hrow hB hz
        go_wp2
        go_roundw
        case rel => exact ⟨j + 1, _, rfl, by omega, by go_num, by rw [hu]; exact HO.out.1, HO.out.2⟩
        case measure => simp [intOf]; omega
      · have hu := usd_yes hz
        have hul := usd_len R j
        have hd : decide (0 < (R j : Int)) = true := decide_eq_true (by omega)
        obtain ⟨r, hr⟩ : ∃ r : Int, r = (R j : Int) := ⟨_, rfl⟩
        rw [← hr] at ccb hd
        obtain ⟨v', w2, hrun, hown', hgrow, -⟩ := run_append_own (P := Try.prog) (w := wr.alloc (.cells #[.int .i64 (j : Int)] 3)) w.heap.size 39 39 3 i0 (.int .i64 0) 1 8 Try.underlying39 hi hz0 hz1 hz2 rfl (by decide) s3 (usd R j).length (ints (usd R j)) (hrow.alloc _) ⟨wr.heap.size, 0, none⟩ 1 1 [.int .i64 (j : Int)] rfl
          (by intro j u hj; have hj0 : j = 0 := (by cases j with | zero => rfl | succ j => simp at hj); subst hj0; simp at hj; subst hj; simp [Addr.add]) (by simp [Value.oneCell']) (by unfold maxLen; omega) (by omega) (by simp; omega)
        have hrun' : (appO #[39, 39] 39 #[s3, .slice (some ⟨wr.heap.size, 0, none⟩) 1 1]).run Try.prog (wr.alloc (.cells #[.int .i64 (j : Int)] 3)) = .ok v' w2 := hrun
        have hB2 : Below w.heap.size w w2 := (hB.alloc hs _).grown hgrow (by simp; omega) (fun r e => by
          rcases hrow.2 with ⟨e2, _⟩ | ⟨g2, cap2, cur2, e2, hbs, _⟩
          · rw [e2] at e; cases e
          · rw [e2] at e; cases e; exact hbs)
        have hown2 : w2.ownsRow w.heap.size 3 1 v' (usd R (j + 1)).length (ints (usd R (j + 1))) := by
          rw [hu, List.length_append, List.length_singleton]
          simpa [ints] using hown'
        have HO := Lib.hid (And.intro hown2 hB2)
        clear hrun hown' hgrow hB2 hrow hB hcq hc hr hown2 hu hz
        go_wp2
        go_roundw
        case rel => exact ⟨j + 1, _, rfl, by omega, by go_num, HO.out.1, HO.out.2⟩
        case measure => simp [intOf]; omega
    · obtain rfl : j = n := by omega
      have HO := Lib.hid (And.intro hrow hB)
      clear hcq hc hrow hB
      go_wp2
      go_ret
      exact ⟨HO.out.2, _, rfl, HO.out.1⟩
/-- A slice of numbers that a call has made, as numbers. -/
theorem own_ints {w : World} {base : Nat} {r : Value} {ws : List Nat} (h : w.ownsRow base 3 1 r ws.length (ints ws)) : Slc .i64 w r ws := by
  obtain ⟨h0, ⟨rfl, hn⟩ | ⟨g, cap, cur, rfl, hg, hb, h1, h2, h3, h4⟩⟩ := h
  · obtain rfl : ws = [] := List.length_eq_zero_iff.1 hn
    exact ⟨none, 0, rfl, Nat.le_refl _, Nat.zero_le _, .inl rfl⟩
  · refine ⟨_, cap, rfl, h1, h2, .inr ⟨g, 0, rfl, (Array.getElem?_eq_some_iff.1 hb).1, fun i hi => ?_⟩⟩
    rw [Nat.zero_add, cell_of_row w g i cur _ _ hb]
    have := congrArg (fun l => l[i]?) h4
    simp only [List.getElem?_take, Nat.mul_one, hi, if_true, Array.getElem?_toList] at this
    rw [this]
    simp [ints, hi]
theorem same_any (va vb : Value) (xs : List Nat) (w : World) (ha : Slc .i64 w va xs) (hb : Slc .i64 w vb xs) :
    Calls Try.prog 18 #[va, vb] w fun e w' => e = .returned (.bool true) ∧ Below w.heap.size w w' := by
  obtain ⟨a, capa, rfl, hcapa, hmaxa, hra⟩ := ha
  obtain ⟨b, capb, rfl, hcapb, hmaxb, hrb⟩ := hb
  unfold maxLen at hmaxa hmaxb
  go_enter Try.func18, Try.ntmps18
  go_wp2
  go_loopw [5] (fun i wr => ∃ k : Nat, k ≤ xs.length ∧ i = .int .i64 k ∧ Below w.heap.size w wr) (fun i _ => xs.length - (intOf i).toNat)
  case atStart => exact ⟨0, Nat.zero_le _, rfl, Below.refl _ _⟩
  case round =>
    obtain ⟨k, hk, rfl, hd⟩ := hrel
    by_cases hlt : k < xs.length
    · rcases hra with h0 | ⟨ba, oa, rfl, hla, hca⟩
      · subst h0; simp at hlt
      · rcases hrb with h0 | ⟨bb, ob, rfl, hlb, hcb⟩
        · subst h0; simp at hlt
        · have ca : wr.cell? ⟨ba, oa + k, none⟩ = some (.int .i64 ((xs[k]?.getD 0 : Nat) : Int)) := (hd.cell (p := ⟨ba, oa + k, none⟩) hla).trans (hca k hlt)
          have cb : wr.cell? ⟨bb, ob + k, none⟩ = some (.int .i64 ((xs[k]?.getD 0 : Nat) : Int)) := (hd.cell (p := ⟨bb, ob + k, none⟩) hlb).trans (hcb k hlt)
          obtain ⟨x, hx⟩ : ∃ x, xs[k]?.getD 0 = x := ⟨_, rfl⟩
          rw [hx] at ca cb
          clear hca hcb hx
          have HD := Lib.hid hd
          clear hd
          go_wp2
          go_region
          go_wp2
          go_roundw
          case rel => exact ⟨k + 1, by omega, by go_num, HD.out.drew⟩
          case measure => simp [intOf]; omega
    · obtain rfl : k = xs.length := by omega
      clear hra hrb
      go_wp2
      go_ret
      exact ⟨rfl, hd⟩
end Go.Proofs.Ytompcmbaiegkaaa.Gw
