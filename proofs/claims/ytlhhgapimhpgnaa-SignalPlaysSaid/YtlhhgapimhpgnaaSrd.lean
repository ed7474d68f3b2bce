/-
  The document's own List; Same of two equal rows.
-/
import Derived.Test.YtlhhgapimhpgnaaSrc
import Derived.Test.YtlhhgapimhpgnaaSgq
namespace Go.Proofs.Ytlhhgapimhpgnaa.Srd
open Go Go.RowKit Kit Bk Sga Sgb Sgc Sgd Sgn Sra
set_option linter.unusedVariables false
attribute [local go_sem ↓] Sgf.app_wrap

set_option maxHeartbeats 1000000 in
theorem rlist_any (w : World) (d : Nat) (hd : d < 4294967296) :
    Calls Try.prog 17 #[uv d] w fun e w' => Below w.heap.size w w' ∧ ∃ u, e = .returned u ∧ w'.ownsRow w.heap.size 3 1 u (sgs d 15).length (Sgf.ints (sgs d 15)) := by
  obtain ⟨i0, hi, hz0, hz1, hz2⟩ := Sgf.info_parts' Sgf.infoI
  have HH := Lib.hid (fun w n (hn : n < 32) => has_any w d n hd hn)
  go_enter Try.func17, Try.ntmps17
  go_wp2
  go_loopw [3, 4] (fun v i wr => ∃ (k : Nat) (z : Int) (s3 : Value), s3 = v ∧ k ≤ 15 ∧ z = (k : Int) + 1 ∧ i = .int .i64 z ∧ wr.ownsRow w.heap.size 3 1 v (sgs d k).length (Sgf.ints (sgs d k)) ∧ Below w.heap.size w wr) (fun _ i _ => 16 - (intOf i).toNat)
  case atStart => exact ⟨0, 1, _, rfl, Nat.zero_le _, rfl, rfl, World.ownsRow_nil _ _ _ _, Below.refl _ _⟩
  case round =>
    obtain ⟨k, z, v0, rfl, hk, hz, rfl, hrow, hB⟩ := hrel
    by_cases hlt : k < 15
    · have zl1 : z ≤ 15 := by omega
      have zl0 : 1 ≤ z := by omega
      have hzk : z = ((k + 1 : Nat) : Int) := by omega
      have HK : Hid (∀ w, Calls Try.prog 30 #[uv d, .int .i64 z] w fun e w' => e = .returned (.bool (Sga.hs d (k + 1))) ∧ w = w') := Lib.hid (fun w => by
        have := HH.out w (k + 1) (by omega)
        rw [← hzk] at this
        exact this)
      have hs := hB.size
      have HZ := Lib.hid (And.intro hz hzk)
      clear hz hzk
      cases hb : Sga.hs d (k + 1)
      · have hu := sgs_no hb
        rw [hb] at HK
        have HO := Lib.hid (And.intro hrow hB)
        clear hrow hB hb
        go_wp2_with (first | (go_at_call 30; (with_reducible refine (HK.out _).mono ?_); rintro e w1 ⟨rfl, rfl⟩))
        go_roundw
        case rel => exact ⟨k + 1, z + 1, _, rfl, by omega, by have := HZ.out.1; omega, by go_num, by rw [hu]; exact HO.out.1, HO.out.2⟩
        case measure => simp [intOf]; first | omega | (have := HZ.out.1; omega)
      · have hu := sgs_yes hb
        have hul := sgs_len d k
        rw [hb] at HK
        obtain ⟨v', w2, hrun, hown', hgrow, -⟩ := run_append_own (P := Try.prog) (w := wr.alloc (.cells #[.int .i64 z] 3)) w.heap.size 33 33 3 i0 (.int .i64 0) 1 8 Try.underlying33 hi hz0 hz1 hz2 rfl (by decide) v0 (sgs d k).length (Sgf.ints (sgs d k)) (hrow.alloc _) ⟨wr.heap.size, 0, none⟩ 1 1 [.int .i64 z] rfl
          (by intro j u hj; have hj0 : j = 0 := (by cases j with | zero => rfl | succ j => simp at hj); subst hj0; simp at hj; subst hj; simp [Addr.add]) (by simp [Value.oneCell']) (by unfold maxLen; omega) (by omega) (by simp; omega)
        have hrun' : (Sgf.appO #[33, 33] 33 #[v0, .slice (some ⟨wr.heap.size, 0, none⟩) 1 1]).run Try.prog (wr.alloc (.cells #[.int .i64 z] 3)) = .ok v' w2 := hrun
        have hB2 : Below w.heap.size w w2 := (hB.alloc hs _).grown hgrow (by simp; omega) (fun r e => by
          rcases hrow.2 with ⟨e2, _⟩ | ⟨g2, cap2, cur2, e2, hbs, _⟩
          · rw [e2] at e; cases e
          · rw [e2] at e; cases e; exact hbs)
        have hown2 : w2.ownsRow w.heap.size 3 1 v' (sgs d (k + 1)).length (Sgf.ints (sgs d (k + 1))) := by
          rw [hu, List.length_append, List.length_singleton]
          rw [HZ.out.2] at hown'
          simpa [Sgf.ints] using hown'
        have HO := Lib.hid (And.intro hown2 hB2)
        clear hrun hown' hgrow hB2 hrow hB hown2 hu hb
        go_wp2_with (first | (go_at_call 30; (with_reducible refine (HK.out _).mono ?_); rintro e w1 ⟨rfl, rfl⟩))
        go_roundw
        case rel => exact ⟨k + 1, z + 1, _, rfl, by omega, by have := HZ.out.1; omega, by go_num, HO.out.1, HO.out.2⟩
        case measure => simp [intOf]; first | omega | (have := HZ.out.1; omega)
    · obtain rfl : k = 15 := by omega
      subst hz
      have HO := Lib.hid (And.intro hrow hB)
      clear hrow hB
      go_wp2
      go_ret
      exact ⟨HO.out.2, _, rfl, HO.out.1⟩

/-- Two slices that read as the same numbers are the same. -/
theorem same_any (va vb : Value) (xs : List Nat) (w : World) (ha : Slc .i64 w va xs) (hb : Slc .i64 w vb xs) :
    Calls Try.prog 16 #[va, vb] w fun e w' => e = .returned (.bool true) ∧ Below w.heap.size w w' := by
  obtain ⟨a, capa, rfl, hcapa, hmaxa, hra⟩ := ha
  obtain ⟨b, capb, rfl, hcapb, hmaxb, hrb⟩ := hb
  unfold maxLen at hmaxa hmaxb
  go_enter Try.func16, Try.ntmps16
  go_wp2
  go_loopw [5] (fun i wr => ∃ k : Nat, k ≤ xs.length ∧ i = .int .i64 k ∧ Below w.heap.size w wr) (fun i _ => xs.length - (intOf i).toNat)
  case atStart => exact ⟨0, Nat.zero_le _, rfl, Below.refl _ _⟩
  case round =>
    obtain ⟨k, hk, rfl, hd⟩ := hrel
    by_cases hlt : k < xs.length
    · rcases hra with h0 | ⟨ba, oa, rfl, hla, hca⟩
      · subst h0; simp at hlt
      · rcases hrb with h0 | ⟨bb, ob, rfl, hlb, hcb⟩
        · subst h0; simp at hlt
        · have ca : wr.cell? ⟨ba, oa + k, none⟩ = some (.int .i64 ((xs[k]?.getD 0 : Nat) : Int)) := (hd.cell (p := ⟨ba, oa + k, none⟩) hla).trans (hca k hlt)
          have cb : wr.cell? ⟨bb, ob + k, none⟩ = some (.int .i64 ((xs[k]?.getD 0 : Nat) : Int)) := (hd.cell (p := ⟨bb, ob + k, none⟩) hlb).trans (hcb k hlt)
          obtain ⟨x, hx⟩ : ∃ x, xs[k]?.getD 0 = x := ⟨_, rfl⟩
          rw [hx] at ca cb
          clear hca hcb hx
          have HD := Lib.hid hd
          clear hd
          go_wp2
          go_region
          go_wp2
          go_roundw
          case rel => exact ⟨k + 1, by omega, by go_num, HD.out.drew⟩
          case measure => simp [intOf]; first | omega | (have := HZ.out.1; omega)
    · obtain rfl : k = xs.length := by omega
      clear hra hrb
      go_wp2
      go_ret
      exact ⟨rfl, hd⟩
theorem own_ints {w : World} {base : Nat} {r : Value} {ws : List Nat} (h : w.ownsRow base 3 1 r ws.length (Sgf.ints ws)) : Slc .i64 w r ws := by
  obtain ⟨h0, ⟨rfl, hn⟩ | ⟨g, cap, cur, rfl, hg, hb, h1, h2, h3, h4⟩⟩ := h
  · obtain rfl : ws = [] := List.length_eq_zero_iff.1 hn
    exact ⟨none, 0, rfl, Nat.le_refl _, Nat.zero_le _, .inl rfl⟩
  · refine ⟨_, cap, rfl, h1, h2, .inr ⟨g, 0, rfl, (Array.getElem?_eq_some_iff.1 hb).1, fun i hi => ?_⟩⟩
    rw [Nat.zero_add, cell_of_row w g i cur _ _ hb]
    have := congrArg (fun l => l[i]?) h4
    simp only [List.getElem?_take, Nat.mul_one, hi, if_true, Array.getElem?_toList] at this
    rw [this]
    simp [Sgf.ints, hi]
end Go.Proofs.Ytlhhgapimhpgnaa.Srd
