/-
  The document's own Words: words of bytes, read four by four.
-/
import Derived.Test.YthacghmgkpbdoaaBackNums
import Derived.WalkSpells
import Derived.BigRegion
namespace Go.Proofs.Ythacghmgkpbdoaa.RefWords
open Go Go.RowKit Nums Kit Leaf Bytes Join Quads Words BackNums
set_option linter.unusedVariables false

attribute [local go_sem ↓] app_wrap

theorem u32s_append (a b : List Nat) : u32s (a ++ b) = u32s a ++ u32s b := by simp [u32s]
theorem rwords_no (v : Value) (xs : List Nat) (w : World) (hx : Slc .u8 w v xs) (hlen : xs.length ≤ 10000) (h4 : xs.length % 4 ≠ 0) :
    Calls Try.prog 14 #[v] w fun e w' => e = .returned (.tuple #[.slice none 0 0, .int .i64 10]) ∧ w = w' := by
  obtain ⟨a, cap, rfl, hcap, hmax, hread⟩ := hx
  unfold maxLen at hmax
  have hne : (((xs.length : Nat) : Int) % 4 != 0) = true := by simp; omega
  have hnb : ((xs.length : Nat) : Int) ≤ 10000 := by omega
  clear hread
  go_enter Try.func14, Try.ntmps14
  go_wp2
  go_ret2
  exact ⟨rfl, rfl⟩

theorem rwords_yes (v : Value) (xs : List Nat) (w : World) (hx : Slc .u8 w v xs) (hb : ∀ x ∈ xs, x < 256) (hlen : xs.length ≤ 10000) (h4 : xs.length % 4 = 0) :
    Calls Try.prog 14 #[v] w fun e w' => ∃ m, e = .returned (.tuple #[m, .int .i64 0]) ∧ w'.ownsRow w.heap.size 22 1 m (xs.length / 4) (u32s ((List.range (xs.length / 4)).map (wd xs))) ∧ Below w.heap.size w w' := by
  obtain ⟨a, cap, rfl, hcap, hmax, hread⟩ := hx
  unfold maxLen at hmax
  have hne : (((xs.length : Nat) : Int) % 4 != 0) = false := by simp; omega
  have hnb : ((xs.length : Nat) : Int) ≤ 10000 := by omega
  obtain ⟨i0, hi, hz0, hz1, hz2⟩ := info_parts info22
  have HQ := Lib.hid (qb_lt hb)
  have H4 := Lib.hid h4
  clear hb h4
  go_enter Try.func14, Try.ntmps14
  go_wp2
  go_loopw [4, 5] (fun o i wr => ∃ k : Nat, 4 * k ≤ xs.length ∧ i = .int .i64 ((4 * k : Nat) : Int) ∧ wr.ownsRow w.heap.size 22 1 o k (u32s ((List.range k).map (wd xs))) ∧ Below w.heap.size w wr) (fun _ i _ => xs.length - (intOf i).toNat)
  case atStart => exact ⟨0, Nat.zero_le _, rfl, World.ownsRow_nil _ _ _ _, Below.refl _ w⟩
  case round =>
    obtain ⟨k, hk, rfl, hown, hbw⟩ := hrel
    by_cases hlt : 4 * k < xs.length
    · rcases hread with h0 | ⟨b, off, rfl, hblt, hcells⟩
      · subst h0; simp at hlt
      · have h4 := H4.out
        have hle : 4 * k + 4 ≤ xs.length := by omega
        have hc : ∀ j, j < 4 → wr.cell? ⟨b, off + (4 * k + j), none⟩ = some (.int .u8 ((qb xs k j : Nat) : Int)) := fun j hj => by
          rw [hbw.cell (p := ⟨b, off + (4 * k + j), none⟩) hblt, hcells (4 * k + j) (by omega)]
          unfold qb bt
          rw [List.getElem?_drop]
        clear hcells
        obtain ⟨q0, e0⟩ : ∃ q, qb xs k 0 = q := ⟨_, rfl⟩
        obtain ⟨q1, e1⟩ : ∃ q, qb xs k 1 = q := ⟨_, rfl⟩
        obtain ⟨q2, e2⟩ : ∃ q, qb xs k 2 = q := ⟨_, rfl⟩
        obtain ⟨q3, e3⟩ : ∃ q, qb xs k 3 = q := ⟨_, rfl⟩
        have b0 : q0 < 256 := by rw [← e0]; exact HQ.out 0 k
        have b1 : q1 < 256 := by rw [← e1]; exact HQ.out 1 k
        have b2 : q2 < 256 := by rw [← e2]; exact HQ.out 2 k
        have b3 : q3 < 256 := by rw [← e3]; exact HQ.out 3 k
        have c0 := hc 0 (by omega)
        have c1 := hc 1 (by omega)
        have c2 := hc 2 (by omega)
        have c3 := hc 3 (by omega)
        rw [e0] at c0
        rw [e1] at c1
        rw [e2] at c2
        rw [e3] at c3
        obtain ⟨j, hj⟩ : ∃ j, 4 * k = j := ⟨_, rfl⟩
        rw [hj] at c0 c1 c2 c3 hk hlt hle ⊢
        rw [Nat.add_zero] at c0
        clear h4 hc
        have i0' : (0 : Int) ≤ (j : Int) ∧ (j : Int) + 3 < (xs.length : Int) ∧ (j : Int) ≤ 10000 := by omega
        obtain ⟨X, hX⟩ : ∃ X : Value, Value.int .u32 ((q0 : Int) + 256 * (q1 : Int) + 65536 * (q2 : Int) + 16777216 * (q3 : Int)) = X := ⟨_, rfl⟩
        have hXw : X = .int .u32 ((wd xs k : Nat) : Int) := by rw [← hX]; unfold wd; rw [e0, e1, e2, e3]; unfold jn; simp
        obtain ⟨v', w2, hrun, hown', hgrow, -⟩ := run_append_own (P := Try.prog) (w := (wr.alloc (.cells #[X] 22)).drew) w.heap.size 23 23 22 i0 (.int .u32 0) 1 4 Try.underlying23 hi hz0 hz1 hz2 rfl (by decide) u4 k (u32s ((List.range k).map (wd xs))) (hown.alloc _).drew ⟨wr.heap.size, 0, none⟩ 1 1 [X] rfl
          (by intro j u hj; have hj0 : j = 0 := (by cases j with | zero => rfl | succ j => simp at hj); subst hj0; simp at hj; subst hj; simp [Addr.add]) (by rw [hXw]; simp [Value.oneCell']) (by unfold maxLen; omega) (by omega) (by have := hbw.size; simp; omega)
        have hrun' : (appO #[23, 23] 23 #[u4, .slice (some ⟨wr.heap.size, 0, none⟩) 1 1]).run Try.prog ((wr.alloc (.cells #[.int .u32 ((q0 : Int) + 256 * (q1 : Int) + 65536 * (q2 : Int) + 16777216 * (q3 : Int))] 22)).drew) = .ok v' w2 := by rw [hX]; exact hrun
        clear hrun
        have HX := Lib.hid hXw
        have HJ := Lib.hid hj
        clear hX hXw hj e0 e1 e2 e3
        go_wp2
        go_region
        all_goals go_wp2
        all_goals go_roundw
        case rel =>
          refine ⟨k + 1, by have := HJ.out; omega, by have := HJ.out; rw [show ((4 * (k + 1) : Nat) : Int) = (j : Int) + 4 by omega], ?_, ?_⟩
          · rw [List.range_succ, List.map_append, u32s_append]
            have h1 := hown'
            rw [HX.out] at h1
            exact h1
          · exact (((hbw.alloc hbw.size _).drew)).grown hgrow (by have h1 := hbw.size; simp; omega) (fun j h => (hown.lt j h).1)
        case measure => simp [intOf]; omega
    · have hkk : 4 * k = xs.length := by have := H4.out; omega
      have hk4 : xs.length / 4 = k := by omega
      clear hread
      rw [hkk]
      go_wp2
      go_ret2
      exact ⟨_, rfl, by rw [hk4]; exact hown, hbw⟩
end Go.Proofs.Ythacghmgkpbdoaa.RefWords
