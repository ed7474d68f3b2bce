/-
  The document's digits of a number.
-/
import Derived.Test.YtocbilaaklapkaaDoorFuint
import Derived.WalkSpells
import Derived.BigRegion
namespace Go.Proofs.YtocbilaaklapkaaDoor.Rdig3
open Go Go.RowKit Kit IsaM IsaT IsaN
set_option linter.unusedVariables false

theorem st_toList (l : List UInt8) : (st l).toList = l := by
  rw [ByteArray.toList_eq]
  rfl
theorem one_st (m : Nat) (h : m < 256) : strOfNums [(m : Int)] = st [UInt8.ofNat m] := by
  apply ByteArray.ext
  rfl
theorem dd_one {u : Nat} (h : u < 10) : Lib.decDigits u = [UInt8.ofNat (48 + u)] := by rw [Lib.decDigits, dif_pos h]

/-- What holds when k digits have been told, l, and m is left. -/
def Dinv (n k m : Nat) (l : List UInt8) : Prop :=
  (0 < m ∧ Lib.decDigits n = Lib.decDigits m ++ l ∧ m * 10 ^ k ≤ n) ∨ (m = 0 ∧ l = [] ∧ n = 0 ∧ k = 0) ∨ (m = 0 ∧ l ≠ [] ∧ l = Lib.decDigits n)
theorem Dinv.step {n k m : Nat} {l : List UInt8} (h : 0 < m) (hi : Dinv n k m l) : Dinv n (k + 1) (m / 10) (UInt8.ofNat (48 + m % 10) :: l) := by
  rcases hi with ⟨_, h1, h2⟩ | ⟨h1, _⟩ | ⟨h1, _⟩
  · by_cases h10 : m < 10
    · refine .inr (.inr ⟨by omega, by simp, ?_⟩)
      rw [h1, dd_one h10, show m % 10 = m from by omega]
      rfl
    · refine .inl ⟨by omega, ?_, ?_⟩
      · rw [h1]
        conv => lhs; rw [Lib.decDigits]
        rw [dif_neg h10, List.append_assoc]
        rfl
      · refine Nat.le_trans ?_ h2
        rw [Nat.pow_succ, Nat.mul_comm (10 ^ k) 10, ← Nat.mul_assoc]
        exact Nat.mul_le_mul_right _ (by omega)
  · omega
  · omega
theorem Dinv.small {n k m : Nat} {l : List UInt8} (h : 0 < m) (hn : n ≤ 1000000000000) (hi : Dinv n k m l) : k < 19 := by
  rcases hi with ⟨_, h1, h2⟩ | ⟨h1, _⟩ | ⟨h1, _⟩
  · rcases Nat.lt_or_ge k 19 with h7 | h7
    · exact h7
    · exfalso
      have h3 : 10 ^ 19 ≤ 10 ^ k := Nat.pow_le_pow_right (by decide) h7
      have h4 : 1 * 10 ^ k ≤ m * 10 ^ k := Nat.mul_le_mul_right _ h
      omega
  · omega
  · omega

set_option maxHeartbeats 2000000 in
theorem digits_nat (n : Nat) (hn : n ≤ 1000000000000) (w : World) :
    Calls Tryd.prog 36 #[.int .i64 (n : Int)] w fun e w' => e = .returned (.string (st (Lib.decDigits n))) ∧ Below w.heap.size w w' := by
  have hcv := fun (wx : World) (c : Int) => run_convert_bytes_arg (P := Tryd.prog) (wx.alloc (.cells #[.int .u8 c] 5)) 49 5 Tryd.underlying49 Tryd.underlying5 wx.heap.size 0 1 1 [c] rfl (fun i hi => by rw [World.cell?_alloc_at _ _ _ _ rfl]; obtain rfl : i = 0 := (by omega); rfl) 9 Tryd.underlying9
  have hn0 : ¬ ((n : Int) < 0) := by omega
  go_enter Tryd.func36, Tryd.ntmps36
  go_wp2
  go_loopw [0, 3, 4] (fun x s i wr => ∃ (k m : Nat) (l : List UInt8), k ≤ 20 ∧ m ≤ 1000000000000 ∧ i = .int .i64 k ∧ x = .int .i64 m ∧ s = .string (st l) ∧ l.length ≤ 20 ∧ Hid (Dinv n k m l ∧ l.length = k) ∧ Below w.heap.size w wr) (fun _ _ i _ => 20 - (intOf i).toNat)
  case atStart =>
    refine ⟨0, n, [], by omega, hn, rfl, rfl, rfl, by simp, ⟨?_, rfl⟩, Below.refl _ _⟩
    by_cases h0 : n = 0
    · exact .inr (.inl ⟨h0, rfl, h0, rfl⟩)
    · exact .inl ⟨by omega, by simp, by simp⟩
  case round =>
    obtain ⟨k, m, l, hk, hm, rfl, rfl, rfl, hl, HI, hb⟩ := hrel
    by_cases h0 : 0 < m
    · have hs := HI.out.1.small h0 hn
      have hlen := HI.out.2
      have hz : (st l).size ≤ 20 := by rw [st_size]; exact hl
      have hz1 : (strOfNums [48 + (m : Int) % 10]).size ≤ 1 := by rw [strOfNums_size]; simp
      have HN := Lib.hid (HI.out.1.step h0)
      have HL := Lib.hid hlen
      clear HI hlen
      go_wp2
      go_roundw
      case rel =>
        exact ⟨k + 1, m / 10, UInt8.ofNat (48 + m % 10) :: l, by omega, by omega, by go_num, by go_num, by rw [show (48 + (m : Int) % 10) = ((48 + m % 10 : Nat) : Int) from by omega, one_st _ (by omega), st_app]; rfl, by have := HL.out; simp; omega, ⟨HN.out, by simp [HL.out]⟩, hb.alloc hb.size _⟩
      case measure => simp [intOf]; omega
    · obtain rfl : m = 0 := by omega
      have e0 : ((0 : Nat) : Int) = 0 := rfl
      rcases HI.out with ⟨⟨h1, _⟩ | ⟨_, rfl, h3, rfl⟩ | ⟨_, h2, h3⟩, hlen⟩
      · omega
      · have HD := Lib.hid h3
        have e1 : st [] = ⟨#[]⟩ := rfl
        clear HI hlen h3 h0
        rw [e0, e1]
        have hz1 : (strOfNums [48]).size ≤ 1 := by rw [strOfNums_size]; simp
        clear e0 e1
        go_wp2
        go_roundw
        case rel =>
          refine ⟨1, 0, [48], by omega, by omega, rfl, rfl, ?_, by simp, ⟨.inr (.inr ⟨rfl, by simp, by rw [HD.out, dd_one (by omega)]; rfl⟩), rfl⟩, hb.alloc hb.size _⟩
          exact congrArg Value.string (ByteArray.ext rfl)
        case measure => simp [intOf]
      · have HD := Lib.hid h3
        have e2 : (st l).toList.isEmpty = false := by
          rw [st_toList]
          cases l with
          | nil => exact absurd rfl h2
          | cons c r => rfl
        clear HI hlen h3 h0 h2
        obtain ⟨S, hS⟩ : ∃ S, st l = S := ⟨_, rfl⟩
        rw [hS] at e2 ⊢
        have HS := Lib.hid hS
        clear hS
        rw [e0]
        clear e0
        go_wp2
        all_goals go_ret
        all_goals exact ⟨by show Ending.returned (.string S) = _; rw [← HS.out, HD.out], hb⟩

/-- The document's digits are a number's numeral. -/
theorem digits_any (v : Int) (h0 : -1000000000000 ≤ v) (h1 : v ≤ 1000000000000) (w : World) :
    Calls Tryd.prog 36 #[.int .i64 v] w fun e w' => e = .returned (.string (st (Lib.itoa v))) ∧ Below w.heap.size w w' := by
  by_cases hv : v < 0
  · obtain ⟨u, rfl⟩ : ∃ u : Nat, v = -(u : Int) := ⟨v.natAbs, by omega⟩
    have HD := Lib.hid (fun wx => digits_nat u (by omega) wx)
    have hu : wrap64 (u : Int) = (u : Int) := IntWalk.wrap64_in _ (by omega)
    have hsz : (st (Lib.decDigits u)).size ≤ 21 := by
      have h2 := itoa_size (n := (u : Int)) ⟨by omega, by omega⟩
      rwa [Lib.itoa_nonneg] at h2
    go_enter Tryd.func36, Tryd.ntmps36
    go_wp2_with (first | (go_at_call 36; go_loud ((with_reducible refine (HD.out _).mono ?_); rintro e w1 ⟨rfl, hb1⟩; refine Hid.out ?_)))
    refine Lib.hid ?_
    go_wp2
    go_ret
    refine ⟨?_, hb1⟩
    rw [Lib.itoa_neg u (by omega)]
    show Ending.returned (.string (st [45] ++ st (Lib.decDigits u))) = _
    rw [st_app]
    rfl
  · obtain ⟨u, rfl⟩ := Int.eq_ofNat_of_zero_le (show 0 ≤ v by omega)
    rw [Lib.itoa_nonneg]
    exact digits_nat u (by omega) w
end Go.Proofs.YtocbilaaklapkaaDoor.Rdig3
