/-
  isCall, Name, Many, ByName, Code, isCode, Answer, Failed.
-/
import Derived.Test.YtlddjjkbnhhfaaaDoorClt
import Derived.Outline
namespace Go.Proofs.YtlddjjkbnhhfaaaDoor.Clf
open Go Go.RowKit Go.Shelf Kit IsaM Cla Clt
set_option linter.unusedVariables false

theorem isCall_any (n : Int) (w : World) : Calls Tryd.prog 31 #[.int .i64 n] w fun e w' => e = .returned (.bool (isC n)) ∧ w = w' := by
  by_cases h : 1 ≤ n
  · have e : isC n = decide (n < 23) := by unfold isC; simp [h]
    rw [e]
    clear e
    go_enter Tryd.func31, Tryd.ntmps31
    go_wp2
    go_ret
    exact ⟨rfl, rfl⟩
  · have e : isC n = false := by unfold isC; simp [h]
    rw [e]
    clear e
    go_enter Tryd.func31, Tryd.ntmps31
    go_wp2
    go_ret
    exact ⟨rfl, rfl⟩
theorem name_any (n : Int) (w : World) (hT : Rw w) : Calls Tryd.prog 12 #[.int .i64 n] w fun e w' => e = .returned (.string (tx (nameT n))) ∧ w = w' := by
  have HC := Lib.hid (fun wx => isCall_any n wx)
  cases h : isC n with
  | true =>
    rw [h] at HC
    obtain ⟨k, rfl, h1, h2⟩ := isC_nat h
    obtain ⟨c0, c1⟩ := hT.cells h2
    have e : nameT (k : Int) = wd k := by unfold nameT; rw [h, if_pos rfl, Int.toNat_natCast]
    rw [e]
    have hlt := hT.lt
    clear hT h e c1
    go_enter Tryd.func12, Tryd.ntmps12
    go_wp2_with (go_at_call 31; refine (HC.out _).mono ?_; rintro e w' ⟨rfl, rfl⟩)
    go_ret
    exact ⟨rfl, rfl⟩
  | false =>
    rw [h] at HC
    have e : nameT n = [] := by unfold nameT; rw [h]; rfl
    rw [e]
    clear hT h e
    go_enter Tryd.func12, Tryd.ntmps12
    go_wp2_with (go_at_call 31; refine (HC.out _).mono ?_; rintro e w' ⟨rfl, rfl⟩)
    go_ret
    exact ⟨rfl, rfl⟩
theorem many_any (n : Int) (w : World) (hT : Rw w) : Calls Tryd.prog 13 #[.int .i64 n] w fun e w' => e = .returned (.int .i64 (manyI n)) ∧ w = w' := by
  have HC := Lib.hid (fun wx => isCall_any n wx)
  cases h : isC n with
  | true =>
    rw [h] at HC
    obtain ⟨k, rfl, h1, h2⟩ := isC_nat h
    obtain ⟨c0, c1⟩ := hT.cells h2
    rw [many_nat h1 h2]
    have hlt := hT.lt
    clear hT h c0
    go_enter Tryd.func13, Tryd.ntmps13
    go_wp2_with (go_at_call 31; refine (HC.out _).mono ?_; rintro e w' ⟨rfl, rfl⟩)
    go_ret
    exact ⟨rfl, rfl⟩
  | false =>
    rw [h] at HC
    rw [many_no h]
    clear hT h
    go_enter Tryd.func13, Tryd.ntmps13
    go_wp2_with (go_at_call 31; refine (HC.out _).mono ?_; rintro e w' ⟨rfl, rfl⟩)
    go_ret
    exact ⟨rfl, rfl⟩

def rowV (k : Nat) : Value := .agg #[.string (tx (wd k)), .int .i64 (mn k : Int)]
def rowsV : Value := .agg rowsC
theorem idx_fin : ∀ k : Nat, k < 23 → ∀ w, (Instr.index 64 rowsV (.int .i64 (k : Int))).run Tryd.prog w = .ok (rowV k) w
  | 0, _ => fun _ => by kernel_rfl
  | 1, _ => fun _ => by kernel_rfl
  | 2, _ => fun _ => by kernel_rfl
  | 3, _ => fun _ => by kernel_rfl
  | 4, _ => fun _ => by kernel_rfl
  | 5, _ => fun _ => by kernel_rfl
  | 6, _ => fun _ => by kernel_rfl
  | 7, _ => fun _ => by kernel_rfl
  | 8, _ => fun _ => by kernel_rfl
  | 9, _ => fun _ => by kernel_rfl
  | 10, _ => fun _ => by kernel_rfl
  | 11, _ => fun _ => by kernel_rfl
  | 12, _ => fun _ => by kernel_rfl
  | 13, _ => fun _ => by kernel_rfl
  | 14, _ => fun _ => by kernel_rfl
  | 15, _ => fun _ => by kernel_rfl
  | 16, _ => fun _ => by kernel_rfl
  | 17, _ => fun _ => by kernel_rfl
  | 18, _ => fun _ => by kernel_rfl
  | 19, _ => fun _ => by kernel_rfl
  | 20, _ => fun _ => by kernel_rfl
  | 21, _ => fun _ => by kernel_rfl
  | 22, _ => fun _ => by kernel_rfl
  | k + 23, h => absurd h (by omega)
theorem byF_at {t : Tx} : ∀ (f k j : Nat), f + k = 23 → k ≤ j → j < 23 → (∀ i, k ≤ i → i < j → wd i ≠ t) → wd j = t → byF t f k = j
  | 0, k, j, h, h1, h2, _, _ => by omega
  | f + 1, k, j, h, h1, h2, h3, h4 => by
    unfold byF
    by_cases e : k = j
    · rw [e, if_pos h4]
    · rw [if_neg (h3 k (Nat.le_refl _) (by omega))]
      exact byF_at f (k + 1) j (by omega) (by omega) h2 (fun i h5 h6 => h3 i (by omega) h6) h4
theorem byT_at {t : Tx} {k : Nat} (h : ∀ j, j < k → wd j ≠ t) (hk : k < 23) (he : wd k = t) : byT t = k := byF_at 23 0 k rfl (Nat.zero_le _) hk (fun i _ hi => h i hi) he
theorem byT_none {t : Tx} (h : ∀ j, j < 23 → wd j ≠ t) : byT t = 0 := by
  rcases byF_spec t 23 0 rfl with ⟨j, -, h2, h3, h4⟩ | ⟨h1, h2⟩
  · exact absurd h3 (h j h2)
  · exact h2
theorem toList_eq (s : ByteArray) : s.toList = s.data.toList := ByteArray.toList_eq s
set_option maxHeartbeats 1000000 in
theorem byName_any (s : ByteArray) (w : World) (hT : Rw w) :
    Calls Tryd.prog 15 #[.string s] w fun e w' => e = .returned (.int .i64 (byT s.data.toList : Int)) ∧ Below w.heap.size w w' := by
  obtain ⟨t, fr, hh⟩ := hT
  have hh0 := Lib.hid hh
  clear hh
  go_enter Tryd.func15, Tryd.ntmps15
  go_wp2_with (refine wpList_load_row rfl 64 (.global 0) rfl 0 rfl t rowsC fr _ hh0.out Tryd.underlying64 rfl (by kernel_rfl) ?_)
  go_loopw [6] (fun i wr => ∃ k : Nat, k ≤ 23 ∧ i = .int .i64 (k : Int) ∧ Hid (∀ j, j < k → wd j ≠ s.data.toList) ∧ Below w.heap.size w wr) (fun i _ => 23 - (intOf i).toNat)
  case atStart => exact ⟨0, by omega, rfl, Lib.hid (fun j h => by omega), Below.refl _ _⟩
  case round =>
    obtain ⟨k, hk, rfl, hn, hb⟩ := hrel
    by_cases hlt : k < 23
    · have hix := fun wx => idx_fin k hlt wx
      unfold rowsV rowV at hix
      by_cases heq : wd k = s.data.toList
      · have HE := Lib.hid (byT_at hn.out hlt heq)
        have hq : (wd k == s.toList) = true := by rw [toList_eq]; simpa using heq
        clear heq
        unfold tx at hix
        go_wp2
        go_ret
        exact ⟨by rw [HE.out]; rfl, hb.alloc hb.size _⟩
      · have HE := Lib.hid heq
        have hq : (wd k == s.toList) = false := by rw [toList_eq]; simpa using heq
        clear heq
        unfold tx at hix
        go_wp2
        go_roundw
        case rel => exact ⟨k + 1, by omega, by go_num, Lib.hid (fun j h => by
            rcases Nat.lt_or_ge j k with h1 | h1
            · exact hn.out j h1
            · obtain rfl : j = k := by omega
              exact HE.out), hb.alloc hb.size _⟩
        case measure => simp [intOf]; omega
    · obtain rfl : k = 23 := by omega
      have HE := Lib.hid (byT_none hn.out)
      clear hlt hk
      go_wp2
      go_ret
      exact ⟨by rw [HE.out]; rfl, hb⟩

theorem code_any (n : Int) (w : World) (hT : Cd w) : Calls Tryd.prog 16 #[.int .i64 n] w fun e w' => e = .returned (.string (tx (codeT n))) ∧ w = w' := by
  by_cases h0 : n < 0
  · have e : codeT n = [] := by unfold codeT; rw [if_pos (.inl h0)]
    rw [e]
    clear hT e
    go_enter Tryd.func16, Tryd.ntmps16
    go_wp2
    go_ret
    exact ⟨rfl, rfl⟩
  · by_cases h1 : 61 ≤ n
    · have e : codeT n = [] := by unfold codeT; rw [if_pos (.inr h1)]
      rw [e]
      clear hT e
      go_enter Tryd.func16, Tryd.ntmps16
      go_wp2
      go_ret
      exact ⟨rfl, rfl⟩
    · obtain ⟨k, rfl⟩ := Int.eq_ofNat_of_zero_le (show 0 ≤ n by omega)
      have hk : k < 61 := by omega
      have c0 := hT.cell hk
      have e : codeT (k : Int) = cd k := by unfold codeT; rw [if_neg (by omega), Int.toNat_natCast]
      rw [e]
      have hlt := hT.lt
      clear hT e h0
      go_enter Tryd.func16, Tryd.ntmps16
      go_wp2
      go_ret
      exact ⟨rfl, rfl⟩
theorem tx_nil {l : Tx} : (tx l).toList = l := by rw [toList_eq]; rfl
theorem isCode_any (n : Int) (w : World) (hT : Cd w) : Calls Tryd.prog 33 #[.int .i64 n] w fun e w' => e = .returned (.bool (isCd n)) ∧ w = w' := by
  have HC := Lib.hid (code_any n w hT)
  have e : isCd n = (codeT n != []) := rfl
  rw [e]
  generalize codeT n = t at *
  clear e hT
  go_enter Tryd.func33, Tryd.ntmps33
  go_wp2_with (go_at_call 16; refine HC.out.mono ?_; rintro e w' ⟨rfl, rfl⟩)
  go_ret
  refine ⟨?_, rfl⟩
  show Ending.returned (.bool (!(tx t).toList.isEmpty)) = _
  rw [tx_nil]
  cases t <;> rfl
theorem answer_any (n : Int) (w : World) (hT : Cd w) : Calls Tryd.prog 18 #[.int .i64 n] w fun e w' => e = .returned (.int .u32 (answer n)) ∧ w = w' := by
  have HC := Lib.hid (isCode_any n w hT)
  cases h : isCd n with
  | true =>
    rw [h] at HC
    have hb := cd_one h
    have e : answer n = 4294967296 - n := by unfold answer; rw [if_pos h]
    rw [e]
    clear hT h e
    go_enter Tryd.func18, Tryd.ntmps18
    go_wp2_with (go_at_call 33; refine HC.out.mono ?_; rintro e w' ⟨rfl, rfl⟩)
    go_ret
    refine ⟨?_, rfl⟩
    show Ending.returned (.int .u32 (-n % 4294967296)) = _
    rw [show -n % 4294967296 = 4294967296 - n by omega]
  | false =>
    rw [h] at HC
    have e : answer n = 0 := by unfold answer; rw [h]; rfl
    rw [e]
    clear hT h e
    go_enter Tryd.func18, Tryd.ntmps18
    go_wp2_with (go_at_call 33; refine HC.out.mono ?_; rintro e w' ⟨rfl, rfl⟩)
    go_ret
    exact ⟨rfl, rfl⟩
theorem failed_any (v : Int) (h0 : 0 ≤ v) (h1 : v < 4294967296) (w : World) (hT : Cd w) : Calls Tryd.prog 20 #[.int .u32 v] w fun e w' => e = .returned (.int .i64 (failed v)) ∧ w = w' := by
  have HC := Lib.hid (isCode_any (neg32 v) w hT)
  have hb := neg32_bd v
  have hw : wrap64 (neg32 v) = neg32 v := IntWalk.wrap64_in _ (by omega)
  have hv : -v % 4294967296 = neg32 v := rfl
  have e : failed v = if isCd (neg32 v) then neg32 v else 0 := rfl
  rw [e]
  generalize neg32 v = c at *
  clear e hT
  cases h : isCd c with
  | true =>
    rw [h] at HC
    go_enter Tryd.func20, Tryd.ntmps20
    go_wp2_with (go_at_call 33; refine HC.out.mono ?_; rintro e w' ⟨rfl, rfl⟩)
    go_ret
    exact ⟨rfl, rfl⟩
  | false =>
    rw [h] at HC
    go_enter Tryd.func20, Tryd.ntmps20
    go_wp2_with (go_at_call 33; refine HC.out.mono ?_; rintro e w' ⟨rfl, rfl⟩)
    go_ret
    exact ⟨rfl, rfl⟩
end Go.Proofs.YtlddjjkbnhhfaaaDoor.Clf
