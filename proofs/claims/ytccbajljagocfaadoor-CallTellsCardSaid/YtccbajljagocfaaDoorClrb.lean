/-
  The document's own Name, Many, Code, Answer, Failed.
-/
import Derived.Test.YtccbajljagocfaaDoorClf
import Derived.Test.YtccbajljagocfaaDoorClra
namespace Go.Proofs.YtccbajljagocfaaDoor.Clrb
open Go Go.RowKit Go.Shelf Kit IsaM Cla Clt Clf Clra
set_option linter.unusedVariables false

theorem tx_empty (t : Tx) : (tx t).toList.isEmpty = (t == []) := by rw [tx_nil]; cases t <;> rfl
theorem isCd_eq (n : Int) : isCd n = !(codeT n == []) := rfl
theorem ranswer_any (n : Int) (w : World) : Calls Tryd.prog 19 #[.int .i64 n] w fun e w' => e = .returned (.int .u32 (answer n)) ∧ w = w' := by
  have HC := Lib.hid (rcode_any n w)
  have he := tx_empty (codeT n)
  have hi := isCd_eq n
  cases h : isCd n with
  | true =>
    have hb := cd_one h
    have e : answer n = 4294967296 - n := by unfold answer; rw [if_pos h]
    rw [h] at hi
    have h2 : (tx (codeT n)).toList.isEmpty = false := by rw [he]; simpa using hi
    rw [e]
    clear h e hi he
    generalize tx (codeT n) = t at *
    have hw : wrap64 (4294967296 - n) = 4294967296 - n := IntWalk.wrap64_in _ (by omega)
    go_enter Tryd.func19, Tryd.ntmps19
    go_wp2_with (go_at_call 17; refine HC.out.mono ?_; rintro e w' ⟨rfl, rfl⟩)
    go_ret
    exact ⟨rfl, rfl⟩
  | false =>
    have e : answer n = 0 := by unfold answer; rw [h]; rfl
    rw [h] at hi
    have h2 : (tx (codeT n)).toList.isEmpty = true := by rw [he]; simpa using hi
    rw [e]
    clear h e hi he
    generalize tx (codeT n) = t at *
    go_enter Tryd.func19, Tryd.ntmps19
    go_wp2_with (go_at_call 17; refine HC.out.mono ?_; rintro e w' ⟨rfl, rfl⟩)
    go_ret
    exact ⟨rfl, rfl⟩
theorem failed_hit {c v : Int} (h0 : 0 ≤ v) (h1 : v < 4294967296) (h : isCd c = true) (hv : answer c = v) : failed v = c := by rw [← hv]; exact failed_answer h
theorem failed_miss {v : Int} (h0 : 0 ≤ v) (h1 : v < 4294967296) (h : ∀ c : Int, 1 ≤ c → c ≤ 60 → isCd c = true → answer c ≠ v) : failed v = 0 := by
  unfold failed
  split
  · rename_i hc
    have hb := cd_one hc
    refine absurd ?_ (h _ hb.1 hb.2 hc)
    unfold answer
    rw [if_pos hc]
    unfold neg32 at hb ⊢
    omega
  · rfl
set_option maxHeartbeats 4000000 in
theorem rfailed_any (v : Int) (h0 : 0 ≤ v) (h1 : v < 4294967296) (w : World) : Calls Tryd.prog 21 #[.int .u32 v] w fun e w' => e = .returned (.int .i64 (failed v)) ∧ w = w' := by
  have HA := Lib.hid (fun c => ranswer_any c w)
  have HC := Lib.hid (fun c => rcode_any c w)
  go_enter Tryd.func21, Tryd.ntmps21
  go_wp2
  go_loopw [3] (fun i wr => ∃ k : Nat, 1 ≤ k ∧ k ≤ 61 ∧ i = .int .i64 (k : Int) ∧ Hid (∀ c : Int, 1 ≤ c → c < k → isCd c = true → answer c ≠ v) ∧ w = wr) (fun i _ => 61 - (intOf i).toNat)
  case atStart => exact ⟨1, by omega, by omega, rfl, Lib.hid (fun c h2 h3 => by omega), rfl⟩
  case round =>
    obtain ⟨k, hk1, hk, rfl, hn, rfl⟩ := hrel
    by_cases hlt : k ≤ 60
    · have HK := Lib.hid (HC.out (k : Int))
      have HB := Lib.hid (HA.out (k : Int))
      have he := tx_empty (codeT (k : Int))
      have hi := isCd_eq (k : Int)
      cases h : isCd (k : Int) with
      | true =>
        rw [h] at hi
        have h2 : (tx (codeT (k : Int))).toList.isEmpty = false := by rw [he]; simpa using hi
        clear hi he
        generalize tx (codeT (k : Int)) = t at *
        by_cases hv : answer (k : Int) = v
        · have HF := Lib.hid (failed_hit h0 h1 h hv)
          rw [hv] at HB
          clear h hv
          go_wp2_with (first | (go_at_call 17; refine HK.out.mono ?_; rintro e w' ⟨rfl, rfl⟩) | (go_at_call 19; refine HB.out.mono ?_; rintro e w' ⟨rfl, rfl⟩))
          go_ret
          exact ⟨by rw [HF.out]; rfl, rfl⟩
        · have dv : (answer (k : Int) == v) = false := by simpa using hv
          have HH := Lib.hid (And.intro h hv)
          clear h hv
          obtain ⟨z, hz⟩ : ∃ z, answer (k : Int) = z := ⟨_, rfl⟩
          rw [hz] at HB dv
          have HZ := Lib.hid hz
          clear hz
          go_wp2_with (first | (go_at_call 17; refine HK.out.mono ?_; rintro e w' ⟨rfl, rfl⟩) | (go_at_call 19; refine HB.out.mono ?_; rintro e w' ⟨rfl, rfl⟩))
          go_roundw
          case rel => exact ⟨k + 1, by omega, by omega, by go_num, Lib.hid (fun c h3 h4 h5 => by
            rcases Int.lt_or_le c k with h6 | h6
            · exact hn.out c h3 h6 h5
            · obtain rfl : c = k := by omega
              exact HH.out.2), trivial⟩
          case measure => simp [intOf]; omega
      | false =>
        rw [h] at hi
        have h2 : (tx (codeT (k : Int))).toList.isEmpty = true := by rw [he]; simpa using hi
        have HH := Lib.hid h
        clear hi he h
        generalize tx (codeT (k : Int)) = t at *
        go_wp2_with (first | (go_at_call 17; refine HK.out.mono ?_; rintro e w' ⟨rfl, rfl⟩) | (go_at_call 19; refine HB.out.mono ?_; rintro e w' ⟨rfl, rfl⟩))
        go_roundw
        case rel => exact ⟨k + 1, by omega, by omega, by go_num, Lib.hid (fun c h3 h4 h5 => by
            rcases Int.lt_or_le c k with h6 | h6
            · exact hn.out c h3 h6 h5
            · obtain rfl : c = k := by omega
              rw [HH.out] at h5
              cases h5), trivial⟩
        case measure => simp [intOf]; omega
    · obtain rfl : k = 61 := by omega
      have HF := Lib.hid (failed_miss h0 h1 (fun c h2 h3 => hn.out c h2 (by omega)))
      go_wp2
      go_ret
      exact ⟨by rw [HF.out]; rfl, rfl⟩

end Go.Proofs.YtccbajljagocfaaDoor.Clrb
