/-
  The document's label: is a text a name?
-/
import Derived.Test.YtocbilaaklapkaaDoorIsaA
import Derived.Test.YtocbilaaklapkaaDoorRa
namespace Go.Proofs.YtocbilaaklapkaaDoor.Rl
open Go Go.RowKit Kit IsaM IsaT IsaN IsaD IsaA
set_option linter.unusedVariables false

theorem len_eq (s : ByteArray) : s.data.toList.length = s.size := by simp
theorem isNm_no {s : ByteArray} {j : Nat} (h : j < s.size) (hb : isLet s[j] = false) (hd : isDg s[j] = false ∨ j = 0) : isNm s.data.toList = false := by
  rw [Bool.eq_false_iff]
  intro hn
  have h1 := ((isNm_iff _).1 hn).1 j (by rw [len_eq]; exact h) (by rw [len_eq]; exact h)
  have e : s.data.toList[j]'(by rw [len_eq]; exact h) = s[j] := rfl
  rw [e, hb] at h1
  rcases hd with hd | hd
  · rw [hd] at h1; simp at h1
  · subst hd; simp at h1
theorem isNm_len {s : ByteArray} (h : s.size = 0 ∨ 16 < s.size) : isNm s.data.toList = false := by
  rw [Bool.eq_false_iff]
  intro hn
  have h1 := ((isNm_iff _).1 hn).2
  rw [len_eq] at h1
  omega
def Up (s : ByteArray) (k : Nat) : Prop := NmTo s.data.toList k
theorem up_next {s : ByteArray} {k : Nat} (h : k < s.size) (hu : Up s k) (hc : isLet s[k] = true ∨ (isDg s[k] = true ∧ 0 < k)) : Up s (k + 1) := fun j hj hjk => by
  rcases Nat.lt_or_ge j k with h1 | h1
  · exact hu j hj h1
  · obtain rfl : j = k := by omega
    exact hc

set_option maxHeartbeats 2000000 in
theorem label_go (s : ByteArray) (w : World) (h0 : 0 < s.size) (h16 : s.size ≤ 16) (hl : isLet s[0] = true) :
    Calls Tryd.prog 43 #[.string s] w fun e w' => e = .returned (.bool (isNm s.data.toList)) ∧ w = w' := by
  obtain ⟨R, hR⟩ : ∃ R, isNm s.data.toList = R := ⟨_, rfl⟩
  rw [hR]
  have HR := Lib.hid hR
  have HL := Lib.hid hl
  have hl2 : 97 ≤ s[0].toNat ∧ s[0].toNat ≤ 122 := by unfold isLet at hl; simpa using hl
  obtain ⟨l1, l2⟩ := hl2
  have hz0 : ((s.size : Int) == 0) = false := by rw [beq_eq_false_iff_ne]; omega
  have hsz0 : decide (16 < (s.size : Int)) = false := decide_eq_false (by omega)
  clear hR hl
  go_enter Tryd.func43, Tryd.ntmps43
  go_wp2
  go_loop [3] (fun i => ∃ k : Nat, k ≤ s.size ∧ i = .int .i64 (k : Int) ∧ Hid (Up s k)) (fun i => (s.size + 1 - (intOf i).toNat))
  case atStart => exact ⟨0, by omega, rfl, fun j hj hjk => by omega⟩
  case round =>
    obtain ⟨k, hk, rfl, HD⟩ := hrel
    by_cases hlt : k < s.size
    · obtain ⟨x, hx⟩ : ∃ x : UInt8, s[k]'hlt = x := ⟨_, rfl⟩
      have HX := Lib.hid hx
      have hxb : x.toNat < 256 := x.toNat_lt
      by_cases h97 : x.toNat < 97
      · by_cases h48 : x.toNat < 48
        · have hRf : R = false := by rw [← HR.out]; exact isNm_no hlt (by rw [HX.out]; unfold isLet; simp; omega) (.inl (by rw [HX.out]; unfold isDg; simp; omega))
          subst hRf
          go_wp2
          go_ret
          exact ⟨rfl, rfl⟩
        · by_cases h57 : 57 < x.toNat
          · have hRf : R = false := by rw [← HR.out]; exact isNm_no hlt (by rw [HX.out]; unfold isLet; simp; omega) (.inl (by rw [HX.out]; unfold isDg; simp; omega))
            subst hRf
            go_wp2
            go_ret
            exact ⟨rfl, rfl⟩
          · have HN : Hid (Up s (k + 1)) := Lib.hid (up_next hlt HD.out (.inr ⟨by rw [HX.out]; unfold isDg; simp; omega, by
              rcases Nat.eq_zero_or_pos k with h | h
              · subst h
                have := HL.out
                rw [HX.out] at this
                unfold isLet at this
                simp at this
                omega
              · exact h⟩))
            go_wp2
            go_round
            case rel => exact ⟨k + 1, by omega, by go_num, HN⟩
            case measure => simp [intOf]; omega
      · by_cases h122 : 122 < x.toNat
        · have hRf : R = false := by rw [← HR.out]; exact isNm_no hlt (by rw [HX.out]; unfold isLet; simp; omega) (.inl (by rw [HX.out]; unfold isDg; simp; omega))
          subst hRf
          go_wp2
          go_ret
          exact ⟨rfl, rfl⟩
        · have HN : Hid (Up s (k + 1)) := Lib.hid (up_next hlt HD.out (.inl (by rw [HX.out]; unfold isLet; simp; omega)))
          go_wp2
          go_round
          case rel => exact ⟨k + 1, by omega, by go_num, HN⟩
          case measure => simp [intOf]; omega
    · obtain rfl : k = s.size := by omega
      have hRt : R = true := by
        rw [← HR.out, isNm_iff, len_eq]
        exact ⟨HD.out, by omega, by omega⟩
      subst hRt
      go_wp2
      go_ret
      exact ⟨rfl, rfl⟩

theorem rlabel_any (s : ByteArray) (w : World) (hs : s.size ≤ 1000000) :
    Calls Tryd.prog 43 #[.string s] w fun e w' => e = .returned (.bool (isNm s.data.toList)) ∧ w = w' := by
  by_cases h0 : s.size = 0
  · rw [isNm_len (.inl h0)]
    have hz0 : ((s.size : Int) == 0) = true := by rw [h0]; rfl
    go_enter Tryd.func43, Tryd.ntmps43
    go_wp2
    go_ret
    exact ⟨rfl, rfl⟩
  · have hz0 : ((s.size : Int) == 0) = false := by rw [beq_eq_false_iff_ne]; omega
    by_cases h16 : 16 < s.size
    · rw [isNm_len (.inr h16)]
      have hsz0 : decide (16 < (s.size : Int)) = true := decide_eq_true (by omega)
      go_enter Tryd.func43, Tryd.ntmps43
      go_wp2
      go_ret
      exact ⟨rfl, rfl⟩
    · have hp : 0 < s.size := by omega
      have hsz0 : decide (16 < (s.size : Int)) = false := decide_eq_false (by omega)
      by_cases hl : isLet s[0] = true
      · exact label_go s w hp (by omega) hl
      · rw [isNm_no hp (by simpa using hl) (.inr rfl)]
        obtain ⟨x, hx⟩ : ∃ x : UInt8, s[0]'hp = x := ⟨_, rfl⟩
        have hxb : x.toNat < 256 := x.toNat_lt
        have hl2 : x.toNat < 97 ∨ 122 < x.toNat := by
          rw [hx] at hl
          unfold isLet at hl
          simp at hl
          omega
        clear hl
        by_cases h97 : x.toNat < 97
        · go_enter Tryd.func43, Tryd.ntmps43
          go_wp2
          go_ret
          exact ⟨rfl, rfl⟩
        · have h122 : 122 < x.toNat := by omega
          go_enter Tryd.func43, Tryd.ntmps43
          go_wp2
          go_ret
          exact ⟨rfl, rfl⟩
end Go.Proofs.YtocbilaaklapkaaDoor.Rl
