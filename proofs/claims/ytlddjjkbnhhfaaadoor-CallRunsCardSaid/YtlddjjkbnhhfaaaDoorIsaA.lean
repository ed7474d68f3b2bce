/-
  number of package isa at any text; isName; whole.
-/
import Derived.Test.YtlddjjkbnhhfaaaDoorIsaD
import Derived.Lib.OthersKept
import Derived.Laws.RangeAny
namespace Go.Proofs.YtlddjjkbnhhfaaaDoor.IsaA
open Go Go.RowKit Kit IsaM IsaT IsaL IsaC IsaE IsaN IsaD
set_option linter.unusedVariables false

theorem natOf_nil : natOf [] = none := by unfold natOf; simp
theorem natOf_long {t : Tx} (h : 10 < t.length) : natOf t = none := by unfold natOf; rw [if_pos (.inr (.inl h))]
theorem natOf_lead {t : Tx} (h : t.head? = some 48) (h2 : t ≠ [48]) : natOf t = none := by unfold natOf; rw [if_pos (.inr (.inr (.inl ⟨h, h2⟩)))]

set_option maxHeartbeats 1000000 in
theorem number_any (s : ByteArray) (w : World) (hs : s.size ≤ 9223372036854775807) :
    Calls Tryd.prog 60 #[.string s] w fun e w' => e = .returned (natV (natOf s.data.toList)) ∧ w = w' := by
  have hlen : s.data.toList.length = s.size := by simp
  by_cases h0 : s.size = 0
  · obtain rfl : s = ⟨#[]⟩ := by
      apply ByteArray.ext
      apply Array.ext'
      cases h : s.data.toList with
      | nil => rfl
      | cons a b => rw [h] at hlen; simp at hlen; omega
    rw [show (⟨#[]⟩ : ByteArray).data.toList = [] from rfl, natOf_nil]
    go_enter Tryd.func60, Tryd.ntmps60
    go_wp2
    go_step3
    go_wp2
    rw [Exit.noGoto_ret]
    go_ret2
    exact ⟨rfl, rfl⟩
  · have hne : (s.toList == []) = false := by
      rw [ByteArray.toList_eq]
      cases h : s.data.toList with
      | nil => rw [h] at hlen; simp at hlen; omega
      | cons a b => rfl
    by_cases h10 : 10 < s.size
    · rw [natOf_long (by omega)]
      have hd : decide (10 < (s.size : Int)) = true := decide_eq_true (by omega)
      go_enter Tryd.func60, Tryd.ntmps60
      go_wp2
      go_step3
      go_wp2
      rw [Exit.noGoto_ret]
      go_ret2
      exact ⟨rfl, rfl⟩
    · by_cases h48 : s.data.toList.head? = some 48
      · by_cases h1 : s.data.toList = [48]
        · have hs1 : s = ⟨#[48]⟩ := by
            apply ByteArray.ext
            apply Array.ext'
            rw [h1]
          rw [h1, show natOf [48] = some 0 by decide]
          subst hs1
          exact number_zero w
        · rw [natOf_lead h48 h1]
          have hd : decide (10 < (s.size : Int)) = false := decide_eq_false (by omega)
          have hp : 0 < s.size := by omega
          have hq : ((s[0].toNat : Int) == 48) = true := by
            rw [List.head?_eq_getElem?] at h48
            have : s.data.toList[0]? = some s.data[0] := by simp
            rw [this] at h48
            have h3 : s[0] = 48 := Option.some.inj h48
            rw [h3]
            rfl
          have hz : (s.toList == [48]) = false := by rw [ByteArray.toList_eq]; simpa using h1
          clear h48 h1 h10 h0
          go_enter Tryd.func60, Tryd.ntmps60
          go_wp2
          go_step3
          go_wp2
          rw [Exit.noGoto_ret]
          go_ret2
          exact ⟨rfl, rfl⟩
      · exact number_go s w ⟨by omega, by omega, fun h => absurd h h48⟩ h48

/-- The first k letters may stand in a name. -/
def NmTo (t : Tx) (k : Nat) : Prop := ∀ (j : Nat) (h : j < t.length), j < k → isLet t[j] = true ∨ (isDg t[j] = true ∧ 0 < j)
theorem isNm_iff (t : Tx) : isNm t = true ↔ NmTo t t.length ∧ 1 ≤ t.length ∧ t.length ≤ 16 := by
  cases t with
  | nil => simp [isNm]
  | cons c r =>
    simp only [isNm, Bool.and_eq_true, decide_eq_true_eq, List.all_eq_true, Bool.or_eq_true]
    constructor
    · rintro ⟨⟨h1, h2⟩, h3⟩
      refine ⟨fun j hj _ => ?_, by simp, h3⟩
      cases j with
      | zero => exact .inl h1
      | succ j =>
        have hj' : j < r.length := by simpa using hj
        have e : (c :: r)[j + 1] = r[j] := rfl
        rw [e]
        rcases h2 r[j] (List.getElem_mem _) with h | h
        · exact .inl h
        · exact .inr ⟨h, by omega⟩
    · rintro ⟨h1, _, h3⟩
      refine ⟨⟨?_, fun d hd => ?_⟩, h3⟩
      · rcases h1 0 (by simp) (by simp) with h | h
        · exact h
        · omega
      · obtain ⟨j, hj, rfl⟩ := List.mem_iff_getElem.1 hd
        rcases h1 (j + 1) (by simpa using hj) (by simpa using hj) with h | h
        · exact .inl h
        · exact .inr h.1
/-- What a rune of a name is. -/
def Good (r pos : Int) : Prop := (97 ≤ r ∧ r ≤ 122) ∨ (48 ≤ r ∧ r ≤ 57 ∧ 0 < pos)
theorem good_step {s : ByteArray} {pos : Nat} (h : pos < s.size) (hg : Good ((Utf8.decode s pos).1 : Int) (pos : Int)) (hp : NmTo s.data.toList pos) :
    (Utf8.decode s pos).2 = 1 ∧ NmTo s.data.toList (pos + 1) := by
  have hlt : (s[pos]'h).toNat < 128 := by
    rcases Nat.lt_or_ge (s[pos]'h).toNat 128 with h1 | h1
    · exact h1
    · have := (decode_high s pos h h1).1
      unfold Good at hg
      omega
  have hd := decode_ascii s pos h hlt
  refine ⟨by rw [hd], fun j hj hjk => ?_⟩
  rcases Nat.lt_or_ge j pos with h1 | h1
  · exact hp j hj h1
  · obtain rfl : j = pos := by omega
    rw [hd] at hg
    have e : s.data.toList[j] = s[j]'h := by simp; rfl
    rw [e]
    unfold Good at hg
    simp only [isLet, isDg, Bool.and_eq_true, decide_eq_true_eq]
    rcases hg with hg | hg
    · left; omega
    · right; omega
theorem bad_step {s : ByteArray} {pos : Nat} (h : pos < s.size) (hg : ¬ Good ((Utf8.decode s pos).1 : Int) (pos : Int)) : isNm s.data.toList = false := by
  rw [Bool.eq_false_iff]
  intro hn
  have h1 := ((isNm_iff _).1 hn).1 pos (by simpa using h) (by simpa using h)
  have e : s.data.toList[pos]'(by simpa using h) = s[pos]'h := by simp; rfl
  rw [e] at h1
  simp only [isLet, isDg, Bool.and_eq_true, decide_eq_true_eq] at h1
  have hd := decode_ascii s pos h (by omega)
  rw [hd] at hg
  apply hg
  unfold Good
  rcases h1 with h1 | h1
  · left; omega
  · right; omega

set_option maxRecDepth 1000000 in
set_option maxHeartbeats 2000000 in
theorem isName_any (s : ByteArray) (w : World) (hs : s.size ≤ 9223372036854775807) :
    Calls Tryd.prog 77 #[.string s] w fun e w' => e = .returned (.bool (isNm s.data.toList)) ∧ Below w.heap.size w w' := by
  generalize hR : isNm s.data.toList = R
  have HR := Lib.hid hR
  clear hR
  go_enter Tryd.func77, Tryd.ntmps77
  go_wp2
  go_loopw [] (fun wr => ∃ (pos : Nat), wr.heap[w.heap.size]? = some (.stringIter s pos) ∧ Below w.heap.size w wr ∧ Hid (NmTo s.data.toList pos) ∧ pos ≤ s.size) (fun wr => s.size - wr.iterPos w.heap.size)
  case atStart => exact ⟨0, World.iter_heap w s 0, (Below.refl _ _).alloc (Nat.le_refl _) _, Lib.hid (fun j _ h => by omega), by omega⟩
  case round =>
    obtain ⟨pos, hit, hbw, hn, hps⟩ := hrel
    have hpos0 := iterPos_of hit
    by_cases hp : pos < s.size
    · have hnx : ∀ ty, (Instr.next (.pointer (some ⟨w.heap.size, 0, none⟩)) true ty).run Tryd.prog wr = _ := fun ty => Lib.run_next_any_at wr w.heap.size s pos ty hit hp
      have hit2 := Lib.iterAt_heap wr w.heap.size s pos (pos + (Utf8.decode s pos).2) hit
      have hbw2 := Lib.below_iterAt hbw (k := w.heap.size) (Nat.le_refl _) s (pos + (Utf8.decode s pos).2)
      obtain ⟨W1, hW1⟩ : ∃ W1, W1 = wr.iterAt w.heap.size s (pos + (Utf8.decode s pos).2) := ⟨_, rfl⟩
      rw [← hW1] at hnx hit2 hbw2
      have hle := decode_le s pos
      clear hW1 hit hbw
      by_cases hg : Good ((Utf8.decode s pos).1 : Int) (pos : Int)
      · have HS := Lib.hid (good_step hp hg hn.out)
        rw [HS.out.1] at hit2
        obtain ⟨r, hr⟩ : ∃ r, (Utf8.decode s pos).1 = r := ⟨_, rfl⟩
        rw [hr] at hnx hle hg
        unfold Good at hg
        have hpp := hp
        clear hr
        rcases hg with hg | hg
        · have g1 : decide ((97 : Int) ≤ (r : Int)) = true := decide_eq_true hg.1
          have g2 : decide ((r : Int) ≤ 122) = true := decide_eq_true hg.2
          have g3 : decide ((r : Int) ≤ 57) = false := decide_eq_false (by omega)
          have g4 : decide ((48 : Int) ≤ (r : Int)) = true := decide_eq_true (by omega)
          go_wp2
          go_roundw
          case rel => exact ⟨pos + 1, hit2, hbw2, Lib.hid HS.out.2, by omega⟩
          case measure => rw [iterPos_of hit2, hpos0]; omega
        · have g1 : decide ((97 : Int) ≤ (r : Int)) = false := decide_eq_false (by omega)
          have g2 : decide ((48 : Int) ≤ (r : Int)) = true := decide_eq_true hg.1
          have g3 : decide ((r : Int) ≤ 57) = true := decide_eq_true hg.2.1
          have g4 : decide (0 < pos) = true := decide_eq_true (by omega)
          go_wp2
          go_roundw
          case rel => exact ⟨pos + 1, hit2, hbw2, Lib.hid HS.out.2, by omega⟩
          case measure => rw [iterPos_of hit2, hpos0]; omega
      · have HS := Lib.hid (bad_step hp hg)
        obtain ⟨r, hr⟩ : ∃ r, (Utf8.decode s pos).1 = r := ⟨_, rfl⟩
        rw [hr] at hnx hle hg
        unfold Good at hg
        clear hr hit2 hpos0
        by_cases k1 : (r : Int) < 97
        · have g1 : decide ((97 : Int) ≤ (r : Int)) = false := decide_eq_false (by omega)
          by_cases k2 : (48 ≤ (r : Int)) ∧ (r : Int) ≤ 57
          · have g2 : decide ((48 : Int) ≤ (r : Int)) = true := decide_eq_true k2.1
            have g3 : decide ((r : Int) ≤ 57) = true := decide_eq_true k2.2
            obtain rfl : pos = 0 := by omega
            go_wp2
            go_ret
            exact ⟨ret_bool (show false = R by rw [← HR.out, HS.out]), hbw2⟩
          · by_cases k3 : (48 : Int) ≤ (r : Int)
            · have g2 : decide ((48 : Int) ≤ (r : Int)) = true := decide_eq_true k3
              have g3 : decide ((r : Int) ≤ 57) = false := decide_eq_false (by omega)
              go_wp2
              go_ret
              exact ⟨ret_bool (show false = R by rw [← HR.out, HS.out]), hbw2⟩
            · have g2 : decide ((48 : Int) ≤ (r : Int)) = false := decide_eq_false k3
              go_wp2
              go_ret
              exact ⟨ret_bool (show false = R by rw [← HR.out, HS.out]), hbw2⟩
        · have g1 : decide ((97 : Int) ≤ (r : Int)) = true := decide_eq_true (by omega)
          have g2 : decide ((r : Int) ≤ 122) = false := decide_eq_false (by omega)
          have g3 : decide ((r : Int) ≤ 57) = false := decide_eq_false (by omega)
          have g4 : decide ((48 : Int) ≤ (r : Int)) = true := decide_eq_true (by omega)
          go_wp2
          go_ret
          exact ⟨ret_bool (show false = R by rw [← HR.out, HS.out]), hbw2⟩
    · have hnx : ∀ ty, (Instr.next (.pointer (some ⟨w.heap.size, 0, none⟩)) true ty).run Tryd.prog wr = _ := fun ty => Lib.run_next_end_at wr w.heap.size s pos ty hit hp
      obtain rfl : pos = s.size := by omega
      have HE : Hid (R = (decide ((1 : Int) ≤ (s.size : Int)) && decide ((s.size : Int) ≤ 16))) := Lib.hid (by
        rw [← HR.out, Bool.eq_iff_iff, isNm_iff, Bool.and_eq_true, decide_eq_true_eq, decide_eq_true_eq]
        have hl : s.data.toList.length = s.size := by simp
        have hn' := hn.out
        rw [hl]
        constructor
        · rintro ⟨_, h1, h2⟩; exact ⟨by omega, by omega⟩
        · rintro ⟨h1, h2⟩; exact ⟨hn', by omega, by omega⟩)
      clear hps hp hpos0
      by_cases q1 : (1 : Int) ≤ (s.size : Int)
      · have g1 : decide ((1 : Int) ≤ (s.size : Int)) = true := decide_eq_true q1
        go_wp2
        go_ret
        exact ⟨ret_bool (show _ = R by rw [HE.out, g1]; rfl), hbw⟩
      · have g1 : decide ((1 : Int) ≤ (s.size : Int)) = false := decide_eq_false q1
        go_wp2
        go_ret
        exact ⟨ret_bool (show _ = R by rw [HE.out, g1]; rfl), hbw⟩
end Go.Proofs.YtlddjjkbnhhfaaaDoor.IsaA
