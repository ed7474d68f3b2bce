/-
  number of package isa: the word that decimal digits say.
-/
import Derived.Test.YtlddjjkbnhhfaaaDoorIsaN
import Derived.ScopeJumps
import Derived.Outline
namespace Go.Proofs.YtlddjjkbnhhfaaaDoor.IsaD
open Go Go.RowKit Kit IsaM IsaT IsaL IsaC IsaE IsaN
set_option linter.unusedVariables false

def natV : Option Nat → Value
  | some n => .tuple #[.int .u32 (n : Int), .bool true]
  | none => .tuple #[.int .u32 0, .bool false]
theorem val_snoc (t : Tx) (c : UInt8) : val (t ++ [c]) = 10 * val t + (c.toNat - 48) := by unfold val; rw [List.foldl_append]; rfl
theorem take_snoc {s : ByteArray} {k : Nat} (h : k < s.size) : s.data.toList.take (k + 1) = s.data.toList.take k ++ [s[k]] := by
  rw [List.take_succ_eq_append_getElem (by simpa using h)]; rfl
theorem val_next {s : ByteArray} {k : Nat} (h : k < s.size) : val (s.data.toList.take (k + 1)) = 10 * val (s.data.toList.take k) + (s[k].toNat - 48) := by
  rw [take_snoc h, val_snoc]
theorem foldl_lt : ∀ (t : Tx) (n m : Nat), n < m → (∀ c ∈ t, isDg c = true) → t.foldl (fun n c => 10 * n + (c.toNat - 48)) n < m * 10 ^ t.length
  | [], n, m, h, _ => by simpa using h
  | c :: t, n, m, h, hd => by
    have h2 := hd c (by simp)
    simp [isDg] at h2
    have h3 := foldl_lt t (10 * n + (c.toNat - 48)) (m * 10) (by omega) (fun x hx => hd x (by simp [hx]))
    rw [List.foldl_cons, List.length_cons, Nat.pow_succ, Nat.mul_comm (10 ^ t.length) 10, ← Nat.mul_assoc]
    exact h3
theorem val_lt (t : Tx) (h : ∀ c ∈ t, isDg c = true) : val t < 10 ^ t.length := by
  have := foldl_lt t 0 1 (by omega) h
  simpa [val] using this
/-- The first k are digits. -/
def DgTo (s : ByteArray) (k : Nat) : Prop := ∀ c ∈ s.data.toList.take k, isDg c = true
theorem DgTo.next {s : ByteArray} {k : Nat} (hd : DgTo s k) (h : k < s.size) (hc : isDg s[k] = true) : DgTo s (k + 1) := fun c hm => by
  rw [take_snoc h] at hm
  rcases List.mem_append.1 hm with hm | hm
  · exact hd c hm
  · rw [List.mem_singleton.1 hm]; exact hc
theorem pow10_le {k : Nat} (h : k ≤ 10) : 10 ^ k ≤ 10000000000 := Nat.pow_le_pow_right (n := 10) (by decide) h
theorem DgTo.val {s : ByteArray} {k : Nat} (hd : DgTo s k) (h : k ≤ 10) : val (s.data.toList.take k) < 10000000000 := by
  have h1 := val_lt _ hd
  have h2 := pow10_le (k := (s.data.toList.take k).length) (by simp; omega)
  omega

/-- Ahead of the digits it is a number. -/
structure Fair (s : ByteArray) : Prop where
  pos : 0 < s.size
  le : s.size ≤ 10
  lead : s.data.toList.head? = some 48 → s.data.toList = [48]
theorem natOf_bad {s : ByteArray} {k : Nat} (h : k < s.size) (hc : isDg s[k] = false) : natOf s.data.toList = none := by
  unfold natOf
  rw [if_pos]
  refine .inr (.inr (.inr ?_))
  rw [List.all_eq_false]
  exact ⟨s[k], by show s.data[k] ∈ s.data.toList; simp, by simpa using hc⟩
theorem natOf_end {s : ByteArray} (hf : Fair s) (hd : DgTo s s.size) : natOf s.data.toList = if val s.data.toList ≤ 4294967295 then some (val s.data.toList) else none := by
  unfold natOf
  have hp := hf.pos
  have hl := hf.le
  have hlen : s.data.toList.length = s.size := by simp
  rw [if_neg]
  rintro (h | h | h | h)
  · rw [h] at hlen; simp at hlen; omega
  · omega
  · exact h.2 (hf.lead h.1)
  · have : s.data.toList.take s.size = s.data.toList := List.take_of_length_le (by omega)
    unfold DgTo at hd
    rw [this] at hd
    rw [List.all_eq_false] at h
    obtain ⟨c, hc, hn⟩ := h
    exact hn (hd c hc)

theorem val_all {s : ByteArray} {n : Nat} (h : s.size = n) : val (s.data.toList.take n) = val s.data.toList := by
  rw [List.take_of_length_le (by simp; omega)]
theorem ret_ub {x : Int} {n : Nat} (h : x = (n : Int)) : Ending.returned (.tuple #[.int .u32 x, .bool true]) = .returned (natV (some n)) := by rw [h]; rfl
theorem number_zero (w : World) :
    Calls Tryd.prog 60 #[.string ⟨#[48]⟩] w fun e w' => e = .returned (.tuple #[.int .u32 0, .bool true]) ∧ w = w' := by
  go_enter Tryd.func60, Tryd.ntmps60
  go_wp2
  go_step3
  go_wp2
  go_step3
  go_wp2
  rw [Exit.noGoto_ret]
  go_ret2
  exact ⟨rfl, rfl⟩
set_option maxRecDepth 1000000 in
set_option maxHeartbeats 4000000 in
theorem number_go (s : ByteArray) (w : World) (hf : Fair s) (h48 : s.data.toList.head? ≠ some 48) :
    Calls Tryd.prog 60 #[.string s] w fun e w' => e = .returned (natV (natOf s.data.toList)) ∧ w = w' := by
  have hp := hf.pos
  have hl := hf.le
  have HF := Lib.hid hf
  generalize hR : natV (natOf s.data.toList) = R
  have HR := Lib.hid hR
  clear hR hf
  have hne : (s.toList == []) = false := by
    rw [ByteArray.toList_eq]
    cases h : s.data.toList with
    | nil => have : s.data.toList.length = s.size := by simp
             rw [h] at this; simp at this; omega
    | cons a b => rfl
  have hq : ((s[0].toNat : Int) == 48) = false := by
    rw [beq_eq_false_iff_ne]
    intro h
    apply h48
    have h2 : s[0] = 48 := by apply UInt8.toNat_inj.1; show s[0].toNat = 48; omega
    rw [← h2, List.head?_eq_getElem?]
    show s.data.toList[0]? = some (s.data[0])
    simp
  have hsz0 : decide (10 < (s.size : Int)) = false := decide_eq_false (by omega)
  clear h48
  go_enter Tryd.func60, Tryd.ntmps60
  go_wp2
  refine wp_scope_jumps 0 (fun a' w' => w = w' ∧ ∃ (k : Nat) (u6 u7 u8 u9 u10 u11 u12 u13 u14 u15 u16 u17 u18 u19 u20 u21 u22 u23 u24 u25 u26 u27 u28 u29 u30 u31 u32 u33 u34 u35 u36 u37 u38 u39 u40 u41 u42 u43 u44 u45 u46 u47 u48 u49 : Value), a' = { tmps := #[.string s, undef, .int .u32 0, .bool false, .int .u64 ((val (s.data.toList.take k) : Nat) : Int), .int .i64 (k : Int), u6, u7, u8, u9, u10, u11, u12, u13, u14, u15, u16, u17, u18, u19, u20, u21, u22, u23, u24, u25, u26, u27, u28, u29, u30, u31, u32, u33, u34, u35, u36, u37, u38, u39, u40, u41, u42, u43, u44, u45, u46, u47, u48, u49], defers := [] } ∧ 1 ≤ k ∧ k < s.size ∧ Hid (DgTo s k)) (fun a' _ => s.size - (intOf (a'.tmps.getD 5 undef)).toNat) rfl ?_ ?_
  · have hk : 0 < s.size := hp
    have hd : Hid (DgTo s 0) := Lib.hid (fun c h => by simp at h)
    by_cases hc : isDg s[0] = true
    · have hc2 := hc
      simp only [isDg, Bool.and_eq_true, decide_eq_true_eq] at hc2
      have hx1 : decide ((s[0].toNat : Int) < 48) = false := decide_eq_false (by omega)
      have hx2 : decide ((57 : Int) < (s[0].toNat : Int)) = false := decide_eq_false (by omega)
      have hx3 : (48 : Int) ≤ (s[0].toNat : Int) := by omega
      have hx4 : (s[0].toNat : Int) ≤ 57 := by omega
      have hdn : Hid (DgTo s 1) := Lib.hid (hd.out.next hk hc)
      have hvn : Hid (val (s.data.toList.take 1) = s[0].toNat - 48) := Lib.hid (by rw [val_next hk]; simp [val])
      clear hc hc2
      by_cases hl1 : 1 < s.size
      · have hl2 : ((1 : Int) < (s.size : Int)) := by omega
        go_wp2
        go_step3
        go_wp2
        go_step3
        have E1 : ((s[0].toNat : Int) - 48) = ((val (s.data.toList.take 1) : Nat) : Int) := by rw [hvn.out]; omega
        rw [E1]
        refine ⟨rfl, rfl, 1, ?_⟩
        first
          | exact ⟨_, _, _, _, _, _, _, _, _, _, _, _, _, _, _, _, _, _, _, _, _, _, _, _, _, _, _, _, _, _, _, _, _, _, _, _, _, _, _, _, _, _, _, _, rfl, by omega, hl1, hdn⟩
          | exact ⟨⟨_, _, _, _, _, _, _, _, _, _, _, _, _, _, _, _, _, _, _, _, _, _, _, _, _, _, _, _, _, _, _, _, _, _, _, _, _, _, _, _, _, _, _, _, rfl⟩, by omega, hl1, hdn⟩
      · have hl2 : ¬ ((1 : Int) < (s.size : Int)) := by omega
        have hA := natOf_end HF.out (by rw [show s.size = 1 by omega]; exact hdn.out)
        rw [← val_all (show s.size = 1 by omega), hvn.out] at hA
        have HA := Lib.hid hA
        clear hA
        go_wp2
        go_step3
        go_wp2
        all_goals simp only [Exit.jump]
        all_goals go_ret2
        all_goals refine ⟨?_, rfl⟩
        all_goals rw [← HR.out, HA.out]
        all_goals first
          | (rw [if_neg (by omega)]; rfl)
          | (rw [if_pos (by omega)]; exact ret_ub (by omega))
    · have HB := Lib.hid (natOf_bad hk (by simpa using hc))
      have hc2 := hc
      simp only [isDg, Bool.and_eq_true, decide_eq_true_eq] at hc2
      by_cases hx : s[0].toNat < 48
      · have hx1 : decide ((s[0].toNat : Int) < 48) = true := decide_eq_true (by omega)
        clear hc hc2
        go_wp2
        go_step3
        go_wp2
        simp only [Exit.jump]
        go_ret2
        exact ⟨by rw [← HR.out, HB.out]; rfl, rfl⟩
      · have hx1 : decide ((s[0].toNat : Int) < 48) = false := decide_eq_false (by omega)
        have hx2 : decide ((57 : Int) < (s[0].toNat : Int)) = true := decide_eq_true (by omega)
        clear hc hc2
        go_wp2
        go_step3
        go_wp2
        simp only [Exit.jump]
        go_ret2
        exact ⟨by rw [← HR.out, HB.out]; rfl, rfl⟩
  · rintro a' w' ⟨rfl, k, u6, u7, u8, u9, u10, u11, u12, u13, u14, u15, u16, u17, u18, u19, u20, u21, u22, u23, u24, u25, u26, u27, u28, u29, u30, u31, u32, u33, u34, u35, u36, u37, u38, u39, u40, u41, u42, u43, u44, u45, u46, u47, u48, u49, rfl, hk1, hk, hd⟩
    clear hne hsz0 hq
    by_cases hc : isDg s[k] = true
    · have hc2 := hc
      simp only [isDg, Bool.and_eq_true, decide_eq_true_eq] at hc2
      have hx1 : decide ((s[k].toNat : Int) < 48) = false := decide_eq_false (by omega)
      have hx2 : decide ((57 : Int) < (s[k].toNat : Int)) = false := decide_eq_false (by omega)
      have hx3 : (48 : Int) ≤ (s[k].toNat : Int) := by omega
      have hx4 : (s[k].toNat : Int) ≤ 57 := by omega
      have hdn : Hid (DgTo s (k + 1)) := Lib.hid (hd.out.next hk hc)
      have hv0 := hd.out.val (k := k) (by omega)
      have hvn0 := val_next (s := s) hk
      generalize val (s.data.toList.take k) = v at *
      have hvn : Hid (val (s.data.toList.take (k + 1)) = 10 * v + (s[k].toNat - 48)) := Lib.hid hvn0
      clear hvn0
      clear hc hc2
      by_cases hl1 : (k + 1) < s.size
      · have hl2 : (((k : Int) + 1) < (s.size : Int)) := by omega
        go_wp2
        go_step3
        have E1 : (10 * (v : Int) + ((s[k].toNat : Int) - 48)) = ((val (s.data.toList.take (k + 1)) : Nat) : Int) := by rw [hvn.out]; omega
        have E2 : (k : Int) + 1 = ((k + 1 : Nat) : Int) := by omega
        rw [E1, E2]
        refine ⟨rfl, ⟨rfl, k + 1, ?_⟩, by simp [intOf]; omega⟩
        first
          | exact ⟨_, _, _, _, _, _, _, _, _, _, _, _, _, _, _, _, _, _, _, _, _, _, _, _, _, _, _, _, _, _, _, _, _, _, _, _, _, _, _, _, _, _, _, _, rfl, by omega, hl1, hdn⟩
          | exact ⟨⟨_, _, _, _, _, _, _, _, _, _, _, _, _, _, _, _, _, _, _, _, _, _, _, _, _, _, _, _, _, _, _, _, _, _, _, _, _, _, _, _, _, _, _, _, rfl⟩, by omega, hl1, hdn⟩
      · have hl2 : ¬ (((k : Int) + 1) < (s.size : Int)) := by omega
        have hA := natOf_end HF.out (by rw [show s.size = k + 1 by omega]; exact hdn.out)
        rw [← val_all (show s.size = k + 1 by omega), hvn.out] at hA
        have HA := Lib.hid hA
        clear hA
        go_wp2
        all_goals simp only [Exit.jump]
        all_goals go_ret2
        all_goals refine ⟨?_, rfl⟩
        all_goals rw [← HR.out, HA.out]
        all_goals first
          | (rw [if_neg (by omega)]; rfl)
          | (rw [if_pos (by omega)]; exact ret_ub (by omega))
    · have HB := Lib.hid (natOf_bad hk (by simpa using hc))
      have hc2 := hc
      simp only [isDg, Bool.and_eq_true, decide_eq_true_eq] at hc2
      by_cases hx : s[k].toNat < 48
      · have hx1 : decide ((s[k].toNat : Int) < 48) = true := decide_eq_true (by omega)
        clear hc hc2
        go_wp2
        simp only [Exit.jump]
        go_ret2
        exact ⟨by rw [← HR.out, HB.out]; rfl, rfl⟩
      · have hx1 : decide ((s[k].toNat : Int) < 48) = false := decide_eq_false (by omega)
        have hx2 : decide ((57 : Int) < (s[k].toNat : Int)) = true := decide_eq_true (by omega)
        clear hc hc2
        go_wp2
        simp only [Exit.jump]
        go_ret2
        exact ⟨by rw [← HR.out, HB.out]; rfl, rfl⟩
end Go.Proofs.YtlddjjkbnhhfaaaDoor.IsaD
