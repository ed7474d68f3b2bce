/-
  A memory of frames, as it lies: what it holds; what a step keeps.
-/
import Derived.Test.YtjoapeeljigjcaaDoorBk
import Derived.Maps.AppendAt
import Derived.Laws.CopyOwn
import Derived.Laws.OwnMore
import Derived.Deep.Heap
import Derived.Deep.MidRow
import Derived.BigRegion
import Derived.RegionTactic
import Derived.ChangeAlike
namespace Go.Proofs.YtjoapeeljigjcaaDoor.Fm
open Go Go.RowKit Kit Bk
set_option linter.unusedVariables false

/-- The memory in block p, its frames in block b: n of them, of each its count and its bytes. -/
structure Mem (w : World) (p b n : Nat) (R : Nat → Nat) (B : Nat → Nat → Nat) : Prop where
  hd : ∃ cap, Blk w p #[.slice (some ⟨b, 0, none⟩) n cap] 71 ∧ n ≤ cap ∧ cap ≤ maxLen
  row : ∃ cs, Blk w b cs 123 ∧ n * 65 ≤ cs.size ∧ (∀ k, k < n → cs[k * 65]? = some (.int .i64 (R k : Int))) ∧ ∀ k i, k < n → i < 64 → cs[k * 65 + 1 + i]? = some (.int .u8 (B k i : Int))
  pos : 1 ≤ n ∧ n ≤ 256
  u8 : ∀ k i, B k i < 256
  refs : ∀ k, R k < 1000000000
theorem Mem.kept {S : Nat → Prop} {w w' : World} {p b n : Nat} {R : Nat → Nat} {B : Nat → Nat → Nat} (h : Mem w p b n R B) (hk : Kp S w w') (hp : ¬ S p) (hb : ¬ S b) : Mem w' p b n R B := by
  obtain ⟨⟨cap, h1, h2⟩, ⟨cs, h3, h4⟩, h5, h6, h7⟩ := h
  exact ⟨⟨cap, h1.kept hk hp, h2⟩, ⟨cs, h3.kept hk hb, h4⟩, h5, h6, h7⟩
theorem Mem.below {w w' : World} {p b n : Nat} {R : Nat → Nat} {B : Nat → Nat → Nat} (h : Mem w p b n R B) (hb : Below w.heap.size w w') : Mem w' p b n R B := h.kept (S := fun _ => False) (.of_below hb) (fun e => e) (fun e => e)
theorem Mem.lt {w : World} {p b n : Nat} {R : Nat → Nat} {B : Nat → Nat → Nat} (h : Mem w p b n R B) : p < w.heap.size ∧ b < w.heap.size := by
  obtain ⟨⟨cap, h1, h2⟩, ⟨cs, h3, h4⟩, _⟩ := h
  exact ⟨h1.lt, h3.lt⟩
theorem Mem.ne {w : World} {p b n : Nat} {R : Nat → Nat} {B : Nat → Nat → Nat} (h : Mem w p b n R B) : p ≠ b := by
  obtain ⟨⟨cap, h1, h2⟩, ⟨cs, h3, h4⟩, _⟩ := h
  exact h1.ne h3 (by decide)

set_option maxRecDepth 10000 in
theorem len_any (w : World) (p b n : Nat) (R : Nat → Nat) (B : Nat → Nat → Nat) (h : Mem w p b n R B) :
    Calls Tryd.prog 57 #[.pointer (some ⟨p, 0, none⟩)] w fun e w' => e = .returned (.int .i64 n) ∧ w = w' := by
  obtain ⟨⟨cap, h1, h2⟩, _⟩ := h
  have c0 := h1.cell 0
  clear h1
  go_enter Tryd.func57, Tryd.ntmps57
  go_wp2
  go_ret
  exact ⟨rfl, rfl⟩
theorem made_any (w : World) (p b n : Nat) (R : Nat → Nat) (B : Nat → Nat → Nat) (h : Mem w p b n R B) :
    Calls Tryd.prog 59 #[.pointer (some ⟨p, 0, none⟩)] w fun e w' => e = .returned (.bool true) ∧ w = w' := by
  obtain ⟨⟨cap, h1, h2⟩, _, ⟨h3, h4⟩, _⟩ := h
  have c0 := h1.cell 0
  have hn : (0 : Int) < (n : Int) := by omega
  have hd : decide (0 < n) = true := decide_eq_true (by omega)
  clear h1
  go_enter Tryd.func59, Tryd.ntmps59
  go_wp2
  go_ret
  exact ⟨rfl, rfl⟩
/-- A frame's count, of whatever number. -/
def rf (n : Nat) (R : Nat → Nat) (k : Int) : Nat := if 0 ≤ k ∧ k < (n : Int) then R k.toNat else 0
theorem rf_nat {n : Nat} {R : Nat → Nat} {k : Nat} (hk : k < n) : rf n R (k : Int) = R k := by unfold rf; rw [if_pos ⟨by omega, by omega⟩]; rfl
theorem rf_pos {n : Nat} {R : Nat → Nat} {k : Int} (h : rf n R k ≠ 0) : ∃ j : Nat, k = (j : Int) ∧ j < n ∧ R j ≠ 0 := by
  unfold rf at h
  split at h
  · rename_i hk; exact ⟨k.toNat, by omega, by omega, h⟩
  · exact absurd rfl h
theorem refs_in (w : World) (p b n : Nat) (R : Nat → Nat) (B : Nat → Nat → Nat) (h : Mem w p b n R B) (k : Nat) (hk : k < n) :
    Calls Tryd.prog 63 #[.pointer (some ⟨p, 0, none⟩), .int .i64 (k : Int)] w fun e w' => e = .returned (.int .i64 (R k : Int)) ∧ w = w' := by
  have HL := Lib.hid (len_any w p b n R B h)
  obtain ⟨⟨cap, h1, h2⟩, ⟨cs, h3, h4, h5, _⟩, ⟨h6, h7⟩, _⟩ := h
  have c0 := h1.cell 0
  have c1 := h3.cell (k * 65)
  rw [h5 k hk] at c1
  have hk0 : decide ((k : Int) < 0) = false := decide_eq_false (by omega)
  have hk1 : decide ((n : Int) ≤ (k : Int)) = false := decide_eq_false (by omega)
  have hk2 : (k : Int) < (n : Int) := by omega
  clear h1 h3 h4 h5
  go_enter Tryd.func63, Tryd.ntmps63
  go_wp2_with (first | (go_at_call 57; (with_reducible refine HL.out.mono ?_); rintro e w1 ⟨rfl, rfl⟩))
  go_ret
  exact ⟨rfl, rfl⟩
theorem refs_out (w : World) (p b n : Nat) (R : Nat → Nat) (B : Nat → Nat → Nat) (h : Mem w p b n R B) (k : Int) (hk : ¬ (0 ≤ k ∧ k < (n : Int))) :
    Calls Tryd.prog 63 #[.pointer (some ⟨p, 0, none⟩), .int .i64 k] w fun e w' => e = .returned (.int .i64 0) ∧ w = w' := by
  have HL := Lib.hid (len_any w p b n R B h)
  clear h
  by_cases h0 : k < 0
  · have hd : decide (k < 0) = true := decide_eq_true h0
    clear hk h0
    go_enter Tryd.func63, Tryd.ntmps63
    go_wp2
    go_ret
    exact ⟨rfl, rfl⟩
  · have hd : decide (k < 0) = false := decide_eq_false h0
    have hd2 : decide ((n : Int) ≤ k) = true := decide_eq_true (by omega)
    have h0' : 0 ≤ k := by omega
    have h1' : (n : Int) ≤ k := by omega
    clear hk h0
    go_enter Tryd.func63, Tryd.ntmps63
    go_wp2_with (first | (go_at_call 57; (with_reducible refine HL.out.mono ?_); rintro e w1 ⟨rfl, rfl⟩))
    go_ret
    exact ⟨rfl, rfl⟩
theorem refs_any (w : World) (p b n : Nat) (R : Nat → Nat) (B : Nat → Nat → Nat) (h : Mem w p b n R B) (k : Int) :
    Calls Tryd.prog 63 #[.pointer (some ⟨p, 0, none⟩), .int .i64 k] w fun e w' => e = .returned (.int .i64 (rf n R k : Int)) ∧ w = w' := by
  by_cases hk : 0 ≤ k ∧ k < (n : Int)
  · obtain ⟨j, rfl⟩ := Int.eq_ofNat_of_zero_le hk.1
    rw [rf_nat (by omega)]
    exact refs_in w p b n R B h j (by omega)
  · unfold rf
    rw [if_neg hk]
    exact refs_out w p b n R B h k hk
theorem held_no (w : World) (p b n : Nat) (R : Nat → Nat) (B : Nat → Nat → Nat) (h : Mem w p b n R B) (k : Int) (hk : rf n R k = 0) :
    Calls Tryd.prog 76 #[.pointer (some ⟨p, 0, none⟩), .int .i64 k] w fun e w' => e = .returned (.int .i64 41) ∧ w = w' := by
  have HM := Lib.hid (made_any w p b n R B h)
  have HR := refs_any w p b n R B h k
  rw [hk] at HR
  have HR2 := Lib.hid HR
  clear h hk HR
  go_enter Tryd.func76, Tryd.ntmps76
  go_wp2_with (first | (go_at_call 59; (with_reducible refine HM.out.mono ?_); rintro e w1 ⟨rfl, rfl⟩) | (go_at_call 63; (with_reducible refine HR2.out.mono ?_); rintro e w1 ⟨rfl, rfl⟩))
  go_ret
  exact ⟨rfl, rfl⟩
theorem held_ok (w : World) (p b n : Nat) (R : Nat → Nat) (B : Nat → Nat → Nat) (h : Mem w p b n R B) (k : Nat) (hk : k < n) (hr : R k ≠ 0) :
    Calls Tryd.prog 76 #[.pointer (some ⟨p, 0, none⟩), .int .i64 (k : Int)] w fun e w' => e = .returned (.int .i64 0) ∧ w = w' := by
  have HM := Lib.hid (made_any w p b n R B h)
  have HR := Lib.hid (refs_in w p b n R B h k hk)
  have hd : ((R k : Int) == 0) = false := by simp; omega
  clear h hk hr
  go_enter Tryd.func76, Tryd.ntmps76
  go_wp2_with (first | (go_at_call 59; (with_reducible refine HM.out.mono ?_); rintro e w1 ⟨rfl, rfl⟩) | (go_at_call 63; (with_reducible refine HR.out.mono ?_); rintro e w1 ⟨rfl, rfl⟩))
  go_ret
  exact ⟨rfl, rfl⟩

/-- A count stored. -/
theorem Mem.setRef {w : World} {p b n : Nat} {R : Nat → Nat} {B : Nat → Nat → Nat} (h : Mem w p b n R B) (k v : Nat) (hk : k < n) (hv : v < 1000000000) : Mem (w.setCell ⟨b, k * 65, none⟩ (.int .i64 (v : Int))) p b n (up R k v) B := by
  have hne := h.ne
  obtain ⟨⟨cap, h1, h2⟩, ⟨cs, h3, h4, h5, h6⟩, h7, h8, h9⟩ := h
  refine ⟨⟨cap, h1.other _ _ _ hne, h2⟩, ⟨_, h3.set _ _, by simpa using h4, fun j hj => ?_, fun j i hj hi => ?_⟩, h7, h8, fun j => ?_⟩
  · rw [Array.getElem?_setIfInBounds]
    by_cases e : j = k
    · subst e
      rw [if_pos rfl, if_pos (by omega), up_same]
    · rw [if_neg (by omega), up_other _ _ _ _ e]
      exact h5 j hj
  · rw [Array.getElem?_setIfInBounds, if_neg (by omega)]
    exact h6 j i hj hi
  · unfold up
    split
    · exact hv
    · exact h9 j

theorem take_full (w : World) (p b n : Nat) (R : Nat → Nat) (B : Nat → Nat → Nat) (h : Mem w p b n R B) (hf : ∀ k, k < n → R k ≠ 0) :
    Calls Tryd.prog 34 #[.pointer (some ⟨p, 0, none⟩)] w fun e w' => e = .returned (.tuple #[.int .i64 0, .int .i64 40]) ∧ w = w' := by
  have HM := Lib.hid (made_any w p b n R B h)
  obtain ⟨⟨cap, h1, h2⟩, ⟨cs, h3, h4, h5, _⟩, ⟨h6, h7⟩, _⟩ := h
  have c0 := h1.cell 0
  have hc : ∀ k, k < n → w.cell? ⟨b, k * 65, none⟩ = some (.int .i64 (R k : Int)) := fun k hk => (h3.cell _).trans (h5 k hk)
  clear h1 h3 h4 h5
  go_enter Tryd.func34, Tryd.ntmps34
  go_wp2_with (first | (go_at_call 59; (with_reducible refine HM.out.mono ?_); rintro e w1 ⟨rfl, rfl⟩))
  go_loop [13] (fun i => ∃ k : Nat, k ≤ n ∧ i = .int .i64 (k : Int)) (fun i => n - (intOf i).toNat)
  case atStart => exact ⟨0, Nat.zero_le _, rfl⟩
  case round =>
    obtain ⟨k, hk, rfl⟩ := hrel
    by_cases hlt : k < n
    · have c1 := hc k hlt
      have hd : ((R k : Int) == 0) = false := by have := hf k hlt; simp; omega
      clear hc hf
      go_wp2
      go_round
      case rel => exact ⟨k + 1, by omega, by go_num⟩
      case measure => simp [intOf]; omega
    · obtain rfl : k = n := by omega
      clear hc hf
      go_wp2
      go_ret2
      exact ⟨rfl, rfl⟩
theorem take_ok (w : World) (p b n : Nat) (R : Nat → Nat) (B : Nat → Nat → Nat) (h : Mem w p b n R B) (m : Nat) (hm : m < n) (hz : R m = 0) (hf : ∀ k, k < m → R k ≠ 0) :
    Calls Tryd.prog 34 #[.pointer (some ⟨p, 0, none⟩)] w fun e w' => e = .returned (.tuple #[.int .i64 (m : Int), .int .i64 0]) ∧ w' = w.setCell ⟨b, m * 65, none⟩ (.int .i64 1) := by
  have HM := Lib.hid (made_any w p b n R B h)
  obtain ⟨⟨cap, h1, h2⟩, ⟨cs, h3, h4, h5, _⟩, ⟨h6, h7⟩, _⟩ := h
  have c0 := h1.cell 0
  have hc : ∀ k, k < n → w.cell? ⟨b, k * 65, none⟩ = some (.int .i64 (R k : Int)) := fun k hk => (h3.cell _).trans (h5 k hk)
  have hfr := h3.free (m * 65)
  clear h1 h3 h4 h5
  go_enter Tryd.func34, Tryd.ntmps34
  go_wp2_with (first | (go_at_call 59; (with_reducible refine HM.out.mono ?_); rintro e w1 ⟨rfl, rfl⟩))
  go_loop [13] (fun i => ∃ k : Nat, k ≤ m ∧ i = .int .i64 (k : Int)) (fun i => m - (intOf i).toNat)
  case atStart => exact ⟨0, Nat.zero_le _, rfl⟩
  case round =>
    obtain ⟨k, hk, rfl⟩ := hrel
    by_cases hlt : k < m
    · have c1 := hc k (by omega)
      have hd : ((R k : Int) == 0) = false := by have := hf k hlt; simp; omega
      clear hc hf
      go_wp2
      go_round
      case rel => exact ⟨k + 1, by omega, by go_num⟩
      case measure => simp [intOf]; omega
    · obtain rfl : k = m := by omega
      have c1 := hc k (by omega)
      rw [hz] at c1
      clear hc hf hz
      go_wp2
      go_ret2
      exact ⟨rfl, rfl⟩
end Go.Proofs.YtjoapeeljigjcaaDoor.Fm
