/-
  What Take, Share, Drop and Write make of a memory of frames, each in one way of speaking; the least free frame.
-/
import Derived.Test.YtjoapeeljigjcaaDoorFu
namespace Go.Proofs.YtjoapeeljigjcaaDoor.Fq
open Go Go.RowKit Kit Bk Fm Fo Fr Fw Fx Fu
set_option linter.unusedVariables false

/-- The least free frame. -/
def lf (n : Nat) (R : Nat → Nat) : Nat := ((List.range n).find? fun k => R k == 0).getD n
theorem lf_spec {n : Nat} {R : Nat → Nat} (h : ∃ k, k < n ∧ R k = 0) : lf n R < n ∧ R (lf n R) = 0 ∧ ∀ k, k < lf n R → R k ≠ 0 := by
  unfold lf
  cases hf : (List.range n).find? (fun k => R k == 0) with
  | none =>
    obtain ⟨k, hk, hz⟩ := h
    have := List.find?_eq_none.1 hf k (List.mem_range.2 hk)
    simp [hz] at this
  | some k =>
    have h1 := List.find?_some hf
    have h2 := List.mem_of_find?_eq_some hf
    simp only [Option.getD_some]
    refine ⟨List.mem_range.1 h2, by simpa using h1, fun j hj hz => ?_⟩
    rw [List.find?_range_eq_some] at hf
    have := hf.2.2 j hj
    simp [hz] at this
/-- How many are free. -/
def fre (n : Nat) (R : Nat → Nat) : Nat := n - (usd R n).length
theorem fre_pos {n : Nat} {R : Nat → Nat} (h : 0 < fre n R) : ∃ k, k < n ∧ R k = 0 := by
  apply Classical.byContradiction
  intro hn
  have hall : usd R n = List.range n := by
    unfold usd
    refine List.filter_eq_self.2 fun k hk => ?_
    have hk := List.mem_range.1 hk
    exact decide_eq_true (fun hz => hn ⟨k, hk, hz⟩)
  unfold fre at h
  rw [hall, List.length_range] at h
  omega
theorem usd_up_new {n : Nat} {R : Nat → Nat} {m v : Nat} (hm : m < n) (hz : R m = 0) (hv : v ≠ 0) : (usd (up R m v) n).length = (usd R n).length + 1 := by
  induction n with
  | zero => omega
  | succ n ih =>
    by_cases e : m = n
    · subst e
      rw [usd_yes (by rw [up_same]; exact hv), usd_no hz, List.length_append]
      have : ∀ j, j ≤ m → usd (up R m v) j = usd R j := by
        intro j hj
        unfold usd
        refine List.filter_congr fun k hk => ?_
        rw [up_other _ _ _ _ (by have := List.mem_range.1 hk; omega)]
      rw [this m (Nat.le_refl _)]
      rfl
    · have hi := ih (by omega)
      by_cases hr : R n = 0
      · rw [usd_no (by rw [up_other _ _ _ _ (Ne.symm e)]; exact hr), usd_no hr, hi]
      · rw [usd_yes (by rw [up_other _ _ _ _ (Ne.symm e)]; exact hr), usd_yes hr, List.length_append, List.length_append, hi]
        simp
theorem usd_up_same {n : Nat} {R : Nat → Nat} {m v : Nat} (hz : R m ≠ 0) (hv : v ≠ 0) : usd (up R m v) n = usd R n := by
  unfold usd
  refine List.filter_congr fun k hk => ?_
  by_cases e : k = m
  · subst e; rw [up_same]; simp [hz, hv]
  · rw [up_other _ _ _ _ e]
theorem fre_take {n : Nat} {R : Nat → Nat} {m v : Nat} (hm : m < n) (hz : R m = 0) (hv : v ≠ 0) : fre n (up R m v) = fre n R - 1 := by
  unfold fre
  rw [usd_up_new hm hz hv]
  omega
theorem fre_same {n : Nat} {R : Nat → Nat} {m v : Nat} (hz : R m ≠ 0) (hv : v ≠ 0) : fre n (up R m v) = fre n R := by
  unfold fre
  rw [usd_up_same hz hv]
theorem free_is (w : World) (p b n : Nat) (R : Nat → Nat) (B : Nat → Nat → Nat) (h : Mem w p b n R B) :
    Calls Tryd.prog 33 #[.pointer (some ⟨p, 0, none⟩)] w fun e w' => e = .returned (.int .i64 (fre n R : Int)) ∧ Below w.heap.size w w' := by
  refine (free_any w p b n R B h).mono ?_
  rintro e w' ⟨rfl, hb⟩
  have := usd_len R n
  exact ⟨by unfold fre; rw [show ((n - (usd R n).length : Nat) : Int) = (n : Int) - ((usd R n).length : Int) by omega], hb⟩

theorem take_is (w : World) (p b n : Nat) (R : Nat → Nat) (B : Nat → Nat → Nat) (h : Mem w p b n R B) (hp : 0 < fre n R) :
    Calls Tryd.prog 34 #[.pointer (some ⟨p, 0, none⟩)] w fun e w' => e = .returned (.tuple #[.int .i64 (lf n R : Int), .int .i64 0]) ∧ Mem w' p b n (up R (lf n R) 1) B ∧ Kp (fun j => j = b) w w' := by
  obtain ⟨h1, h2, h3⟩ := lf_spec (fre_pos hp)
  refine (take_ok w p b n R B h (lf n R) h1 h2 h3).mono ?_
  rintro e w' ⟨rfl, rfl⟩
  exact ⟨rfl, h.setRef (lf n R) 1 h1 (by decide), Kp.set _ _ _ _ rfl⟩
/-- A frame's count, and its bytes, behind a Drop. -/
def drR (R : Nat → Nat) (k : Nat) : Nat → Nat := up R k (R k - 1)
def drB (R : Nat → Nat) (B : Nat → Nat → Nat) (k : Nat) : Nat → Nat → Nat := if R k = 1 then up B k (fun _ => 0) else B
theorem drop_is (w : World) (p b n : Nat) (R : Nat → Nat) (B : Nat → Nat → Nat) (h : Mem w p b n R B) (k : Nat) (hk : k < n) (hr : R k ≠ 0) :
    Calls Tryd.prog 67 #[.pointer (some ⟨p, 0, none⟩), .int .i64 (k : Int)] w fun e w' => (∃ u v, e = .returned (.tuple #[u, v])) ∧ Mem w' p b n (drR R k) (drB R B k) ∧ Kp (fun j => j = b) w w' := by
  by_cases h1 : R k = 1
  · refine (drop_last w p b n R B h k hk h1).mono ?_
    rintro e w' ⟨rfl, rfl⟩
    unfold drR drB
    rw [if_pos h1, h1]
    exact ⟨⟨_, _, rfl⟩, Fo.Mem.dropped h k hk, (Kp.set (S := fun j => j = b) _ _ _ _ rfl).trans (Kp.sets (S := fun j => j = b) b rfl _ _ _) (fun _ h => .inl h)⟩
  · obtain ⟨r, hr2⟩ : ∃ r, R k = r + 2 := ⟨R k - 2, by omega⟩
    refine (drop_many w p b n R B h k hk r hr2).mono ?_
    rintro e w' ⟨rfl, rfl⟩
    unfold drR drB
    rw [if_neg h1, show R k - 1 = r + 1 by omega]
    exact ⟨⟨_, _, rfl⟩, h.setRef k (r + 1) hk (by have := h.refs k; omega), Kp.set _ _ _ _ rfl⟩
end Go.Proofs.YtjoapeeljigjcaaDoor.Fq
