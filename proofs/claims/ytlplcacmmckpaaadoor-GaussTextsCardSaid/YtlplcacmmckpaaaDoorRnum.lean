/-
  The document's reading of a number's digits at a place.
-/
import Derived.Test.YtlplcacmmckpaaaDoorRdig
namespace Go.Proofs.YtlplcacmmckpaaaDoor.Rnum
open Go Go.RowKit Kit TextG TxtNums Rdig
set_option linter.unusedVariables false

def isD (b : UInt8) : Prop := 48 ≤ b.toNat ∧ b.toNat ≤ 57
/-- What the first k digits say. -/
def V (l : List UInt8) (k : Nat) : Nat := (l.take k).foldl (fun a b => a * 10 + (b.toNat - 48)) 0
theorem V_succ {l : List UInt8} {k : Nat} (h : k < l.length) : V l (k + 1) = V l k * 10 + ((l[k]'h).toNat - 48) := by
  unfold V
  rw [List.take_succ_eq_append_getElem h, List.foldl_append]
  rfl
theorem foldl_dec (u : Nat) : (Lib.decDigits u).foldl (fun a b => a * 10 + (b.toNat - 48)) 0 = u := by
  induction u using Nat.strongRecOn with
  | _ u ih =>
    rw [Lib.decDigits]
    split
    · show 0 * 10 + ((UInt8.ofNat (48 + u)).toNat - 48) = u
      rw [UInt8.toNat_ofNat']
      omega
    · rw [List.foldl_append, ih (u / 10) (by omega)]
      show u / 10 * 10 + ((UInt8.ofNat (48 + u % 10)).toNat - 48) = u
      rw [UInt8.toNat_ofNat']
      omega
theorem V_dec (u : Nat) (r : List UInt8) : V (Lib.decDigits u ++ r) (Lib.decDigits u).length = u := by
  unfold V
  rw [List.take_left, foldl_dec]
theorem V_lt {l : List UInt8} (k : Nat) (hk : k ≤ l.length) (hd : ∀ j (h : j < l.length), j < k → isD (l[j]'h)) : V l k < 10 ^ k := by
  induction k with
  | zero => unfold V; simp
  | succ k ih =>
    have h1 := ih (by omega) (fun j h hj => hd j h (by omega))
    have h2 := hd k (by omega) (by omega)
    unfold isD at h2
    rw [V_succ (by omega), Nat.pow_succ]
    omega
theorem dec_len (u : Nat) (h : u ≤ 524288) : 1 ≤ (Lib.decDigits u).length ∧ (Lib.decDigits u).length ≤ 6 := by
  have h0 := dec_ne u
  have h1 : 0 < (Lib.decDigits u).length := List.length_pos_iff.2 h0
  refine ⟨h1, ?_⟩
  have aux : ∀ (f u : Nat), u < 10 ^ (f + 1) → (Lib.decDigits u).length ≤ f + 1 := by
    intro f
    induction f with
    | zero =>
      intro u hu
      rw [Lib.decDigits_one (by omega)]
      simp
    | succ f ih =>
      intro u hu
      rw [Lib.decDigits]
      split
      · simp
      · rw [List.length_append]
        have := ih (u / 10) (by rw [Nat.pow_succ] at hu; omega)
        simp
        omega
  exact aux 5 u (by omega)
/-- A number of two digits and more does not begin with a nought. -/
theorem dec_head (u : Nat) (h : 10 ≤ u) : ∃ c r, Lib.decDigits u = c :: r ∧ c.toNat ≠ 48 := by
  induction u using Nat.strongRecOn with
  | _ u ih =>
    rw [Lib.decDigits, dif_neg (by omega)]
    by_cases h2 : u / 10 < 10
    · rw [Lib.decDigits_one h2]
      refine ⟨_, _, rfl, ?_⟩
      rw [UInt8.toNat_ofNat']
      omega
    · obtain ⟨c, r, e1, e2⟩ := ih (u / 10) (by omega) (by omega)
      exact ⟨c, r ++ _, by rw [e1]; rfl, e2⟩

/-- The digits at a place are just those of u. -/
def At (s : ByteArray) (at' u : Nat) : Prop := u ≤ 524288 ∧ ∃ c r, ¬ isD c ∧ s.data.toList.drop at' = Lib.decDigits u ++ c :: r
/-- How many digits there are, and no more than 7: k. -/
def Ends (s : ByteArray) (at' k : Nat) : Prop :=
  (∀ j (h : at' + j < s.data.toList.length), j < k → isD (s.data.toList[at' + j]'h)) ∧ (k = 7 ∨ at' + k = s.data.toList.length ∨ ∃ h : at' + k < s.data.toList.length, ¬ isD (s.data.toList[at' + k]'h))
theorem At.get {s : ByteArray} {at' u : Nat} {c : UInt8} {r : List UInt8} (e : s.data.toList.drop at' = Lib.decDigits u ++ c :: r) (j : Nat) (h : at' + j < s.data.toList.length) (hj : j < (Lib.decDigits u ++ c :: r).length) : s.data.toList[at' + j]'h = (Lib.decDigits u ++ c :: r)[j]'hj := by
  have h1 : (s.data.toList.drop at')[j]? = (Lib.decDigits u ++ c :: r)[j]? := by rw [e]
  rw [List.getElem?_drop, List.getElem?_eq_getElem h, List.getElem?_eq_getElem hj] at h1
  exact Option.some.inj h1
theorem ends_at {s : ByteArray} {at' u k : Nat} (he : Ends s at' k) (ha : At s at' u) (hk : at' + k ≤ s.data.toList.length) : k = (Lib.decDigits u).length ∧ V (s.data.toList.drop at') k = u := by
  obtain ⟨hu, c, r, hc, e⟩ := ha
  obtain ⟨h1, h2⟩ := he
  have hlen : (s.data.toList.drop at').length = (Lib.decDigits u ++ c :: r).length := by rw [e]
  rw [List.length_drop] at hlen
  have hl := dec_len u hu
  have hL : (Lib.decDigits u ++ c :: r).length = (Lib.decDigits u).length + 1 + r.length := by simp; omega
  have key : k = (Lib.decDigits u).length := by
    rcases Nat.lt_trichotomy k (Lib.decDigits u).length with h | h | h
    · exfalso
      rcases h2 with h2 | h2 | ⟨h2, h3⟩
      · omega
      · omega
      · apply h3
        rw [At.get e k h2 (by omega), List.getElem_append_left h]
        exact dec_digit u _ (List.getElem_mem _)
    · exact h
    · exfalso
      have h4 := h1 (Lib.decDigits u).length (by omega) h
      rw [At.get e _ (by omega) (by omega)] at h4
      simp at h4
      exact hc h4
  refine ⟨key, ?_⟩
  rw [e, key]
  exact V_dec u _

/-- What number answers. -/
def NumR (s : ByteArray) (at' : Nat) (e : Ending) : Prop :=
  (e = .returned (.tuple #[.int .i64 0, .int .i64 (-1)]) ∧ ∀ u, ¬ At s at' u) ∨
  (∃ k v : Nat, 1 ≤ k ∧ at' + k ≤ s.size ∧ v ≤ 9999999 ∧ e = .returned (.tuple #[.int .i64 v, .int .i64 ((at' + k : Nat) : Int)]) ∧ ∀ u, At s at' u → k = (Lib.decDigits u).length ∧ v = u)
end Go.Proofs.YtlplcacmmckpaaaDoor.Rnum
