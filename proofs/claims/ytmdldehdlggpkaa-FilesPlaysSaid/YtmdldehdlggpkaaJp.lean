/-
  Open files and descriptors in plain words: what each call answers and leaves.
-/
import Derived.Test.YtmdldehdlggpkaaBk
namespace Go.Proofs.Ytmdldehdlggpkaa.Jp
open Go Go.RowKit Kit Bk
set_option linter.unusedVariables false

/-- Of each number its pipe, its end, its count. -/
structure Sf where
  P : Nat → Int
  V : Nat → Bool
  R : Nat → Nat
theorem Sf.ext' {S T : Sf} (h1 : S.P = T.P) (h2 : S.V = T.V) (h3 : S.R = T.R) : S = T := by cases S; cases T; simp_all
def S0 : Sf := ⟨fun _ => 0, fun _ => false, fun _ => 0⟩
def Sf.put (S : Sf) (k : Nat) (p : Int) (v : Bool) (r : Nat) : Sf := ⟨up S.P k p, up S.V k v, up S.R k r⟩
theorem up_self {α : Type} (R : Nat → α) (k : Nat) : up R k (R k) = R := by
  funext j
  unfold up
  split
  · rename_i e; rw [e]
  · rfl

/-- The least that is nought, below n. -/
def lst (R : Nat → Nat) : Nat → Nat
  | 0 => 0
  | n + 1 => if lst R n < n then lst R n else if R n = 0 then n else n + 1
theorem lst_le (R : Nat → Nat) (n : Nat) : lst R n ≤ n := by
  induction n with
  | zero => exact Nat.le_refl _
  | succ n ih => unfold lst; split <;> (try split) <;> omega
theorem lst_low (R : Nat → Nat) (n k : Nat) (h : k < lst R n) : R k ≠ 0 := by
  induction n with
  | zero => exact absurd h (Nat.not_lt_zero _)
  | succ n ih =>
    unfold lst at h
    have hle := lst_le R n
    split at h
    · exact ih h
    · split at h
      · exact ih (by omega)
      · by_cases e : k = n
        · subst e; assumption
        · exact ih (by omega)
theorem lst_at (R : Nat → Nat) (n : Nat) (h : lst R n < n) : R (lst R n) = 0 := by
  induction n with
  | zero => exact absurd h (Nat.not_lt_zero _)
  | succ n ih =>
    have hle := lst_le R n
    unfold lst at h ⊢
    by_cases h1 : lst R n < n
    · rw [if_pos h1]; exact ih h1
    · rw [if_neg h1] at h ⊢
      by_cases h2 : R n = 0
      · rw [if_pos h2]; exact h2
      · rw [if_neg h2] at h; omega
theorem lst_is (R : Nat → Nat) (n m : Nat) (h1 : m ≤ n) (h2 : ∀ k, k < m → R k ≠ 0) (h3 : m < n → R m = 0) : lst R n = m := by
  have a := lst_le R n
  rcases Nat.lt_trichotomy (lst R n) m with h | h | h
  · exact absurd (lst_at R n (by omega)) (h2 _ h)
  · exact h
  · exact absurd (h3 (by omega)) (lst_low R n m h)

/-- The numbers below n that are open. -/
def usd (R : Nat → Nat) (n : Nat) : List Nat := (List.range n).filter fun k => decide (R k ≠ 0)
theorem usd_zero (R : Nat → Nat) : usd R 0 = [] := rfl
theorem usd_yes {R : Nat → Nat} {k : Nat} (h : R k ≠ 0) : usd R (k + 1) = usd R k ++ [k] := by simp [usd, List.range_succ, List.filter_append, h]
theorem usd_no {R : Nat → Nat} {k : Nat} (h : R k = 0) : usd R (k + 1) = usd R k := by simp [usd, List.range_succ, List.filter_append, h]
theorem usd_len (R : Nat → Nat) (n : Nat) : (usd R n).length ≤ n := by
  unfold usd
  have := List.length_filter_le (fun k => decide (R k ≠ 0)) (List.range n)
  simpa using this
theorem usd_mem {R : Nat → Nat} {n k : Nat} : k ∈ usd R n ↔ k < n ∧ R k ≠ 0 := by simp [usd]
theorem usd_none {R : Nat → Nat} {n : Nat} (h : ∀ k, k < n → R k = 0) : usd R n = [] := by
  unfold usd
  rw [List.filter_eq_nil_iff]
  intro k hk
  simp [h k (by simpa using hk)]
theorem usd_full {R : Nat → Nat} {n : Nat} (h : ∀ k, k < n → R k ≠ 0) : usd R n = List.range n := by
  unfold usd
  exact List.filter_eq_self.2 (fun k hk => by simpa using h k (by simpa using hk))
theorem usd_ext {R Q : Nat → Nat} {n : Nat} (h : ∀ k, k < n → (R k ≠ 0 ↔ Q k ≠ 0)) : usd R n = usd Q n := by
  unfold usd
  refine List.filter_congr fun k hk => ?_
  have := h k (by simpa using hk)
  exact decide_eq_decide.2 this
/-- A full beginning of the list. -/
theorem usd_ini {R : Nat → Nat} {m : Nat} (h : ∀ k, k < m → R k ≠ 0) (n : Nat) (hn : m ≤ n) : (usd R n).take m = List.range m := by
  obtain ⟨d, rfl⟩ := Nat.exists_eq_add_of_le hn
  unfold usd
  rw [List.range_add, List.filter_append]
  have := usd_full h
  unfold usd at this
  rw [this, List.take_append_of_le_length (by simp)]
  exact List.take_of_length_le (by simp)

/-- A count, of whatever number. -/
def rf (R : Nat → Nat) (k : Int) : Nat := if 0 ≤ k ∧ k < 64 then R k.toNat else 0
theorem rf_nat {R : Nat → Nat} {k : Nat} (hk : k < 64) : rf R (k : Int) = R k := by unfold rf; rw [if_pos ⟨by omega, by omega⟩]; rfl
theorem rf_pos {R : Nat → Nat} {k : Int} (h : rf R k ≠ 0) : ∃ j : Nat, k = (j : Int) ∧ j < 64 ∧ R j ≠ 0 := by
  unfold rf at h
  split at h
  · rename_i hk; exact ⟨k.toNat, by omega, by omega, h⟩
  · exact absurd rfl h

/-- A pipe that may be. -/
def mayP (x : Int) : Prop := 0 ≤ x ∧ x < 16
instance (x : Int) : Decidable (mayP x) := by unfold mayP; infer_instance
/-- Open: its error, its answer, what it leaves. -/
def oE (S : Sf) (x : Int) : Int := if mayP x then (if lst S.R 64 = 64 then 100 else 0) else 2
def oN (S : Sf) (x : Int) : Int := if mayP x ∧ lst S.R 64 ≠ 64 then (lst S.R 64 : Int) else 0
def oS (S : Sf) (x : Int) (v : Bool) : Sf := if mayP x ∧ lst S.R 64 ≠ 64 then S.put (lst S.R 64) x v 1 else S
/-- Share. -/
def sE (S : Sf) (n : Int) : Int := if rf S.R n = 0 then 101 else 0
def sS (S : Sf) (n : Int) : Sf := if rf S.R n = 0 then S else ⟨S.P, S.V, up S.R n.toNat (S.R n.toNat + 1)⟩
/-- Drop. -/
def dN (S : Sf) (n : Int) : Int := if rf S.R n = 0 then 0 else (rf S.R n : Int) - 1
def dP (S : Sf) (n : Int) : Int := if rf S.R n = 0 then 0 else S.P n.toNat
def dV (S : Sf) (n : Int) : Bool := if rf S.R n = 0 then false else S.V n.toNat
def dS (S : Sf) (n : Int) : Sf := if rf S.R n = 0 then S else if rf S.R n = 1 then S.put n.toNat 0 false 0 else ⟨S.P, S.V, up S.R n.toNat (S.R n.toNat - 1)⟩
/-- Get. -/
def gP (S : Sf) (n : Int) : Int := if rf S.R n = 0 then 0 else S.P n.toNat
def gV (S : Sf) (n : Int) : Bool := if rf S.R n = 0 then false else S.V n.toNat
/-- What open files keep: few counts, pipes that may be, noughts of those that are free. -/
structure Gof (c : Nat) (S : Sf) : Prop where
  few : ∀ k, S.R k ≤ c
  pipe : ∀ k, mayP (S.P k)
  nop : ∀ k, S.R k = 0 → S.P k = 0
  nov : ∀ k, S.R k = 0 → S.V k = false
theorem Gof.zero (c : Nat) : Gof c S0 := ⟨fun _ => Nat.zero_le _, fun _ => ⟨Int.le_refl _, show (0 : Int) < 16 by decide⟩, fun _ _ => rfl, fun _ _ => rfl⟩
theorem Gof.mono {c c' : Nat} {S : Sf} (h : Gof c S) (hc : c ≤ c') : Gof c' S := ⟨fun k => Nat.le_trans (h.few k) hc, h.pipe, h.nop, h.nov⟩
theorem Gof.put {c : Nat} {S : Sf} (h : Gof c S) (k : Nat) (p : Int) (v : Bool) (r : Nat) (hr : r ≤ c) (hp : mayP p) (h0 : r = 0 → p = 0 ∧ v = false) : Gof c (S.put k p v r) := by
  refine ⟨fun j => ?_, fun j => ?_, fun j => ?_, fun j => ?_⟩
  all_goals (unfold Sf.put; dsimp only; by_cases e : j = k)
  · rw [e, up_same]; exact hr
  · rw [up_other _ _ _ _ e]; exact h.few j
  · rw [e, up_same]; exact hp
  · rw [up_other _ _ _ _ e]; exact h.pipe j
  · rw [e, up_same, up_same]; exact fun e => (h0 e).1
  · rw [up_other _ _ _ _ e, up_other _ _ _ _ e]; exact h.nop j
  · rw [e, up_same, up_same]; exact fun e => (h0 e).2
  · rw [up_other _ _ _ _ e, up_other _ _ _ _ e]; exact h.nov j
theorem put_ref (S : Sf) (k r : Nat) : (⟨S.P, S.V, up S.R k r⟩ : Sf) = S.put k (S.P k) (S.V k) r := by unfold Sf.put; rw [up_self, up_self]
theorem Gof.open_ {c : Nat} {S : Sf} (h : Gof c S) (x : Int) (v : Bool) : Gof (c + 1) (oS S x v) := by
  unfold oS
  split
  · rename_i hx; exact (h.mono (Nat.le_succ _)).put _ _ _ _ (by omega) hx.1 (fun e => by omega)
  · exact h.mono (Nat.le_succ _)
theorem Gof.share {c : Nat} {S : Sf} (h : Gof c S) (n : Int) : Gof (c + 1) (sS S n) := by
  unfold sS
  split
  · exact h.mono (Nat.le_succ _)
  · rw [put_ref]
    exact (h.mono (Nat.le_succ _)).put _ _ _ _ (by have := h.few n.toNat; omega) (h.pipe _) (fun e => by omega)
theorem Gof.drop {c : Nat} {S : Sf} (h : Gof c S) (n : Int) : Gof c (dS S n) := by
  unfold dS
  split
  · exact h
  · split
    · exact h.put _ _ _ _ (by omega) ⟨by decide, by decide⟩ (fun _ => ⟨rfl, rfl⟩)
    · rename_i h0 h1
      obtain ⟨j, rfl, hj, hr⟩ := rf_pos h0
      rw [rf_nat hj] at h1
      rw [put_ref]
      refine h.put _ _ _ _ (by have := h.few (Int.toNat (j : Int)); omega) (h.pipe _) (fun e => ?_)
      have : Int.toNat (j : Int) = j := by omega
      rw [this] at e
      omega

/-- A number that may be. -/
def mayN (x : Int) : Prop := 0 ≤ x ∧ x < 64
instance (x : Int) : Decidable (mayN x) := by unfold mayN; infer_instance
/-- Get of a descriptor. -/
def gD (D : Nat → Nat) (fd : Int) : Int := if 0 ≤ fd ∧ fd < 8 then (D fd.toNat : Int) - 1 else -1
theorem gD_nat {D : Nat → Nat} {k : Nat} (h : k < 8) : gD D (k : Int) = (D k : Int) - 1 := by unfold gD; rw [if_pos ⟨by omega, by omega⟩]; rfl
theorem gD_out {D : Nat → Nat} {k : Int} (h : ¬ (0 ≤ k ∧ k < 8)) : gD D k = -1 := if_neg h
theorem gD_some {D : Nat → Nat} {k : Int} (h : gD D k ≠ -1) : ∃ j : Nat, k = (j : Int) ∧ j < 8 ∧ D j ≠ 0 ∧ gD D k = (D j : Int) - 1 := by
  by_cases hk : 0 ≤ k ∧ k < 8
  · obtain ⟨j, rfl⟩ := Int.eq_ofNat_of_zero_le hk.1
    rw [gD_nat (by omega)] at h
    exact ⟨j, rfl, by omega, by omega, gD_nat (by omega)⟩
  · exact absurd (gD_out hk) h
/-- Put: its error, its answer, what it leaves. -/
def pE (D : Nat → Nat) (n : Int) : Int := if mayN n then (if lst D 8 = 8 then 102 else 0) else 2
def pN (D : Nat → Nat) (n : Int) : Int := if mayN n ∧ lst D 8 ≠ 8 then (lst D 8 : Int) else 0
def pD (D : Nat → Nat) (n : Int) : Nat → Nat := if mayN n ∧ lst D 8 ≠ 8 then up D (lst D 8) (n.toNat + 1) else D
/-- Set. -/
def tK (D : Nat → Nat) (fd n : Int) : Prop := mayN n ∧ (0 ≤ fd ∧ fd < 8) ∧ gD D fd = -1
instance (D : Nat → Nat) (fd n : Int) : Decidable (tK D fd n) := by unfold tK; infer_instance
def tE (D : Nat → Nat) (fd n : Int) : Int := if mayN n then (if (0 ≤ fd ∧ fd < 8) ∧ gD D fd = -1 then 0 else 103) else 2
def tD (D : Nat → Nat) (fd n : Int) : Nat → Nat := if tK D fd n then up D fd.toNat (n.toNat + 1) else D
/-- Close. -/
def cE (D : Nat → Nat) (fd : Int) : Int := if gD D fd = -1 then 103 else 0
def cN (D : Nat → Nat) (fd : Int) : Int := if gD D fd = -1 then 0 else gD D fd
def cD (D : Nat → Nat) (fd : Int) : Nat → Nat := if gD D fd = -1 then D else up D fd.toNat 0
/-- Dup. -/
def uE (D : Nat → Nat) (fd : Int) : Int := if gD D fd = -1 then 103 else pE D (gD D fd)
def uN (D : Nat → Nat) (fd : Int) : Int := if gD D fd = -1 then 0 else pN D (gD D fd)
def uD (D : Nat → Nat) (fd : Int) : Nat → Nat := if gD D fd = -1 then D else pD D (gD D fd)
/-- Descriptors hold numbers that may be. -/
def Nums (D : Nat → Nat) : Prop := ∀ k, D k ≤ 64
theorem Nums.up {D : Nat → Nat} (h : Nums D) (k v : Nat) (hv : v ≤ 64) : Nums (up D k v) := fun j => by
  unfold Bk.up
  split
  · exact hv
  · exact h j
theorem Nums.put {D : Nat → Nat} (h : Nums D) (n : Int) : Nums (pD D n) := by
  unfold pD
  split
  · rename_i hx; exact h.up _ _ (by have := hx.1; unfold mayN at this; omega)
  · exact h
theorem Nums.set {D : Nat → Nat} (h : Nums D) (fd n : Int) : Nums (tD D fd n) := by
  unfold tD
  split
  · rename_i hx; exact h.up _ _ (by have := hx.1; unfold mayN at this; omega)
  · exact h
theorem Nums.close {D : Nat → Nat} (h : Nums D) (fd : Int) : Nums (cD D fd) := by
  unfold cD
  split
  · exact h
  · exact h.up _ _ (by omega)
theorem Nums.dup {D : Nat → Nat} (h : Nums D) (fd : Int) : Nums (uD D fd) := by
  unfold uD
  split
  · exact h
  · exact h.put _
/-- How many are not free, of the first n. -/
def dlen (D : Nat → Nat) (n : Nat) : Nat := (usd D n).length
def dints (D : Nat → Nat) (n : Nat) : List Value := (List.range n).map fun k => Value.int .i64 ((D k : Int) - 1)
def ints (l : List Nat) : List Value := l.map fun (x : Nat) => Value.int .i64 (x : Int)
end Go.Proofs.Ytmdldehdlggpkaa.Jp
