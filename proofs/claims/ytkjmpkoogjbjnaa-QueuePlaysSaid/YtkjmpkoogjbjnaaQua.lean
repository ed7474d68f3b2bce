/-
  Queues in plain words: the cores of a mask, the one of them with the fewest, where a pid is; what each call answers and leaves.
-/
import Derived.Test.YtkjmpkoogjbjnaaBk
namespace Go.Proofs.Ytkjmpkoogjbjnaa.Qua
open Go Go.RowKit Kit Bk
set_option linter.unusedVariables false

/-- Queues: of each core its pids. -/
abbrev Ls := Nat → List Int
def bt (m k : Nat) : Bool := m.testBit k
/-- The cores of a mask. -/
def ws (c m : Nat) : List Nat := (List.range c).filter fun k => bt m k
theorem ws_mem {c m k : Nat} : k ∈ ws c m ↔ k < c ∧ bt m k = true := by simp [ws]
theorem ws_zero (m : Nat) : ws 0 m = [] := rfl
theorem ws_yes {c m : Nat} (h : bt m c = true) : ws (c + 1) m = ws c m ++ [c] := by
  unfold ws
  rw [List.range_succ, List.filter_append, List.filter_cons_of_pos h]
  rfl
theorem ws_no {c m : Nat} (h : bt m c = false) : ws (c + 1) m = ws c m := by
  unfold ws
  rw [List.range_succ, List.filter_append, List.filter_cons_of_neg (by rw [h]; decide)]
  simp
theorem ws_len (c m : Nat) : (ws c m).length ≤ c := by
  unfold ws
  refine Nat.le_trans (List.length_filter_le _ _) (by simp)
/-- Is a core one of a mask? -/
def hasC (c m : Nat) (z : Int) : Bool := (ws c m).any fun j => (j : Int) == z
theorem hasC_iff {c m : Nat} {z : Int} : hasC c m z = true ↔ ∃ k, k < c ∧ bt m k = true ∧ (k : Int) = z := by
  unfold hasC
  rw [List.any_eq_true]
  constructor
  · rintro ⟨k, h1, h2⟩
    exact ⟨k, (ws_mem.1 h1).1, (ws_mem.1 h1).2, eq_of_beq h2⟩
  · rintro ⟨k, h1, h2, h3⟩
    exact ⟨k, ws_mem.2 ⟨h1, h2⟩, by simp [h3]⟩
theorem hasC_nat {c m k : Nat} : hasC c m (k : Int) = (decide (k < c) && bt m k) := by
  rw [Bool.eq_iff_iff, hasC_iff]
  simp only [Bool.and_eq_true, decide_eq_true_eq]
  constructor
  · rintro ⟨j, h1, h2, h3⟩
    obtain rfl : j = k := by omega
    exact ⟨h1, h2⟩
  · rintro ⟨h1, h2⟩
    exact ⟨k, h1, h2, rfl⟩
/-- Nobody of the mask has fewer. -/
def least (c m : Nat) (n : Nat → Nat) (k : Nat) : Bool := (ws c m).all fun j => !decide (n j < n k)
theorem least_iff {c m : Nat} {n : Nat → Nat} {k : Nat} : least c m n k = true ↔ ∀ j, j ∈ ws c m → n k ≤ n j := by
  unfold least
  rw [List.all_eq_true]
  constructor
  · intro h j hj
    have := h j hj
    simpa using this
  · intro h j hj
    have := h j hj
    simpa using this
/-- The core of a mask with the fewest. -/
def fewN (c m : Nat) (n : Nat → Nat) : Option Nat := (ws c m).find? (least c m n)
def few (c m : Nat) (n : Nat → Nat) : Int := match fewN c m n with | some k => (k : Int) | none => -1
theorem ws_sorted (c m : Nat) : (ws c m).Pairwise (· < ·) := List.Pairwise.filter _ List.pairwise_lt_range
theorem few_some {c m : Nat} {n : Nat → Nat} {k : Nat} (h : fewN c m n = some k) : k ∈ ws c m ∧ (∀ j, j ∈ ws c m → n k ≤ n j) ∧ ∀ j, j ∈ ws c m → j < k → n k < n j := by
  unfold fewN at h
  obtain ⟨h1, xs, ys, h2, h3⟩ := List.find?_eq_some_iff_append.1 h
  have hk : k ∈ ws c m := by rw [h2]; simp
  refine ⟨hk, least_iff.1 h1, fun j hj hlt => ?_⟩
  have hja : j ∈ xs := by
    have hs := ws_sorted c m
    rw [h2] at hj hs
    rcases List.mem_append.1 hj with h | h
    · exact h
    · exfalso
      have hs2 := (List.pairwise_append.1 hs).2.1
      rcases List.mem_cons.1 h with rfl | h
      · omega
      · have := (List.pairwise_cons.1 hs2).1 j h
        omega
  have h4 := h3 j hja
  refine Nat.lt_of_not_le fun hle => ?_
  have : least c m n j = true := least_iff.2 fun i hi => Nat.le_trans hle (least_iff.1 h1 i hi)
  rw [this] at h4
  simp at h4
theorem min_is (n : Nat → Nat) : ∀ l : List Nat, l ≠ [] → ∃ k, k ∈ l ∧ ∀ j, j ∈ l → n k ≤ n j
  | [], h => absurd rfl h
  | [a], _ => ⟨a, by simp, fun j hj => by simp at hj; subst hj; exact Nat.le_refl _⟩
  | a :: b :: r, _ => by
    obtain ⟨k, h1, h2⟩ := min_is n (b :: r) (by simp)
    by_cases h : n a ≤ n k
    · refine ⟨a, by simp, fun j hj => ?_⟩
      rcases List.mem_cons.1 hj with rfl | hj
      · exact Nat.le_refl _
      · exact Nat.le_trans h (h2 j hj)
    · refine ⟨k, List.mem_cons_of_mem _ h1, fun j hj => ?_⟩
      rcases List.mem_cons.1 hj with rfl | hj
      · omega
      · exact h2 j hj
theorem few_none {c m : Nat} {n : Nat → Nat} : fewN c m n = none ↔ ws c m = [] := by
  constructor
  · intro h
    refine Classical.byContradiction fun hne => ?_
    obtain ⟨k, h1, h2⟩ := min_is n _ hne
    unfold fewN at h
    rw [List.find?_eq_none] at h
    exact h k h1 (least_iff.2 h2)
  · intro h
    unfold fewN
    rw [h]
    rfl
theorem few_is {c m : Nat} {n : Nat → Nat} {k : Nat} (h1 : k ∈ ws c m) (h2 : ∀ j, j ∈ ws c m → n k ≤ n j) (h3 : ∀ j, j ∈ ws c m → j < k → n k < n j) : fewN c m n = some k := by
  cases h : fewN c m n with
  | none => rw [few_none.1 h] at h1; simp at h1
  | some i =>
    obtain ⟨g1, g2, g3⟩ := few_some h
    have : i = k := by
      rcases Nat.lt_trichotomy i k with hlt | rfl | hlt
      · have a := h3 i g1 hlt; have b := g2 k h1; omega
      · rfl
      · have a := g3 k h1 hlt; have b := h2 i g1; omega
    rw [this]
theorem few_congr {c m : Nat} {n n' : Nat → Nat} (h : ∀ k, k ∈ ws c m → n k = n' k) : fewN c m n = fewN c m n' := by
  cases e : fewN c m n' with
  | none => rw [few_none] at e ⊢; exact e
  | some k =>
    obtain ⟨g1, g2, g3⟩ := few_some e
    exact few_is g1 (fun j hj => by rw [h k g1, h j hj]; exact g2 j hj) (fun j hj hlt => by rw [h k g1, h j hj]; exact g3 j hj hlt)
theorem few_eq_some {c m : Nat} {n : Nat → Nat} {k : Nat} (h : fewN c m n = some k) : few c m n = (k : Int) := by unfold few; rw [h]
theorem few_eq_none {c m : Nat} {n : Nat → Nat} (h : fewN c m n = none) : few c m n = -1 := by unfold few; rw [h]
/-- May: is a core of the mask there? -/
def may (c m : Nat) : Bool := !(ws c m).isEmpty
theorem may_iff {c m : Nat} {n : Nat → Nat} : may c m = (fewN c m n).isSome := by
  cases h : fewN c m n with
  | none => rw [few_none] at h; unfold may; rw [h]; rfl
  | some k =>
    have := (few_some h).1
    unfold may
    cases e : ws c m with
    | nil => rw [e] at this; simp at this
    | cons a r => rfl
theorem may_few {c m : Nat} {n : Nat → Nat} : decide (0 ≤ few c m n) = may c m := by
  rw [may_iff (n := n)]
  cases h : fewN c m n with
  | none => rw [few_eq_none h]; rfl
  | some k => rw [few_eq_some h]; exact decide_eq_true (by omega)

/-- Where a pid is. -/
def whN (c : Nat) (l : Ls) (p : Int) : Option Nat := (List.range c).find? fun k => (l k).contains p
def wh (c : Nat) (l : Ls) (p : Int) : Int := match whN c l p with | some k => (k : Int) | none => -1
theorem wh_eq_some {c : Nat} {l : Ls} {p : Int} {k : Nat} (h : whN c l p = some k) : wh c l p = (k : Int) := by unfold wh; rw [h]
theorem wh_eq_none {c : Nat} {l : Ls} {p : Int} (h : whN c l p = none) : wh c l p = -1 := by unfold wh; rw [h]
theorem whN_first {c : Nat} {l : Ls} {p : Int} {k : Nat} (hk : k < c) (h1 : p ∈ l k) (h2 : ∀ j, j < k → p ∉ l j) : whN c l p = some k := by
  unfold whN
  rw [List.find?_eq_some_iff_append]
  refine ⟨by simpa using h1, List.range k, (List.range' (k + 1) (c - k - 1)), ?_, fun j hj => by have := h2 j (by simpa using hj); simpa using this⟩
  apply List.ext_getElem
  · simp; omega
  · intro i a b
    rcases Nat.lt_trichotomy i k with h | h | h
    · rw [List.getElem_append_left (by simpa using h)]; simp
    · subst h; rw [List.getElem_append_right (by simp)]; simp
    · rw [List.getElem_append_right (by simp; omega), List.getElem_cons]
      split
      · simp at *; omega
      · simp; omega
theorem whN_nowhere {c : Nat} {l : Ls} {p : Int} (h : ∀ j, j < c → p ∉ l j) : whN c l p = none := by
  unfold whN
  rw [List.find?_eq_none]
  intro j hj
  have := h j (by simpa using hj)
  simpa using this
theorem whN_in {c : Nat} {l : Ls} {p : Int} {k : Nat} (h : whN c l p = some k) : k < c ∧ p ∈ l k := by
  unfold whN at h
  have h1 := List.mem_of_find?_eq_some h
  have h2 := List.find?_some h
  exact ⟨by simpa using h1, by simpa using h2⟩
theorem whN_not {c : Nat} {l : Ls} {p : Int} (h : whN c l p = none) (k : Nat) (hk : k < c) : p ∉ l k := by
  unfold whN at h
  rw [List.find?_eq_none] at h
  have := h k (by simpa using hk)
  simpa using this

/-- What List tells. -/
def lst (c : Nat) (l : Ls) (z : Int) : List Int := if 0 ≤ z ∧ z < (c : Int) then l z.toNat else []
theorem lst_nat {c : Nat} {l : Ls} {k : Nat} (h : k < c) : lst c l (k : Int) = l k := by unfold lst; rw [if_pos (by omega)]; simp
/-- What Place answers, and leaves. -/
def lens (l : Ls) : Nat → Nat := fun k => (l k).length
def plE (c : Nat) (l : Ls) (p : Int) (m : Nat) : Int := if p < 1 then 2 else if (whN c l p).isSome = true ∨ may c m = false then 130 else 0
def plT (c : Nat) (l : Ls) (z : Int) (m : Nat) : Nat := if hasC c m z = true then z.toNat else (fewN c m (lens l)).getD 0
def plR (c : Nat) (l : Ls) (p z : Int) (m : Nat) : Int := if plE c l p m = 0 then (plT c l z m : Int) else 0
def plL (c : Nat) (l : Ls) (p z : Int) (m : Nat) : Ls := if plE c l p m = 0 then up l (plT c l z m) (l (plT c l z m) ++ [p]) else l
/-- Cut. -/
def ctB (c : Nat) (l : Ls) (p : Int) : Bool := (whN c l p).isSome
def ctL (c : Nat) (l : Ls) (p : Int) : Ls := match whN c l p with | some k => up l k ((l k).erase p) | none => l
/-- Move. -/
def mvN (c : Nat) (l : Ls) (p : Int) (m : Nat) : Prop := whN c l p = none ∨ may c m = false
instance (c : Nat) (l : Ls) (p : Int) (m : Nat) : Decidable (mvN c l p m) := by unfold mvN; infer_instance
def mvE (c : Nat) (l : Ls) (p : Int) (m : Nat) : Int := if mvN c l p m then 130 else if hasC c m (wh c l p) = true then 0 else plE c (ctL c l p) p m
def mvR (c : Nat) (l : Ls) (p : Int) (m : Nat) : Int := if mvN c l p m then 0 else if hasC c m (wh c l p) = true then wh c l p else plR c (ctL c l p) p (wh c l p) m
def mvL (c : Nat) (l : Ls) (p : Int) (m : Nat) : Ls := if mvN c l p m then l else if hasC c m (wh c l p) = true then l else plL c (ctL c l p) p (wh c l p) m
/-- Rotate. -/
def rtB (c : Nat) (l : Ls) (z : Int) : Bool := decide (2 ≤ (lst c l z).length)
def rot (x : List Int) : List Int := x.drop 1 ++ x.take 1
def rtL (c : Nat) (l : Ls) (z : Int) : Ls := if rtB c l z = true then up l z.toNat (rot (l z.toNat)) else l
/-- Pick. -/
def pk (c : Nat) (l : Ls) (z : Int) (n : Nat) : Int := ((lst c l z)[n % (lst c l z).length]?).getD 0
/-- All. -/
def srt (x : List Int) : List Int := x.mergeSort fun a b => decide (a ≤ b)
def flat (l : Ls) : List Int := l 0 ++ l 1 ++ l 2 ++ l 3 ++ l 4 ++ l 5 ++ l 6 ++ l 7
def al (l : Ls) : List Int := srt (flat l)
end Go.Proofs.Ytkjmpkoogjbjnaa.Qua
