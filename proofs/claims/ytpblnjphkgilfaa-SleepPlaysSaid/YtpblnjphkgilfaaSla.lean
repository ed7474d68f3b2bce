/-
  Sleepers in plain words: a list of pids and ticks left, rising; what each call answers and leaves.
-/
import Derived.Test.YtpblnjphkgilfaaKit
namespace Go.Proofs.Ytpblnjphkgilfaa.Sla
set_option linter.unusedVariables false

abbrev Sl := Int × Nat
abbrev St := List Sl
/-- Does p sleep? -/
def slp (L : St) (p : Int) : Bool := L.any fun x => x.1 == p
/-- How many ticks are left of p. -/
def lft (L : St) (p : Int) : Nat := ((L.find? fun x => x.1 == p).map (·.2)).getD 0
def ins (L : St) (p : Int) (n : Nat) : St := (L.filter fun x => decide (x.1 < p)) ++ (p, n) :: (L.filter fun x => decide (p < x.1))
def adE (L : St) (p : Int) (n : Nat) : Nat := if p < 1 ∨ n < 1 then 2 else if slp L p = true then 140 else 0
def adL (L : St) (p : Int) (n : Nat) : St := if p < 1 ∨ n < 1 then L else if slp L p = true then L else ins L p n
def tkW (L : St) : List Int := (L.filter fun x => x.2 == 1).map (·.1)
def tkL (L : St) : St := (L.filter fun x => x.2 != 1).map fun x => (x.1, x.2 - 1)
def drL (L : St) (p : Int) : St := L.filter fun x => x.1 != p
/-- One more looked at: the least so far. -/
def ls (a n : Nat) : Nat := if a = 0 ∨ n < a then n else a
def nx (L : St) : Nat := L.foldl (fun a x => ls a x.2) 0
def pids (L : St) : List Int := L.map (·.1)

/-- Rising pids that may be, each with ticks. -/
structure Ok (L : St) : Prop where
  up : L.Pairwise fun x y => x.1 < y.1
  each : ∀ x ∈ L, (1 ≤ x.1 ∧ x.1 < 9223372036854775808) ∧ 1 ≤ x.2 ∧ x.2 < 4294967296

theorem ok_nil : Ok [] := ⟨List.Pairwise.nil, by simp⟩
theorem Ok.nodup {L : St} (h : Ok L) : (pids L).Nodup := by
  unfold pids
  exact List.pairwise_map.2 (h.up.imp (fun hlt e => by omega))
theorem slp_mem {L : St} {p : Int} : slp L p = true ↔ p ∈ pids L := by
  unfold slp pids
  simp only [List.any_eq_true, List.mem_map, beq_iff_eq]
theorem slp_nil (p : Int) : slp [] p = false := rfl
theorem lft_nil (p : Int) : lft [] p = 0 := rfl
theorem slp_cons (x : Sl) (L : St) (p : Int) : slp (x :: L) p = (x.1 == p || slp L p) := rfl
theorem lft_cons (x : Sl) (L : St) (p : Int) : lft (x :: L) p = if x.1 = p then x.2 else lft L p := by
  unfold lft
  rw [List.find?_cons]
  by_cases h : x.1 = p
  · rw [if_pos h, show (x.1 == p) = true from beq_iff_eq.2 h]; rfl
  · rw [if_neg h, show (x.1 == p) = false from beq_eq_false_iff_ne.2 h]
theorem slp_app (A B : St) (p : Int) : slp (A ++ B) p = (slp A p || slp B p) := by simp [slp]
theorem lft_app (A B : St) (p : Int) : lft (A ++ B) p = if slp A p = true then lft A p else lft B p := by
  induction A with
  | nil => rfl
  | cons x A ih =>
    rw [List.cons_append, lft_cons, ih, lft_cons, slp_cons]
    by_cases h : x.1 = p
    · rw [if_pos h, if_pos (by rw [show (x.1 == p) = true from beq_iff_eq.2 h]; rfl), if_pos h]
    · rw [if_neg h, show (x.1 == p) = false from beq_eq_false_iff_ne.2 h]
      simp only [Bool.false_or, if_neg h]
theorem lft_no {L : St} {p : Int} (h : slp L p = false) : lft L p = 0 := by
  induction L with
  | nil => rfl
  | cons x L ih =>
    rw [slp_cons, Bool.or_eq_false_iff] at h
    rw [lft_cons, if_neg (beq_eq_false_iff_ne.1 h.1), ih h.2]
theorem slp_filter (f : Int → Bool) (L : St) (p : Int) : slp (L.filter fun x => f x.1) p = (f p && slp L p) := by
  induction L with
  | nil => simp [slp]
  | cons x L ih =>
    rw [List.filter_cons]
    by_cases hf : f x.1 = true
    · rw [if_pos hf, slp_cons, slp_cons, ih]
      by_cases h : x.1 = p
      · rw [← h, hf]; simp
      · rw [show (x.1 == p) = false from beq_eq_false_iff_ne.2 h]; simp
    · rw [if_neg hf, ih, slp_cons]
      by_cases h : x.1 = p
      · rw [← h, show f x.1 = false from by simpa using hf]; simp
      · rw [show (x.1 == p) = false from beq_eq_false_iff_ne.2 h]; simp
theorem lft_filter (f : Int → Bool) (L : St) (p : Int) : lft (L.filter fun x => f x.1) p = if f p = true then lft L p else 0 := by
  induction L with
  | nil => simp [lft]
  | cons x L ih =>
    rw [List.filter_cons]
    by_cases hf : f x.1 = true
    · rw [if_pos hf, lft_cons, lft_cons, ih]
      by_cases h : x.1 = p
      · rw [if_pos h, if_pos (by rw [← h]; exact hf), if_pos h]
      · rw [if_neg h, if_neg h]
    · rw [if_neg hf, ih, lft_cons]
      by_cases h : x.1 = p
      · rw [← h, if_neg hf, if_neg hf]
      · rw [if_neg h]
theorem slp_ins (L : St) (p : Int) (n : Nat) (q : Int) : slp (ins L p n) q = (p == q || slp L q) := by
  unfold ins
  rw [slp_app, slp_cons, slp_filter (fun z => decide (z < p)), slp_filter (fun z => decide (p < z))]
  dsimp only
  by_cases h : p = q
  · subst h; simp
  · rcases Int.lt_or_gt_of_ne h with h1 | h1
    · rw [decide_eq_false (show ¬ q < p by omega), decide_eq_true h1]; simp
    · rw [decide_eq_true (show q < p by omega), decide_eq_false (show ¬ p < q by omega), show (p == q) = false from beq_eq_false_iff_ne.2 h]; simp
theorem lft_ins (L : St) (p : Int) (n : Nat) (q : Int) : lft (ins L p n) q = if p = q then n else lft L q := by
  unfold ins
  rw [lft_app, lft_cons, lft_filter (fun z => decide (z < p)), lft_filter (fun z => decide (p < z)), slp_filter (fun z => decide (z < p))]
  dsimp only
  by_cases h : p = q
  · subst h; simp
  · rw [if_neg h, if_neg h]
    rcases Int.lt_or_gt_of_ne h with h1 | h1
    · rw [decide_eq_false (show ¬ q < p by omega), decide_eq_true h1]; simp
    · rw [decide_eq_true (show q < p by omega), decide_eq_false (show ¬ p < q by omega)]
      simp only [Bool.true_and, if_true, Bool.false_eq_true, if_false]
      by_cases hs : slp L q = true
      · rw [if_pos hs]
      · rw [if_neg hs, lft_no (by simpa using hs)]
theorem slp_drL (L : St) (p q : Int) : slp (drL L p) q = (q != p && slp L q) := slp_filter (fun z => z != p) L q
theorem lft_drL (L : St) (p q : Int) : lft (drL L p) q = if (q != p) = true then lft L q else 0 := lft_filter (fun z => z != p) L q

theorem Ok.sub {L M : St} (h : Ok L) (hs : List.Sublist M L) : Ok M := ⟨h.up.sublist hs, fun x hx => h.each x (hs.subset hx)⟩
theorem Ok.drL {L : St} (h : Ok L) (p : Int) : Ok (drL L p) := h.sub List.filter_sublist
theorem Ok.ins {L : St} (h : Ok L) {p : Int} {n : Nat} (hp : 1 ≤ p ∧ p < 9223372036854775808) (hn : 1 ≤ n ∧ n < 4294967296) : Ok (ins L p n) := by
  have hl : ∀ x ∈ (L.filter fun x => decide (x.1 < p)), x ∈ L ∧ x.1 < p := fun x hx => by simpa using hx
  have hg : ∀ x ∈ (L.filter fun x => decide (p < x.1)), x ∈ L ∧ p < x.1 := fun x hx => by simpa using hx
  refine ⟨?_, fun x hx => ?_⟩
  · unfold Sla.ins
    refine List.pairwise_append.2 ⟨h.up.sublist List.filter_sublist, List.pairwise_cons.2 ⟨fun y hy => (hg y hy).2, h.up.sublist List.filter_sublist⟩, fun a ha b hb => ?_⟩
    rcases List.mem_cons.1 hb with rfl | hb
    · exact (hl a ha).2
    · have := (hl a ha).2; have := (hg b hb).2; omega
  · unfold Sla.ins at hx
    rcases List.mem_append.1 hx with hx | hx
    · exact h.each x (hl x hx).1
    · rcases List.mem_cons.1 hx with rfl | hx
      · exact ⟨hp, hn⟩
      · exact h.each x (hg x hx).1
theorem Ok.adL {L : St} (h : Ok L) {p : Int} {n : Nat} (hp : p < 9223372036854775808) (hn : n < 4294967296) : Ok (adL L p n) := by
  unfold Sla.adL
  by_cases h1 : p < 1 ∨ n < 1
  · rw [if_pos h1]; exact h
  · rw [if_neg h1]
    by_cases h2 : slp L p = true
    · rw [if_pos h2]; exact h
    · rw [if_neg h2]; exact h.ins ⟨by omega, hp⟩ ⟨by omega, hn⟩
theorem Ok.tkL {L : St} (h : Ok L) : Ok (tkL L) := by
  refine ⟨?_, fun x hx => ?_⟩
  · unfold Sla.tkL
    exact List.pairwise_map.2 ((h.up.sublist List.filter_sublist).imp (fun hlt => hlt))
  · unfold Sla.tkL at hx
    obtain ⟨y, hy, rfl⟩ := List.mem_map.1 hx
    rw [List.mem_filter] at hy
    have h1 := h.each y hy.1
    have h2 : y.2 ≠ 1 := by simpa using hy.2
    exact ⟨h1.1, by show 1 ≤ y.2 - 1; omega, by show y.2 - 1 < _; omega⟩
theorem len_drL (L : St) (p : Int) : (drL L p).length ≤ L.length := List.length_filter_le _ _
theorem len_tkL (L : St) : (tkL L).length ≤ L.length := by unfold tkL; rw [List.length_map]; exact List.length_filter_le _ _
theorem len_ins (L : St) (p : Int) (n : Nat) : (ins L p n).length ≤ L.length + 1 := by
  unfold ins
  rw [List.length_append, List.length_cons]
  have : ∀ M : St, (M.filter fun x => decide (x.1 < p)).length + (M.filter fun x => decide (p < x.1)).length ≤ M.length := by
    intro M
    induction M with
    | nil => simp
    | cons x M ih =>
      rw [List.filter_cons, List.filter_cons, List.length_cons]
      by_cases h1 : x.1 < p
      · rw [if_pos (by simpa using h1), if_neg (by simp; omega), List.length_cons]; omega
      · rw [if_neg (by simpa using h1)]
        by_cases h2 : p < x.1
        · rw [if_pos (by simpa using h2), List.length_cons]; omega
        · rw [if_neg (by simpa using h2)]; omega
  exact Nat.succ_le_succ (this L)
theorem len_adL (L : St) (p : Int) (n : Nat) : (adL L p n).length ≤ L.length + 1 := by
  unfold adL
  split
  · omega
  · split
    · omega
    · exact len_ins L p n

theorem nx_nil : nx [] = 0 := rfl
theorem nx_snoc (L : St) (x : Sl) : nx (L ++ [x]) = ls (nx L) x.2 := by simp [nx]
theorem nx_le : ∀ (L : St), (∀ x ∈ L, 1 ≤ x.2) → (∀ x ∈ L, nx L ≤ x.2) ∧ (L ≠ [] → 1 ≤ nx L ∧ ∃ x ∈ L, x.2 = nx L) := by
  suffices H : ∀ (R : St), (∀ x ∈ R, 1 ≤ x.2) → (∀ x ∈ R.reverse, nx R.reverse ≤ x.2) ∧ (R ≠ [] → 1 ≤ nx R.reverse ∧ ∃ x ∈ R.reverse, x.2 = nx R.reverse) by
    intro L hL
    have := H L.reverse (fun x hx => hL x (List.mem_reverse.1 hx))
    simpa using this
  intro R
  induction R with
  | nil => intro _; exact ⟨by simp, fun h => absurd rfl h⟩
  | cons y R ih =>
    intro h
    obtain ⟨h1, h2⟩ := ih (fun x hx => h x (List.mem_cons_of_mem _ hx))
    have hy := h y List.mem_cons_self
    rw [List.reverse_cons, nx_snoc]
    by_cases hR : R = []
    · subst hR
      simp [nx, ls]
      omega
    · obtain ⟨h3, x, hx, h4⟩ := h2 hR
      unfold ls
      by_cases hc : nx R.reverse = 0 ∨ y.2 < nx R.reverse
      · rw [if_pos hc]
        refine ⟨fun z hz => ?_, fun _ => ⟨hy, y, by simp, rfl⟩⟩
        rcases List.mem_append.1 hz with hz | hz
        · have := h1 z hz; omega
        · rw [List.mem_singleton] at hz; subst hz; exact Nat.le_refl _
      · rw [if_neg hc]
        refine ⟨fun z hz => ?_, fun _ => ⟨h3, x, List.mem_append_left _ hx, h4⟩⟩
        rcases List.mem_append.1 hz with hz | hz
        · exact h1 z hz
        · rw [List.mem_singleton] at hz; subst hz; omega
theorem nx_one {L : St} (h : ∀ x ∈ L, 1 ≤ x.2) {y : Sl} (hy : y ∈ L) (h1 : y.2 = 1) : nx L = 1 := by
  have a := (nx_le L h).1 y hy
  have b := (nx_le L h).2 (by rintro rfl; cases hy)
  omega
theorem nx_zero {L : St} (h : ∀ x ∈ L, 1 ≤ x.2) : nx L = 0 ↔ L = [] := by
  constructor
  · intro h0
    apply Classical.byContradiction
    intro hn
    have := (nx_le L h).2 hn
    omega
  · rintro rfl; rfl
theorem nx_lt {L : St} (h : ∀ x ∈ L, x.2 < 4294967296) : nx L < 4294967296 := by
  have : ∀ (L : St) (a : Nat), a < 4294967296 → (∀ x ∈ L, x.2 < 4294967296) → L.foldl (fun a x => ls a x.2) a < 4294967296 := by
    intro L
    induction L with
    | nil => intro a ha _; exact ha
    | cons y L ih =>
      intro a ha hL
      refine ih _ ?_ (fun x hx => hL x (List.mem_cons_of_mem _ hx))
      have hy := hL y List.mem_cons_self
      show ls a y.2 < _
      by_cases h1 : a = 0 ∨ y.2 < a
      · rw [show ls a y.2 = y.2 from if_pos h1]; exact hy
      · rw [show ls a y.2 = a from if_neg h1]; exact ha
  exact this L 0 (by omega) h
theorem Ok.ones {L : St} (h : Ok L) : ∀ x ∈ L, 1 ≤ x.2 := fun x hx => (h.each x hx).2.1

/-- A tick, as far as it has gone. -/
theorem tk_snoc (L : St) (x : Sl) : tkW (L ++ [x]) = tkW L ++ (if x.2 = 1 then [x.1] else []) ∧ tkL (L ++ [x]) = tkL L ++ (if x.2 = 1 then [] else [(x.1, x.2 - 1)]) := by
  unfold tkW tkL
  by_cases h : x.2 = 1
  · simp [List.filter_append, h]
  · simp [List.filter_append, h]
end Go.Proofs.Ytpblnjphkgilfaa.Sla
