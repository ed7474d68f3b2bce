/-
  Trees of children part a tree; process 1 has all: plain words.
-/
import Derived.Test.YtkjcjodhpcfjiaaTeu
namespace Go.Proofs.Ytkjcjodhpcfjiaa.Tev
open Tea
set_option linter.unusedVariables false

variable {L : St}
/-- Trees within trees. -/
theorem wi_trans (h : Ok L) {p c : Int} (hc : hs L c = true) (hcp : wi L p c = true) : ∀ {x : Int}, hs L x = true → wi L c x = true → wi L p x = true := by
  obtain ⟨dp, d0, d1, d2, _⟩ := h.depth
  suffices H : ∀ n x, dp x ≤ n → hs L x = true → wi L c x = true → wi L p x = true from @fun x hx hw => H _ x (Nat.le_refl _) hx hw
  intro n
  induction n with
  | zero => intro x hn hx; have := d1 x hx; omega
  | succ n ih =>
    intro x hn hx hw
    by_cases e : x = c
    · subst e; exact hcp
    · rw [wi_in h c hx, show (x == c) = false from beq_eq_false_iff_ne.2 e, Bool.false_or] at hw
      rw [wi_in h p hx]
      rcases h.par_in hx with h0 | h1
      · rw [h0, wi_zero h] at hw
        have := h.pid c hc
        have : (0 : Int) = c := by simpa using hw
        omega
      · rw [ih _ (by have := d2 x hx; omega) h1 hw, Bool.or_true]
theorem wi_dp (h : Ok L) {dp : Int → Nat} (d1 : ∀ p, hs L p = true → 1 ≤ dp p) (d2 : ∀ p, hs L p = true → dp (gt L p).par < dp p) {c : Int} (hc : hs L c = true) {x : Int} (hx : hs L x = true) (hw : wi L c x = true) : dp c ≤ dp x := by
  suffices H : ∀ n x, dp x ≤ n → hs L x = true → wi L c x = true → dp c ≤ dp x from H _ _ (Nat.le_refl _) hx hw
  intro n
  induction n with
  | zero => intro x hn hx; have := d1 x hx; omega
  | succ n ih =>
    intro x hn hx hw
    by_cases e : x = c
    · subst e; exact Nat.le_refl _
    · rw [wi_in h c hx, show (x == c) = false from beq_eq_false_iff_ne.2 e, Bool.false_or] at hw
      rcases h.par_in hx with h0 | h1
      · rw [h0, wi_zero h] at hw
        have := h.pid c hc
        have : (0 : Int) = c := by simpa using hw
        omega
      · have a := d2 x hx
        have := ih _ (by omega) h1 hw
        omega
theorem kid_iff (h : Up L) {p x : Int} : x ∈ kids L p ↔ hs L x = true ∧ (gt L x).par = p := by
  constructor
  · intro hm
    obtain ⟨y, hy, rfl⟩ := List.mem_map.1 hm
    obtain ⟨h1, h2⟩ := List.mem_filter.1 hy
    have := h.gt h1
    exact ⟨this.2, by rw [this.1]; simpa using h2⟩
  · rintro ⟨hx, e⟩
    exact List.mem_map.2 ⟨_, List.mem_filter.2 ⟨mem_gt hx, by simpa using e⟩, rfl⟩
theorem kids_nodup (h : Up L) (p : Int) : (kids L p).Nodup := Up.nodup (h.sub List.filter_sublist)
theorem one_eq {l : List Int} (hn : l.Nodup) (x : Int) : (l.filter fun c => x == c).length = if x ∈ l then 1 else 0 := by
  induction l with
  | nil => simp
  | cons a l ih =>
    obtain ⟨h1, h2⟩ := List.nodup_cons.1 hn
    rw [List.filter_cons]
    by_cases e : x = a
    · subst e
      rw [if_pos (by simp), List.length_cons, ih h2, if_neg h1, if_pos List.mem_cons_self]
    · rw [if_neg (by simpa using e), ih h2]
      by_cases e2 : x ∈ l
      · rw [if_pos e2, if_pos (List.mem_cons_of_mem _ e2)]
      · rw [if_neg e2, if_neg (fun h => (List.mem_cons.1 h).elim e e2)]
/-- Under how many children of p one is. -/
theorem under (h : Ok L) {p : Int} (hp : hs L p = true) {x : Int} (hx : hs L x = true) : ((kids L p).filter fun c => wi L c x).length = if wi L p x = true ∧ x ≠ p then 1 else 0 := by
  obtain ⟨dp, d0, d1, d2, _⟩ := h.depth
  have hpp := h.pid p hp
  have hkd : ∀ c, c ∈ kids L p → hs L c = true ∧ (gt L c).par = p ∧ dp p < dp c ∧ wi L p c = true := fun c hc => by
    obtain ⟨a, b⟩ := (kid_iff h.up).1 hc
    have := d2 c a
    rw [b] at this
    refine ⟨a, b, this, ?_⟩
    rw [wi_in h p a, b, wi_self h hp, Bool.or_true]
  have hnop : ∀ c, c ∈ kids L p → wi L c p = false := fun c hc => by
    obtain ⟨a, b, d, _⟩ := hkd c hc
    cases e : wi L c p
    · rfl
    · have := wi_dp h (fun p hp => (d1 p hp).1) d2 a hp e; omega
  suffices H : ∀ n x, dp x ≤ n → hs L x = true → ((kids L p).filter fun c => wi L c x).length = if wi L p x = true ∧ x ≠ p then 1 else 0 from H _ _ (Nat.le_refl _) hx
  intro n
  induction n with
  | zero => intro x hn hx; have := (d1 x hx).1; omega
  | succ n ih =>
    intro x hn hx
    by_cases hw : wi L p x = true
    · by_cases e : x = p
      · subst e
        rw [if_neg (fun h => h.2 rfl)]
        rw [List.filter_eq_nil_iff.2 (fun c hc => by rw [hnop c hc]; decide)]
        rfl
      · rw [if_pos ⟨hw, e⟩]
        rw [wi_in h p hx, show (x == p) = false from beq_eq_false_iff_ne.2 e, Bool.false_or] at hw
        rcases h.par_in hx with h0 | h1
        · rw [h0, wi_zero h] at hw
          have : (0 : Int) = p := by simpa using hw
          omega
        · by_cases e2 : (gt L x).par = p
          · have hxk : x ∈ kids L p := (kid_iff h.up).2 ⟨hx, e2⟩
            rw [List.filter_congr (q := fun c => x == c) (fun c hc => by rw [wi_in h c hx, e2, hnop c hc, Bool.or_false])]
            rw [one_eq (kids_nodup h.up p), if_pos hxk]
          · rw [List.filter_congr (q := fun c => wi L c (gt L x).par) (fun c hc => by
              have : x ≠ c := fun e3 => e2 (by rw [e3]; exact (hkd c hc).2.1)
              rw [wi_in h c hx, show (x == c) = false from beq_eq_false_iff_ne.2 this, Bool.false_or])]
            rw [ih _ (by have := d2 x hx; omega) h1, if_pos ⟨hw, e2⟩]
    · rw [if_neg (fun h => hw h.1)]
      rw [List.filter_eq_nil_iff.2 (fun c hc => by
        intro e
        obtain ⟨a, _, _, d⟩ := hkd c hc
        exact hw (wi_trans h a d hx e))]
      rfl
theorem sum_filter {α : Type} (f : α → Bool) (l : List α) : (l.filter f).length = (l.map fun x => if f x = true then 1 else 0).sum := by
  induction l with
  | nil => rfl
  | cons a l ih =>
    rw [List.filter_cons, List.map_cons, List.sum_cons, ← ih]
    by_cases e : f a = true
    · rw [if_pos e, if_pos e, List.length_cons]; omega
    · rw [if_neg e, if_neg e]; omega
theorem sum_add {α : Type} (f g : α → Nat) (l : List α) : (l.map fun x => f x + g x).sum = (l.map f).sum + (l.map g).sum := by
  induction l with
  | nil => rfl
  | cons a l ih => simp only [List.map_cons, List.sum_cons, ih]; omega
/-- Counted by rows, counted by columns. -/
theorem sum_swap {α β : Type} (f : α → β → Bool) (l : List β) : ∀ k : List α, (k.map fun c => (l.filter (f c)).length).sum = (l.map fun x => (k.filter fun c => f c x).length).sum := by
  intro k
  induction k with
  | nil => induction l with
    | nil => rfl
    | cons a l ih => simpa using ih
  | cons c k ih =>
    rw [List.map_cons, List.sum_cons, ih, sum_filter, ← sum_add]
    congr 1
    apply List.map_congr_left
    intro x _
    rw [List.filter_cons]
    by_cases e : f c x = true
    · rw [if_pos e, if_pos e, List.length_cons]; omega
    · rw [if_neg e, if_neg e]; omega
theorem one_self {L : St} (h : Up L) {p : Int} (hp : hs L p = true) (g : Int → Bool) (hg : g p = true) : (L.filter fun x => g x.1).length = (L.filter fun x => decide (g x.1 = true ∧ x.1 ≠ p)).length + 1 := by
  induction L with
  | nil => cases hp
  | cons a L ih =>
    obtain ⟨h1, h2⟩ := List.pairwise_cons.1 h
    rw [List.filter_cons, List.filter_cons]
    by_cases e : a.1 = p
    · rw [if_pos (by rw [e]; exact hg), if_neg (by simp [e]), List.length_cons]
      congr 1
      congr 1
      apply List.filter_congr
      intro x hx
      have : x.1 ≠ p := by have := h1 x hx; omega
      cases hgx : g x.1 <;> simp [this]
    · rw [hs_cons, show (a.1 == p) = false from beq_eq_false_iff_ne.2 e, Bool.false_or] at hp
      have := ih h2 hp
      by_cases hga : g a.1 = true
      · rw [if_pos hga, if_pos (by simp [hga, e]), List.length_cons, List.length_cons, this]
      · rw [if_neg hga, if_neg (by simp [hga]), this]
theorem tr_count (h : Ok L) {p : Int} (hp : hs L p = true) : (tr L p).length = 1 + ((kids L p).map fun c => (tr L c).length).sum := by
  have e1 : ((kids L p).map fun c => (tr L c).length) = (kids L p).map fun c => (L.filter fun x => wi L c x.1).length := by
    apply List.map_congr_left
    intro c hc
    unfold tr pids
    rw [if_pos ((kid_iff h.up).1 hc).1, List.length_map]
  rw [e1, sum_swap (fun c (x : Pr) => wi L c x.1) L (kids L p)]
  have e2 : (L.map fun x => ((kids L p).filter fun c => wi L c x.1).length) = L.map fun x => if decide (wi L p x.1 = true ∧ x.1 ≠ p) = true then 1 else 0 := by
    apply List.map_congr_left
    intro x hx
    rw [under h hp (h.up.gt hx).2]
    by_cases e : wi L p x.1 = true ∧ x.1 ≠ p
    · rw [if_pos e, if_pos (decide_eq_true e)]
    · rw [if_neg e, if_neg (by rw [decide_eq_false e]; decide)]
  rw [e2, ← sum_filter]
  unfold tr pids
  rw [if_pos hp, List.length_map, one_self h.up hp (fun x => wi L p x) (wi_self h hp)]
  omega
theorem tr_one (h : Ok L) : (tr L 1).length = L.length := by
  obtain ⟨dp, d0, d1, d2, _⟩ := h.depth
  obtain ⟨rk, hr⟩ := h.tree
  have H : ∀ n x, dp x ≤ n → hs L x = true → wi L 1 x = true := by
    intro n
    induction n with
    | zero => intro x hn hx; have := d1 x hx; omega
    | succ n ih =>
      intro x hn hx
      by_cases e : x = 1
      · subst e; exact wi_self h hx
      · rw [wi_in h 1 hx, ih _ (by have := d2 x hx; omega) (hr x hx e).1, Bool.or_true]
  unfold tr pids
  rw [if_pos h.one.1, List.length_map, List.filter_eq_self.2 (fun x hx => H _ _ (Nat.le_refl _) (h.up.gt hx).2)]
end Go.Proofs.Ytkjcjodhpcfjiaa.Tev
