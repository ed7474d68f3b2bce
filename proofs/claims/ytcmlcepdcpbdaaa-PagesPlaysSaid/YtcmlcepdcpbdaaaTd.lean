/-
  Holes, parts and clean tables, in plain words.
-/
import Derived.Test.YtcmlcepdcpbdaaaTi
namespace Go.Proofs.Ytcmlcepdcpbdaaa.Td
open Go Go.RowKit Kit Bk Tm Ts Tc Ti
set_option linter.unusedVariables false

/-- A page's number, none above 63. -/
def pg (x : Nat × En) : Nat := min x.1 63
theorem pg_of {k : Nat} (h : k < 64) (e : En) : pg (k, e) = k := by unfold pg; show min k 63 = k; omega
theorem pg_le (x : Nat × En) : pg x ≤ 63 := by unfold pg; omega
def encp (x : Nat × En) : Array Value := #[.int .i64 (pg x : Int), ev x.2]
theorem encp_of (k : Nat) (h : k < 64) (e : En) : encp (k, e) = #[.int .i64 (k : Int), ev e] := by unfold encp; rw [pg_of h]

/-- Behind the last of them. -/
def fr (l : List (Nat × En)) : Nat := l.foldl (fun _ x => pg x + 1) 0
theorem fr_app (l : List (Nat × En)) (x : Nat × En) : fr (l ++ [x]) = pg x + 1 := by simp [fr]
theorem fr_le (l : List (Nat × En)) : fr l ≤ 64 := by
  unfold fr
  suffices h : ∀ (l : List (Nat × En)) (s : Nat), s ≤ 64 → l.foldl (fun _ x => pg x + 1) s ≤ 64 from h l 0 (by omega)
  intro l
  induction l with
  | nil => intro s hs; exact hs
  | cons x r ih => intro s hs; exact ih (pg x + 1) (by have := pg_le x; omega)
/-- No stretch of n ahead of any of them. -/
def gapS (n : Int) (l : List (Nat × En)) : Nat × Prop := l.foldl (fun s x => (pg x + 1, s.2 ∧ ¬ n ≤ (pg x : Int) - (s.1 : Int))) (0, True)
def gap (n : Int) (l : List (Nat × En)) : Prop := (gapS n l).2
theorem gapS_fst (n : Int) (l : List (Nat × En)) : (gapS n l).1 = fr l := by
  unfold gapS fr
  suffices h : ∀ (l : List (Nat × En)) (s : Nat × Prop), (l.foldl (fun s x => (pg x + 1, s.2 ∧ ¬ n ≤ (pg x : Int) - (s.1 : Int))) s).1 = l.foldl (fun _ x => pg x + 1) s.1 from h l _
  intro l
  induction l with
  | nil => intro s; rfl
  | cons x r ih => intro s; exact ih _
theorem gap_nil (n : Int) : gap n [] := trivial
theorem gap_app (n : Int) (l : List (Nat × En)) (x : Nat × En) : gap n (l ++ [x]) ↔ gap n l ∧ ¬ n ≤ (pg x : Int) - (fr l : Int) := by
  have h := gapS_fst n l
  unfold gap gapS at *
  simp only [List.foldl_append, List.foldl_cons, List.foldl_nil]
  rw [h]

def free (T : Nat → Option En) (p m : Nat) : Prop := ∀ k, k < m → T (p + k) = none
/-- What Hole answers. -/
def HoleIs (T : Nat → Option En) (n a : Int) (b : Bool) : Prop :=
  (b = true ∧ ∃ p m : Nat, a = (p : Int) ∧ n = (m : Int) ∧ 1 ≤ m ∧ p + m ≤ 64 ∧ free T p m ∧ ∀ q, q < p → ¬ free T q m) ∨
  (b = false ∧ a = 0 ∧ (n < 1 ∨ ∀ q m : Nat, n = (m : Int) → q + m ≤ 64 → ¬ free T q m))
theorem HoleIs.one {T : Nat → Option En} {n a a' : Int} {b b' : Bool} (h : HoleIs T n a b) (h' : HoleIs T n a' b') : a = a' ∧ b = b' := by
  rcases h with ⟨rfl, p, m, rfl, hn, h1, h2, h3, h4⟩ | ⟨rfl, rfl, h5⟩
  · rcases h' with ⟨rfl, p', m', rfl, hn', h1', h2', h3', h4'⟩ | ⟨rfl, rfl, h5'⟩
    · have : m = m' := by omega
      subst this
      refine ⟨?_, rfl⟩
      rcases Nat.lt_trichotomy p p' with hlt | rfl | hlt
      · exact absurd h3 (h4' p hlt)
      · rfl
      · exact absurd h3' (h4 p' hlt)
    · rcases h5' with h | h
      · omega
      · exact absurd h3 (h p m hn h2)
  · rcases h' with ⟨rfl, p', m', rfl, hn', h1', h2', h3', h4'⟩ | ⟨rfl, rfl, h5'⟩
    · rcases h5 with h | h
      · omega
      · exact absurd h3' (h p' m' hn' h2')
    · exact ⟨rfl, rfl⟩

/-- What lies behind the last one. -/
theorem fr_ents {T : Nat → Option En} : ∀ k, k ≤ 64 → fr (ents T k) ≤ k ∧ ∀ j, fr (ents T k) ≤ j → j < k → T j = none
  | 0, _ => ⟨Nat.le_refl _, fun j _ h => absurd h (Nat.not_lt_zero _)⟩
  | k + 1, hk => by
    obtain ⟨h1, h2⟩ := fr_ents (T := T) k (by omega)
    cases hx : T k with
    | none =>
      rw [ents_none hx]
      refine ⟨by omega, fun j hj hlt => ?_⟩
      by_cases e : j = k
      · subst e; exact hx
      · exact h2 j hj (by omega)
    | some x =>
      rw [ents_some hx, fr_app, pg_of (by omega)]
      exact ⟨Nat.le_refl _, fun j hj hlt => by omega⟩
theorem gap_ents {T : Nat → Option En} {m : Nat} : ∀ k, k ≤ 64 → gap (m : Int) (ents T k) → ∀ q, q < fr (ents T k) → ¬ free T q m
  | 0, _, _, q, hq => absurd hq (Nat.not_lt_zero _)
  | k + 1, hk, hg, q, hq => by
    cases hx : T k with
    | none =>
      rw [ents_none hx] at hg hq
      exact gap_ents k (by omega) hg q hq
    | some x =>
      rw [ents_some hx] at hg hq
      rw [gap_app, pg_of (by omega)] at hg
      rw [fr_app, pg_of (by omega)] at hq
      by_cases h : q < fr (ents T k)
      · exact gap_ents k (by omega) hg.1 q h
      · intro hf
        have := hf (k - q) (by omega)
        rw [show q + (k - q) = k by omega, hx] at this
        cases this
theorem ents_last {T : Nat → Option En} {pre : List (Nat × En)} {x : Nat × En} : ∀ k, ents T k = pre ++ [x] → x.1 < k ∧ pre = ents T x.1
  | 0, h => by simp [ents_zero] at h
  | k + 1, h => by
    cases hx : T k with
    | none =>
      rw [ents_none hx] at h
      obtain ⟨h1, h2⟩ := ents_last k h
      exact ⟨by omega, h2⟩
    | some e =>
      rw [ents_some hx] at h
      obtain ⟨h1, h2⟩ := List.append_inj' h rfl
      injection h2 with h2
      subst h2
      exact ⟨Nat.lt_succ_self _, h1.symm⟩
theorem hole_done {T : Nat → Option En} {m : Nat} (hm : 1 ≤ m) (hg : gap (m : Int) (ents T 64)) : HoleIs T (m : Int) (if fr (ents T 64) + m ≤ 64 then (fr (ents T 64) : Int) else 0) (decide (fr (ents T 64) + m ≤ 64)) := by
  obtain ⟨h1, h2⟩ := fr_ents (T := T) 64 (Nat.le_refl _)
  by_cases h : fr (ents T 64) + m ≤ 64
  · rw [if_pos h, decide_eq_true h]
    exact .inl ⟨rfl, _, m, rfl, rfl, hm, h, fun k hk => h2 _ (by omega) (by omega), fun q hq => gap_ents 64 (Nat.le_refl _) hg q hq⟩
  · rw [if_neg h, decide_eq_false h]
    refine .inr ⟨rfl, rfl, .inr fun q m' hm' hq hf => ?_⟩
    have : m = m' := by omega
    subst this
    exact gap_ents 64 (Nat.le_refl _) hg q (by omega) hf
theorem hole_stop {T : Nat → Option En} {m : Nat} (hm : 1 ≤ m) {pre : List (Nat × En)} {x : Nat × En} {k : Nat} (hk : k ≤ 64) (he : pre ++ [x] = ents T k) (hg : gap (m : Int) pre) (hx : (m : Int) ≤ (pg x : Int) - (fr pre : Int)) : HoleIs T (m : Int) (fr pre : Int) true ∧ fr pre + m ≤ 64 := by
  obtain ⟨h1, h2⟩ := ents_last k he.symm
  have hpg := pg_le x
  have hpx : pg x ≤ x.1 := by unfold pg; omega
  rw [h2] at hg hx ⊢
  obtain ⟨h3, h4⟩ := fr_ents (T := T) x.1 (by omega)
  exact ⟨.inl ⟨rfl, _, m, rfl, rfl, hm, by omega, fun j hj => h4 _ (by omega) (by omega), fun q hq => gap_ents x.1 (by omega) hg q hq⟩, by omega⟩

/-- How many parts those pages stand in; and the last one's. -/
def pstep (s : Int × Int) (x : Nat × En) : Int × Int := if ((pg x / 8 : Nat) : Int) = s.2 then s else (s.1 + 1, ((pg x / 8 : Nat) : Int))
def pf (l : List (Nat × En)) : Int × Int := l.foldl pstep (0, -1)
theorem pf_app (l : List (Nat × En)) (x : Nat × En) : pf (l ++ [x]) = pstep (pf l) x := by simp [pf]
theorem pf_bd (l : List (Nat × En)) : 0 ≤ (pf l).1 ∧ (pf l).1 ≤ (l.length : Int) ∧ -1 ≤ (pf l).2 ∧ (pf l).2 ≤ 8 := by
  unfold pf
  suffices h : ∀ (l : List (Nat × En)) (s : Int × Int), (0 ≤ s.1 ∧ -1 ≤ s.2 ∧ s.2 ≤ 8) → 0 ≤ (l.foldl pstep s).1 ∧ (l.foldl pstep s).1 ≤ s.1 + (l.length : Int) ∧ -1 ≤ (l.foldl pstep s).2 ∧ (l.foldl pstep s).2 ≤ 8 by
    have := h l (0, -1) ⟨by simp, by simp, by simp⟩
    refine ⟨this.1, ?_, this.2.2⟩
    have := this.2.1
    simp only at this
    omega
  intro l
  induction l with
  | nil => intro s hs; exact ⟨hs.1, by simp, hs.2⟩
  | cons x r ih =>
    intro s hs
    have hpg := pg_le x
    have hq : pg x / 8 ≤ 7 := by omega
    have := ih (pstep s x) (by
      unfold pstep
      split
      · exact hs
      · exact ⟨by show 0 ≤ s.1 + 1; omega, by show -1 ≤ ((pg x / 8 : Nat) : Int); omega, by show ((pg x / 8 : Nat) : Int) ≤ 8; omega⟩)
    refine ⟨this.1, ?_, this.2.2⟩
    have h2 := this.2.1
    have h3 : (pstep s x).1 ≤ s.1 + 1 := by
      unfold pstep
      split
      · omega
      · exact Int.le_refl _
    rw [List.foldl_cons, List.length_cons]
    omega
/-- A table's parts. -/
def parts (T : Nat → Option En) : Int := (pf (ents T 64)).1

/-- No page dirty. -/
def und (e : En) : En := { e with d := false }
def cln (T : Nat → Option En) : Nat → Option En := fun k => (T k).map und
end Go.Proofs.Ytcmlcepdcpbdaaa.Td
