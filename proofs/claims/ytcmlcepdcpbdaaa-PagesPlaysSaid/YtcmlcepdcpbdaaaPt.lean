/-
  Parts are those eights of which a page has one: PagesParts.
-/
import Derived.Test.YtcmlcepdcpbdaaaHo
namespace Go.Proofs.Ytcmlcepdcpbdaaa.Pt
open Go Go.RowKit Kit Bk Tm Ts Tc Ti Tl Th Td Tq Tr Tn En Ov Gd Ho
set_option linter.unusedVariables false

/-- The arguments, under what was laid since. -/
theorem OpsAt.below {v : Value} {ops : List Opr} {w w' : World} (h : OpsAt w v ops) (hb : Below w.heap.size w w') : OpsAt w' v ops := by
  obtain ⟨a, cap, e, h1, h2, h3⟩ := h
  refine ⟨a, cap, e, h1, h2, ?_⟩
  rcases h3 with h3 | ⟨b, off, e2, hlt, h4⟩
  · exact .inl h3
  · exact .inr ⟨b, off, e2, Nat.lt_of_lt_of_le hlt hb.size, fun i hi => OpAt.below (h4 i hi) hb hlt⟩
theorem ents_mono {T : Nat → Option En} {a : Nat} : ∀ b, a ≤ b → (ents T a).length ≤ (ents T b).length
  | 0, h => by have : a = 0 := by omega
               subst this; exact Nat.le_refl _
  | b + 1, h => by
    by_cases e : a = b + 1
    · subst e; exact Nat.le_refl _
    · refine Nat.le_trans (ents_mono b (by omega)) ?_
      cases hx : T b with
      | none => rw [ents_none hx]; exact Nat.le_refl _
      | some x => rw [ents_some hx, List.length_append]; omega
theorem ents_strict {T : Nat → Option En} {a b : Nat} {e : En} (h : T a = some e) (hab : a < b) : (ents T a).length < (ents T b).length := by
  have := ents_mono (T := T) (a := a + 1) b hab
  rw [ents_some h, List.length_append] at this
  simp at this
  omega
theorem ents_nth {T : Nat → Option En} : ∀ n i (h : i < (ents T n).length), ∃ q e, q < n ∧ T q = some e ∧ (ents T q).length = i ∧ (ents T n)[i] = (q, e)
  | 0, i, h => by simp [ents_zero] at h
  | n + 1, i, h => by
    cases hx : T n with
    | none =>
      have hu := ents_none hx
      have h' : i < (ents T n).length := by rw [← hu]; exact h
      obtain ⟨q, e, h1, h2, h3, h4⟩ := ents_nth n i h'
      exact ⟨q, e, by omega, h2, h3, by simp only [hu]; exact h4⟩
    | some x =>
      have hu := ents_some hx
      by_cases hi : i < (ents T n).length
      · obtain ⟨q, e, h1, h2, h3, h4⟩ := ents_nth n i hi
        refine ⟨q, e, by omega, h2, h3, ?_⟩
        simp only [hu]
        rw [List.getElem_append_left hi]
        exact h4
      · have hl : (ents T (n + 1)).length = (ents T n).length + 1 := by rw [hu, List.length_append]; rfl
        have hi2 : i = (ents T n).length := by omega
        refine ⟨n, x, by omega, hx, hi2.symm, ?_⟩
        simp only [hu]
        subst hi2
        simp
/-- A table without its first i entries. -/
def rem (T : Nat → Option En) (i : Nat) : Nat → Option En := fun k => if (ents T k).length < i then none else T k
theorem rem_zero (T : Nat → Option En) : rem T 0 = T := by funext k; simp [rem]
theorem rem_at {T : Nat → Option En} {i q : Nat} (h : (ents T q).length = i) : rem T i q = T q := by unfold rem; rw [if_neg (by omega)]
theorem rem_step {T : Nat → Option En} {i q : Nat} {e : En} (h1 : T q = some e) (h2 : (ents T q).length = i) : up (rem T i) q none = rem T (i + 1) := by
  funext j
  unfold up
  by_cases hj : j = q
  · subst hj
    rw [if_pos rfl]
    unfold rem
    rw [if_pos (by omega)]
  · rw [if_neg hj]
    unfold rem
    by_cases h3 : (ents T j).length < i
    · rw [if_pos h3, if_pos (by omega)]
    · rw [if_neg h3]
      by_cases h4 : (ents T j).length < i + 1
      · rw [if_pos h4]
        cases hx : T j with
        | none => rfl
        | some x =>
          rcases Nat.lt_trichotomy j q with h5 | h5 | h5
          · have := ents_strict hx h5; omega
          · exact absurd h5 hj
          · have := ents_strict h1 h5; omega
      · rw [if_neg h4]
theorem rem_len (T : Nat → Option En) (i : Nat) : ∀ n, (ents (rem T i) n).length = (ents T n).length - i
  | 0 => by simp [ents_zero]
  | n + 1 => by
    have ih := rem_len T i n
    cases hx : T n with
    | none =>
      have hr : rem T i n = none := by unfold rem; split <;> first | rfl | exact hx
      rw [ents_none hx, ents_none hr, ih]
    | some x =>
      by_cases h : (ents T n).length < i
      · have hr : rem T i n = none := by unfold rem; rw [if_pos h]
        rw [ents_some hx, ents_none hr, ih, List.length_append]
        simp; omega
      · have hr : rem T i n = some x := by unfold rem; rw [if_neg h]; exact hx
        rw [ents_some hx, ents_some hr, List.length_append, List.length_append, ih]
        simp; omega
theorem ents_out {T : Nat → Option En} (h : ents T 64 = []) {k : Nat} (hk : k < 64) : T k = none := by
  cases hx : T k with
  | none => rfl
  | some e =>
    have := ents_mem.2 ⟨hk, hx⟩
    rw [h] at this
    cases this
theorem hole_all {T : Nat → Option En} (h : ents T 64 = []) : HoleIs T 64 0 true := .inl ⟨rfl, 0, 64, rfl, rfl, by omega, by omega, fun k hk => ents_out h (by omega), fun q hq => by omega⟩
theorem parts_all {T : Nat → Option En} (h : ents T 64 = []) : parts T = 0 := by unfold parts; rw [h]; rfl
theorem mcells_at : ∀ (l : List (Nat × En)) (i c : Nat) (h : i < l.length), c < 6 → (mcells l)[i * 6 + c]? = (mcell l[i])[c]?
  | [], i, c, h, _ => by simp at h
  | x :: r, 0, c, h, hc => by
    show (mcell x ++ mcells r)[0 * 6 + c]? = _
    rw [List.getElem?_append_left (by simp [mcell]; omega)]
    simp
  | x :: r, i + 1, c, h, hc => by
    have ih := mcells_at r i c (by simpa using h) hc
    show (mcell x ++ mcells r)[(i + 1) * 6 + c]? = _
    rw [List.getElem?_append_right (by simp [mcell]; omega)]
    have : (i + 1) * 6 + c - (mcell x).length = i * 6 + c := by simp [mcell]; omega
    rw [this, ih]
    simp
/-- An entry of a row that is read. -/
theorem Rd.at_ {w : World} {v : Value} {l : List (Nat × En)} {i : Nat} (h : Rd w 59 v 6 l.length (mcells l)) (hi : i < l.length) {q : Nat} {e : En} (he : l[i] = (q, e)) :
    ∃ g cap, v = .slice (some ⟨g, 0, none⟩) l.length cap ∧ l.length ≤ cap ∧ cap ≤ maxLen ∧ w.cell? ⟨g, i * 6, none⟩ = some (.int .i64 (q : Int)) ∧ w.cell? ⟨g, i * 6 + 1, none⟩ = some (.int .i64 e.f) ∧ w.cell? ⟨g, i * 6 + 2, none⟩ = some (.bool e.w) ∧ w.cell? ⟨g, i * 6 + 3, none⟩ = some (.bool e.s) ∧ w.cell? ⟨g, i * 6 + 4, none⟩ = some (.bool e.c) ∧ w.cell? ⟨g, i * 6 + 5, none⟩ = some (.bool e.d) := by
  obtain ⟨hl, ad, cap, rfl, h2, h3, h4 | ⟨g, cur, rfl, hb, hc⟩⟩ := h
  · omega
  · have hx : ∀ c, c < 6 → w.cell? ⟨g, i * 6 + c, none⟩ = (mcell (q, e))[c]? := fun c hc6 => by
      rw [hb.cell, hc _ (by omega), mcells_at l i c hi hc6, he]
    exact ⟨g, cap, rfl, h2, h3, hx 0 (by omega), hx 1 (by omega), hx 2 (by omega), hx 3 (by omega), hx 4 (by omega), hx 5 (by omega)⟩
/-- An argument that is a list of calls is a slice; too long. -/
theorem list_mem (W : World) (p : Nat) (T : Nat → Option En) (hM : Mem W p T) : Calls Try.prog 25 #[.pointer (some ⟨p, 0, none⟩)] W fun e w' => Below W.heap.size W w' ∧ ∃ r, e = .returned r ∧ Rd w' 59 r 6 (ents T 64).length (mcells (ents T 64)) :=
  (list_any W _ T (gets_mem hM hM.lt)).mono fun e w' ⟨h1, r, h2, h3⟩ => ⟨h1, r, h2, Rd.of_own h3⟩
/-- grown, under what was laid since the law began. -/
theorem grown_at (v : Value) (ops : List Opr) (w w1 : World) (h : OpsAt w v ops) (hl : ops.length ≤ 150) (hb : Below w.heap.size w w1) :
    Calls Try.prog 28 #[v] w1 fun e w' => ∃ p, e = .returned (.pointer (some ⟨p, 0, none⟩)) ∧ w.heap.size ≤ p ∧ Below w.heap.size w w' ∧ Mem w' p (acts (fun _ => none) ops) :=
  (grown_any v ops w1 (OpsAt.below h hb) hl).mono fun e w' ⟨e1, h2⟩ => ⟨_, e1, hb.size, hb.trans (h2.bel.mono hb.size), h2.mem⟩
end Go.Proofs.Ytcmlcepdcpbdaaa.Pt
