/-
  Index and Contains of rows of numbers; Where.
-/
import Derived.Test.YtkjmpkoogjbjnaaQue
namespace Go.Proofs.Ytkjmpkoogjbjnaa.Quf
open Go Go.RowKit Go.Shelf Kit Bk Qua Qub Quc Qud Que
set_option linter.unusedVariables false

/-- The first place of a number. -/
def Ix (l : List Int) (q z : Int) : Prop := (z = -1 ∧ q ∉ l) ∨ ∃ i : Nat, i < l.length ∧ z = (i : Int) ∧ l.getD i 0 = q ∧ ∀ j, j < i → l.getD j 0 ≠ q
theorem getD_mem {l : List Int} {i : Nat} (h : i < l.length) : l.getD i 0 ∈ l := by
  have : l.getD i 0 = l[i] := by simp [List.getD, h]
  rw [this]
  exact List.getElem_mem h
theorem mem_getD {l : List Int} {q : Int} (h : q ∈ l) : ∃ i, i < l.length ∧ l.getD i 0 = q := by
  obtain ⟨i, hi, e⟩ := List.getElem_of_mem h
  exact ⟨i, hi, by simp [List.getD, hi, e]⟩
theorem Rw.cells {w : World} {v : Value} {G : Option Nat} {l : List Int} (h : Rw w v G l) : ∃ a c, v = .slice a l.length c ∧ l.length ≤ c ∧ c ≤ maxLen ∧ ∀ i, i < l.length → ∃ g o, a = some ⟨g, o, none⟩ ∧ w.cell? ⟨g, o + i, none⟩ = some (.int .i64 (l.getD i 0)) := by
  rcases h with ⟨rfl, rfl, _⟩ | ⟨g, o, cap, cs, rfl, _, h3, h1, h2, _, h4⟩
  · exact ⟨none, 0, rfl, Nat.le_refl _, Nat.zero_le _, fun i hi => absurd hi (Nat.not_lt_zero _)⟩
  · exact ⟨_, cap, rfl, h1, h2, fun i hi => ⟨g, o, rfl, (h3.cell _).trans (h4 i hi)⟩⟩
theorem index_any (w : World) (v : Value) (G : Option Nat) (l : List Int) (q : Int) (h : Rw w v G l) :
    Calls Try.prog 34 #[v, .int .i64 q] w fun e w' => (∃ z : Int, e = .returned (.int .i64 z) ∧ Ix l q z) ∧ w = w' := by
  obtain ⟨a, c, rfl, h1, h2, h3⟩ := Rw.cells h
  have H3 := Lib.hid h3
  unfold maxLen at h2
  have hcI : (l.length : Int) ≤ 9223372036854775807 := by omega
  clear h h3 h1 h2
  go_enter Try.func34, Try.ntmps34
  go_wp2
  go_loop [8, 5] (fun i x => ∃ j : Nat, j ≤ l.length ∧ i = .int .i64 (j : Int) ∧ ∀ m, m < j → l.getD m 0 ≠ q) (fun i _ => l.length - (intOf i).toNat)
  case atStart => exact ⟨0, Nat.zero_le _, rfl, fun m hm => absurd hm (Nat.not_lt_zero _)⟩
  case round =>
    obtain ⟨j, hj, rfl, hno⟩ := hrel
    by_cases hlt : j < l.length
    · have hltI : (j : Int) < (l.length : Int) := by omega
      obtain ⟨g, o, rfl, c0⟩ := H3.out j hlt
      have HNo := Lib.hid hno
      by_cases he : l.getD j 0 = q
      · have d0 : (q == l.getD j 0) = true := by simpa using he.symm
        have hres : Hid (Ix l q (j : Int)) := Lib.hid (.inr ⟨j, hlt, rfl, he, hno⟩)
        generalize l.getD j 0 = x at *
        clear hno he
        go_wp2
        go_ret
        exact ⟨⟨_, rfl, hres.out⟩, rfl⟩
      · have d0 : (q == l.getD j 0) = false := by simpa using fun e => he e.symm
        have HE := Lib.hid he
        generalize hx : l.getD j 0 = x at *
        clear hno he
        go_wp2
        go_round
        case rel => exact ⟨j + 1, by omega, by go_num, fun m hm => by
          by_cases e : m = j
          · subst e; rw [hx]; exact HE.out
          · exact HNo.out m (by omega)⟩
        case measure => simp [intOf]; omega
    · obtain rfl : j = l.length := by omega
      have hres : Hid (Ix l q (-1)) := Lib.hid (.inl ⟨rfl, fun hm => by
        obtain ⟨i, hi, e⟩ := mem_getD hm
        exact hno i hi e⟩)
      clear hno
      go_wp2
      go_ret
      exact ⟨⟨_, rfl, hres.out⟩, rfl⟩
theorem Ix.pos {l : List Int} {q z : Int} (h : Ix l q z) : decide (0 ≤ z) = l.contains q := by
  rcases h with ⟨rfl, h⟩ | ⟨i, hi, rfl, he, _⟩
  · rw [show l.contains q = false by simpa using h]; rfl
  · rw [show l.contains q = true by rw [List.contains_iff_mem, ← he]; exact getD_mem hi]
    exact decide_eq_true (by omega)
theorem contains_any (w : World) (v : Value) (G : Option Nat) (l : List Int) (q : Int) (h : Rw w v G l) :
    Calls Try.prog 37 #[v, .int .i64 q] w fun e w' => e = .returned (.bool (l.contains q)) ∧ w = w' := by
  have HI := Lib.hid (index_any w v G l q h)
  obtain ⟨a, c, rfl, _⟩ := h.form
  clear h
  go_enter Try.func37, Try.ntmps37
  go_wp2_with (go_at_call 34; (with_reducible refine HI.out.mono ?_); rintro e w1 ⟨⟨z, rfl, hz⟩, rfl⟩)
  go_ret
  exact ⟨by rw [← hz.pos]; rfl, rfl⟩

theorem where_nil (w : World) (p : Int) : Calls Try.prog 17 #[.pointer none, .int .i64 p] w fun e w' => e = .returned (.int .i64 (-1)) ∧ w = w' := by
  go_enter Try.func17, Try.ntmps17
  go_wp2_with (go_at_call 28; (with_reducible refine (cores_nil _).mono ?_); rintro e w1 ⟨rfl, rfl⟩)
  go_loop [8, 5] (fun i x => i = .int .i64 0) (fun i _ => 0)
  case atStart => rfl
  case round =>
    obtain rfl := hrel
    go_wp2
    go_ret
    exact ⟨rfl, rfl⟩
theorem where_any (w : World) (q c : Nat) (S : Nat → Prop) (l : Ls) (p : Int) (h : Qs w q S c l) :
    Calls Try.prog 17 #[.pointer (some ⟨q, 0, none⟩), .int .i64 p] w fun e w' => e = .returned (.int .i64 (wh c l p)) ∧ w = w' := by
  have HC := Lib.hid (cores_any w h)
  obtain ⟨vs, G, h⟩ := h
  have hc8 := h.c8
  have HQ := Lib.hid h
  have hcI : (c : Int) ≤ 8 := by omega
  clear h
  go_enter Try.func17, Try.ntmps17
  go_wp2_with (go_at_call 28; (with_reducible refine HC.out.mono ?_); rintro e w1 ⟨rfl, rfl⟩)
  go_loop [8, 5] (fun i x => ∃ j : Nat, j ≤ c ∧ i = .int .i64 (j : Int) ∧ ∀ m, m < j → p ∉ l m) (fun i _ => c - (intOf i).toNat)
  case atStart => exact ⟨0, Nat.zero_le _, rfl, fun m hm => absurd hm (Nat.not_lt_zero _)⟩
  case round =>
    obtain ⟨j, hj, rfl, hno⟩ := hrel
    by_cases hlt : j < c
    · have hltI : (j : Int) < (c : Int) := by omega
      have hj8 : j < 8 := by omega
      have hj8I : (j : Int) < 8 := by omega
      have HNo := Lib.hid hno
      have HN := Lib.hid (contains_any w (vs j) (G j) (l j) p (HQ.out.row j hj8))
      have ck := HQ.out.ck j hj8
      obtain ⟨a, n, e, _⟩ := (HQ.out.row j hj8).form
      rw [e] at ck HN
      cases hc : (l j).contains p
      · rw [hc] at HN
        have HE := Lib.hid hc
        clear hno hc e
        generalize (l j).length = L at *
        go_wp2_with (go_at_call 37; (with_reducible refine HN.out.mono ?_); rintro e w1 ⟨rfl, rfl⟩)
        go_round
        case rel => exact ⟨j + 1, by omega, by go_num, fun m hm => by
          by_cases e : m = j
          · subst e; have := HE.out; simpa using this
          · exact HNo.out m (by omega)⟩
        case measure => simp [intOf]; omega
      · rw [hc] at HN
        have HE := Lib.hid (wh_eq_some (whN_first hlt (by simpa using hc) hno))
        clear hno hc e
        generalize (l j).length = L at *
        go_wp2_with (go_at_call 37; (with_reducible refine HN.out.mono ?_); rintro e w1 ⟨rfl, rfl⟩)
        go_ret
        exact ⟨by rw [HE.out]; rfl, rfl⟩
    · obtain rfl : j = c := by omega
      have HE := Lib.hid (wh_eq_none (whN_nowhere hno))
      clear hno
      go_wp2
      go_ret
      exact ⟨by rw [HE.out]; rfl, rfl⟩
end Go.Proofs.Ytkjmpkoogjbjnaa.Quf
