/-
  Queues as they lie: a row of numbers from a place on; the queues; Cores, New, list.
-/
import Derived.Test.YtkjmpkoogjbjnaaQua
namespace Go.Proofs.Ytkjmpkoogjbjnaa.Qub
open Go Go.RowKit Kit Bk Qua
set_option linter.unusedVariables false

theorem kp_below {S : Nat → Prop} {w w' : World} (h : Below w.heap.size w w') : Kp S w w' := .of_below h
/-- Numbers in a row of their own, from place o on; in block G, if any. -/
def Rw (w : World) (v : Value) (G : Option Nat) (l : List Int) : Prop :=
  (v = .slice none 0 0 ∧ l = [] ∧ G = none) ∨
  ∃ g o cap cs, v = .slice (some ⟨g, o, none⟩) l.length cap ∧ G = some g ∧ Blk w g cs 3 ∧ l.length ≤ cap ∧ cap ≤ maxLen ∧ o + cap ≤ cs.size ∧ ∀ i, i < l.length → cs[o + i]? = some (.int .i64 (l.getD i 0))
theorem Rw.kept {S : Nat → Prop} {w w' : World} {v : Value} {G : Option Nat} {l : List Int} (h : Rw w v G l) (hk : Kp S w w') (hS : ∀ g, G = some g → ¬ S g) : Rw w' v G l := by
  rcases h with h | ⟨g, o, cap, cs, h1, h2, h3, h4⟩
  · exact .inl h
  · exact .inr ⟨g, o, cap, cs, h1, h2, h3.kept hk (hS g h2), h4⟩
theorem Rw.below {w w' : World} {v : Value} {G : Option Nat} {l : List Int} (h : Rw w v G l) (hb : Below w.heap.size w w') : Rw w' v G l := by
  rcases h with h | ⟨g, o, cap, cs, h1, h2, h3, h4⟩
  · exact .inl h
  · exact .inr ⟨g, o, cap, cs, h1, h2, h3.below hb, h4⟩
theorem Rw.form {w : World} {v : Value} {G : Option Nat} {l : List Int} (h : Rw w v G l) : ∃ a c, v = .slice a l.length c ∧ l.length ≤ c ∧ c ≤ maxLen := by
  rcases h with ⟨rfl, rfl, _⟩ | ⟨g, o, cap, cs, rfl, _, _, h1, h2, _⟩
  · exact ⟨none, 0, rfl, Nat.le_refl _, Nat.zero_le _⟩
  · exact ⟨_, cap, rfl, h1, h2⟩
theorem Rw.nil (w : World) : Rw w (.slice none 0 0) none [] := .inl ⟨rfl, rfl, rfl⟩
/-- What is read of a row that has one. -/
theorem Rw.some {w : World} {v : Value} {G : Option Nat} {l : List Int} (h : Rw w v G l) (hl : l ≠ []) : ∃ g o cap cs, v = .slice (.some ⟨g, o, none⟩) l.length cap ∧ G = .some g ∧ Blk w g cs 3 ∧ l.length ≤ cap ∧ cap ≤ maxLen ∧ o + cap ≤ cs.size ∧ ∀ i, i < l.length → cs[o + i]? = .some (.int .i64 (l.getD i 0)) := by
  rcases h with ⟨_, h, _⟩ | h
  · exact absurd h hl
  · exact h
theorem Rw.lt {w : World} {v : Value} {G : Option Nat} {l : List Int} (h : Rw w v G l) (g : Nat) (e : G = .some g) : g < w.heap.size := by
  rcases h with ⟨_, _, h⟩ | ⟨g', o, cap, cs, _, h2, h3, _⟩
  · rw [h] at e; cases e
  · rw [h2] at e; cases e; exact h3.lt

/-- The cells of queues. -/
def qcs (c : Nat) (vs : Nat → Value) : Array Value := #[.int .i64 (c : Int), vs 0, vs 1, vs 2, vs 3, vs 4, vs 5, vs 6, vs 7]
theorem qcs_size (c : Nat) (vs : Nat → Value) : (qcs c vs).size = 9 := rfl
theorem qcs_zero (c : Nat) (vs : Nat → Value) : (qcs c vs)[0]? = some (.int .i64 (c : Int)) := rfl
theorem eight {k : Nat} (h : k < 8) : k = 0 ∨ k = 1 ∨ k = 2 ∨ k = 3 ∨ k = 4 ∨ k = 5 ∨ k = 6 ∨ k = 7 := by omega
theorem qcs_at (c : Nat) (vs : Nat → Value) (k : Nat) (h : k < 8) : (qcs c vs)[1 + k]? = some (vs k) := by
  rcases eight h with rfl | rfl | rfl | rfl | rfl | rfl | rfl | rfl <;> rfl
theorem qcs_set (c : Nat) (vs : Nat → Value) (k : Nat) (h : k < 8) (v : Value) : (qcs c vs).setIfInBounds (1 + k) v = qcs c (up vs k v) := by
  rcases eight h with rfl | rfl | rfl | rfl | rfl | rfl | rfl | rfl <;> rfl

/-- Queues at block q; S: the blocks that are theirs. -/
structure Qv (w : World) (q : Nat) (S : Nat → Prop) (c : Nat) (l : Ls) (vs : Nat → Value) (G : Nat → Option Nat) : Prop where
  blk : Blk w q (qcs c vs) 52
  row : ∀ k, k < 8 → Rw w (vs k) (G k) (l k)
  apart : ∀ j k, j < 8 → k < 8 → j ≠ k → ∀ g, G j = some g → G k ≠ some g
  inS : ∀ k, k < 8 → ∀ g, G k = some g → S g
  self : S q
  low : ∀ j, S j → j < w.heap.size
  c8 : c ≤ 8
def Qs (w : World) (q : Nat) (S : Nat → Prop) (c : Nat) (l : Ls) : Prop := ∃ vs G, Qv w q S c l vs G
variable {w w' : World} {q c : Nat} {S : Nat → Prop} {l : Ls} {vs : Nat → Value} {G : Nat → Option Nat}
theorem Qv.below (h : Qv w q S c l vs G) (hb : Below w.heap.size w w') : Qv w' q S c l vs G :=
  ⟨h.blk.below hb, fun k hk => (h.row k hk).below hb, h.apart, h.inS, h.self, fun j hj => Nat.lt_of_lt_of_le (h.low j hj) hb.size, h.c8⟩
theorem Qs.below (h : Qs w q S c l) (hb : Below w.heap.size w w') : Qs w' q S c l := by
  obtain ⟨vs, G, h⟩ := h
  exact ⟨vs, G, h.below hb⟩
theorem Qv.kept {S' : Nat → Prop} (h : Qv w q S c l vs G) (hk : Kp S' w w') (hS : ∀ j, S j → ¬ S' j) : Qv w' q S c l vs G :=
  ⟨h.blk.kept hk (hS q h.self), fun k hk2 => (h.row k hk2).kept hk (fun g e => hS g (h.inS k hk2 g e)), h.apart, h.inS, h.self, fun j hj => Nat.lt_of_lt_of_le (h.low j hj) hk.size, h.c8⟩
theorem Qs.kept {S' : Nat → Prop} (h : Qs w q S c l) (hk : Kp S' w w') (hS : ∀ j, S j → ¬ S' j) : Qs w' q S c l := by
  obtain ⟨vs, G, h⟩ := h
  exact ⟨vs, G, h.kept hk hS⟩
theorem Qs.lt (h : Qs w q S c l) : q < w.heap.size := by obtain ⟨vs, G, h⟩ := h; exact h.blk.lt
theorem Qs.low (h : Qs w q S c l) (j : Nat) (hj : S j) : j < w.heap.size := by obtain ⟨vs, G, h⟩ := h; exact h.low j hj
theorem Qs.c8 (h : Qs w q S c l) : c ≤ 8 := by obtain ⟨vs, G, h⟩ := h; exact h.c8
theorem Qs.self (h : Qs w q S c l) : S q := by obtain ⟨vs, G, h⟩ := h; exact h.self
theorem Qv.c0 (h : Qv w q S c l vs G) : w.cell? ⟨q, 0, none⟩ = some (.int .i64 (c : Int)) := h.blk.cell 0
theorem Qv.ck (h : Qv w q S c l vs G) (k : Nat) (hk : k < 8) : w.cell? ⟨q, 1 + k, none⟩ = some (vs k) := (h.blk.cell _).trans (qcs_at c vs k hk)
theorem Qv.fk (h : Qv w q S c l vs G) (i : Nat) : w.frozen? ⟨q, i, none⟩ = false := h.blk.free i

theorem cores_nil (w : World) : Calls Try.prog 28 #[.pointer none] w fun e w' => e = .returned (.int .i64 0) ∧ w = w' := by
  go_enter Try.func28, Try.ntmps28
  go_wp2
  go_ret
  exact ⟨rfl, rfl⟩
theorem cores_blk (w : World) (q : Nat) (z : Int) (c0 : w.cell? ⟨q, 0, none⟩ = some (.int .i64 z)) : Calls Try.prog 28 #[.pointer (some ⟨q, 0, none⟩)] w fun e w' => e = .returned (.int .i64 z) ∧ w = w' := by
  go_enter Try.func28, Try.ntmps28
  go_wp2
  go_ret
  exact ⟨rfl, rfl⟩
theorem cores_any (w : World) (h : Qs w q S c l) : Calls Try.prog 28 #[.pointer (some ⟨q, 0, none⟩)] w fun e w' => e = .returned (.int .i64 (c : Int)) ∧ w = w' := by
  obtain ⟨vs, G, h⟩ := h
  exact cores_blk w q _ h.c0

def NoL : Ls := fun _ => []
theorem Qs.fresh {w : World} {c : Nat} (hc : c ≤ 8) (h : Blk w q #[.int .i64 (c : Int), .slice none 0 0, .slice none 0 0, .slice none 0 0, .slice none 0 0, .slice none 0 0, .slice none 0 0, .slice none 0 0, .slice none 0 0] 52) : Qs w q (fun j => j = q) c NoL :=
  ⟨fun _ => .slice none 0 0, fun _ => none, h, fun k hk => Rw.nil w, fun j k _ _ _ g e => (by cases e), fun k _ g e => (by cases e), rfl, fun j e => (by rw [e]; exact h.lt), hc⟩
theorem new_ok (w : World) (c : Nat) (h1 : 1 ≤ c) (h8 : c ≤ 8) : Calls Try.prog 8 #[.int .i64 (c : Int)] w fun e w' => e = .returned (.tuple #[.pointer (some ⟨w.heap.size, 0, none⟩), .int .i64 0]) ∧ Below w.heap.size w w' ∧ Qs w' w.heap.size (fun j => j = w.heap.size) c NoL := by
  have d0 : decide ((c : Int) < 1) = false := decide_eq_false (by omega)
  have d1 : decide ((8 : Int) < (c : Int)) = false := decide_eq_false (by omega)
  have HB : Hid (∀ cs T, Below w.heap.size w (w.alloc (.cells cs T))) := Lib.hid (fun cs T => (Below.refl _ _).alloc (Nat.le_refl _) _)
  have H8 := Lib.hid h8
  clear h1 h8
  go_enter Try.func8, Try.ntmps8
  go_wp2
  go_ret2
  exact ⟨rfl, HB.out _ _, Qs.fresh H8.out (Blk.new _ _ _)⟩
theorem new_bad (w : World) (z : Int) (h : z < 1 ∨ 8 < z) : Calls Try.prog 8 #[.int .i64 z] w fun e w' => e = .returned (.tuple #[.pointer none, .int .i64 2]) ∧ w = w' := by
  by_cases h1 : z < 1
  · have d0 : decide (z < 1) = true := decide_eq_true h1
    clear h h1
    go_enter Try.func8, Try.ntmps8
    go_wp2
    go_ret2
    exact ⟨rfl, rfl⟩
  · have d0 : decide (z < 1) = false := decide_eq_false h1
    have d1 : decide ((8 : Int) < z) = true := decide_eq_true (by omega)
    clear h h1
    go_enter Try.func8, Try.ntmps8
    go_wp2
    go_ret2
    exact ⟨rfl, rfl⟩

theorem list_nil (w : World) (z : Int) : Calls Try.prog 36 #[.pointer none, .int .i64 z] w fun e w' => e = .returned (.slice none 0 0) ∧ w = w' := by
  by_cases h1 : z < 0
  · have d0 : decide (z < 0) = true := decide_eq_true h1
    clear h1
    go_enter Try.func36, Try.ntmps36
    go_wp2
    go_ret
    exact ⟨rfl, rfl⟩
  · have d0 : decide (z < 0) = false := decide_eq_false h1
    have d1 : decide ((0 : Int) ≤ z) = true := decide_eq_true (by omega)
    clear h1
    go_enter Try.func36, Try.ntmps36
    go_wp2_with (go_at_call 28; (with_reducible refine (cores_nil _).mono ?_); rintro e w1 ⟨rfl, rfl⟩)
    go_ret
    exact ⟨rfl, rfl⟩
/-- No such core. -/
theorem list_no (w : World) (h : Qs w q S c l) (z : Int) (hz : ¬ (0 ≤ z ∧ z < (c : Int))) : Calls Try.prog 36 #[.pointer (some ⟨q, 0, none⟩), .int .i64 z] w fun e w' => e = .returned (.slice none 0 0) ∧ w = w' := by
  have HC := Lib.hid (cores_any w h)
  by_cases h1 : z < 0
  · have d0 : decide (z < 0) = true := decide_eq_true h1
    clear h1 h hz
    go_enter Try.func36, Try.ntmps36
    go_wp2_with (go_at_call 28; (with_reducible refine HC.out.mono ?_); rintro e w1 ⟨rfl, rfl⟩)
    go_ret
    exact ⟨rfl, rfl⟩
  · have d0 : decide (z < 0) = false := decide_eq_false h1
    have d1 : decide ((c : Int) ≤ z) = true := decide_eq_true (by omega)
    clear h1 h hz
    go_enter Try.func36, Try.ntmps36
    go_wp2_with (go_at_call 28; (with_reducible refine HC.out.mono ?_); rintro e w1 ⟨rfl, rfl⟩)
    go_ret
    exact ⟨rfl, rfl⟩
theorem list_at (w : World) (h : Qv w q S c l vs G) (k : Nat) (hk : k < c) : Calls Try.prog 36 #[.pointer (some ⟨q, 0, none⟩), .int .i64 (k : Int)] w fun e w' => e = .returned (vs k) ∧ w = w' := by
  have HC := Lib.hid (cores_any w ⟨vs, G, h⟩)
  have hk8 : k < 8 := Nat.lt_of_lt_of_le hk h.c8
  have d0 : decide ((k : Int) < 0) = false := decide_eq_false (by omega)
  have d1 : decide ((c : Int) ≤ (k : Int)) = false := decide_eq_false (by omega)
  have d2 : decide (c ≤ k) = false := decide_eq_false (by omega)
  have ck := h.ck k hk8
  obtain ⟨a, n, e, _⟩ := (h.row k hk8).form
  rw [e] at ck ⊢
  clear h hk e
  have hkI : (k : Int) < 8 := by omega
  go_enter Try.func36, Try.ntmps36
  go_wp2_with (go_at_call 28; (with_reducible refine HC.out.mono ?_); rintro e w1 ⟨rfl, rfl⟩)
  go_ret
  exact ⟨rfl, rfl⟩
end Go.Proofs.Ytkjmpkoogjbjnaa.Qub
