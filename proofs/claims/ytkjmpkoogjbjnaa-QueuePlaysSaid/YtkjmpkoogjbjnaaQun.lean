/-
  Queues of a law's own, above what lay there; the calls on them; alive.
-/
import Derived.Test.YtkjmpkoogjbjnaaQum
namespace Go.Proofs.Ytkjmpkoogjbjnaa.Qun
open Go Go.RowKit Go.Shelf Kit Bk Qua Qub Quc Qud Que Quf Qug Quh Qui Quj Quk Qul Qum
set_option linter.unusedVariables false

/-- Queues of at most N pids each, in blocks that did not lie in w0, and none of those of F. -/
def St (F : Nat → Prop) (N : Nat) (w0 w : World) (q c : Nat) (l : Ls) : Prop := ∃ S, Qs w q S c l ∧ (∀ j, S j → w0.heap.size ≤ j) ∧ Below w0.heap.size w0 w ∧ (∀ k, (l k).length ≤ N) ∧ ∀ j, F j → j < w.heap.size ∧ ¬ S j
variable {F : Nat → Prop} {N : Nat} {w0 w w' : World} {q c : Nat} {l l' : Ls}
theorem St.bel (h : St F N w0 w q c l) : Below w0.heap.size w0 w := by obtain ⟨S, _, _, h, _⟩ := h; exact h
theorem St.below (h : St F N w0 w q c l) (hb : Below w.heap.size w w') : St F N w0 w' q c l := by
  obtain ⟨S, h1, h2, h3, h4, h5⟩ := h
  exact ⟨S, h1.below hb, h2, h3.trans (hb.mono h3.size), h4, fun j e => ⟨Nat.lt_of_lt_of_le (h5 j e).1 hb.size, (h5 j e).2⟩⟩
/-- What was made behind them is not theirs. -/
theorem St.adopt (h : St F N w0 w q c l) (hb : Below w.heap.size w w') : St (fun j => F j ∨ (w.heap.size ≤ j ∧ j < w'.heap.size)) N w0 w' q c l := by
  obtain ⟨S, h1, h2, h3, h4, h5⟩ := h
  refine ⟨S, h1.below hb, h2, h3.trans (hb.mono h3.size), h4, fun j e => ?_⟩
  rcases e with e | e
  · exact ⟨Nat.lt_of_lt_of_le (h5 j e).1 hb.size, (h5 j e).2⟩
  · exact ⟨e.2, fun e2 => by have := h1.low j e2; omega⟩
theorem St.less {F' : Nat → Prop} (h : St F N w0 w q c l) (hF : ∀ j, F' j → F j) : St F' N w0 w q c l := by
  obtain ⟨S, h1, h2, h3, h4, h5⟩ := h
  exact ⟨S, h1, h2, h3, h4, fun j e => h5 j (hF j e)⟩
theorem St.more {M : Nat} (h : St F N w0 w q c l) (hm : N ≤ M) : St F M w0 w q c l := by
  obtain ⟨S, h1, h2, h3, h4, h5⟩ := h
  exact ⟨S, h1, h2, h3, fun k => Nat.le_trans (h4 k) hm, h5⟩
/-- A step that turns other blocks alone: of those that were there, foreign ones. -/
theorem St.kept {T : Nat → Prop} (h : St F N w0 w q c l) (hk : Kp T w w') (hT : ∀ j, T j → F j) (hT0 : ∀ j, T j → w0.heap.size ≤ j) : St F N w0 w' q c l := by
  obtain ⟨S, h1, h2, h3, h4, h5⟩ := h
  exact ⟨S, h1.kept hk (fun j e e2 => (h5 j (hT j e2)).2 e), h2, h3.trans (hk.below h3.size hT0), h4, fun j e => ⟨Nat.lt_of_lt_of_le (h5 j e).1 hk.size, (h5 j e).2⟩⟩
theorem St.c8 (h : St F N w0 w q c l) : c ≤ 8 := by obtain ⟨S, h, _⟩ := h; exact h.c8
theorem St.len (h : St F N w0 w q c l) (k : Nat) : (l k).length ≤ N := by obtain ⟨S, _, _, _, h, _⟩ := h; exact h k
theorem St.step {M : Nat} {S : Nat → Prop} (h1 : Qs w q S c l) (h2 : ∀ j, S j → w0.heap.size ≤ j) (h3 : Below w0.heap.size w0 w) (h5 : ∀ j, F j → j < w.heap.size ∧ ¬ S j) (hn : ∀ k, (l' k).length ≤ M) (h : ∃ S', Kp S w w' ∧ Qs w' q S' c l' ∧ ∀ j, S' j → S j ∨ w.heap.size ≤ j) : St F M w0 w' q c l' ∧ Kp (fun j => ¬ F j) w w' := by
  obtain ⟨S', k1, k2, k3⟩ := h
  have hs := h3.size
  refine ⟨⟨S', k2, fun j e => (k3 j e).elim (h2 j) (fun e => Nat.le_trans hs e), h3.trans (k1.below hs h2), hn, fun j e => ⟨Nat.lt_of_lt_of_le (h5 j e).1 k1.size, fun e2 => ?_⟩⟩, k1.mono (fun j _ e e2 => (h5 j e2).2 e)⟩
  rcases k3 j e2 with e3 | e3
  · exact (h5 j e).2 e3
  · have := (h5 j e).1; omega
theorem flat_len (l : Ls) (N : Nat) (h : ∀ k, (l k).length ≤ N) : (flat l).length ≤ 8 * N := by
  unfold flat
  simp only [List.length_append]
  have a0 := h 0; have a1 := h 1; have a2 := h 2; have a3 := h 3; have a4 := h 4; have a5 := h 5; have a6 := h 6; have a7 := h 7
  omega
theorem up_len (l : Ls) (k : Nat) (L : List Int) (N : Nat) (h : ∀ k, (l k).length ≤ N) (hL : L.length ≤ N) (j : Nat) : (up l k L j).length ≤ N := by
  by_cases e : j = k
  · subst e; rw [up_same]; exact hL
  · rw [up_other _ _ _ _ e]; exact h j
theorem plL_len (c : Nat) (l : Ls) (p z : Int) (m N : Nat) (h : ∀ k, (l k).length ≤ N) (k : Nat) : (plL c l p z m k).length ≤ N + 1 := by
  unfold plL
  split
  · exact up_len _ _ _ _ (fun k => Nat.le_succ_of_le (h k)) (by rw [List.length_append]; have := h (plT c l z m); simp; omega) k
  · exact Nat.le_succ_of_le (h k)
theorem mvL_len (c : Nat) (l : Ls) (p : Int) (m N : Nat) (h : ∀ k, (l k).length ≤ N) (k : Nat) : (mvL c l p m k).length ≤ N + 1 := by
  unfold mvL
  split
  · exact Nat.le_succ_of_le (h k)
  · split
    · exact Nat.le_succ_of_le (h k)
    · exact plL_len _ _ _ _ _ _ (fun k => Nat.le_trans (ctL_len c l p k) (h k)) k
theorem rot_len (x : List Int) : (rot x).length = x.length := by
  unfold rot
  cases x <;> simp
theorem rtL_len (c : Nat) (l : Ls) (z : Int) (N : Nat) (h : ∀ k, (l k).length ≤ N) (k : Nat) : (rtL c l z k).length ≤ N := by
  unfold rtL
  split
  · exact up_len _ _ _ _ h (by rw [rot_len]; exact h _) k
  · exact h k

theorem new_st (w : World) (c : Nat) (h1 : 1 ≤ c) (h8 : c ≤ 8) : Calls Try.prog 8 #[.int .i64 (c : Int)] w fun e w' => e = .returned (.tuple #[pv w.heap.size, .int .i64 0]) ∧ St (fun _ => False) 0 w w' w.heap.size c NoL :=
  (new_ok w c h1 h8).mono (by
    rintro e w' ⟨rfl, hb, hq⟩
    exact ⟨rfl, _, hq, fun j e => by rw [e]; exact Nat.le_refl _, hb, fun k => Nat.le_refl _, fun j e => e.elim⟩)
theorem place_st (h : St F N w0 w q c l) (hN : N ≤ 90000) (hc : 1 ≤ c) (p z : Int) (m : Nat) (hm : m < 4294967296) : Calls Try.prog 9 #[pv q, .int .i64 p, .int .i64 z, uv m] w fun e w' => e = .returned (.tuple #[.int .i64 (plR c l p z m), .int .i64 (plE c l p m)]) ∧ St F (N + 1) w0 w' q c (plL c l p z m) ∧ Kp (fun j => ¬ F j) w w' := by
  obtain ⟨S, h1, h2, h3, h4, h5⟩ := h
  refine (place_any h1 (fun k => Nat.le_trans (h4 k) hN) hc p z m hm).mono ?_
  rintro e w' ⟨rfl, hs⟩
  exact ⟨rfl, St.step h1 h2 h3 h5 (plL_len c l p z m N h4) hs⟩
theorem move_st (h : St F N w0 w q c l) (hN : N ≤ 90000) (hc : 1 ≤ c) (p : Int) (m : Nat) (hm : m < 4294967296) : Calls Try.prog 11 #[pv q, .int .i64 p, uv m] w fun e w' => e = .returned (.tuple #[.int .i64 (mvR c l p m), .int .i64 (mvE c l p m)]) ∧ St F (N + 1) w0 w' q c (mvL c l p m) ∧ Kp (fun j => ¬ F j) w w' := by
  obtain ⟨S, h1, h2, h3, h4, h5⟩ := h
  refine (move_any h1 (fun k => Nat.le_trans (h4 k) hN) hc p m hm).mono ?_
  rintro e w' ⟨rfl, hs⟩
  exact ⟨rfl, St.step h1 h2 h3 h5 (mvL_len c l p m N h4) hs⟩
theorem cut_st (h : St F N w0 w q c l) (p : Int) : Calls Try.prog 13 #[pv q, .int .i64 p] w fun e w' => e = .returned (.bool (ctB c l p)) ∧ St F N w0 w' q c (ctL c l p) ∧ Kp (fun j => ¬ F j) w w' := by
  obtain ⟨S, h1, h2, h3, h4, h5⟩ := h
  refine (cut_any h1 p).mono ?_
  rintro e w' ⟨rfl, hs⟩
  exact ⟨rfl, St.step h1 h2 h3 h5 (fun k => Nat.le_trans (ctL_len c l p k) (h4 k)) hs⟩
theorem rotate_st (h : St F N w0 w q c l) (hN : N ≤ 90000) (z : Int) : Calls Try.prog 15 #[pv q, .int .i64 z] w fun e w' => e = .returned (.bool (rtB c l z)) ∧ St F N w0 w' q c (rtL c l z) ∧ Kp (fun j => ¬ F j) w w' := by
  obtain ⟨S, h1, h2, h3, h4, h5⟩ := h
  refine (rotate_any h1 (fun k => Nat.le_trans (h4 k) hN) z).mono ?_
  rintro e w' ⟨rfl, hs⟩
  exact ⟨rfl, St.step h1 h2 h3 h5 (rtL_len c l z N h4) hs⟩
theorem where_st (h : St F N w0 w q c l) (p : Int) : Calls Try.prog 17 #[pv q, .int .i64 p] w fun e w' => e = .returned (.int .i64 (wh c l p)) ∧ w = w' := by
  obtain ⟨S, h1, _⟩ := h
  exact where_any w q c S l p h1
theorem pick_st (h : St F N w0 w q c l) (hN : N ≤ 90000) (z : Int) (n : Nat) (hn : n < 4294967296) : Calls Try.prog 26 #[pv q, .int .i64 z, uv n] w fun e w' => e = .returned (.int .i64 (pk c l z n)) ∧ w = w' := by
  obtain ⟨S, h1, h2, h3, h4, h5⟩ := h
  exact pick_any h1 (fun k => Nat.le_trans (h4 k) hN) z n hn
theorem list_st (h : St F N w0 w q c l) (hN : N ≤ 90000) (z : Int) : Calls Try.prog 24 #[pv q, .int .i64 z] w fun e w' => Below w.heap.size w w' ∧ ∃ u G, e = .returned u ∧ Rw w' u G (lst c l z) ∧ ∀ g, G = some g → w.heap.size ≤ g := by
  obtain ⟨S, h1, h2, h3, h4, h5⟩ := h
  exact list_row w q c S l h1 (fun k => Nat.le_trans (h4 k) hN) z
theorem all_st (h : St F N w0 w q c l) (hN : N ≤ 10000) : Calls Try.prog 22 #[pv q] w fun e w' => Below w.heap.size w w' ∧ ∃ u G, e = .returned u ∧ Rw w' u G (al l) ∧ ∀ g, G = some g → w.heap.size ≤ g := by
  obtain ⟨S, h1, h2, h3, h4, h5⟩ := h
  exact all_any w q c S l h1 (Nat.le_trans (flat_len l N h4) (by omega))

/-- Place with its answers written out. -/
theorem place_lit (h : St F N w0 w q c l) (hN : N ≤ 90000) (hc : 1 ≤ c) (p z : Int) (m : Nat) (mv : Int) (hv : (m : Int) = mv) (hm : m < 4294967296) (R E : Int) (L : Ls) (hR : plR c l p z m = R) (hE : plE c l p m = E) (hL : plL c l p z m = L) : Calls Try.prog 9 #[pv q, .int .i64 p, .int .i64 z, .int .u32 mv] w fun e w' => e = .returned (.tuple #[.int .i64 R, .int .i64 E]) ∧ St F (N + 1) w0 w' q c L ∧ Kp (fun j => ¬ F j) w w' := by
  rw [← hR, ← hE, ← hL, ← hv]
  exact place_st h hN hc p z m hm
def a1 : Ls := plL 3 NoL 5 0 7
def a2 : Ls := plL 3 a1 6 0 6
def a3 : Ls := plL 3 a2 7 0 6
def a4 : Ls := plL 3 a3 5 1 7
set_option maxHeartbeats 1000000 in
theorem alive_any (w : World) : Calls Try.prog 29 #[] w fun e w' => e = .returned (.bool true) ∧ Below w.heap.size w w' := by
  have HN := new_st w 3 (by decide) (by decide)
  rw [show ((3 : Nat) : Int) = 3 from rfl] at HN
  replace HN := Lib.hid HN
  go_enter Try.func29, Try.ntmps29
  go_wp2_with (first
    | (go_at_call 8; (with_reducible refine HN.out.mono ?_); rintro e w1 ⟨rfl, h1⟩; have P1 := Lib.hid (place_lit h1 (by decide) (by decide) 5 0 7 7 rfl (by decide) 0 0 a1 (by kernel_rfl) (by kernel_rfl) rfl); clear h1)
    | (go_at_call 9; (with_reducible refine P1.out.mono ?_); rintro e w2 ⟨rfl, h2, -⟩; have P2 := Lib.hid (place_lit h2 (by decide) (by decide) 6 0 6 6 rfl (by decide) 1 0 a2 (by kernel_rfl) (by kernel_rfl) rfl); clear h2)
    | (go_at_call 9; (with_reducible refine P2.out.mono ?_); rintro e w3 ⟨rfl, h3, -⟩; have P3 := Lib.hid (place_lit h3 (by decide) (by decide) 7 0 6 6 rfl (by decide) 2 0 a3 (by kernel_rfl) (by kernel_rfl) rfl); clear h3)
    | (go_at_call 9; (with_reducible refine P3.out.mono ?_); rintro e w4 ⟨rfl, h4, -⟩; have P4 := Lib.hid (place_lit h4 (by decide) (by decide) 5 1 7 7 rfl (by decide) 0 130 a4 (by kernel_rfl) (by kernel_rfl) rfl); clear h4)
    | (go_at_call 9; (with_reducible refine P4.out.mono ?_); rintro e w5 ⟨rfl, h5, -⟩; have HW := where_st h5 7; rw [show wh 3 a4 7 = 2 by kernel_rfl] at HW; replace HW := Lib.hid HW; have HE := Lib.hid h5; clear h5)
    | (go_at_call 17; (with_reducible refine HW.out.mono ?_); rintro e w6 ⟨rfl, rfl⟩))
  go_ret
  exact ⟨rfl, HE.out.bel⟩
end Go.Proofs.Ytkjmpkoogjbjnaa.Qun
