/-
  QueuePlays: queues and the document's own, side by side; a call's box; the calls on both.
-/
import Derived.Test.YtkjmpkoogjbjnaaQva
namespace Go.Proofs.Ytkjmpkoogjbjnaa.Qvb
open Go Go.RowKit Go.Shelf Kit Bk Qua Qub Quc Qud Que Quf Qug Quh Qui Quj Quk Qul Qum Qun Quq Qup Qur Quu Quw Qux Quy Quz Qva
set_option linter.unusedVariables false
variable {F : Nat → Prop} {N : Nat} {w0 w w' : World} {q c p xb r : Nat} {l lr : Ls} {o : Opr}

theorem rall_q (h : Rq N w p r c l) (hN : N ≤ 80000) (h8 : c ≤ 8) : Calls Try.prog 23 #[pv p] w fun e w' => Below w.heap.size w w' ∧ ∃ u G, e = .returned u ∧ Rw w' u G (al l) ∧ ∀ g, G = some g → w.heap.size ≤ g := by
  obtain ⟨D, h1, h2, h3, h4⟩ := h
  rw [← Qva.Alk.iso h3 h2 h8]
  exact rall_any w h1 (Nat.le_trans h4 hN)
theorem Rq.ne {cs : Array Value} {T : TypeId} (h : Rq N w p r c l) (hb : Blk w xb cs T) (h1 : T ≠ 31) (h2 : T ≠ 62) : ¬ (xb = p ∨ xb = r) := by
  obtain ⟨D, ⟨v, g1, g2, g3⟩, _⟩ := h
  have hp : xb ≠ p := fun e => by subst e; exact h1 (hb.inj g1).2
  rintro (e | e)
  · exact hp e
  · rcases g3 with ⟨_, e2⟩ | ⟨n, k, e2⟩
    · exact hp (e.trans e2)
    · subst e2
      obtain ⟨_, _, cs', hc⟩ := Quw.own_lt g2
      subst e
      exact h2 (hb.inj hc).2
theorem St.wide {T : Nat → Prop} (h : St F N w0 w q c l) (hk : Kp T w w') (hT : ∀ j, T j → F j) (hT0 : ∀ j, T j → w0.heap.size ≤ j) : St (fun j => F j ∨ (w.heap.size ≤ j ∧ j < w'.heap.size)) N w0 w' q c l := by
  obtain ⟨S, h1, h2, h3, h4, h5⟩ := h
  refine ⟨S, h1.kept hk (fun j e e2 => (h5 j (hT j e2)).2 e), h2, h3.trans (hk.below h3.size hT0), h4, fun j e => ?_⟩
  rcases e with e | e
  · exact ⟨Nat.lt_of_lt_of_le (h5 j e).1 hk.size, (h5 j e).2⟩
  · exact ⟨e.2, fun e2 => by have := h1.low j e2; omega⟩
/-- Queues and the document's own. -/
def Ta (N : Nat) (w0 w : World) (q p c : Nat) (l lr : Ls) : Prop := ∃ F r, St F N w0 w q c l ∧ Rq N w p r c lr ∧ F p ∧ F r ∧ w0.heap.size ≤ p ∧ w0.heap.size ≤ r
/-- .. and a call's box. -/
def Tb (N : Nat) (w0 w : World) (q p c : Nat) (l lr : Ls) (xb : Nat) (o : Opr) : Prop := ∃ F r, St F N w0 w q c l ∧ Rq N w p r c lr ∧ F p ∧ F r ∧ w0.heap.size ≤ p ∧ w0.heap.size ≤ r ∧ F xb ∧ Blk w xb (opc o) 33
theorem Ta.bel (h : Ta N w0 w q p c l lr) : Below w0.heap.size w0 w := by obtain ⟨F, r, h, _⟩ := h; exact h.bel
theorem Tb.bel (h : Tb N w0 w q p c l lr xb o) : Below w0.heap.size w0 w := by obtain ⟨F, r, h, _⟩ := h; exact h.bel
theorem Tb.less (h : Tb N w0 w q p c l lr xb o) : Ta N w0 w q p c l lr := by obtain ⟨F, r, h1, h2, h3, h4, h5, h6, _⟩ := h; exact ⟨F, r, h1, h2, h3, h4, h5, h6⟩
theorem Ta.more {K : Nat} (h : Ta N w0 w q p c l lr) (hk : N ≤ K) : Ta K w0 w q p c l lr := by obtain ⟨F, r, h1, h2, h3⟩ := h; exact ⟨F, r, h1.more hk, h2.more hk, h3⟩
theorem Tb.more {K : Nat} (h : Tb N w0 w q p c l lr xb o) (hk : N ≤ K) : Tb K w0 w q p c l lr xb o := by obtain ⟨F, r, h1, h2, h3⟩ := h; exact ⟨F, r, h1.more hk, h2.more hk, h3⟩
theorem Ta.below (h : Ta N w0 w q p c l lr) (hb : Below w.heap.size w w') : Ta N w0 w' q p c l lr := by obtain ⟨F, r, h1, h2, h3⟩ := h; exact ⟨F, r, h1.below hb, h2.below hb, h3⟩
theorem Tb.below (h : Tb N w0 w q p c l lr xb o) (hb : Below w.heap.size w w') : Tb N w0 w' q p c l lr xb o := by obtain ⟨F, r, h1, h2, h3, h4, h5, h6, h7, h8⟩ := h; exact ⟨F, r, h1.below hb, h2.below hb, h3, h4, h5, h6, h7, h8.below hb⟩
theorem Ta.box (h : Ta N w0 w q p c l lr) (o : Opr) : Tb N w0 (w.alloc (.cells (opc o) 33)) q p c l lr w.heap.size o := by
  have hb := (Below.refl w.heap.size w).alloc (Nat.le_refl _) (.cells (opc o) 33)
  obtain ⟨F, r, h1, h2, h3, h4, h5, h6⟩ := h
  exact ⟨_, r, h1.adopt hb, h2.below hb, .inl h3, .inl h4, h5, h6, .inr ⟨Nat.le_refl _, by simp⟩, Blk.new w _ _⟩
theorem Tb.cells (h : Tb N w0 w q p c l lr xb o) : w.cell? ⟨xb, 0, none⟩ = some (.int .i64 o.kind) ∧ w.cell? ⟨xb, 1, none⟩ = some (.int .i64 o.p) ∧ w.cell? ⟨xb, 2, none⟩ = some (.int .i64 o.z) ∧ w.cell? ⟨xb, 3, none⟩ = some (uv o.m) := by
  obtain ⟨F, r, _, _, _, _, _, _, _, h⟩ := h
  exact ⟨h.cell 0, h.cell 1, h.cell 2, h.cell 3⟩
theorem Ta.start (h : St (fun _ => False) 0 w0 w q c NoL) : Ta 0 w0 (w.alloc (.cells #[.int .i64 (c : Int), .slice none 0 0] 31)) q w.heap.size c NoL NoL := by
  have hb := (Below.refl w.heap.size w).alloc (Nat.le_refl _) (.cells #[.int .i64 (c : Int), .slice none 0 0] 31)
  refine ⟨_, w.heap.size, h.adopt hb, ⟨[], ⟨_, Blk.new w _ _, World.ownsRow_nil _ _ _ _, .inl ⟨rfl, rfl⟩⟩, alk_nol c, ok_nol c, Nat.le_refl _⟩, .inr ⟨Nat.le_refl _, by simp⟩, .inr ⟨Nat.le_refl _, by simp⟩, h.bel.size, h.bel.size⟩
/-- A call on the queues. -/
theorem Tb.onQ {K : Nat} {l' : Ls} (hK : N ≤ K) (h2 : Rq N w p r c lr) (h3 : F p) (h4 : F r) (h5 : w0.heap.size ≤ p) (h6 : w0.heap.size ≤ r) (h7 : F xb) (h8 : Blk w xb (opc o) 33) (h : St F K w0 w' q c l' ∧ Kp (fun j => ¬ F j) w w') : Tb K w0 w' q p c l' lr xb o :=
  ⟨F, r, h.1, (h2.kept h.2 (fun e => e h3) (fun e => e h4)).more hK, h3, h4, h5, h6, h7, h8.kept h.2 (fun e => e h7)⟩
/-- A call on the document's own. -/
theorem Tb.onR {K r' : Nat} {lr' : Ls} (hK : N ≤ K) (h1 : St F N w0 w q c l) (h2 : Rq N w p r c lr) (h3 : F p) (h4 : F r) (h5 : w0.heap.size ≤ p) (h6 : w0.heap.size ≤ r) (h7 : F xb) (h8 : Blk w xb (opc o) 33) (hk : Kp (fun j => j = p ∨ j = r) w w') (hq : Rq K w' p r' c lr') (hr : r' = p ∨ r' = r ∨ w.heap.size ≤ r') : Tb K w0 w' q p c l lr' xb o := by
  refine ⟨_, r', (St.wide h1 hk (fun j e => e.elim (fun e => by rw [e]; exact h3) (fun e => by rw [e]; exact h4)) (fun j e => e.elim (fun e => by rw [e]; exact h5) (fun e => by rw [e]; exact h6))).more hK, hq, .inl h3, ?_, h5, ?_, .inl h7, h8.kept hk (Rq.ne h2 h8 (by decide) (by decide))⟩
  · rcases hr with rfl | rfl | hr
    · exact .inl h3
    · exact .inl h4
    · exact .inr ⟨hr, hq.lt.2⟩
  · rcases hr with rfl | rfl | hr
    · exact h5
    · exact h6
    · exact Nat.le_trans h1.bel.size hr
theorem Tb.place (h : Tb N w0 w q p c l lr xb o) (hN : N ≤ 9000) (hc : 1 ≤ c) (y z : Int) (m : Nat) (hm : m < 4294967296) : Calls Try.prog 9 #[pv q, .int .i64 y, .int .i64 z, uv m] w fun e w' => e = .returned (.tuple #[.int .i64 (plR c l y z m), .int .i64 (plE c l y m)]) ∧ Tb (N + 1) w0 w' q p c (plL c l y z m) lr xb o := by
  obtain ⟨F, r, h1, h2, h3, h4, h5, h6, h7, h8⟩ := h
  refine (place_st h1 (by omega) hc y z m hm).mono ?_
  rintro e w' ⟨rfl, g⟩
  exact ⟨rfl, Tb.onQ (Nat.le_succ N) h2 h3 h4 h5 h6 h7 h8 g⟩
theorem Tb.rplace (h : Tb N w0 w q p c l lr xb o) (hN : N ≤ 9000) (y z : Int) (m : Nat) (hm : m < 4294967296) : Calls Try.prog 10 #[pv p, .int .i64 y, .int .i64 z, uv m] w fun e w' => e = .returned (.tuple #[.int .i64 (plR c lr y z m), .int .i64 (plE c lr y m)]) ∧ Tb (N + 1) w0 w' q p c l (plL c lr y z m) xb o := by
  obtain ⟨F, r, h1, h2, h3, h4, h5, h6, h7, h8⟩ := h
  refine (rplace_any w h2 (by omega) h1.c8 y z m hm).mono ?_
  rintro e w' ⟨rfl, g1, r', g2, g3⟩
  exact ⟨rfl, Tb.onR (Nat.le_succ N) h1 h2 h3 h4 h5 h6 h7 h8 g1 g2 g3⟩
theorem Tb.move (h : Tb N w0 w q p c l lr xb o) (hN : N ≤ 9000) (hc : 1 ≤ c) (y : Int) (m : Nat) (hm : m < 4294967296) : Calls Try.prog 11 #[pv q, .int .i64 y, uv m] w fun e w' => e = .returned (.tuple #[.int .i64 (mvR c l y m), .int .i64 (mvE c l y m)]) ∧ Tb (N + 1) w0 w' q p c (mvL c l y m) lr xb o := by
  obtain ⟨F, r, h1, h2, h3, h4, h5, h6, h7, h8⟩ := h
  refine (move_st h1 (by omega) hc y m hm).mono ?_
  rintro e w' ⟨rfl, g⟩
  exact ⟨rfl, Tb.onQ (Nat.le_succ N) h2 h3 h4 h5 h6 h7 h8 g⟩
theorem Tb.rmove (h : Tb N w0 w q p c l lr xb o) (hN : N ≤ 9000) (y : Int) (m : Nat) (hm : m < 4294967296) : Calls Try.prog 12 #[pv p, .int .i64 y, uv m] w fun e w' => e = .returned (.tuple #[.int .i64 (mvR c lr y m), .int .i64 (mvE c lr y m)]) ∧ Tb (N + 1) w0 w' q p c l (mvL c lr y m) xb o := by
  obtain ⟨F, r, h1, h2, h3, h4, h5, h6, h7, h8⟩ := h
  refine (rmove_q w h2 (by omega) h1.c8 y m hm).mono ?_
  rintro e w' ⟨rfl, g1, r', g2, g3⟩
  exact ⟨rfl, Tb.onR (Nat.le_succ N) h1 h2 h3 h4 h5 h6 h7 h8 g1 g2 g3⟩
theorem Tb.cut (h : Tb N w0 w q p c l lr xb o) (y : Int) : Calls Try.prog 13 #[pv q, .int .i64 y] w fun e w' => e = .returned (.bool (ctB c l y)) ∧ Tb N w0 w' q p c (ctL c l y) lr xb o := by
  obtain ⟨F, r, h1, h2, h3, h4, h5, h6, h7, h8⟩ := h
  refine (cut_st h1 y).mono ?_
  rintro e w' ⟨rfl, g⟩
  exact ⟨rfl, Tb.onQ (Nat.le_refl N) h2 h3 h4 h5 h6 h7 h8 g⟩
theorem Tb.rcut (h : Tb N w0 w q p c l lr xb o) (hN : N ≤ 9000) (y : Int) : Calls Try.prog 14 #[pv p, .int .i64 y] w fun e w' => e = .returned (.bool (ctB c lr y)) ∧ Tb N w0 w' q p c l (ctL c lr y) xb o := by
  obtain ⟨F, r, h1, h2, h3, h4, h5, h6, h7, h8⟩ := h
  refine (rcut_q w h2 (by omega) y).mono ?_
  rintro e w' ⟨rfl, g1, r', g2, g3⟩
  exact ⟨rfl, Tb.onR (Nat.le_refl N) h1 h2 h3 h4 h5 h6 h7 h8 (g1.mono (fun j _ e => .inl e)) g2 (g3.imp id .inr)⟩
theorem Tb.rotate (h : Tb N w0 w q p c l lr xb o) (hN : N ≤ 9000) (z : Int) : Calls Try.prog 15 #[pv q, .int .i64 z] w fun e w' => e = .returned (.bool (rtB c l z)) ∧ Tb N w0 w' q p c (rtL c l z) lr xb o := by
  obtain ⟨F, r, h1, h2, h3, h4, h5, h6, h7, h8⟩ := h
  refine (rotate_st h1 (by omega) z).mono ?_
  rintro e w' ⟨rfl, g⟩
  exact ⟨rfl, Tb.onQ (Nat.le_refl N) h2 h3 h4 h5 h6 h7 h8 g⟩
theorem Tb.rrotate (h : Tb N w0 w q p c l lr xb o) (hN : N ≤ 9000) (z : Int) : Calls Try.prog 16 #[pv p, .int .i64 z] w fun e w' => e = .returned (.bool (rtB c lr z)) ∧ Tb (N + 1) w0 w' q p c l (rtL c lr z) xb o := by
  obtain ⟨F, r, h1, h2, h3, h4, h5, h6, h7, h8⟩ := h
  refine (rrotate_q w h2 (by omega) z).mono ?_
  rintro e w' ⟨rfl, g1, r', g2, g3⟩
  exact ⟨rfl, Tb.onR (Nat.le_succ N) h1 h2 h3 h4 h5 h6 h7 h8 g1 g2 g3⟩
theorem Ta.where (h : Ta N w0 w q p c l lr) (y : Int) : Calls Try.prog 17 #[pv q, .int .i64 y] w fun e w' => e = .returned (.int .i64 (wh c l y)) ∧ w = w' := by
  obtain ⟨F, r, h1, h2, _⟩ := h
  exact where_st h1 y
theorem Ta.rwhere (h : Ta N w0 w q p c l lr) (y : Int) : Calls Try.prog 18 #[pv p, .int .i64 y] w fun e w' => e = .returned (.int .i64 (wh c lr y)) ∧ w = w' := by
  obtain ⟨F, r, h1, h2, _⟩ := h
  exact rwhere_q h2 y
theorem Ta.may (h : Ta N w0 w q p c l lr) (m : Nat) (hm : m < 4294967296) : Calls Try.prog 19 #[pv q, uv m] w fun e w' => e = .returned (.bool (Qua.may c m)) ∧ Below w.heap.size w w' := by
  obtain ⟨F, r, ⟨S, h1, _⟩, _⟩ := h
  exact may_any _ c m h1.c8 hm (lens l) w (cs_qs h1) (lens_qs h1)
theorem Ta.rmay (h : Ta N w0 w q p c l lr) (hN : N ≤ 9000) (m : Nat) (hm : m < 4294967296) : Calls Try.prog 20 #[pv p, uv m] w fun e w' => e = .returned (.bool (Qua.may c m)) ∧ Below w.heap.size w w' := by
  obtain ⟨F, r, h1, h2, _⟩ := h
  exact rmay_q h2 (by omega) h1.c8 m hm
theorem Ta.all (h : Ta N w0 w q p c l lr) (hN : N ≤ 9000) : Calls Try.prog 22 #[pv q] w fun e w' => Below w.heap.size w w' ∧ ∃ a n, e = .returned (.slice a (al l).length n) ∧ ∃ G, Rw w' (.slice a (al l).length n) G (al l) := by
  obtain ⟨F, r, h1, h2, _⟩ := h
  refine (all_st h1 (by omega)).mono ?_
  rintro e w' ⟨hb, u, G, rfl, hr, _⟩
  obtain ⟨a, n, rfl, _⟩ := hr.form
  exact ⟨hb, a, n, rfl, G, hr⟩
theorem Ta.rall (h : Ta N w0 w q p c l lr) (hN : N ≤ 9000) : Calls Try.prog 23 #[pv p] w fun e w' => Below w.heap.size w w' ∧ ∃ a n, e = .returned (.slice a (al lr).length n) ∧ ∃ G, Rw w' (.slice a (al lr).length n) G (al lr) := by
  obtain ⟨F, r, h1, h2, _⟩ := h
  refine (rall_q h2 (by omega) h1.c8).mono ?_
  rintro e w' ⟨hb, u, G, rfl, hr, _⟩
  obtain ⟨a, n, rfl, _⟩ := hr.form
  exact ⟨hb, a, n, rfl, G, hr⟩
theorem Ta.list (h : Ta N w0 w q p c l lr) (hN : N ≤ 9000) (z : Int) : Calls Try.prog 24 #[pv q, .int .i64 z] w fun e w' => Below w.heap.size w w' ∧ ∃ a n, e = .returned (.slice a (lst c l z).length n) ∧ ∃ G, Rw w' (.slice a (lst c l z).length n) G (lst c l z) := by
  obtain ⟨F, r, h1, h2, _⟩ := h
  refine (list_st h1 (by omega) z).mono ?_
  rintro e w' ⟨hb, u, G, rfl, hr, _⟩
  obtain ⟨a, n, rfl, _⟩ := hr.form
  exact ⟨hb, a, n, rfl, G, hr⟩
theorem Ta.rlist (h : Ta N w0 w q p c l lr) (hN : N ≤ 9000) (z : Int) : Calls Try.prog 25 #[pv p, .int .i64 z] w fun e w' => Below w.heap.size w w' ∧ ∃ a n, e = .returned (.slice a (lst c lr z).length n) ∧ ∃ G, Rw w' (.slice a (lst c lr z).length n) G (lst c lr z) := by
  obtain ⟨F, r, h1, h2, _⟩ := h
  refine (rlist_q h2 (by omega) z).mono ?_
  rintro e w' ⟨hb, u, G, rfl, hr, _⟩
  obtain ⟨a, n, rfl, _⟩ := hr.form
  exact ⟨hb, a, n, rfl, G, hr⟩
theorem Ta.pick (h : Ta N w0 w q p c l lr) (hN : N ≤ 9000) (z : Int) (m : Nat) (hm : m < 4294967296) : Calls Try.prog 26 #[pv q, .int .i64 z, uv m] w fun e w' => e = .returned (.int .i64 (pk c l z m)) ∧ w = w' := by
  obtain ⟨F, r, h1, h2, _⟩ := h
  exact pick_st h1 (by omega) z m hm
theorem Ta.rpick (h : Ta N w0 w q p c l lr) (hN : N ≤ 9000) (z : Int) (m : Nat) (hm : m < 4294967296) : Calls Try.prog 27 #[pv p, .int .i64 z, uv m] w fun e w' => e = .returned (.int .i64 (pk c lr z m)) ∧ Below w.heap.size w w' := by
  obtain ⟨F, r, h1, h2, _⟩ := h
  exact rpick_q w h2 (by omega) z m hm
theorem Ta.cores (h : Ta N w0 w q p c l lr) : Calls Try.prog 28 #[pv q] w fun e w' => e = .returned (.int .i64 (c : Int)) ∧ w = w' := by
  obtain ⟨F, r, ⟨S, h1, _⟩, _⟩ := h
  exact cores_any w h1
theorem same_yes {w : World} {a1 a2 : Option Addr} {n1 n2 : Nat} {x : List Int} (h1 : ∃ G, Rw w (.slice a1 x.length n1) G x) (h2 : ∃ G, Rw w (.slice a2 x.length n2) G x) : Calls Try.prog 21 #[.slice a1 x.length n1, .slice a2 x.length n2] w fun e w' => e = .returned (.bool true) ∧ Below w.heap.size w w' := by
  obtain ⟨G1, h1⟩ := h1
  obtain ⟨G2, h2⟩ := h2
  have := same_any w _ _ _ _ x x h1 h2
  rw [show decide (x = x) = true by simp] at this
  exact this
theorem rw_below {w w' : World} {v : Value} {x : List Int} (h : ∃ G, Rw w v G x) (hb : Below w.heap.size w w') : ∃ G, Rw w' v G x := by
  obtain ⟨G, h⟩ := h
  exact ⟨G, h.below hb⟩
end Go.Proofs.Ytkjmpkoogjbjnaa.Qvb
