/-
  QueueOnce: the masks, the call's box, the queues beside them.
-/
import Derived.Test.YtkjmpkoogjbjnaaQur
namespace Go.Proofs.Ytkjmpkoogjbjnaa.Quu
open Go Go.RowKit Go.Shelf Kit Bk Qua Qub Quc Qud Que Quf Qug Quh Qui Quj Quk Qul Qum Qun Quq Qup Qur
set_option linter.unusedVariables false

/-- The masks by which pids were placed or moved last. -/
def Ms (w : World) (mb : Nat) (M : Nat → Nat) : Prop := ∃ cs, Blk w mb cs 54 ∧ cs.size = 100 ∧ ∀ i, i < 100 → cs[i]? = some (uv (M i)) ∧ M i < 4294967296
def opc (o : Opr) : Array Value := #[.int .i64 o.kind, .int .i64 o.p, .int .i64 o.z, uv o.m]
variable {F : Nat → Prop} {N : Nat} {w0 w w' : World} {q c mb xb : Nat} {l : Ls} {M : Nat → Nat} {o : Opr}
theorem Ms.below (h : Ms w mb M) (hb : Below w.heap.size w w') : Ms w' mb M := by
  obtain ⟨cs, h1, h2⟩ := h
  exact ⟨cs, h1.below hb, h2⟩
theorem Ms.kept {S : Nat → Prop} (h : Ms w mb M) (hk : Kp S w w') (hS : ¬ S mb) : Ms w' mb M := by
  obtain ⟨cs, h1, h2⟩ := h
  exact ⟨cs, h1.kept hk hS, h2⟩
theorem Ms.cell (h : Ms w mb M) (i : Nat) (hi : i < 100) : w.cell? ⟨mb, i, none⟩ = some (uv (M i)) ∧ w.frozen? ⟨mb, i, none⟩ = false := by
  obtain ⟨cs, h1, h2, h3⟩ := h
  exact ⟨(h1.cell i).trans (h3 i hi).1, h1.free i⟩
theorem Ms.lt (h : Ms w mb M) (i : Nat) (hi : i < 100) : M i < 4294967296 := by
  obtain ⟨cs, h1, h2, h3⟩ := h
  exact (h3 i hi).2
theorem Ms.set (h : Ms w mb M) (i : Nat) (hi : i < 100) (m : Nat) (hm : m < 4294967296) : Ms (w.setCell ⟨mb, i, none⟩ (uv m)) mb (up M i m) := by
  obtain ⟨cs, h1, h2, h3⟩ := h
  refine ⟨_, h1.set i (uv m), by simp [h2], fun j hj => ?_⟩
  rw [Array.getElem?_setIfInBounds]
  by_cases e : i = j
  · subst e
    rw [if_pos rfl, if_pos (by omega), up_same]
    exact ⟨rfl, hm⟩
  · rw [if_neg e, up_other _ _ _ _ (Ne.symm e)]
    exact h3 j hj
/-- The queues, and the masks. -/
def Oa (N : Nat) (w0 w : World) (q c : Nat) (l : Ls) (mb : Nat) (M : Nat → Nat) : Prop := ∃ F, St F N w0 w q c l ∧ F mb ∧ Ms w mb M ∧ w0.heap.size ≤ mb
/-- .. and a call's box. -/
def Ob (N : Nat) (w0 w : World) (q c : Nat) (l : Ls) (mb : Nat) (M : Nat → Nat) (xb : Nat) (o : Opr) : Prop := ∃ F, St F N w0 w q c l ∧ F mb ∧ F xb ∧ Ms w mb M ∧ w0.heap.size ≤ mb ∧ Blk w xb (opc o) 33
theorem Oa.bel (h : Oa N w0 w q c l mb M) : Below w0.heap.size w0 w := by obtain ⟨F, h, _⟩ := h; exact h.bel
theorem Ob.bel (h : Ob N w0 w q c l mb M xb o) : Below w0.heap.size w0 w := by obtain ⟨F, h, _⟩ := h; exact h.bel
theorem Ob.less (h : Ob N w0 w q c l mb M xb o) : Oa N w0 w q c l mb M := by obtain ⟨F, h1, h2, _, h3, h4, _⟩ := h; exact ⟨F, h1, h2, h3, h4⟩
theorem Oa.more {K : Nat} (h : Oa N w0 w q c l mb M) (hk : N ≤ K) : Oa K w0 w q c l mb M := by obtain ⟨F, h1, h2⟩ := h; exact ⟨F, h1.more hk, h2⟩
theorem Ob.more {K : Nat} (h : Ob N w0 w q c l mb M xb o) (hk : N ≤ K) : Ob K w0 w q c l mb M xb o := by obtain ⟨F, h1, h2⟩ := h; exact ⟨F, h1.more hk, h2⟩
theorem Oa.below (h : Oa N w0 w q c l mb M) (hb : Below w.heap.size w w') : Oa N w0 w' q c l mb M := by
  obtain ⟨F, h1, h2, h3, h4⟩ := h
  exact ⟨F, h1.below hb, h2, h3.below hb, h4⟩
theorem Ob.below (h : Ob N w0 w q c l mb M xb o) (hb : Below w.heap.size w w') : Ob N w0 w' q c l mb M xb o := by
  obtain ⟨F, h1, h2, h3, h4, h5, h6⟩ := h
  exact ⟨F, h1.below hb, h2, h3, h4.below hb, h5, h6.below hb⟩
theorem Oa.box (h : Oa N w0 w q c l mb M) (o : Opr) : Ob N w0 (w.alloc (.cells (opc o) 33)) q c l mb M w.heap.size o := by
  have hb := (Below.refl w.heap.size w).alloc (Nat.le_refl _) (.cells (opc o) 33)
  obtain ⟨F, h1, h2, h3, h4⟩ := h
  exact ⟨_, h1.adopt hb, .inl h2, .inr ⟨Nat.le_refl _, by simp⟩, h3.below hb, h4, Blk.new w _ _⟩
theorem Ob.cells (h : Ob N w0 w q c l mb M xb o) : w.cell? ⟨xb, 0, none⟩ = some (.int .i64 o.kind) ∧ w.cell? ⟨xb, 1, none⟩ = some (.int .i64 o.p) ∧ w.cell? ⟨xb, 2, none⟩ = some (.int .i64 o.z) ∧ w.cell? ⟨xb, 3, none⟩ = some (uv o.m) := by
  obtain ⟨F, _, _, _, _, _, h⟩ := h
  exact ⟨h.cell 0, h.cell 1, h.cell 2, h.cell 3⟩
theorem Ob.kept {l' : Ls} {K : Nat} (hF1 : F mb) (hF2 : F xb) (h3 : Ms w mb M) (h4 : w0.heap.size ≤ mb) (h5 : Blk w xb (opc o) 33) (h : St F K w0 w' q c l' ∧ Kp (fun j => ¬ F j) w w') : Ob K w0 w' q c l' mb M xb o :=
  ⟨F, h.1, hF1, hF2, h3.kept h.2 (fun e => e hF1), h4, h5.kept h.2 (fun e => e hF2)⟩
theorem Ob.place (h : Ob N w0 w q c l mb M xb o) (hN : N ≤ 90000) (hc : 1 ≤ c) (p z : Int) (m : Nat) (hm : m < 4294967296) : Calls Try.prog 9 #[pv q, .int .i64 p, .int .i64 z, uv m] w fun e w' => e = .returned (.tuple #[.int .i64 (plR c l p z m), .int .i64 (plE c l p m)]) ∧ Ob (N + 1) w0 w' q c (plL c l p z m) mb M xb o := by
  obtain ⟨F, h1, h2, h3, h4, h5, h6⟩ := h
  refine (place_st h1 hN hc p z m hm).mono ?_
  rintro e w' ⟨rfl, g⟩
  exact ⟨rfl, Ob.kept h2 h3 h4 h5 h6 g⟩
theorem Ob.move (h : Ob N w0 w q c l mb M xb o) (hN : N ≤ 90000) (hc : 1 ≤ c) (p : Int) (m : Nat) (hm : m < 4294967296) : Calls Try.prog 11 #[pv q, .int .i64 p, uv m] w fun e w' => e = .returned (.tuple #[.int .i64 (mvR c l p m), .int .i64 (mvE c l p m)]) ∧ Ob (N + 1) w0 w' q c (mvL c l p m) mb M xb o := by
  obtain ⟨F, h1, h2, h3, h4, h5, h6⟩ := h
  refine (move_st h1 hN hc p m hm).mono ?_
  rintro e w' ⟨rfl, g⟩
  exact ⟨rfl, Ob.kept h2 h3 h4 h5 h6 g⟩
theorem Ob.cut (h : Ob N w0 w q c l mb M xb o) (p : Int) : Calls Try.prog 13 #[pv q, .int .i64 p] w fun e w' => e = .returned (.bool (ctB c l p)) ∧ Ob N w0 w' q c (ctL c l p) mb M xb o := by
  obtain ⟨F, h1, h2, h3, h4, h5, h6⟩ := h
  refine (cut_st h1 p).mono ?_
  rintro e w' ⟨rfl, g⟩
  exact ⟨rfl, Ob.kept h2 h3 h4 h5 h6 g⟩
theorem Ob.rotate (h : Ob N w0 w q c l mb M xb o) (hN : N ≤ 90000) (z : Int) : Calls Try.prog 15 #[pv q, .int .i64 z] w fun e w' => e = .returned (.bool (rtB c l z)) ∧ Ob N w0 w' q c (rtL c l z) mb M xb o := by
  obtain ⟨F, h1, h2, h3, h4, h5, h6⟩ := h
  refine (rotate_st h1 hN z).mono ?_
  rintro e w' ⟨rfl, g⟩
  exact ⟨rfl, Ob.kept h2 h3 h4 h5 h6 g⟩
/-- A mask is stored. -/
theorem Oa.set (h : Oa N w0 w q c l mb M) (i : Nat) (hi : i < 100) (m : Nat) (hm : m < 4294967296) : Oa N w0 (w.setCell ⟨mb, i, none⟩ (uv m)) q c l mb (up M i m) := by
  obtain ⟨F, h1, h2, h3, h4⟩ := h
  exact ⟨F, h1.kept (Kp.set (S := fun j => j = mb) w mb i (uv m) rfl) (fun j e => by rw [e]; exact h2) (fun j e => by rw [e]; exact h4), h2, h3.set i hi m hm, h4⟩
theorem Oa.list (h : Oa N w0 w q c l mb M) (hN : N ≤ 90000) (k : Nat) (hk : k < c) : Calls Try.prog 24 #[pv q, .int .i64 (k : Int)] w fun e w' => Below w.heap.size w w' ∧ ∃ a n, e = .returned (.slice a (l k).length n) ∧ ∀ W, Below w'.heap.size w' W → ∀ i, i < (l k).length → ∃ g o, a = some ⟨g, o, none⟩ ∧ W.cell? ⟨g, o + i, none⟩ = some (.int .i64 ((l k).getD i 0)) := by
  obtain ⟨F, h1, _⟩ := h
  refine (list_st h1 hN (k : Int)).mono ?_
  rintro e w' ⟨hb, u2, G2, rfl, hr, _⟩
  rw [lst_nat hk] at hr
  obtain ⟨a, n, rfl, _⟩ := hr.form
  refine ⟨hb, a, n, rfl, fun W hW => ?_⟩
  obtain ⟨a', n', e, _, _, h4⟩ := Quf.Rw.cells (hr.below hW)
  injection e with e1 e2 e3
  subst e1
  exact h4
theorem Oa.len (h : Oa N w0 w q c l mb M) (k : Nat) : (l k).length ≤ N := by
  obtain ⟨F, h1, _⟩ := h
  exact h1.len k
theorem Oa.mask (h : Oa N w0 w q c l mb M) (i : Nat) (hi : i < 100) : M i < 4294967296 ∧ w.cell? ⟨mb, i, none⟩ = some (uv (M i)) := by
  obtain ⟨F, _, _, hms, _⟩ := h
  exact ⟨hms.lt i hi, (hms.cell i hi).1⟩
theorem Oa.where (h : Oa N w0 w q c l mb M) (p : Int) : Calls Try.prog 17 #[pv q, .int .i64 p] w fun e w' => e = .returned (.int .i64 (wh c l p)) ∧ w = w' := by
  obtain ⟨F, h1, _⟩ := h
  exact where_st h1 p
theorem Oa.all (h : Oa N w0 w q c l mb M) (hN : N ≤ 10000) : Calls Try.prog 22 #[pv q] w fun e w' => Below w.heap.size w w' ∧ ∃ a n, e = .returned (.slice a (tot l) n) := by
  obtain ⟨F, h1, _⟩ := h
  refine (all_st h1 hN).mono ?_
  rintro e w' ⟨hb, u, G, rfl, hr, _⟩
  obtain ⟨a, n, rfl, _⟩ := hr.form
  rw [al_len]
  exact ⟨hb, a, n, rfl⟩
/-- Each pid's core is one of its mask. -/
def Inv (l : Ls) (M : Nat → Nat) : Prop := ∀ k p, p ∈ l k → p < 100 → bt (M p.toNat) k = true
/-- What a call turns. -/
def Trn (c : Nat) (l l' : Ls) (p : Int) (m : Nat) (E : Int) : Prop := ∀ k x, x ∈ l' k → (x ∈ l k ∧ (E = 0 → x ≠ p)) ∨ (E = 0 ∧ x = p ∧ bt m k = true)
theorem trn_place (h : Ok c l) (p z : Int) (m : Nat) : Trn c l (plL c l p z m) p m (plE c l p m) := fun k x hx => by
  rcases mem_place hx with g | ⟨h1, h2, _, h3⟩
  · exact .inl ⟨g, fun e e2 => h.none_wh (plE_ok e).2.1 k (by rw [← e2]; exact g)⟩
  · exact .inr ⟨h1, h2, h3⟩
theorem trn_move (h : Ok c l) (p : Int) (m : Nat) : Trn c l (mvL c l p m) p m (mvE c l p m) := fun k x hx => by
  rcases mem_move h hx with ⟨hx, h1⟩ | ⟨h1, h2, _, h3⟩
  · refine .inl ⟨hx, fun e => ?_⟩
    rcases h1 with h1 | h1
    · exact h1
    · rw [mvE_eq h, if_pos h1] at e; cases e
  · exact .inr ⟨h1, h2, h3⟩
theorem trn_cut (h : Ok c l) (p : Int) (m : Nat) (r : Int) : Trn c l (ctL c l r) p m 2 := fun k x hx => .inl ⟨((mem_cut h).1 hx).1, fun e => by cases e⟩
theorem trn_rotate (p : Int) (m : Nat) (z : Int) : Trn c l (rtL c l z) p m 2 := fun k x hx => .inl ⟨mem_rot.1 hx, fun e => by cases e⟩
theorem trn_none (p : Int) (m : Nat) : Trn c l l p m 2 := fun k x hx => .inl ⟨hx, fun e => by cases e⟩
theorem Inv.keep {l' : Ls} {p E : Int} {m : Nat} (h : Inv l M) (ht : Trn c l l' p m E) (hE : ¬ (E = 0 ∧ 0 ≤ p ∧ p < 100)) (ho : Ok c l') : Inv l' M := fun k x hx h100 => by
  rcases ht k x hx with ⟨h1, h2⟩ | ⟨h1, rfl, h3⟩
  · exact h k x h1 h100
  · exact absurd ⟨h1, by have := ho.pos k x hx; omega, h100⟩ hE
theorem Inv.next {l' : Ls} {p : Nat} {m : Nat} (h : Inv l M) (ht : Trn c l l' (p : Int) m 0) (ho : Ok c l') : Inv l' (up M p m) := fun k x hx h100 => by
  have hp := ho.pos k x hx
  rcases ht k x hx with ⟨h1, h2⟩ | ⟨h1, rfl, h3⟩
  · rw [up_other _ _ _ _ (by have := h2 rfl; omega)]
    exact h k x h1 h100
  · rw [show (p : Int).toNat = p by omega, up_same]
    exact h3
theorem fl_tot (h : Ok c l) (h8 : c ≤ 8) : (fl l c).length = tot l := by
  have : ∀ j, c ≤ j → (fl l j).length = (fl l c).length := fun j => by
    induction j with
    | zero => intro hj; obtain rfl : c = 0 := by omega
              rfl
    | succ j ih =>
      intro hj
      by_cases e : c = j + 1
      · rw [e]
      · show (fl l j ++ l j).length = _
        rw [h.out j (by omega), List.append_nil]
        exact ih (by omega)
  unfold tot
  rw [← fl_eight]
  exact (this 8 h8).symm
end Go.Proofs.Ytkjmpkoogjbjnaa.Quu
