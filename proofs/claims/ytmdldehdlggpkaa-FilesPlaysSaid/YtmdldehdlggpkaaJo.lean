/-
  change, Share, Drop, Open of open files.
-/
import Derived.Test.YtmdldehdlggpkaaJi
namespace Go.Proofs.Ytmdldehdlggpkaa.Jo
open Go Go.RowKit Kit Bk Jp Jm Ji
set_option linter.unusedVariables false

theorem infoF : (Try.prog.info? 26).map (fun i => (i.size)) = some 2 := by kernel_rfl
theorem infoH : (Try.prog.info? 58).map (fun i => (i.size)) = some 3 := by kernel_rfl
/-- Stores of a file, and of one with its count, behind names that a walk does not open. -/
def stF (p v : Value) : Sem Unit := Instr.storeAt 26 p v
theorem stf_wrap (p v : Value) : Instr.storeAt 26 p v = stF p v := rfl
def stH (p v : Value) : Sem Unit := Instr.storeAt 58 p v
theorem sth_wrap (p v : Value) : Instr.storeAt 58 p v = stH p v := rfl
attribute [local go_sem ↓] stf_wrap sth_wrap
theorem run_stF (w : World) (b o : Nat) (cs : Array Value) (T : TypeId) (h : Blk w b cs T) (hn : o + 2 ≤ cs.size) (P : Int) (V : Bool) :
    (stF (.pointer (some ⟨b, o, none⟩)) (.agg #[.int .i64 P, .bool V])).run Try.prog w = .ok () (w.setCells b o [.int .i64 P, .bool V]) := by
  unfold stF
  refine run_storeAt_mid w b o _ #[.int .i64 P, .bool V] (h.there _ _ hn) ?_ (by simp [Value.oneCell'])
  rw [infoF]
  rfl
theorem run_stH (w : World) (b o : Nat) (cs : Array Value) (T : TypeId) (h : Blk w b cs T) (hn : o + 3 ≤ cs.size) (P : Int) (V : Bool) (R : Int) :
    (stH (.pointer (some ⟨b, o, none⟩)) (.agg #[.int .i64 P, .bool V, .int .i64 R])).run Try.prog w = .ok () (w.setCells b o [.int .i64 P, .bool V, .int .i64 R]) := by
  unfold stH
  refine run_storeAt_mid w b o _ #[.int .i64 P, .bool V, .int .i64 R] (h.there _ _ hn) ?_ (by simp [Value.oneCell'])
  rw [infoH]
  rfl
/-- A file's two cells written whole. -/
theorem blk_two {w : World} {b : Nat} {T : TypeId} {a c : Value} (h : Blk w b #[a, c] T) (P : Int) (V : Bool) : Blk (w.setCells b 0 [.int .i64 P, .bool V]) b #[.int .i64 P, .bool V] T := by
  have := (h.set 0 (.int .i64 P)).set 1 (.bool V)
  show Blk ((w.setCell ⟨b, 0, none⟩ (.int .i64 P)).setCell ⟨b, 1, none⟩ (.bool V)) b _ T
  simpa using this
/-- Open files with one put. -/
theorem Fl.put {w : World} {f : Nat} {S : Sf} (h : Fl w f S) (k : Nat) (hk : k < 64) (P : Int) (V : Bool) (R : Nat) : Fl (w.setCells f (k * 3) [.int .i64 P, .bool V, .int .i64 (R : Int)]) f (S.put k P V R) := by
  obtain ⟨cs, h1, h2, h3⟩ := h
  obtain ⟨ds, d1, d2, d3, d4⟩ := h1.sets [.int .i64 P, .bool V, .int .i64 (R : Int)] (k * 3)
  have hl : ([.int .i64 P, .bool V, .int .i64 (R : Int)] : List Value).length = 3 := rfl
  rw [hl] at d3 d4
  refine ⟨ds, d1, by rw [d2, h2], fun j hj => ?_⟩
  unfold Sf.put
  dsimp only
  by_cases e : j = k
  · subst e
    rw [up_same, up_same, up_same]
    exact ⟨by have := d4 0 (by omega) (by omega); rw [Nat.add_zero] at this; rw [this]; rfl, by rw [d4 1 (by omega) (by omega)]; rfl, by rw [d4 2 (by omega) (by omega)]; rfl⟩
  · rw [up_other _ _ _ _ e, up_other _ _ _ _ e, up_other _ _ _ _ e]
    obtain ⟨e0, e1, e2⟩ := h3 j hj
    exact ⟨(d3 _ (by omega)).trans e0, (d3 _ (by omega)).trans e1, (d3 _ (by omega)).trans e2⟩
/-- A count stored. -/
theorem Fl.ref {w : World} {f : Nat} {S : Sf} (h : Fl w f S) (k : Nat) (hk : k < 64) (r : Nat) : Fl (w.setCell ⟨f, k * 3 + 2, none⟩ (.int .i64 (r : Int))) f ⟨S.P, S.V, up S.R k r⟩ := by
  obtain ⟨cs, h1, h2, h3⟩ := h
  refine ⟨_, h1.set _ _, by simpa using h2, fun j hj => ?_⟩
  obtain ⟨e0, e1, e2⟩ := h3 j hj
  refine ⟨?_, ?_, ?_⟩
  · rw [Array.getElem?_setIfInBounds, if_neg (by omega)]; exact e0
  · rw [Array.getElem?_setIfInBounds, if_neg (by omega)]; exact e1
  · rw [Array.getElem?_setIfInBounds]
    by_cases e : j = k
    · subst e; rw [if_pos rfl, if_pos (by omega)]; dsimp only; rw [up_same]
    · rw [if_neg (by omega)]; dsimp only; rw [up_other _ _ _ _ e]; exact e2

theorem up_up {α : Type} (R : Nat → α) (k : Nat) (a b : α) : up (up R k a) k b = up R k b := by
  funext j
  unfold up
  split <;> rfl
theorem put_put (S : Sf) (k r : Nat) (P : Int) (V : Bool) (q : Nat) : (⟨S.P, S.V, up S.R k r⟩ : Sf).put k P V q = S.put k P V q := by unfold Sf.put; rw [up_up]

theorem change_nil (w : World) (n b : Int) :
    Calls Try.prog 48 #[.pointer none, .int .i64 n, .int .i64 b] w fun e w' => e = .returned (.tuple #[.int .i64 0, .agg #[.int .i64 0, .bool false], .int .i64 1]) ∧ Below w.heap.size w w' := by
  have hx : Blk (w.alloc (.cells #[.int .i64 0, .bool false] 26)) w.heap.size #[.int .i64 0, .bool false] 26 := Blk.new _ _ _
  have hst := run_stF _ _ 0 _ _ hx (by decide) 0 false
  have hx2 := blk_two hx 0 false
  have hk : Kp (fun j => j = w.heap.size) (w.alloc (.cells #[.int .i64 0, .bool false] 26)) _ := Kp.sets (S := fun j => j = w.heap.size) w.heap.size rfl [.int .i64 0, .bool false] 0 _
  generalize (w.alloc (.cells #[.int .i64 0, .bool false] 26)).setCells w.heap.size 0 [.int .i64 0, .bool false] = W1 at *
  have c0 := hx2.cell 0
  have c1 := hx2.cell 1
  have hB : Hid (Below w.heap.size w W1) := Lib.hid (((Below.refl _ _).alloc (Nat.le_refl _) _).trans (hk.below (by simp) (fun j e => by omega)))
  clear hx hx2 hk
  go_enter Try.func48, Try.ntmps48
  go_wp2_with (go_at_call 42; (with_reducible refine (at_nil _ _).mono ?_); rintro e w1 ⟨rfl, rfl⟩)
  exact bodyPost_ret (v := .tuple #[.int .i64 0, .agg #[.int .i64 0, .bool false], .int .i64 1]) (by simp [results, Try.results48, go_sem, c0, c1]) rfl ⟨rfl, hB.out⟩
theorem change_no (w : World) (f : Nat) (S : Sf) (h : Fl w f S) (n b : Int) (hz : rf S.R n = 0) :
    Calls Try.prog 48 #[.pointer (some ⟨f, 0, none⟩), .int .i64 n, .int .i64 b] w fun e w' => e = .returned (.tuple #[.int .i64 0, .agg #[.int .i64 0, .bool false], .int .i64 101]) ∧ Below w.heap.size w w' := by
  have hx : Blk (w.alloc (.cells #[.int .i64 0, .bool false] 26)) w.heap.size #[.int .i64 0, .bool false] 26 := Blk.new _ _ _
  have HA := Lib.hid (at_no _ f S (h.below ((Below.refl _ _).alloc (Nat.le_refl _) (.cells #[.int .i64 0, .bool false] 26))) n hz)
  have hst := run_stF _ _ 0 _ _ hx (by decide) 0 false
  have hx2 := blk_two hx 0 false
  have hk : Kp (fun j => j = w.heap.size) (w.alloc (.cells #[.int .i64 0, .bool false] 26)) _ := Kp.sets (S := fun j => j = w.heap.size) w.heap.size rfl [.int .i64 0, .bool false] 0 _
  generalize (w.alloc (.cells #[.int .i64 0, .bool false] 26)).setCells w.heap.size 0 [.int .i64 0, .bool false] = W1 at *
  have c0 := hx2.cell 0
  have c1 := hx2.cell 1
  have hB : Hid (Below w.heap.size w W1) := Lib.hid (((Below.refl _ _).alloc (Nat.le_refl _) _).trans (hk.below (by simp) (fun j e => by omega)))
  clear hx hx2 hk h hz
  go_enter Try.func48, Try.ntmps48
  go_wp2_with (go_at_call 42; (with_reducible refine HA.out.mono ?_); rintro e w1 ⟨rfl, rfl⟩)
  exact bodyPost_ret (v := .tuple #[.int .i64 0, .agg #[.int .i64 0, .bool false], .int .i64 101]) (by simp [results, Try.results48, go_sem, c0, c1]) rfl ⟨rfl, hB.out⟩
/-- The result's file written once more. -/
theorem last_st (W : World) (x : Nat) (P : Int) (V : Bool) (h : Blk W x #[.int .i64 P, .bool V] 26) : ∃ W4, (stF (.pointer (some ⟨x, 0, none⟩)) (.agg #[.int .i64 P, .bool V])).run Try.prog W.drew = .ok () W4 ∧ Blk W4 x #[.int .i64 P, .bool V] 26 ∧ Kp (fun j => j = x) W W4 := by
  have hb : Blk W.drew x #[.int .i64 P, .bool V] 26 := h.below ((Below.refl _ _).drew)
  exact ⟨_, run_stF _ _ 0 _ _ hb (Nat.le_refl _) P V, blk_two hb P V, ((Kp.refl _ _).drew).trans (Kp.sets (S := fun j => j = x) x rfl _ 0 _) (fun _ e => .inl e)⟩
/-- What change leaves. -/
theorem change_ok (w : World) (f : Nat) (S : Sf) (h : Fl w f S) (k : Nat) (hk : k < 64) (b : Int) (r r2 : Nat) (hr : S.R k = r) (hr0 : r ≠ 0) (hr9 : r < 1000000000) (hb : (r : Int) + b = (r2 : Int)) (hb9 : r2 < 1000000000) :
    Calls Try.prog 48 #[.pointer (some ⟨f, 0, none⟩), .int .i64 (k : Int), .int .i64 b] w fun e w' => e = .returned (.tuple #[.int .i64 (r2 : Int), .agg #[.int .i64 (S.P k), .bool (S.V k)], .int .i64 0]) ∧ Kp (fun j => j = f) w w' ∧ Fl w' f (if r2 = 0 then S.put k 0 false 0 else ⟨S.P, S.V, up S.R k r2⟩) := by
  have hlt := h.lt
  have hx : Blk (w.alloc (.cells #[.int .i64 0, .bool false] 26)) w.heap.size #[.int .i64 0, .bool false] 26 := Blk.new _ _ _
  have hb0 : Below w.heap.size w (w.alloc (.cells #[.int .i64 0, .bool false] 26)) := (Below.refl _ _).alloc (Nat.le_refl _) _
  have h0 := h.below hb0
  have HA := Lib.hid (at_yes _ f S h0 k hk (by omega))
  obtain ⟨cs, g1, g2, g3⟩ := id h0
  have a0 := (g1.cell (k * 3)).trans (g3 k hk).1
  have a1 := (g1.cell (k * 3 + 1)).trans (g3 k hk).2.1
  clear g1 g2 g3
  generalize hW0 : w.alloc (.cells #[.int .i64 0, .bool false] 26) = W0 at *
  have hst := run_stF _ _ 0 _ _ hx (by decide) (S.P k) (S.V k)
  have hx1 := blk_two hx (S.P k) (S.V k)
  have k1 : Kp (fun j => j = w.heap.size) W0 _ := Kp.sets (S := fun j => j = w.heap.size) w.heap.size rfl [.int .i64 (S.P k), .bool (S.V k)] 0 _
  have hf1 := h0.kept k1 (by omega)
  generalize hW1 : W0.setCells w.heap.size 0 [.int .i64 (S.P k), .bool (S.V k)] = W1 at *
  obtain ⟨cs1, g1, g2, g3⟩ := id hf1
  have b2 := (g1.cell (k * 3 + 2)).trans (g3 k hk).2.2
  have bf := g1.free (k * 3 + 2)
  rw [hr] at b2
  have k2 : Kp (fun j => j = f) W1 (W1.setCell ⟨f, k * 3 + 2, none⟩ (.int .i64 (r2 : Int))) := Kp.set _ _ _ _ rfl
  have hf2 := Fl.ref hf1 k hk r2
  have hx2 := hx1.kept k2 (by omega)
  have d2 := ((g1.set (k * 3 + 2) (.int .i64 (r2 : Int))).cell (k * 3 + 2))
  rw [Array.getElem?_setIfInBounds, if_pos rfl, if_pos (by omega)] at d2
  clear g1 g2 g3
  have hw : wrap64 ((r : Int) + b) = (r2 : Int) := by rw [IntWalk.wrap64_in _ (by omega)]; exact hb
  have HBk := Lib.hid (And.intro hb0 (And.intro k1 (And.intro k2 hf2)))
  have hlt2 := hf2.lt
  by_cases hz0 : r2 = 0
  · subst hz0
    rw [if_pos rfl]
    obtain ⟨cs2, g1, g2, g3⟩ := id hf2
    have hst3 := run_stH _ _ (k * 3) _ _ g1 (by omega) 0 false 0
    have hf3 := Fl.put hf2 k hk 0 false 0
    rw [put_put] at hf3
    have k3 : Kp (fun j => j = f) _ _ := Kp.sets (S := fun j => j = f) f rfl [.int .i64 0, .bool false, .int .i64 0] (k * 3) (W1.setCell ⟨f, k * 3 + 2, none⟩ (.int .i64 ((0 : Nat) : Int)))
    have hx3 := hx2.kept k3 (by omega)
    clear g1 g2 g3
    rw [Int.natCast_zero] at hst3 hf3 k3 hx3 hw k2 hf2 d2
    generalize (r : Int) = ri at *
    generalize hW2 : W1.setCell ⟨f, k * 3 + 2, none⟩ (.int .i64 0) = W2 at *
    generalize W2.setCells f (k * 3) [.int .i64 0, .bool false, .int .i64 0] = W3 at *
    obtain ⟨cs3, g1, g2, g3⟩ := id hf3
    have e2 := (g1.cell (k * 3 + 2)).trans (g3 k hk).2.2
    have e20 : (S.put k 0 false 0).R k = 0 := by unfold Sf.put; exact up_same _ _ _
    rw [e20, Int.natCast_zero] at e2
    have y0 := hx3.cell 0
    have y1 := hx3.cell 1
    obtain ⟨W4, hst4, hx4, k4⟩ := last_st W3 _ _ _ hx3
    have x0 := hx4.cell 0
    have x1 := hx4.cell 1
    have HE := Lib.hid (And.intro k3 (And.intro hf3 k4))
    generalize S.P k = P at *
    generalize S.V k = V at *
    clear h hk hr hr0 hr9 hb hb9 h0 hb0 hx hx1 hx2 hx3 hx4 k1 k2 k3 k4 hf1 hf2 hf3 g1 g2 g3 e20
    go_enter Try.func48, Try.ntmps48
    go_wp2_with (go_at_call 42; (with_reducible refine HA.out.mono ?_); rintro e w1 ⟨rfl, rfl⟩)
    go_region
    go_wp2
    obtain ⟨q1, q2, q3, q4⟩ := HBk.out
    obtain ⟨q5, q6, q7⟩ := HE.out
    exact bodyPost_ret (v := .tuple #[.int .i64 0, .agg #[.int .i64 P, .bool V], .int .i64 0]) (by simp [results, Try.results48, go_sem, x0, x1]) rfl ⟨rfl, ((((Kp.of_below q1).trans q2 (fun j e => .inr (by omega))).trans q3 (fun _ e => .inl e)).trans q5 (fun _ e => .inl e)).trans q7 (fun j e => .inr (by omega)), q6.kept q7 (by omega)⟩
  · rw [if_neg hz0]
    have hne : ((r2 : Int) == 0) = false := by simp; omega
    obtain ⟨W3, hW3⟩ : ∃ W3, W1.setCell ⟨f, k * 3 + 2, none⟩ (.int .i64 (r2 : Int)) = W3 := ⟨_, rfl⟩
    have k3 : Kp (fun j => j = f) W3 W3 := Kp.refl _ _
    rw [hW3] at hx2 d2 hf2 HBk
    have hx3 := hx2
    have hf3 := hf2
    have y0 := hx3.cell 0
    have y1 := hx3.cell 1
    generalize (r : Int) = ri at *
    generalize hrr : (r2 : Int) = r2i at *
    clear hlt2 hz0
    have g1 := 0
    have g2 := 0
    have g3 := 0
    obtain ⟨W4, hst4, hx4, k4⟩ := last_st W3 _ _ _ hx3
    have x0 := hx4.cell 0
    have x1 := hx4.cell 1
    have HE := Lib.hid (And.intro k3 (And.intro hf3 k4))
    generalize S.P k = P at *
    generalize S.V k = V at *
    clear h hk hr hr0 hr9 hb hb9 h0 hb0 hx hx1 hx2 hx3 hx4 k1 k2 k3 k4 hf1 hf2 hf3 g1 g2 g3
    go_enter Try.func48, Try.ntmps48
    go_wp2_with (go_at_call 42; (with_reducible refine HA.out.mono ?_); rintro e w1 ⟨rfl, rfl⟩)
    go_region
    go_wp2
    obtain ⟨q1, q2, q3, q4⟩ := HBk.out
    obtain ⟨q5, q6, q7⟩ := HE.out
    exact bodyPost_ret (v := .tuple #[.int .i64 r2i, .agg #[.int .i64 P, .bool V], .int .i64 0]) (by simp [results, Try.results48, go_sem, x0, x1]) rfl ⟨rfl, ((((Kp.of_below q1).trans q2 (fun j e => .inr (by omega))).trans q3 (fun _ e => .inl e)).trans q5 (fun _ e => .inl e)).trans q7 (fun j e => .inr (by omega)), q6.kept q7 (by omega)⟩

/-- Few counts. -/
def Few (S : Sf) : Prop := ∀ k, S.R k < 999999999
theorem Gof.few9 {c : Nat} {S : Sf} (h : Gof c S) (hc : c < 999999999) : Few S := fun k => Nat.lt_of_le_of_lt (h.few k) hc
theorem change_up (w : World) (f : Nat) (S : Sf) (h : Fl w f S) (hf : Few S) (n : Int) :
    Calls Try.prog 48 #[.pointer (some ⟨f, 0, none⟩), .int .i64 n, .int .i64 1] w fun e w' => (∃ a b c, e = .returned (.tuple #[.int .i64 a, .agg #[.int .i64 b, .bool c], .int .i64 (sE S n)])) ∧ Kp (fun j => j = f) w w' ∧ Fl w' f (sS S n) := by
  by_cases hz : rf S.R n = 0
  · unfold sE sS
    rw [if_pos hz, if_pos hz]
    exact (change_no w f S h n 1 hz).mono fun e w' ⟨h1, h2⟩ => ⟨⟨_, _, _, h1⟩, .of_below h2, h.below h2⟩
  · unfold sE sS
    rw [if_neg hz, if_neg hz]
    obtain ⟨k, rfl, hk, hr⟩ := rf_pos hz
    have hfk := hf k
    rw [show Int.toNat (k : Int) = k by omega]
    refine (change_ok w f S h k hk 1 (S.R k) (S.R k + 1) rfl hr (by omega) (by omega) (by omega)).mono fun e w' ⟨h1, h2, h3⟩ => ⟨⟨_, _, _, h1⟩, h2, ?_⟩
    rw [if_neg (by omega)] at h3
    exact h3
/-- A file stored in a new block. -/
theorem new_st (w : World) (P : Int) (V : Bool) : ∃ W2, (stF (.pointer (some ⟨w.heap.size, 0, none⟩)) (.agg #[.int .i64 P, .bool V])).run Try.prog (w.alloc (.cells #[.int .i64 0, .bool false] 26)) = .ok () W2 ∧ Blk W2 w.heap.size #[.int .i64 P, .bool V] 26 ∧ Below w.heap.size w W2 := by
  have hx : Blk (w.alloc (.cells #[.int .i64 0, .bool false] 26)) w.heap.size #[.int .i64 0, .bool false] 26 := Blk.new _ _ _
  refine ⟨_, run_stF _ _ 0 _ _ hx (by decide) P V, blk_two hx P V, ((Below.refl _ _).alloc (Nat.le_refl _) _).trans ((Kp.sets (S := fun j => j = w.heap.size) w.heap.size rfl [.int .i64 P, .bool V] 0 _).below (by simp) (fun j e => by omega))⟩
theorem share_nil (w : World) (n : Int) :
    Calls Try.prog 30 #[.pointer none, .int .i64 n] w fun e w' => e = .returned (.int .i64 1) ∧ Below w.heap.size w w' := by
  have HC := Lib.hid (change_nil w n 1)
  go_enter Try.func30, Try.ntmps30
  go_wp2_with (go_at_call 48; (with_reducible refine HC.out.mono ?_); rintro e w1 ⟨rfl, hb⟩; obtain ⟨W2, hst, -, hb2⟩ := new_st w1 0 false; replace hb := Lib.hid hb; replace hb2 := Lib.hid hb2)
  go_ret
  exact ⟨rfl, hb.out.trans (hb2.out.mono hb.out.size)⟩
theorem share_any (w : World) (f : Nat) (S : Sf) (h : Fl w f S) (hf : Few S) (n : Int) :
    Calls Try.prog 30 #[.pointer (some ⟨f, 0, none⟩), .int .i64 n] w fun e w' => e = .returned (.int .i64 (sE S n)) ∧ Kp (fun j => j = f) w w' ∧ Fl w' f (sS S n) := by
  have HC := Lib.hid (change_up w f S h hf n)
  generalize sE S n = E at *
  generalize sS S n = T at *
  clear h hf
  go_enter Try.func30, Try.ntmps30
  go_wp2_with (go_at_call 48; (with_reducible refine HC.out.mono ?_); rintro e w1 ⟨⟨a, b, c, rfl⟩, h1, h2⟩; obtain ⟨W2, hst, -, hb2⟩ := new_st w1 b c; replace h1 := Lib.hid h1; replace h2 := Lib.hid h2; replace hb2 := Lib.hid hb2)
  go_ret
  exact ⟨rfl, h1.out.trans (Kp.of_below (S := fun j => j = f) hb2.out) (fun _ e => .inl e), h2.out.below hb2.out⟩
theorem change_down (w : World) (f : Nat) (S : Sf) (h : Fl w f S) (hf : Few S) (n : Int) :
    Calls Try.prog 48 #[.pointer (some ⟨f, 0, none⟩), .int .i64 n, .int .i64 (-1)] w fun e w' => e = .returned (.tuple #[.int .i64 (dN S n), .agg #[.int .i64 (dP S n), .bool (dV S n)], .int .i64 (sE S n)]) ∧ Kp (fun j => j = f) w w' ∧ Fl w' f (dS S n) := by
  by_cases hz : rf S.R n = 0
  · unfold dN dP dV sE dS
    rw [if_pos hz, if_pos hz, if_pos hz, if_pos hz, if_pos hz]
    exact (change_no w f S h n (-1) hz).mono fun e w' ⟨h1, h2⟩ => ⟨h1, .of_below h2, h.below h2⟩
  · unfold dN dP dV sE dS
    rw [if_neg hz, if_neg hz, if_neg hz, if_neg hz, if_neg hz]
    obtain ⟨k, rfl, hk, hr⟩ := rf_pos hz
    have hfk := hf k
    rw [rf_nat hk, show Int.toNat (k : Int) = k by omega]
    refine (change_ok w f S h k hk (-1) (S.R k) (S.R k - 1) rfl hr (by omega) (by omega) (by omega)).mono fun e w' ⟨h1, h2, h3⟩ => ⟨?_, h2, ?_⟩
    · rw [h1, show ((S.R k - 1 : Nat) : Int) = (S.R k : Int) - 1 by omega]
    · by_cases h1 : S.R k = 1
      · rw [if_pos h1]
        rw [if_pos (by omega)] at h3
        exact h3
      · rw [if_neg h1]
        rw [if_neg (by omega)] at h3
        exact h3
/-- A file stored in an elder block of its own. -/
theorem own_st (w : World) (x : Nat) (a c : Value) (hx : Blk w x #[a, c] 26) (P : Int) (V : Bool) : ∃ W2, (stF (.pointer (some ⟨x, 0, none⟩)) (.agg #[.int .i64 P, .bool V])).run Try.prog w = .ok () W2 ∧ Blk W2 x #[.int .i64 P, .bool V] 26 ∧ Kp (fun j => j = x) w W2 :=
  ⟨_, run_stF _ _ 0 _ _ hx (Nat.le_refl _) P V, blk_two hx P V, Kp.sets (S := fun j => j = x) x rfl _ 0 _⟩
theorem drop_nil (w : World) (n : Int) :
    Calls Try.prog 26 #[.pointer none, .int .i64 n] w fun e w' => e = .returned (.tuple #[.int .i64 0, .agg #[.int .i64 0, .bool false], .int .i64 1]) ∧ Below w.heap.size w w' := by
  have hb0 : Below w.heap.size w (w.alloc (.cells #[.int .i64 0, .bool false] 26)) := (Below.refl _ _).alloc (Nat.le_refl _) _
  have hx : Blk (w.alloc (.cells #[.int .i64 0, .bool false] 26)) w.heap.size #[.int .i64 0, .bool false] 26 := Blk.new _ _ _
  generalize hW0 : w.alloc (.cells #[.int .i64 0, .bool false] 26) = W0 at *
  have HC := Lib.hid (change_nil W0 n (-1))
  have HF : Hid (∀ W1, Below W0.heap.size W0 W1 → ∃ W2, (stF (.pointer (some ⟨w.heap.size, 0, none⟩)) (.agg #[.int .i64 0, .bool false])).run Try.prog W1 = .ok () W2 ∧ Blk W2 w.heap.size #[.int .i64 0, .bool false] 26 ∧ Below w.heap.size w W2) := Lib.hid (fun W1 hb => by
    obtain ⟨W2, a1, a2, a3⟩ := own_st W1 _ _ _ (hx.below hb) 0 false
    have hb1 := hb0.trans (hb.mono hb0.size)
    exact ⟨W2, a1, a2, hb1.trans (a3.below hb1.size (fun j e => by omega))⟩)
  clear hx hb0
  go_enter Try.func26, Try.ntmps26
  go_wp2_with (go_at_call 48; (with_reducible refine HC.out.mono ?_); rintro e w1 ⟨rfl, hb⟩; obtain ⟨W2, hst, hx2, hb2⟩ := HF.out _ hb; have x0 := hx2.cell 0; have x1 := hx2.cell 1; replace hb2 := Lib.hid hb2; clear hx2 hb)
  exact bodyPost_ret (v := .tuple #[.int .i64 0, .agg #[.int .i64 0, .bool false], .int .i64 1]) (by simp [results, Try.results26, go_sem, x0, x1]) rfl ⟨rfl, hb2.out⟩
theorem drop_any (w : World) (f : Nat) (S : Sf) (h : Fl w f S) (hf : Few S) (n : Int) :
    Calls Try.prog 26 #[.pointer (some ⟨f, 0, none⟩), .int .i64 n] w fun e w' => e = .returned (.tuple #[.int .i64 (dN S n), .agg #[.int .i64 (dP S n), .bool (dV S n)], .int .i64 (sE S n)]) ∧ Kp (fun j => j = f) w w' ∧ Fl w' f (dS S n) := by
  have hlt := h.lt
  have hb0 : Below w.heap.size w (w.alloc (.cells #[.int .i64 0, .bool false] 26)) := (Below.refl _ _).alloc (Nat.le_refl _) _
  have hx : Blk (w.alloc (.cells #[.int .i64 0, .bool false] 26)) w.heap.size #[.int .i64 0, .bool false] 26 := Blk.new _ _ _
  have h0 := h.below hb0
  generalize hW0 : w.alloc (.cells #[.int .i64 0, .bool false] 26) = W0 at *
  have HC := Lib.hid (change_down W0 f S h0 hf n)
  generalize dN S n = N at *
  generalize dP S n = P at *
  generalize dV S n = V at *
  generalize sE S n = E at *
  generalize dS S n = T at *
  have HF : Hid (∀ W1, Kp (fun j => j = f) W0 W1 → Fl W1 f T → ∃ W2, (stF (.pointer (some ⟨w.heap.size, 0, none⟩)) (.agg #[.int .i64 P, .bool V])).run Try.prog W1 = .ok () W2 ∧ Blk W2 w.heap.size #[.int .i64 P, .bool V] 26 ∧ Kp (fun j => j = f) w W2 ∧ Fl W2 f T) := Lib.hid (fun W1 hk hf1 => by
    obtain ⟨W2, a1, a2, a3⟩ := own_st W1 _ _ _ (hx.kept hk (by omega)) P V
    exact ⟨W2, a1, a2, ((Kp.of_below hb0).trans hk (fun _ e => .inl e)).trans a3 (fun j e => .inr (by omega)), hf1.kept a3 (by omega)⟩)
  clear hx hb0 h h0 hf hlt
  go_enter Try.func26, Try.ntmps26
  go_wp2_with (go_at_call 48; (with_reducible refine HC.out.mono ?_); rintro e w1 ⟨rfl, hk, hf1⟩; obtain ⟨W2, hst, hx2, hk2, hf2⟩ := HF.out _ hk hf1; have x0 := hx2.cell 0; have x1 := hx2.cell 1; replace hk2 := Lib.hid hk2; replace hf2 := Lib.hid hf2; clear hx2 hk hf1)
  exact bodyPost_ret (v := .tuple #[.int .i64 N, .agg #[.int .i64 P, .bool V], .int .i64 E]) (by simp [results, Try.results26, go_sem, x0, x1]) rfl ⟨rfl, hk2.out, hf2.out⟩
theorem may_dec (P : Int) : (decide (0 ≤ P) && decide (P < 16)) = decide (mayP P) := by
  by_cases h : mayP P
  · rw [decide_eq_true h, decide_eq_true h.1, decide_eq_true h.2]; rfl
  · rw [decide_eq_false h, ← Bool.decide_and]; exact decide_eq_false h
theorem open_nil (w : World) (P : Int) (V : Bool) :
    Calls Try.prog 27 #[.pointer none, .agg #[.int .i64 P, .bool V]] w fun e w' => e = .returned (.tuple #[.int .i64 0, .int .i64 1]) ∧ Below w.heap.size w w' := by
  have hb0 : Below w.heap.size w (w.alloc (.cells #[.int .i64 P, .bool V] 26)) := (Below.refl _ _).alloc (Nat.le_refl _) _
  have HL := Lib.hid (least_any none _ (w.alloc (.cells #[.int .i64 P, .bool V] 26)) (ats_nil _ _))
  have HB := Lib.hid hb0
  clear hb0
  go_enter Try.func27, Try.ntmps27
  go_wp2_with (go_at_call 49; (with_reducible refine HL.out.mono ?_); rintro e w1 ⟨rfl, hb⟩; replace hb := Lib.hid hb)
  go_ret2
  exact ⟨rfl, HB.out.trans (hb.out.mono HB.out.size)⟩
theorem open_any (w : World) (f : Nat) (S : Sf) (h : Fl w f S) (P : Int) (V : Bool) :
    Calls Try.prog 27 #[.pointer (some ⟨f, 0, none⟩), .agg #[.int .i64 P, .bool V]] w fun e w' => e = .returned (.tuple #[.int .i64 (oN S P), .int .i64 (oE S P)]) ∧ Kp (fun j => j = f) w w' ∧ Fl w' f (oS S P V) := by
  have hb0 : Below w.heap.size w (w.alloc (.cells #[.int .i64 P, .bool V] 26)) := (Below.refl _ _).alloc (Nat.le_refl _) _
  have hx : Blk (w.alloc (.cells #[.int .i64 P, .bool V] 26)) w.heap.size #[.int .i64 P, .bool V] 26 := Blk.new _ _ _
  have h0 := h.below hb0
  have hlt := h.lt
  generalize hW0 : w.alloc (.cells #[.int .i64 P, .bool V] 26) = W0 at *
  have HL := Lib.hid (least_any (some ⟨f, 0, none⟩) _ W0 (ats_fl h0 h0.lt))
  have hle := lst_le S.R 64
  have HF : Hid (∀ W1, Below W0.heap.size W0 W1 → Blk W1 w.heap.size #[.int .i64 P, .bool V] 26 ∧ Fl W1 f S ∧ Below w.heap.size w W1) := Lib.hid (fun W1 hb => ⟨hx.below hb, h0.below hb, hb0.trans (hb.mono hb0.size)⟩)
  have HB : Hid (∀ W1, Calls Try.prog 45 #[.int .i64 P, .int .i64 16] W1 fun e w' => e = .returned (.bool (decide (mayP P))) ∧ W1 = w') := Lib.hid (fun W1 => by
    have := below_any W1 P 16
    rw [may_dec] at this
    exact this)
  by_cases hm : mayP P
  · rw [decide_eq_true hm] at HB
    by_cases hl : lst S.R 64 = 64
    · have e1 : oN S P = 0 := by unfold oN; rw [if_neg (fun e => e.2 hl)]
      have e2 : oE S P = 100 := by unfold oE; rw [if_pos hm, if_pos hl]
      have e3 : oS S P V = S := by unfold oS; rw [if_neg (fun e => e.2 hl)]
      rw [e1, e2, e3]
      rw [hl] at HL
      clear h h0 hb0 hx hm hl e1 e2 e3 hle hlt
      go_enter Try.func27, Try.ntmps27
      go_wp2_with (first | (go_at_call 49; (with_reducible refine HL.out.mono ?_); rintro e w1 ⟨rfl, hb⟩; obtain ⟨hx1, hf1, hb1⟩ := HF.out _ hb; have x0 := hx1.cell 0; have x1 := hx1.cell 1; replace hf1 := Lib.hid hf1; replace hb1 := Lib.hid hb1; clear hb hx1) | (go_at_call 45; (with_reducible refine (HB.out _).mono ?_); rintro e w2 ⟨rfl, rfl⟩))
      go_ret2
      exact ⟨rfl, .of_below hb1.out, hf1.out⟩
    · have e1 : oN S P = (lst S.R 64 : Int) := by unfold oN; rw [if_pos ⟨hm, hl⟩]
      have e2 : oE S P = 0 := by unfold oE; rw [if_pos hm, if_neg hl]
      have e3 : oS S P V = S.put (lst S.R 64) P V 1 := by unfold oS; rw [if_pos ⟨hm, hl⟩]
      rw [e1, e2, e3]
      obtain ⟨m, hmm⟩ : ∃ m, lst S.R 64 = m := ⟨_, rfl⟩
      rw [hmm] at HL hl hle ⊢
      have hm64 : m < 64 := by omega
      have hmi : (m : Int) < 64 := by omega
      have hne : ((m : Int) == 64) = false := by simp; omega
      have HF2 : Hid (∀ W1, Below W0.heap.size W0 W1 → ∃ W2, (stH (.pointer (some ⟨f, m * 3, none⟩)) (.agg #[.int .i64 P, .bool V, .int .i64 1])).run Try.prog W1.drew = .ok () W2 ∧ Fl W2 f (S.put m P V 1) ∧ Kp (fun j => j = f) w W2) := Lib.hid (fun W1 hb => by
        obtain ⟨y1, y2, y3⟩ := HF.out W1 hb
        have y4 := y2.below ((Below.refl _ _).drew)
        obtain ⟨cs, g1, g2, g3⟩ := id y4
        exact ⟨_, run_stH _ _ (m * 3) _ _ g1 (by omega) P V 1, Fl.put y4 m hm64 P V 1, ((Kp.of_below y3).drew).trans (Kp.sets (S := fun j => j = f) f rfl _ _ _) (fun _ e => .inl e)⟩)
      clear h h0 hb0 hx hm hl e1 e2 e3 hle hlt hmm
      go_enter Try.func27, Try.ntmps27
      go_wp2_with (first | (go_at_call 49; (with_reducible refine HL.out.mono ?_); rintro e w1 ⟨rfl, hb⟩; obtain ⟨hx1, hf1, hb1⟩ := HF.out _ hb; have x0 := hx1.cell 0; have x1 := hx1.cell 1; obtain ⟨W2, hst, hf2, hk2⟩ := HF2.out _ hb; replace hf2 := Lib.hid hf2; replace hk2 := Lib.hid hk2; clear hb hx1 hf1 hb1) | (go_at_call 45; (with_reducible refine (HB.out _).mono ?_); rintro e w2 ⟨rfl, rfl⟩))
      go_region
      go_wp2
      go_ret2
      exact ⟨rfl, hk2.out, hf2.out⟩
  · rw [decide_eq_false hm] at HB
    have e1 : oN S P = 0 := by unfold oN; rw [if_neg (fun e => hm e.1)]
    have e2 : oE S P = 2 := by unfold oE; rw [if_neg hm]
    have e3 : oS S P V = S := by unfold oS; rw [if_neg (fun e => hm e.1)]
    rw [e1, e2, e3]
    generalize lst S.R 64 = m at *
    clear h h0 hb0 hx hm e1 e2 e3 hle hlt
    go_enter Try.func27, Try.ntmps27
    go_wp2_with (first | (go_at_call 49; (with_reducible refine HL.out.mono ?_); rintro e w1 ⟨rfl, hb⟩; obtain ⟨hx1, hf1, hb1⟩ := HF.out _ hb; have x0 := hx1.cell 0; have x1 := hx1.cell 1; replace hf1 := Lib.hid hf1; replace hb1 := Lib.hid hb1; clear hb hx1) | (go_at_call 45; (with_reducible refine (HB.out _).mono ?_); rintro e w2 ⟨rfl, rfl⟩))
    go_ret2
    exact ⟨rfl, .of_below hb1.out, hf1.out⟩
end Go.Proofs.Ytmdldehdlggpkaa.Jo
