/-
  The document's own ring: a capacity and a row of bytes; Of, Peek.
-/
import Derived.Test.YtfpdbcjnhgddoaaPsl
import Derived.Deep.AppendSrc
import Derived.Deep.Upon
namespace Go.Proofs.Ytfpdbcjnhgddoaa.Rfa
open Go Go.RowKit Go.Shelf Kit Bk Rgm Rgt Rgp Rgn Rst Psl
set_option linter.unusedVariables false
attribute [local go_sem ↓] sl_wrap app_wrap

/-- A row of the call's own, and more bytes behind it. -/
theorem app_slc (w : World) (base : Nat) (v : Value) (xs : List Nat) (s : Value) (ys : List Nat) (hown : w.ownsRow base 5 1 v xs.length (u8s xs)) (hs : Slc .u8 w s ys) (hb : base ≤ w.heap.size) (hl : xs.length + ys.length ≤ 1000000) :
    ∃ v' w', (appO #[22, 22] 22 #[v, s]).run Try.prog w = .ok v' w' ∧ w'.ownsRow base 5 1 v' (xs ++ ys).length (u8s (xs ++ ys)) ∧ w.grownBy w' v.ownBlock := by
  obtain ⟨i0, hi, hz0, hz1, hz2⟩ := info_parts infoB
  obtain ⟨a, cap, rfl, h1, h2, h3⟩ := hs
  by_cases h0 : ys = []
  · subst h0
    refine ⟨v, w, ?_, by rw [List.append_nil]; exact hown, ⟨rfl, rfl, rfl, Nat.le_refl _, fun _ _ _ => rfl⟩⟩
    have hsrc : Go.Src Try.prog i0.size 22 (.slice a ([] : List Nat).length cap) 0 [] w := by
      cases a with
      | none => exact Src.ofNil _ Try.underlying22 cap
      | some p => exact Src.ofSlice _ Try.underlying22 p 0 cap [] (by simp) (by simp) (by simp)
    rcases hown.2 with ⟨rfl, _⟩ | ⟨g, cap', cur, rfl, _, _, hc, _⟩
    · exact run_append_nothing _ 22 22 22 5 i0 Try.underlying22 hi none 0 0 (Nat.le_refl _) _ hsrc
    · exact run_append_nothing _ 22 22 22 5 i0 Try.underlying22 hi _ _ _ hc _ hsrc
  · rcases h3 with h | ⟨g, o, rfl, hlt, hc⟩
    · exact absurd h h0
    · obtain ⟨v', w1, hrun, hown', hgr, -⟩ := run_append_own (P := Try.prog) (w := w) base 22 22 5 i0 (.int .u8 0) 1 1 Try.underlying22 hi hz0 hz1 hz2 rfl (by decide) v xs.length (u8s xs) hown ⟨g, o, none⟩ ys.length cap (u8s ys) (by rw [u8s_len, Nat.mul_one])
        (fun j u hj => by
          have hjm : j < ys.length := by rw [← u8s_len ys]; exact (List.getElem?_eq_some_iff.1 hj).1
          rw [u8s_at ys j hjm] at hj
          cases hj
          rw [Addr.add_mid]
          exact hc j hjm) (u8s_one ys) (by unfold maxLen; omega) (by omega) hb
      refine ⟨v', w1, hrun, ?_, hgr⟩
      rw [List.length_append]
      have : u8s (xs ++ ys) = u8s xs ++ u8s ys := by simp [u8s]
      rw [this]
      exact hown'
theorem row_base {w : World} {base : Nat} {e : TypeId} {size : Nat} {v : Value} {n : Nat} {xs : List Value} (h : w.ownsRow base e size v n xs) : ∀ k, v.ownBlock = some k → base ≤ k := fun k hk => by
  rcases h.2 with ⟨rfl, _⟩ | ⟨g, cap, cur, rfl, hg, _⟩
  · simp [Value.ownBlock] at hk
  · simp [Value.ownBlock] at hk; subst hk; exact hg
theorem nil_row (w : World) (base : Nat) : w.ownsRow base 5 1 (.slice none 0 0) ([] : List Nat).length (u8s []) := World.ownsRow_nil w base _ _
/-- A new row with these bytes. -/
theorem app_new (w : World) (s : Value) (ys : List Nat) (hs : Slc .u8 w s ys) (hl : ys.length ≤ 1000000) :
    ∃ v' w', (appO #[22, 22] 22 #[.slice none 0 0, s]).run Try.prog w = .ok v' w' ∧ w'.ownsRow w.heap.size 5 1 v' ys.length (u8s ys) ∧ Below w.heap.size w w' := by
  obtain ⟨v', w', h1, h2, h3⟩ := app_slc w w.heap.size _ [] s ys (nil_row w _) hs (Nat.le_refl _) (by simpa using hl)
  exact ⟨v', w', h1, h2, (Below.refl _ _).grown h3 (Nat.le_refl _) (fun k e => by simp [Value.ownBlock] at e)⟩

/-- The document's ring: its bytes in a row of its own. -/
def RB (w : World) (base q C : Nat) (xs : List Nat) : Prop := ∃ v, Blk w q #[.int .i64 (C : Int), v] 53 ∧ w.ownsRow base 5 1 v xs.length (u8s xs)
theorem RB.lt {w : World} {base q C : Nat} {xs : List Nat} (h : RB w base q C xs) : q < w.heap.size := by
  obtain ⟨v, h1, _⟩ := h
  exact h1.lt
theorem RB.below {w w' : World} {base q C : Nat} {xs : List Nat} (h : RB w base q C xs) (hb : Below w.heap.size w w') : RB w' base q C xs := by
  obtain ⟨v, h1, h2⟩ := h
  exact ⟨v, h1.below hb, own_below h2 hb⟩
theorem RB.base {w : World} {base b q C : Nat} {xs : List Nat} (h : RB w base q C xs) (hb : b ≤ base) : RB w b q C xs := by
  obtain ⟨v, h1, h2⟩ := h
  exact ⟨v, h1, own_base h2 hb⟩
/-- What is done to blocks of another kind, or ahead of its own. -/
theorem RB.kept {S : Nat → Prop} {w w' : World} {base q C : Nat} {xs : List Nat} (h : RB w base q C xs) (hk : Kp S w w') (hq : ¬ S q) (hS : ∀ j cs, S j → Blk w j cs 5 → j < base) : RB w' base q C xs := by
  obtain ⟨v, h1, h2⟩ := h
  refine ⟨v, h1.kept hk hq, h2.1, ?_⟩
  rcases h2.2 with h3 | ⟨g, cap, cur, hv, hg, hh, h3⟩
  · exact .inl h3
  · exact .inr ⟨g, cap, cur, hv, hg, (hk.block g (Array.getElem?_eq_some_iff.1 hh).1 (fun e => by have := hS g cur e hh; omega)).trans hh, h3⟩
theorem RB.beside {w w' : World} {base q C p D : Nat} {xs ys : List Nat} (h : RB w base q C xs) (hr : Rg w p D ys) (hk : Kp (fun j => j = p) w w') : RB w' base q C xs := by
  obtain ⟨cs, f, h1, _⟩ := hr
  obtain ⟨v, g1, _⟩ := id h
  exact h.kept hk (fun e => Blk.ne g1 h1 (by decide) e) (fun j cs' e hj => absurd e (fun e => Blk.ne hj h1 (by decide) e))
theorem rg_beside {w w' : World} {base q C p D : Nat} {xs ys : List Nat} (hr : Rg w p D ys) (h : RB w base q C xs) (hk : Kp (fun j => j = q) w w') : Rg w' p D ys := by
  obtain ⟨cs, f, h1, h2⟩ := hr
  obtain ⟨v, g1, _⟩ := h
  exact ⟨cs, f, h1.kept hk (fun e => Blk.ne h1 g1 (by decide) e), h2⟩
theorem set_two {w : World} {b : Nat} {T : TypeId} {a0 a1 : Value} (h : Blk w b #[a0, a1] T) (v : Value) : Blk (w.setCell ⟨b, 1, none⟩ v) b #[a0, v] T := by
  have := h.set 1 v
  simpa using this

theorem rof_bad (w : World) (c : Int) (a : Option Addr) (L cap : Nat) (h : ¬ (1 ≤ c ∧ c ≤ 64 ∧ (L : Int) ≤ c)) :
    Calls Try.prog 33 #[.int .i64 c, .slice a L cap] w fun e w' => e = .returned (.tuple #[.pointer none, .int .i64 80]) ∧ w = w' := by
  by_cases h0 : c < 1
  · have d0 : decide (c < 1) = true := decide_eq_true h0
    clear h h0
    go_enter Try.func33, Try.ntmps33
    go_wp2
    go_ret2
    exact ⟨rfl, rfl⟩
  · have d0 : decide (c < 1) = false := decide_eq_false h0
    by_cases h1 : 64 < c
    · have d1 : decide (64 < c) = true := decide_eq_true h1
      clear h h0 h1
      go_enter Try.func33, Try.ntmps33
      go_wp2
      go_ret2
      exact ⟨rfl, rfl⟩
    · have d1 : decide (64 < c) = false := decide_eq_false h1
      have d2 : decide (c < (L : Int)) = true := decide_eq_true (by omega)
      clear h h0 h1
      go_enter Try.func33, Try.ntmps33
      go_wp2
      go_ret2
      exact ⟨rfl, rfl⟩
set_option maxHeartbeats 1000000 in
theorem rof_ok (w : World) (C : Nat) (v : Value) (ys : List Nat) (hs : Slc .u8 w v ys) (hC : 1 ≤ C ∧ C ≤ 64) (hy : ys.length ≤ C) :
    Calls Try.prog 33 #[.int .i64 (C : Int), v] w fun e w' => e = .returned (.tuple #[.pointer (some ⟨w.heap.size, 0, none⟩), .int .i64 0]) ∧ Below w.heap.size w w' ∧ RB w' w.heap.size w.heap.size C ys := by
  obtain ⟨w0, hw0⟩ : ∃ w0, w.alloc (.cells #[.int .i64 (C : Int), .slice none 0 0] 53) = w0 := ⟨_, rfl⟩
  have hb : Below w.heap.size w w0 := by rw [← hw0]; exact (Below.refl _ _).alloc (Nat.le_refl _) _
  have hx : Blk w0 w.heap.size #[.int .i64 (C : Int), .slice none 0 0] 53 := by rw [← hw0]; exact Blk.new _ _ _
  obtain ⟨r, w1, hrun, hown, hb1⟩ := app_new w0 v ys (hs.below hb) (by omega)
  have hx1 := hx.below hb1
  have x1 := hx.cell 1
  have f1 := hx1.free 1
  have y1 := hx1.cell 1
  have hx2 := set_two hx1 r
  have hlt := hx.lt
  have hk : Kp (fun j => j = w.heap.size) w1 (w1.setCell ⟨w.heap.size, 1, none⟩ r) := Kp.set w1 w.heap.size 1 r rfl
  have hB2 := hb.trans (hb1.mono hb.size)
  have hE : Hid (Below w.heap.size w (w1.setCell ⟨w.heap.size, 1, none⟩ r) ∧ RB (w1.setCell ⟨w.heap.size, 1, none⟩ r) w.heap.size w.heap.size C ys) := Lib.hid ⟨hB2.trans (hk.below hB2.size (fun j e => by omega)), r, hx2, own_base (own_kp hown hk (fun j e => by omega)) hb.size⟩
  obtain ⟨ad, cap2, rfl⟩ := row_form hown
  obtain ⟨a, cap, rfl, -⟩ := hs
  have d0 : decide ((C : Int) < 1) = false := decide_eq_false (by omega)
  have d1 : decide (64 < (C : Int)) = false := decide_eq_false (by omega)
  have d2 : decide ((C : Int) < (ys.length : Int)) = false := decide_eq_false (by omega)
  have d3 : decide (C < ys.length) = false := decide_eq_false (by omega)
  clear hown hx hx1 hx2 hb hb1 hk hB2 hlt hC hy
  go_enter Try.func33, Try.ntmps33
  go_wp2
  go_ret2
  exact ⟨rfl, hE.out.1, hE.out.2⟩
end Go.Proofs.Ytfpdbcjnhgddoaa.Rfa
