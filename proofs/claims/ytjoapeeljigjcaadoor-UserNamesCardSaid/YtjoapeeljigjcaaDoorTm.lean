/-
  A table of pages, as it lies: its entries; slot, Check, Get.
-/
import Derived.Test.YtjoapeeljigjcaaDoorBk
import Derived.BigQuiet
namespace Go.Proofs.YtjoapeeljigjcaaDoor.Tm
open Go Go.RowKit Kit Bk
set_option linter.unusedVariables false

structure En where
  f : Int
  w : Bool
  s : Bool
  c : Bool
  d : Bool
def z0 : En := ⟨0, false, false, false, false⟩
/-- An entry as a value. -/
abbrev ev (e : En) : Value := .agg #[.int .i64 e.f, .bool e.w, .bool e.s, .bool e.c, .bool e.d]
/-- May it be? -/
def may (e : En) : Bool := decide (0 ≤ e.f) && decide (e.f < 256) && !(e.s && e.c)
/-- Where a slot lies. -/
def Slot (cs : Array Value) (o : Nat) (x : Option En) : Prop :=
  cs[o]? = some (.bool x.isSome) ∧ cs[o + 1]? = some (.int .i64 (x.getD z0).f) ∧ cs[o + 1 + 1]? = some (.bool (x.getD z0).w) ∧ cs[o + 1 + 2]? = some (.bool (x.getD z0).s) ∧ cs[o + 1 + 3]? = some (.bool (x.getD z0).c) ∧ cs[o + 1 + 4]? = some (.bool (x.getD z0).d)
structure Mem (w : World) (p : Nat) (T : Nat → Option En) : Prop where
  blk : ∃ cs, Blk w p cs 78 ∧ cs.size = 384 ∧ ∀ k, k < 64 → Slot cs (k * 6) (T k)
  top : ∀ k, 64 ≤ k → T k = none
theorem Mem.kept {S : Nat → Prop} {w w' : World} {p : Nat} {T : Nat → Option En} (h : Mem w p T) (hk : Kp S w w') (hp : ¬ S p) : Mem w' p T := by
  obtain ⟨⟨cs, h1, h2⟩, h3⟩ := h
  exact ⟨⟨cs, h1.kept hk hp, h2⟩, h3⟩
theorem Mem.below {w w' : World} {p : Nat} {T : Nat → Option En} (h : Mem w p T) (hb : Below w.heap.size w w') : Mem w' p T := h.kept (S := fun _ => False) (.of_below hb) (fun e => e)
theorem Mem.drew {w : World} {p : Nat} {T : Nat → Option En} (h : Mem w p T) : Mem w.drew p T := h.below ((Below.refl _ _).drew)
theorem Mem.low {w w' : World} {p n₀ : Nat} {T : Nat → Option En} (h : Mem w p T) (hb : Below n₀ w w') (hp : p < n₀) : Mem w' p T := by
  obtain ⟨⟨cs, h1, h2⟩, h3⟩ := h
  exact ⟨⟨cs, (hb.block p hp).trans h1, h2⟩, h3⟩
theorem Mem.lt {w : World} {p : Nat} {T : Nat → Option En} (h : Mem w p T) : p < w.heap.size := by
  obtain ⟨⟨cs, h1, h2⟩, h3⟩ := h
  exact h1.lt
/-- A page's entry, of whatever number. -/
def atI (T : Nat → Option En) (i : Int) : Option En := if 0 ≤ i ∧ i < 64 then T i.toNat else none
theorem atI_nat {T : Nat → Option En} {k : Nat} (hk : k < 64) : atI T (k : Int) = T k := by unfold atI; rw [if_pos ⟨by omega, by omega⟩]; rfl
theorem atI_out {T : Nat → Option En} {i : Int} (h : ¬ (0 ≤ i ∧ i < 64)) : atI T i = none := by unfold atI; rw [if_neg h]

theorem slot_nil (w : World) (i : Int) :
    Calls Tryd.prog 60 #[.pointer none, .int .i64 i] w fun e w' => e = .returned (.pointer none) ∧ w = w' := by
  go_enter Tryd.func60, Tryd.ntmps60
  go_wp2
  go_ret
  exact ⟨rfl, rfl⟩
theorem slot_out (w : World) (p : Nat) (i : Int) (h : ¬ (0 ≤ i ∧ i < 64)) :
    Calls Tryd.prog 60 #[.pointer (some ⟨p, 0, none⟩), .int .i64 i] w fun e w' => e = .returned (.pointer none) ∧ w = w' := by
  by_cases h0 : i < 0
  · have d : decide (i < 0) = true := decide_eq_true h0
    clear h h0
    go_enter Tryd.func60, Tryd.ntmps60
    go_wp2
    go_ret
    exact ⟨rfl, rfl⟩
  · have d : decide (i < 0) = false := decide_eq_false h0
    have d2 : decide (64 ≤ i) = true := decide_eq_true (by omega)
    clear h h0
    go_enter Tryd.func60, Tryd.ntmps60
    go_wp2
    go_ret
    exact ⟨rfl, rfl⟩
theorem slot_in (w : World) (p k : Nat) (h : k < 64) :
    Calls Tryd.prog 60 #[.pointer (some ⟨p, 0, none⟩), .int .i64 (k : Int)] w fun e w' => e = .returned (.pointer (some ⟨p, k * 6, none⟩)) ∧ w = w' := by
  have d : decide ((k : Int) < 0) = false := decide_eq_false (by omega)
  have d2 : decide (64 ≤ (k : Int)) = false := decide_eq_false (by omega)
  have q1 : (k : Int).tdiv 8 = ((k / 8 : Nat) : Int) := rfl
  have q2 : (k : Int).tmod 8 = ((k % 8 : Nat) : Int) := rfl
  go_enter Tryd.func60, Tryd.ntmps60
  go_wp2
  go_ret
  refine ⟨?_, rfl⟩
  show Ending.returned (.pointer (some ⟨p, k / 8 * 48 + k % 8 * 6, none⟩)) = _
  rw [show k / 8 * 48 + k % 8 * 6 = k * 6 by omega]

theorem get_nil (w : World) (i : Int) :
    Calls Tryd.prog 43 #[.pointer none, .int .i64 i] w fun e w' => e = .returned (.tuple #[.agg #[.int .i64 0, .bool false, .bool false, .bool false, .bool false], .bool false]) ∧ Below w.heap.size w w' := by
  have HB := Lib.hid (Below.refl w.heap.size w)
  go_enter Tryd.func43, Tryd.ntmps43
  go_wp2_with (first | (go_at_call 60; (with_reducible refine (slot_nil _ _).mono ?_); rintro e w1 ⟨rfl, rfl⟩))
  exact bodyPost_ret (v := .tuple #[.agg #[.int .i64 0, .bool false, .bool false, .bool false, .bool false], .bool false]) (by simp [results, Tryd.results43, go_sem]) rfl ⟨rfl, (by repeat' (first | exact Below.refl _ _ | exact Nat.le_refl _ | refine Below.drew ?_ | refine Below.alloc ?_ (by simp) _ | refine Below.setCell ?_ (by simp) _))⟩
theorem get_out (w : World) (p : Nat) (i : Int) (h : ¬ (0 ≤ i ∧ i < 64)) :
    Calls Tryd.prog 43 #[.pointer (some ⟨p, 0, none⟩), .int .i64 i] w fun e w' => e = .returned (.tuple #[.agg #[.int .i64 0, .bool false, .bool false, .bool false, .bool false], .bool false]) ∧ Below w.heap.size w w' := by
  have HS := Lib.hid (fun w => slot_out w p i h)
  clear h
  go_enter Tryd.func43, Tryd.ntmps43
  go_wp2_with (first | (go_at_call 60; (with_reducible refine (HS.out _).mono ?_); rintro e w1 ⟨rfl, rfl⟩))
  exact bodyPost_ret (v := .tuple #[.agg #[.int .i64 0, .bool false, .bool false, .bool false, .bool false], .bool false]) (by simp [results, Tryd.results43, go_sem]) rfl ⟨rfl, (by repeat' (first | exact Below.refl _ _ | exact Nat.le_refl _ | refine Below.drew ?_ | refine Below.alloc ?_ (by simp) _ | refine Below.setCell ?_ (by simp) _))⟩
theorem get_in (w : World) (p : Nat) (T : Nat → Option En) (hM : Mem w p T) (k : Nat) (h : k < 64) :
    Calls Tryd.prog 43 #[.pointer (some ⟨p, 0, none⟩), .int .i64 (k : Int)] w fun e w' => e = .returned (.tuple #[ev ((T k).getD z0), .bool (T k).isSome]) ∧ Below w.heap.size w w' := by
  have HS := Lib.hid (fun w => slot_in w p k h)
  obtain ⟨⟨cs, h1, h2, h3⟩, _⟩ := hM
  obtain ⟨d0, d1, d2, d3, d4, d5⟩ := h3 k h
  have e0 := (h1.cell (k * 6)).trans d0
  have e1 := (h1.cell (k * 6 + 1)).trans d1
  have e2 := (h1.cell (k * 6 + 1 + 1)).trans d2
  have e3 := (h1.cell (k * 6 + 1 + 2)).trans d3
  have e4 := (h1.cell (k * 6 + 1 + 3)).trans d4
  have e5 := (h1.cell (k * 6 + 1 + 4)).trans d5
  obtain ⟨b, hb⟩ : ∃ b, (T k).isSome = b := ⟨_, rfl⟩
  obtain ⟨⟨f, wr, s, c, d⟩, he⟩ : ∃ e, (T k).getD z0 = e := ⟨_, rfl⟩
  rw [hb] at e0 ⊢
  rw [he] at e1 e2 e3 e4 e5 ⊢
  dsimp only at e1 e2 e3 e4 e5 ⊢
  have c0 : ∀ o, (w.alloc o).cell? _ = _ := fun o => (World.cell?_alloc_lt w o _ h1.lt).trans e0
  have c1 : ∀ o, (w.alloc o).cell? _ = _ := fun o => (World.cell?_alloc_lt w o _ h1.lt).trans e1
  have c2 : ∀ o, (w.alloc o).cell? _ = _ := fun o => (World.cell?_alloc_lt w o _ h1.lt).trans e2
  have c3 : ∀ o, (w.alloc o).cell? _ = _ := fun o => (World.cell?_alloc_lt w o _ h1.lt).trans e3
  have c4 : ∀ o, (w.alloc o).cell? _ = _ := fun o => (World.cell?_alloc_lt w o _ h1.lt).trans e4
  have c5 : ∀ o, (w.alloc o).cell? _ = _ := fun o => (World.cell?_alloc_lt w o _ h1.lt).trans e5
  clear h1 h2 h3 d0 d1 d2 d3 d4 d5 hb he h e0 e1 e2 e3 e4 e5
  go_enter Tryd.func43, Tryd.ntmps43
  go_wp2_with (first | (go_at_call 60; (with_reducible refine (HS.out _).mono ?_); rintro e w1 ⟨rfl, rfl⟩))
  go_region
  go_wp2
  exact bodyPost_ret (v := .tuple #[.agg #[.int .i64 f, .bool wr, .bool s, .bool c, .bool d], .bool b]) (by simp [results, Tryd.results43, go_sem]) rfl ⟨rfl, (by repeat' (first | exact Below.refl _ _ | exact Nat.le_refl _ | refine Below.drew ?_ | refine Below.alloc ?_ (by simp) _ | refine Below.setCell ?_ (by simp) _))⟩
theorem get_any (w : World) (p : Nat) (T : Nat → Option En) (hM : Mem w p T) (i : Int) :
    Calls Tryd.prog 43 #[.pointer (some ⟨p, 0, none⟩), .int .i64 i] w fun e w' => e = .returned (.tuple #[ev ((atI T i).getD z0), .bool (atI T i).isSome]) ∧ Below w.heap.size w w' := by
  by_cases h : 0 ≤ i ∧ i < 64
  · obtain ⟨k, rfl⟩ := Int.eq_ofNat_of_zero_le h.1
    rw [atI_nat (by omega)]
    exact get_in w p T hM k (by omega)
  · rw [atI_out h]
    exact get_out w p i h

theorem check_ok (w : World) (x : En) (h : may x = true) :
    Calls Tryd.prog 61 #[ev x] w fun e w' => e = .returned (.int .i64 0) ∧ Below w.heap.size w w' := by
  obtain ⟨f, wr, s, c, d⟩ := x
  simp only [may, Bool.and_eq_true, decide_eq_true_eq] at h
  have d1 : decide (f < 0) = false := decide_eq_false (by omega)
  have d2 : decide (256 ≤ f) = false := decide_eq_false (by omega)
  have h3 := h.2
  clear h
  cases s with
  | false =>
    clear h3
    go_enter Tryd.func61, Tryd.ntmps61
    go_wp2
    go_ret
    exact ⟨rfl, (by repeat' (first | exact Below.refl _ _ | exact Nat.le_refl _ | refine Below.drew ?_ | refine Below.alloc ?_ (by simp) _ | refine Below.setCell ?_ (by simp) _))⟩
  | true =>
    cases c with
    | true => simp at h3
    | false =>
      clear h3
      go_enter Tryd.func61, Tryd.ntmps61
      go_wp2
      go_ret
      exact ⟨rfl, (by repeat' (first | exact Below.refl _ _ | exact Nat.le_refl _ | refine Below.drew ?_ | refine Below.alloc ?_ (by simp) _ | refine Below.setCell ?_ (by simp) _))⟩
theorem check_no (w : World) (x : En) (h : may x = false) :
    Calls Tryd.prog 61 #[ev x] w fun e w' => e = .returned (.int .i64 50) ∧ Below w.heap.size w w' := by
  obtain ⟨f, wr, s, c, d⟩ := x
  by_cases h1 : f < 0
  · have d1 : decide (f < 0) = true := decide_eq_true h1
    clear h h1
    go_enter Tryd.func61, Tryd.ntmps61
    go_wp2
    go_ret
    exact ⟨rfl, (by repeat' (first | exact Below.refl _ _ | exact Nat.le_refl _ | refine Below.drew ?_ | refine Below.alloc ?_ (by simp) _ | refine Below.setCell ?_ (by simp) _))⟩
  · have d1 : decide (f < 0) = false := decide_eq_false h1
    by_cases h2 : 256 ≤ f
    · have d2 : decide (256 ≤ f) = true := decide_eq_true h2
      clear h h1 h2
      go_enter Tryd.func61, Tryd.ntmps61
      go_wp2
      go_ret
      exact ⟨rfl, (by repeat' (first | exact Below.refl _ _ | exact Nat.le_refl _ | refine Below.drew ?_ | refine Below.alloc ?_ (by simp) _ | refine Below.setCell ?_ (by simp) _))⟩
    · have d2 : decide (256 ≤ f) = false := decide_eq_false h2
      have e1 : decide (0 ≤ f) = true := decide_eq_true (by omega)
      have e2 : decide (f < 256) = true := decide_eq_true (by omega)
      simp only [may, e1, e2, Bool.true_and] at h
      obtain ⟨rfl, rfl⟩ : s = true ∧ c = true := by
        cases s <;> cases c <;> simp_all
      clear h h1 h2 e1 e2
      go_enter Tryd.func61, Tryd.ntmps61
      go_wp2
      go_ret
      exact ⟨rfl, (by repeat' (first | exact Below.refl _ _ | exact Nat.le_refl _ | refine Below.drew ?_ | refine Below.alloc ?_ (by simp) _ | refine Below.setCell ?_ (by simp) _))⟩
end Go.Proofs.YtjoapeeljigjcaaDoor.Tm
