/-
  A pipe as it lies: a ring, its readers, its writers; held, made, count, may, sideOf, other, Readers, Writers, All, Cap, Gone.
-/
import Derived.Test.YtfpdbcjnhgddoaaRst
import Derived.DeepKeys
namespace Go.Proofs.Ytfpdbcjnhgddoaa.Pm
open Go Go.RowKit Go.Shelf Kit Bk Rgm Rgt Rgw Rgp Rgn Rst
set_option linter.unusedVariables false

/-- A pipe at block p, its ring at block r. -/
structure Pp (w : World) (p r C : Nat) (xs : List Nat) (R U : Nat) : Prop where
  blk : Blk w p #[.pointer (some ⟨r, 0, none⟩), .int .i64 (R : Int), .int .i64 (U : Int)] 65
  ring : Rg w r C xs
  hC : 1 ≤ C
  hR : R ≤ 64
  hU : U ≤ 64
theorem Pp.ltp {w : World} {p r C : Nat} {xs : List Nat} {R U : Nat} (h : Pp w p r C xs R U) : p < w.heap.size := h.blk.lt
theorem Pp.ltr {w : World} {p r C : Nat} {xs : List Nat} {R U : Nat} (h : Pp w p r C xs R U) : r < w.heap.size := h.ring.lt
theorem Pp.ne {w : World} {p r C : Nat} {xs : List Nat} {R U : Nat} (h : Pp w p r C xs R U) : p ≠ r := by
  obtain ⟨cs, f, h1, h2⟩ := h.ring
  exact Blk.ne h.blk h1 (by decide)
theorem Pp.kept {S : Nat → Prop} {w w' : World} {p r C : Nat} {xs : List Nat} {R U : Nat} (h : Pp w p r C xs R U) (hk : Kp S w w') (hp : ¬ S p) (hr : ¬ S r) : Pp w' p r C xs R U := ⟨h.blk.kept hk hp, h.ring.kept hk hr, h.hC, h.hR, h.hU⟩
theorem Pp.below {w w' : World} {p r C : Nat} {xs : List Nat} {R U : Nat} (h : Pp w p r C xs R U) (hb : Below w.heap.size w w') : Pp w' p r C xs R U := ⟨h.blk.below hb, h.ring.below hb, h.hC, h.hR, h.hU⟩
/-- Its ring is turned. -/
theorem Pp.turn {w w' : World} {p r C : Nat} {xs ys : List Nat} {R U : Nat} (h : Pp w p r C xs R U) (hk : Kp (fun j => j = r) w w') (hr : Rg w' r C ys) : Pp w' p r C ys R U := ⟨h.blk.kept hk h.ne, hr, h.hC, h.hR, h.hU⟩
/-- What a call on a pipe turns. -/
def Kr (p r : Nat) (w w' : World) : Prop := Kp (fun j => j = p ∨ j = r) w w'
theorem Kr.ring {p r : Nat} {w w' : World} (h : Kp (fun j => j = r) w w') : Kr p r w w' := Kp.mono h (fun j _ e => .inr e)
theorem Kr.pipe {p r : Nat} {w w' : World} (h : Kp (fun j => j = p) w w') : Kr p r w w' := Kp.mono h (fun j _ e => .inl e)
theorem Kr.of_below {p r : Nat} {w w' : World} (h : Below w.heap.size w w') : Kr p r w w' := Kp.of_below h
theorem Kr.refl (p r : Nat) (w : World) : Kr p r w w := Kp.refl _ _
theorem Kr.trans {p r : Nat} {a b c : World} (h : Kr p r a b) (k : Kr p r b c) : Kr p r a c := Kp.trans h k (fun _ e => .inl e)
theorem Kr.below {n p r : Nat} {w w' : World} (h : Kr p r w w') (hn : n ≤ w.heap.size) (hp : n ≤ p) (hr : n ≤ r) : Below n w w' := Kp.below h hn (fun j e => by rcases e with rfl | rfl <;> assumption)

theorem held_nil (w : World) : Calls Try.prog 45 #[.pointer none] w fun e w' => e = .returned (.pointer none) ∧ w = w' := by
  go_enter Try.func45, Try.ntmps45
  go_wp2
  go_ret
  exact ⟨rfl, rfl⟩
theorem held_blk (w : World) (p : Nat) (h : Option Addr) (a b : Value) (hb : Blk w p #[.pointer h, a, b] 65) :
    Calls Try.prog 45 #[.pointer (some ⟨p, 0, none⟩)] w fun e w' => e = .returned (.pointer h) ∧ w = w' := by
  have c0 : w.cell? ⟨p, 0, none⟩ = some (.pointer h) := hb.cell 0
  clear hb
  go_enter Try.func45, Try.ntmps45
  go_wp2
  go_ret
  exact ⟨rfl, rfl⟩
theorem made_nil (w : World) : Calls Try.prog 34 #[.pointer none] w fun e w' => e = .returned (.bool false) ∧ w = w' := by
  go_enter Try.func34, Try.ntmps34
  go_wp2_with (go_at_call 45; (with_reducible refine (held_nil _).mono ?_); rintro e w1 ⟨rfl, rfl⟩)
  go_ret
  exact ⟨rfl, rfl⟩
theorem made_zero (w : World) (p : Nat) (a b : Value) (hb : Blk w p #[.pointer none, a, b] 65) :
    Calls Try.prog 34 #[.pointer (some ⟨p, 0, none⟩)] w fun e w' => e = .returned (.bool false) ∧ w = w' := by
  have HH := Lib.hid (held_blk w p none a b hb)
  clear hb
  go_enter Try.func34, Try.ntmps34
  go_wp2_with (go_at_call 45; (with_reducible refine HH.out.mono ?_); rintro e w1 ⟨rfl, rfl⟩)
  go_ret
  exact ⟨rfl, rfl⟩
theorem made_ok (w : World) (p r : Nat) (a b : Value) (hb : Blk w p #[.pointer (some ⟨r, 0, none⟩), a, b] 65) :
    Calls Try.prog 34 #[.pointer (some ⟨p, 0, none⟩)] w fun e w' => e = .returned (.bool true) ∧ w = w' := by
  have HH := Lib.hid (held_blk w p (some ⟨r, 0, none⟩) a b hb)
  clear hb
  go_enter Try.func34, Try.ntmps34
  go_wp2_with (go_at_call 45; (with_reducible refine HH.out.mono ?_); rintro e w1 ⟨rfl, rfl⟩)
  go_ret
  exact ⟨rfl, rfl⟩
theorem count_nil (w : World) (v : Value) : Calls Try.prog 35 #[.pointer none, v] w fun e w' => e = .returned (.int .i64 0) ∧ w = w' := by
  go_enter Try.func35, Try.ntmps35
  go_wp2_with (go_at_call 34; (with_reducible refine (made_nil _).mono ?_); rintro e w1 ⟨rfl, rfl⟩)
  go_ret
  exact ⟨rfl, rfl⟩
theorem count_zero (w : World) (p : Nat) (v a b : Value) (hb : Blk w p #[.pointer none, a, b] 65) : Calls Try.prog 35 #[.pointer (some ⟨p, 0, none⟩), v] w fun e w' => e = .returned (.int .i64 0) ∧ w = w' := by
  have HM := Lib.hid (made_zero w p a b hb)
  clear hb
  go_enter Try.func35, Try.ntmps35
  go_wp2_with (go_at_call 34; (with_reducible refine HM.out.mono ?_); rintro e w1 ⟨rfl, rfl⟩)
  go_ret
  exact ⟨rfl, rfl⟩
theorem count_rd (w : World) (p r : Nat) (a b : Value) (hb : Blk w p #[.pointer (some ⟨r, 0, none⟩), a, b] 65) : Calls Try.prog 35 #[.pointer (some ⟨p, 0, none⟩), .int .i64 0] w fun e w' => e = .returned a ∧ w = w' := by
  have HM := Lib.hid (made_ok w p r a b hb)
  have c1 : w.cell? ⟨p, 1, none⟩ = some a := hb.cell 1
  clear hb
  go_enter Try.func35, Try.ntmps35
  go_wp2_with (go_at_call 34; (with_reducible refine HM.out.mono ?_); rintro e w1 ⟨rfl, rfl⟩)
  go_ret
  exact ⟨rfl, rfl⟩
theorem count_wr (w : World) (p r : Nat) (a b : Value) (hb : Blk w p #[.pointer (some ⟨r, 0, none⟩), a, b] 65) : Calls Try.prog 35 #[.pointer (some ⟨p, 0, none⟩), .int .i64 1] w fun e w' => e = .returned b ∧ w = w' := by
  have HM := Lib.hid (made_ok w p r a b hb)
  have c1 : w.cell? ⟨p, 2, none⟩ = some b := hb.cell 2
  clear hb
  go_enter Try.func35, Try.ntmps35
  go_wp2_with (go_at_call 34; (with_reducible refine HM.out.mono ?_); rintro e w1 ⟨rfl, rfl⟩)
  go_ret
  exact ⟨rfl, rfl⟩
theorem may_any (w : World) (c : Int) : Calls Try.prog 32 #[.int .i64 c] w fun e w' => e = .returned (.bool (decide (0 ≤ c) && decide (c ≤ 64))) ∧ w = w' := by
  by_cases h0 : 0 ≤ c
  · have d0 : decide (0 ≤ c) = true := decide_eq_true h0
    rw [d0, Bool.true_and]
    clear h0
    go_enter Try.func32, Try.ntmps32
    go_wp2
    go_ret
    exact ⟨rfl, rfl⟩
  · have d0 : decide (0 ≤ c) = false := decide_eq_false h0
    rw [d0, Bool.false_and]
    clear h0
    go_enter Try.func32, Try.ntmps32
    go_wp2
    go_ret
    exact ⟨rfl, rfl⟩
/-- A side's number. -/
def sd (s : Bool) : Int := if s then 1 else 0
theorem side_any (w : World) (s : Bool) : Calls Try.prog 43 #[.bool s] w fun e w' => e = .returned (.int .i64 (sd s)) ∧ w = w' := by
  cases s
  · go_enter Try.func43, Try.ntmps43
    go_wp2
    go_ret
    exact ⟨rfl, rfl⟩
  · go_enter Try.func43, Try.ntmps43
    go_wp2
    go_ret
    exact ⟨rfl, rfl⟩
theorem other_rd (w : World) : Calls Try.prog 54 #[.int .i64 0] w fun e w' => e = .returned (.int .i64 1) ∧ w = w' := by
  go_enter Try.func54, Try.ntmps54
  go_wp2
  go_ret
  exact ⟨rfl, rfl⟩
theorem other_wr (w : World) : Calls Try.prog 54 #[.int .i64 1] w fun e w' => e = .returned (.int .i64 0) ∧ w = w' := by
  go_enter Try.func54, Try.ntmps54
  go_wp2
  go_ret
  exact ⟨rfl, rfl⟩
/-- How many a side has. -/
def sc (s : Bool) (R U : Nat) : Nat := if s then U else R
theorem count_any (w : World) (p r C : Nat) (xs : List Nat) (R U : Nat) (s : Bool) (h : Pp w p r C xs R U) : Calls Try.prog 35 #[.pointer (some ⟨p, 0, none⟩), .int .i64 (sd s)] w fun e w' => e = .returned (.int .i64 (sc s R U : Int)) ∧ w = w' := by
  cases s
  · exact count_rd w p r _ _ h.blk
  · exact count_wr w p r _ _ h.blk
theorem readers_nil (w : World) : Calls Try.prog 22 #[.pointer none] w fun e w' => e = .returned (.int .i64 0) ∧ w = w' := by
  go_enter Try.func22, Try.ntmps22
  go_wp2_with (go_at_call 35; (with_reducible refine (count_nil _ _).mono ?_); rintro e w1 ⟨rfl, rfl⟩)
  go_ret
  exact ⟨rfl, rfl⟩
theorem readers_any (w : World) (p r C : Nat) (xs : List Nat) (R U : Nat) (h : Pp w p r C xs R U) : Calls Try.prog 22 #[.pointer (some ⟨p, 0, none⟩)] w fun e w' => e = .returned (.int .i64 (R : Int)) ∧ w = w' := by
  have HC := Lib.hid (count_rd w p r _ _ h.blk)
  clear h
  go_enter Try.func22, Try.ntmps22
  go_wp2_with (go_at_call 35; (with_reducible refine HC.out.mono ?_); rintro e w1 ⟨rfl, rfl⟩)
  go_ret
  exact ⟨rfl, rfl⟩
theorem writers_zero (w : World) (p : Nat) (a b : Value) (hb : Blk w p #[.pointer none, a, b] 65) : Calls Try.prog 23 #[.pointer (some ⟨p, 0, none⟩)] w fun e w' => e = .returned (.int .i64 0) ∧ w = w' := by
  have HC := Lib.hid (count_zero w p (.int .i64 1) a b hb)
  clear hb
  go_enter Try.func23, Try.ntmps23
  go_wp2_with (go_at_call 35; (with_reducible refine HC.out.mono ?_); rintro e w1 ⟨rfl, rfl⟩)
  go_ret
  exact ⟨rfl, rfl⟩
theorem writers_any (w : World) (p r C : Nat) (xs : List Nat) (R U : Nat) (h : Pp w p r C xs R U) : Calls Try.prog 23 #[.pointer (some ⟨p, 0, none⟩)] w fun e w' => e = .returned (.int .i64 (U : Int)) ∧ w = w' := by
  have HC := Lib.hid (count_wr w p r _ _ h.blk)
  clear h
  go_enter Try.func23, Try.ntmps23
  go_wp2_with (go_at_call 35; (with_reducible refine HC.out.mono ?_); rintro e w1 ⟨rfl, rfl⟩)
  go_ret
  exact ⟨rfl, rfl⟩
theorem pall_nil (w : World) : Calls Try.prog 21 #[.pointer none] w fun e w' => Below w.heap.size w w' ∧ ∃ r, e = .returned r ∧ w'.ownsRow w.heap.size 5 1 r 0 [] := by
  have HA := Lib.hid (all_any none [] w (tells_none w))
  go_enter Try.func21, Try.ntmps21
  go_wp2_with (first | (go_at_call 45; (with_reducible refine (held_nil _).mono ?_); rintro e w1 ⟨rfl, rfl⟩) | (go_at_call 46; (with_reducible refine HA.out.mono ?_); rintro e w1 ⟨hb, r, rfl, hr⟩; replace hr := Lib.hid hr))
  go_ret
  exact ⟨hb, _, rfl, hr.out⟩
theorem pall_any (w : World) (p r C : Nat) (xs : List Nat) (R U : Nat) (h : Pp w p r C xs R U) : Calls Try.prog 21 #[.pointer (some ⟨p, 0, none⟩)] w fun e w' => Below w.heap.size w w' ∧ ∃ r, e = .returned r ∧ w'.ownsRow w.heap.size 5 1 r xs.length (u8s xs) := by
  have HH := Lib.hid (held_blk w p _ _ _ h.blk)
  have HA := Lib.hid (all_any (some ⟨r, 0, none⟩) xs w (tells_ring h.ring))
  clear h
  go_enter Try.func21, Try.ntmps21
  go_wp2_with (first | (go_at_call 45; (with_reducible refine HH.out.mono ?_); rintro e w1 ⟨rfl, rfl⟩) | (go_at_call 46; (with_reducible refine HA.out.mono ?_); rintro e w1 ⟨hb, r, rfl, hr⟩; replace hr := Lib.hid hr))
  go_ret
  exact ⟨hb, _, rfl, hr.out⟩
theorem pcap_zero (w : World) (p : Nat) (a b : Value) (hb : Blk w p #[.pointer none, a, b] 65) : Calls Try.prog 24 #[.pointer (some ⟨p, 0, none⟩)] w fun e w' => e = .returned (.int .i64 0) ∧ w = w' := by
  have HH := Lib.hid (held_blk w p _ _ _ hb)
  clear hb
  go_enter Try.func24, Try.ntmps24
  go_wp2_with (first | (go_at_call 45; (with_reducible refine HH.out.mono ?_); rintro e w1 ⟨rfl, rfl⟩) | (go_at_call 47; (with_reducible refine (cap_nil _).mono ?_); rintro e w1 ⟨rfl, rfl⟩))
  go_ret
  exact ⟨rfl, rfl⟩
theorem pcap_any (w : World) (p r C : Nat) (xs : List Nat) (R U : Nat) (h : Pp w p r C xs R U) : Calls Try.prog 24 #[.pointer (some ⟨p, 0, none⟩)] w fun e w' => e = .returned (.int .i64 (C : Int)) ∧ w = w' := by
  have HH := Lib.hid (held_blk w p _ _ _ h.blk)
  have HA := Lib.hid (cap_any w r C xs h.ring)
  clear h
  go_enter Try.func24, Try.ntmps24
  go_wp2_with (first | (go_at_call 45; (with_reducible refine HH.out.mono ?_); rintro e w1 ⟨rfl, rfl⟩) | (go_at_call 47; (with_reducible refine HA.out.mono ?_); rintro e w1 ⟨rfl, rfl⟩))
  go_ret
  exact ⟨rfl, rfl⟩
theorem gone_nil (w : World) : Calls Try.prog 25 #[.pointer none] w fun e w' => e = .returned (.bool false) ∧ w = w' := by
  go_enter Try.func25, Try.ntmps25
  go_wp2_with (go_at_call 34; (with_reducible refine (made_nil _).mono ?_); rintro e w1 ⟨rfl, rfl⟩)
  go_ret
  exact ⟨rfl, rfl⟩
theorem gone_zero (w : World) (p : Nat) (a b : Value) (hb : Blk w p #[.pointer none, a, b] 65) : Calls Try.prog 25 #[.pointer (some ⟨p, 0, none⟩)] w fun e w' => e = .returned (.bool false) ∧ w = w' := by
  have HM := Lib.hid (made_zero w p a b hb)
  clear hb
  go_enter Try.func25, Try.ntmps25
  go_wp2_with (go_at_call 34; (with_reducible refine HM.out.mono ?_); rintro e w1 ⟨rfl, rfl⟩)
  go_ret
  exact ⟨rfl, rfl⟩
/-- Two counts beside each other. -/
theorem two_lits (R U : Int) (hR : 0 ≤ R ∧ R ≤ 64) (hU : 0 ≤ U ∧ U ≤ 64) : Try.prog.keyLits 2 63 [.int .i64 R, .int .i64 U] = some [.int .i64 R, .int .i64 U] := by
  have hw : ∀ x : Int, 0 ≤ x ∧ x ≤ 64 → (Lit.int .i64 x).wf = true := fun x hx => by
    simp [Lit.wf, IntKind.min, IntKind.max, IntKind.signed, IntKind.bits]
    omega
  have hc : Try.prog.cellsOf 63 = 2 := by kernel_rfl
  have hc1 : Try.prog.cellsOf 3 = 1 := by kernel_rfl
  have h1 : ∀ x : Int, 0 ≤ x ∧ x ≤ 64 → Try.prog.keyLits 1 3 [.int .i64 x] = some [.int .i64 x] := fun x hx => by
    rw [Program.keyLits.eq_def]
    simp only [Try.underlying3]
    simp [hw x hx]
  rw [Program.keyLits.eq_def]
  simp only [Try.underlying63]
  rw [if_pos (by rw [hc]; rfl)]
  simp [hc1, List.range, List.range.loop, h1 R hR, h1 U hU]
theorem run_two (R U : Int) (hR : 0 ≤ R ∧ R ≤ 64) (hU : 0 ≤ U ∧ U ≤ 64) (w : World) : (Op.equalIn 10000 63 (.agg #[.int .i64 R, .int .i64 U]) (.agg #[.int .i64 0, .int .i64 0])).run Try.prog w = .ok (R == 0 && U == 0) w := by
  have hf : ∀ a b : Int, (Value.agg #[.int .i64 a, .int .i64 b]).formed Try.prog 63 = true := fun a b => by
    unfold Value.formed
    rw [Try.underlying63]
    kernel_rfl
  obtain ⟨r, h1, h2⟩ := run_equalIn_deep (P := Try.prog) 9998 2 63 (by kernel_rfl) w 2 2 (.agg #[.int .i64 R, .int .i64 U]) (.agg #[.int .i64 0, .int .i64 0]) _ _ (hf R U) (hf 0 0) (two_lits R U hR hU) (two_lits 0 0 (by omega) (by omega))
  rw [h1]
  congr 1
  rw [Bool.eq_iff_iff, h2]
  simp
/-- Nobody is there. -/
theorem gone_blk (w : World) (p r : Nat) (R U : Int) (hR : 0 ≤ R ∧ R ≤ 64) (hU : 0 ≤ U ∧ U ≤ 64) (hb : Blk w p #[.pointer (some ⟨r, 0, none⟩), .int .i64 R, .int .i64 U] 65) : Calls Try.prog 25 #[.pointer (some ⟨p, 0, none⟩)] w fun e w' => e = .returned (.bool (R == 0 && U == 0)) ∧ w = w' := by
  have HM := Lib.hid (made_ok w p r _ _ hb)
  have c1 : w.cell? ⟨p, 1, none⟩ = some (.int .i64 R) := hb.cell 1
  have c2 : w.cell? ⟨p, 2, none⟩ = some (.int .i64 U) := hb.cell 2
  have hq := run_two R U hR hU w
  generalize (R == 0 && U == 0) = g at *
  clear hb hR hU
  go_enter Try.func25, Try.ntmps25
  go_wp2_with (go_at_call 34; (with_reducible refine HM.out.mono ?_); rintro e w1 ⟨rfl, rfl⟩)
  go_ret
  exact ⟨rfl, rfl⟩
theorem gone_any (w : World) (p r C : Nat) (xs : List Nat) (R U : Nat) (h : Pp w p r C xs R U) : Calls Try.prog 25 #[.pointer (some ⟨p, 0, none⟩)] w fun e w' => e = .returned (.bool ((R : Int) == 0 && (U : Int) == 0)) ∧ w = w' :=
  gone_blk w p r R U ⟨by omega, by have := h.hR; omega⟩ ⟨by omega, by have := h.hU; omega⟩ h.blk
end Go.Proofs.Ytfpdbcjnhgddoaa.Pm
