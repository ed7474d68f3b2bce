/-
  The walk of GaussNorms: norms are multiplied with numbers, no number but 0 has the norm 0; any four parts, modulo 300.
-/
import Derived.Test.YtlplcacmmckpaaaDoorRingNums
import Derived.Test.YtlplcacmmckpaaaDoorAliveG
namespace Go.Proofs.YtlplcacmmckpaaaDoor.Walk
open Go Go.RowKit Kit Fl Whole Gleaf Gparts Gwhole Gnums Gg AliveG
set_option linter.unusedVariables false

theorem zero_zv : Value.complex .f64 0 0 = zv (gm 0 0) := by
  have e : fl (wr 0) = 0 := by decide
  show _ = Value.complex .f64 (fl (wr 0)) (fl (wr 0))
  rw [e]
theorem run_eql_zv0 (t : TypeId) (x : Int × Int) (w : World) : (binOp .eql t (zv x) (.complex .f64 0 0)).run Tryd.prog w = .ok (.bool (geq x (gm 0 0))) w := by
  rw [zero_zv]
  exact run_eql_zv t x _ w
theorem eqGuard_zv0 (t : TypeId) (o o' : Operand) (x : Int × Int) : eqGuard .eql t o o' (zv x) (.complex .f64 0 0) = pure () := rfl

/-- A small number: its parts are within 300. -/
structure Small (x : Int × Int) : Prop where
  a : -300 < x.1 ∧ x.1 < 300
  b : -300 < x.2 ∧ x.2 < 300
theorem Small.w1 {x : Int × Int} (h : Small x) : wr x.1 = x.1 := wr_id (by have := h.a; omega)
theorem Small.w2 {x : Int × Int} (h : Small x) : wr x.2 = x.2 := wr_id (by have := h.b; omega)
theorem small_bd {x y : Int} (h1 : -300 < x ∧ x < 300) (h2 : -300 < y ∧ y < 300) : -90000 ≤ x * y ∧ x * y ≤ 90000 := by
  have h : (x * y).natAbs ≤ 300 * 300 := by
    rw [Int.natAbs_mul]
    exact Nat.mul_le_mul (by omega) (by omega)
  omega
theorem sq_nonneg (x : Int) : 0 ≤ x * x := by
  rcases Int.le_total 0 x with h0 | h0
  · exact Int.mul_nonneg h0 h0
  · exact Int.mul_nonneg_of_nonpos_of_nonpos h0 h0
theorem small_norm {x : Int × Int} (h : Small x) : gnorm x = x.1 * x.1 + x.2 * x.2 ∧ 0 ≤ gnorm x ∧ gnorm x ≤ 180000 := by
  have e : gnorm x = x.1 * x.1 + x.2 * x.2 := by unfold gnorm; rw [h.w1, h.w2]
  have h1 := small_bd h.a h.a
  have h2 := small_bd h.b h.b
  have h3 := sq_nonneg x.1
  have h4 := sq_nonneg x.2
  exact ⟨e, by omega, by omega⟩
theorem norm_mul {x y : Int × Int} (hx : Small x) (hy : Small y) : gnorm (gmul x y) = gnorm x * gnorm y := by
  have h1 := small_bd hx.a hy.a
  have h2 := small_bd hx.b hy.b
  have h3 := small_bd hx.a hy.b
  have h4 := small_bd hx.b hy.a
  rw [(small_norm hx).1, (small_norm hy).1]
  unfold gnorm gmul
  dsimp only
  rw [hx.w1, hx.w2, hy.w1, hy.w2, wr_id (by omega), wr_id (by omega)]
  grind
theorem norm_conj {x : Int × Int} (hx : Small x) : gnorm (gconj x) = gnorm x := by
  rw [(small_norm hx).1]
  unfold gnorm gconj
  dsimp only
  rw [hx.w1, hx.w2, hx.w1, wr_id (by have := hx.b; omega)]
  grind
theorem add_re {x y : Int × Int} (hx : Small x) (hy : Small y) : gre (gadd x y) = gre x + gre y := by
  unfold gre gadd
  dsimp only
  rw [hx.w1, hy.w1]
  exact wr_id (by have := hx.a; have := hy.a; omega)
theorem add_im {x y : Int × Int} (hx : Small x) (hy : Small y) : gim (gadd x y) = gim x + gim y := by
  unfold gim gadd
  dsimp only
  rw [hx.w2, hy.w2]
  exact wr_id (by have := hx.b; have := hy.b; omega)
theorem zero_of_sq {x : Int} (h : x * x ≤ 0) : x = 0 := by
  have h3 := sq_nonneg x
  have h4 : x * x = 0 := by omega
  rcases Int.mul_eq_zero.1 h4 with h | h <;> exact h
theorem norm_zero {x : Int × Int} (hx : Small x) : (gnorm x == 0) = geq x (gm 0 0) := by
  have e := (small_norm hx).1
  have e0 : wr 0 = 0 := by decide
  unfold geq gm
  dsimp only
  rw [hx.w1, hx.w2, e0]
  by_cases h : x.1 = 0 ∧ x.2 = 0
  · rw [e, h.1, h.2]
    rfl
  · have hn : ¬ gnorm x = 0 := by
      intro h0
      have h3 := sq_nonneg x.1
      have h4 := sq_nonneg x.2
      exact h ⟨zero_of_sq (by omega), zero_of_sq (by omega)⟩
    have h1 : (gnorm x == 0) = false := by simpa using hn
    rw [h1]
    have : (decide (x.1 = 0) && decide (x.2 = 0)) = false := by
      rw [Bool.eq_false_iff]
      intro hh
      rw [Bool.and_eq_true, decide_eq_true_eq, decide_eq_true_eq] at hh
      exact h hh
    rw [this]
theorem rem_300 {a : Int} (h : (Lit.int .i16 a).wf = true) : ∃ p, a.tmod 300 = p ∧ -300 < p ∧ p < 300 := by
  refine ⟨_, rfl, ?_⟩
  by_cases h0 : 0 ≤ a
  · rw [Int.tmod_eq_emod_of_nonneg h0]
    omega
  · obtain ⟨k, rfl⟩ : ∃ k, a = -k := ⟨-a, by omega⟩
    rw [Int.neg_tmod, Int.tmod_eq_emod_of_nonneg (by omega)]
    omega
theorem i16_bd {a : Int} (h : (Lit.int .i16 a).wf = true) : -32768 ≤ a ∧ a ≤ 32767 := by
  simpa [Lit.wf, IntKind.min, IntKind.max, IntKind.signed, IntKind.bits] using h

set_option maxRecDepth 100000 in
set_option maxHeartbeats 4000000 in
theorem gaussNorms (a b c d : Int) (w : World) (w0 : (Lit.int .i16 a).wf = true) (w1 : (Lit.int .i16 b).wf = true) (w2 : (Lit.int .i16 c).wf = true) (w3 : (Lit.int .i16 d).wf = true) :
    Calls Tryd.prog 7 #[.int .i16 a, .int .i16 b, .int .i16 c, .int .i16 d] w fun e w' => e = .returned (.bool true) ∧ Below w.heap.size w w' := by
  obtain ⟨p, hp, hp'⟩ := rem_300 w0
  obtain ⟨q, hq, hq'⟩ := rem_300 w1
  obtain ⟨r, hr, hr'⟩ := rem_300 w2
  obtain ⟨s, hs, hs'⟩ := rem_300 w3
  obtain ⟨k1, k1'⟩ := i16_bd w0
  obtain ⟨k2, k2'⟩ := i16_bd w1
  obtain ⟨k3, k3'⟩ := i16_bd w2
  obtain ⟨k4, k4'⟩ := i16_bd w3
  clear w0 w1 w2 w3
  have hx : Small (gm p q) := ⟨hp', hq'⟩
  have hy : Small (gm r s) := ⟨hr', hs'⟩
  have g1 := norm_mul hx hy
  have g2 := norm_conj hx
  have g3 := add_re hx hy
  have g4 := add_im hx hy
  obtain ⟨-, n1, n2⟩ := small_norm hx
  obtain ⟨-, n3, n4⟩ := small_norm hy
  have n5 : 0 ≤ gnorm (gm p q) * gnorm (gm r s) := Int.mul_nonneg n1 n3
  have n6 : gnorm (gm p q) * gnorm (gm r s) ≤ 180000 * 180000 := Int.mul_le_mul n2 n4 n3 (by decide)
  have n6' : gnorm (gm p q) * gnorm (gm r s) ≤ 32400000000 := n6
  have r1 : -524288 ≤ gre (gm p q) ∧ gre (gm p q) ≤ 524287 := wr_range _
  have r2 : -524288 ≤ gim (gm p q) ∧ gim (gm p q) ≤ 524287 := wr_range _
  have r3 : -524288 ≤ gre (gm r s) ∧ gre (gm r s) ≤ 524287 := wr_range _
  have r4 : -524288 ≤ gim (gm r s) ∧ gim (gm r s) ≤ 524287 := wr_range _
  obtain ⟨r1, r1'⟩ := r1
  obtain ⟨r2, r2'⟩ := r2
  obtain ⟨r3, r3'⟩ := r3
  obtain ⟨r4, r4'⟩ := r4
  have hz := norm_zero hx
  clear n6 hx hy hp' hq' hr' hs'
  have heq := fun t x wx => run_eql_zv0 t x wx
  have hgd := fun t o o' x => eqGuard_zv0 t o o' x
  have HB := Below.refl w.heap.size w
  cases hv : geq (gm p q) (gm 0 0)
  all_goals
    rw [hv] at hz
    go_enter Tryd.func7, Tryd.ntmps7
    go_wp2_with (first
      | (go_at_call 17; refine (alive_any _).mono ?_; rintro e w1 ⟨rfl, hb⟩; replace HB := bel' HB hb; clear hb)
      | (go_at_call 16; refine (make_g _ _ _).mono ?_; rintro e w1 ⟨rfl, rfl⟩)
      | (go_at_call 20; refine (mul_g _ _ _).mono ?_; rintro e w1 ⟨rfl, hb⟩; replace HB := bel' HB hb; clear hb)
      | (go_at_call 19; refine (add_g _ _ _).mono ?_; rintro e w1 ⟨rfl, hb⟩; replace HB := bel' HB hb; clear hb)
      | (go_at_call 21; refine (conj_g _ _).mono ?_; rintro e w1 ⟨rfl, hb⟩; replace HB := bel' HB hb; clear hb)
      | (go_at_call 22; refine (parts_g _ _).mono ?_; rintro e w1 ⟨rfl, hb⟩; replace HB := bel' HB hb; clear hb)
      | (go_at_call 23; refine (norm_g _ _).mono ?_; rintro e w1 ⟨rfl, hb⟩; replace HB := bel' HB hb; clear hb))
    go_ret
    exact ⟨rfl, HB⟩
end Go.Proofs.YtlplcacmmckpaaaDoor.Walk
