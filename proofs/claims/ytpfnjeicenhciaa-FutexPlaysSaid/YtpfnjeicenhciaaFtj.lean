/-
  The document's own futex: May, Key, At.
-/
import Derived.Test.YtpfnjeicenhciaaFti
namespace Go.Proofs.Ytpfnjeicenhciaa.Ftj
open Go Go.RowKit Kit Bk Fta Ftb Ftc Ftd Fte Ftf Ftg Fth Fti
set_option linter.unusedVariables false
attribute [local go_sem ↓] app_wrap

theorem bel_dr {B : Nat} {a w : World} (h : Below B a w) (n : Nat) : Below B a (w.drewN n) := ⟨h.os, h.tape, h.output, h.size, h.block⟩
theorem rmay_any (w : World) (k : Ky) :
    Calls Try.prog 25 #[kv k] w fun e w' => e = .returned (.bool (mayK k)) ∧ Below w.heap.size w w' := by
  have HB : Hid (Below w.heap.size w (w.alloc (.cells #[.int .i64 k.p, .int .i64 k.f, .int .i64 k.o] 31))) := Lib.hid ((Below.refl _ _).alloc (Nat.le_refl _) _)
  obtain ⟨p, f, o⟩ := k
  obtain ⟨M, hM⟩ : ∃ M, mayK ⟨p, f, o⟩ = M := ⟨_, rfl⟩
  rw [hM]
  unfold mayK bel at hM
  dsimp only at HB hM ⊢
  by_cases h0 : p = 0
  · subst h0
    have e1 : ((0 : Int) == 0) = true := rfl
    have e2 : decide ((1 : Int) ≤ 0) = false := by decide
    rw [e1, e2, Bool.true_and, Bool.false_and, Bool.false_and, Bool.or_false] at hM
    by_cases h1 : 0 ≤ f
    · have d1 : decide (0 ≤ f) = true := decide_eq_true h1
      by_cases h2 : f < 256
      · have d2 : decide (f ≤ 255) = true := decide_eq_true (by omega)
        have d2' : decide (f < 256) = true := decide_eq_true h2
        by_cases h3 : 0 ≤ o
        · have d3 : decide (0 ≤ o) = true := decide_eq_true h3
          by_cases h4 : o < 64
          · have d4 : decide (o ≤ 63) = true := decide_eq_true (by omega)
            have d4' : decide (o < 64) = true := decide_eq_true h4
            rw [d1, d2', d3, d4'] at hM
            clear h1 h2 h3 h4 d2' d4'
            subst hM
            go_enter Try.func25, Try.ntmps25
            go_wp2
            go_ret
            exact ⟨rfl, HB.out⟩
          · have d4 : decide (o ≤ 63) = false := decide_eq_false (by omega)
            have d4' : decide (o < 64) = false := decide_eq_false h4
            rw [d1, d2', d3, d4'] at hM
            clear h1 h2 h3 h4 d2' d4'
            subst hM
            go_enter Try.func25, Try.ntmps25
            go_wp2
            go_ret
            exact ⟨rfl, HB.out⟩
        · have d3 : decide (0 ≤ o) = false := decide_eq_false h3
          rw [d1, d2', d3, Bool.false_and, Bool.and_false] at hM
          clear h1 h2 h3 d2'
          subst hM
          go_enter Try.func25, Try.ntmps25
          go_wp2
          go_ret
          exact ⟨rfl, HB.out⟩
      · have d2 : decide (f ≤ 255) = false := decide_eq_false (by omega)
        have d2' : decide (f < 256) = false := decide_eq_false h2
        rw [d1, d2', Bool.and_false, Bool.false_and] at hM
        clear h1 h2 d2'
        subst hM
        go_enter Try.func25, Try.ntmps25
        go_wp2
        go_ret
        exact ⟨rfl, HB.out⟩
    · have d1 : decide (0 ≤ f) = false := decide_eq_false h1
      rw [d1, Bool.false_and, Bool.false_and] at hM
      clear h1
      subst hM
      go_enter Try.func25, Try.ntmps25
      go_wp2
      go_ret
      exact ⟨rfl, HB.out⟩
  · have e1 : (p == 0) = false := by simpa using h0
    rw [e1, Bool.false_and, Bool.false_and, Bool.false_or] at hM
    by_cases h1 : 1 ≤ p
    · have d1 : decide (0 < p) = true := decide_eq_true (by omega)
      have d1' : decide (1 ≤ p) = true := decide_eq_true h1
      by_cases hf : f = 0
      · subst hf
        rw [d1', show ((0 : Int) == 0) = true from rfl, Bool.true_and, Bool.true_and] at hM
        by_cases h3 : 0 ≤ o
        · have d3 : decide (0 ≤ o) = true := decide_eq_true h3
          by_cases h4 : o < 4096
          · have d4 : decide (o ≤ 4095) = true := decide_eq_true (by omega)
            rw [d3, decide_eq_true h4] at hM
            clear h0 h1 h3 h4 d1'
            subst hM
            go_enter Try.func25, Try.ntmps25
            go_wp2
            go_ret
            exact ⟨rfl, HB.out⟩
          · have d4 : decide (o ≤ 4095) = false := decide_eq_false (by omega)
            rw [d3, decide_eq_false h4] at hM
            clear h0 h1 h3 h4 d1'
            subst hM
            go_enter Try.func25, Try.ntmps25
            go_wp2
            go_ret
            exact ⟨rfl, HB.out⟩
        · have d3 : decide (0 ≤ o) = false := decide_eq_false h3
          rw [d3, Bool.false_and] at hM
          clear h0 h1 h3 d1'
          subst hM
          go_enter Try.func25, Try.ntmps25
          go_wp2
          go_ret
          exact ⟨rfl, HB.out⟩
      · have df : (f == 0) = false := by simpa using hf
        rw [df, Bool.and_false, Bool.false_and] at hM
        clear h0 h1 hf d1'
        subst hM
        go_enter Try.func25, Try.ntmps25
        go_wp2
        go_ret
        exact ⟨rfl, HB.out⟩
    · have d1 : decide (0 < p) = false := decide_eq_false (by omega)
      rw [decide_eq_false h1, Bool.false_and, Bool.false_and] at hM
      clear h0 h1
      subst hM
      go_enter Try.func25, Try.ntmps25
      go_wp2
      go_ret
      exact ⟨rfl, HB.out⟩

attribute [local go_sem ↓] stk_wrap
set_option maxRecDepth 100000 in
set_option maxHeartbeats 1000000 in
theorem rkey_any (w : World) (f r : Nat) (L : List Wt) (q : Int) (h : Lx 29 w f r L) :
    Calls Try.prog 18 #[.pointer (some ⟨f, 0, none⟩), .int .i64 q] w fun e w' => e = .returned (.tuple #[kv (fkK L q), .bool (fkB L q)]) ∧ Below w.heap.size w w' := by
  obtain ⟨v, h1, h2⟩ := h
  obtain ⟨a, c, rfl, hc1, hc2, ha⟩ := h2.form
  have HA := Lib.hid ha
  have HR := Lib.hid (And.intro h1 h2)
  unfold maxLen at hc2
  have hcI : (L.length : Int) ≤ 9223372036854775807 := by omega
  have B0 := (Below.refl w.heap.size w).alloc (Nat.le_refl _) (.cells #[.int .i64 0, .int .i64 0, .int .i64 0] 31)
  have K0 := Lib.hid (Blk.new w #[.int .i64 0, .int .i64 0, .int .i64 0] 31)
  have HB0 := Lib.hid B0
  clear h1 h2 ha B0 hc1 hc2
  go_enter Try.func18, Try.ntmps18
  go_wp2
  go_loopw [6] (fun i wr => ∃ j : Nat, j ≤ L.length ∧ i = .int .i64 (j : Int) ∧ (∀ m (hm : m < j) (hl : m < L.length), L[m].q ≠ q) ∧ Below w.heap.size w wr ∧ Blk wr w.heap.size #[.int .i64 0, .int .i64 0, .int .i64 0] 31) (fun i _ => L.length - (intOf i).toNat)
  case atStart => exact ⟨0, Nat.zero_le _, rfl, fun m hm => absurd hm (Nat.not_lt_zero _), HB0.out, K0.out⟩
  case round =>
    obtain ⟨j, hj, rfl, hno, hb, hk⟩ := hrel
    have cf : wr.cell? ⟨f, 0, none⟩ = some (.slice a L.length c) := (HR.out.1.below hb).cell 0
    by_cases hlt : j < L.length
    · have hltI : (j : Int) < (L.length : Int) := by omega
      obtain rfl := HA.out j hlt
      obtain ⟨c0, c1, c2, c3⟩ := (HR.out.2.below hb).cells j hlt
      have HNo := Lib.hid hno
      have HHb := Lib.hid hb
      obtain ⟨W', hst, hbl, hkp⟩ := run_stK _ _ _ _ hk rfl L[j].k
      have HK := Lib.hid hk
      by_cases he : L[j].q = q
      · have d0 : (L[j].q == q) = true := by simpa using he
        have e0 := hbl.cell 0
        have e1 := hbl.cell 1
        have e2 := hbl.cell 2
        have hres : Hid (fkK L q = L[j].k ∧ fkB L q = true ∧ Below w.heap.size w W') := Lib.hid (by
          have hs := fk_some hlt (fun i hi => hno i hi (by omega)) he
          refine ⟨by unfold fkK; rw [hs]; rfl, by unfold fkB; rw [hs]; rfl, ?_⟩
          exact hb.trans (hkp.below hb.size (fun j e => by omega)))
        generalize L[j] = x at *
        clear hno hb hk hbl hkp he
        go_wp2
        exact bodyPost_ret (v := .tuple #[kv (fkK L q), .bool (fkB L q)]) (by rw [hres.out.1, hres.out.2.1]; simp [results, Try.results18, go_sem, e0, e1, e2]) rfl ⟨rfl, hres.out.2.2⟩
      · have d0 : (L[j].q == q) = false := by simpa using he
        have HE := Lib.hid he
        generalize hx : L[j] = x at *
        clear hno hb hk hbl hkp he hst
        go_wp2
        go_roundw
        case rel => exact ⟨j + 1, by omega, by go_num, fun m hm hl => by
          by_cases e : m = j
          · subst e; rw [hx]; exact HE.out
          · exact HNo.out m (by omega) hl, HHb.out, HK.out⟩
        case measure => simp [intOf]; omega
    · obtain rfl : j = L.length := by omega
      obtain ⟨W', hst, hbl, hkp⟩ := run_stK _ _ _ _ hk rfl ⟨0, 0, 0⟩
      have e0 := hbl.cell 0
      have e1 := hbl.cell 1
      have e2 := hbl.cell 2
      have hres : Hid (fkK L q = ⟨0, 0, 0⟩ ∧ fkB L q = false ∧ Below w.heap.size w W') := Lib.hid (by
        have hs := fk_none (fun i hi => hno i hi hi)
        refine ⟨by unfold fkK; rw [hs]; rfl, by unfold fkB; rw [hs]; rfl, ?_⟩
        exact hb.trans (hkp.below hb.size (fun j e => by omega)))
      clear hno hb hk hbl hkp
      go_wp2
      exact bodyPost_ret (v := .tuple #[kv (fkK L q), .bool (fkB L q)]) (by rw [hres.out.1, hres.out.2.1]; simp [results, Try.results18, go_sem, e0, e1, e2]) rfl ⟨rfl, hres.out.2.2⟩

/-- One number more behind a row of numbers. -/
theorem app_int (w : World) (base : Nat) (v : Value) (l : List Int) (x : Int) (hown : w.ownsRow base 3 1 v l.length (ints l)) (hl : l.length ≤ 90000) (hb : base ≤ w.heap.size) :
    ∃ v' w', (appO #[37, 37] 37 #[v, .slice (some ⟨w.heap.size, 0, none⟩) 1 1]).run Try.prog (w.alloc (.cells #[.int .i64 x] 3)) = .ok v' w' ∧ w'.ownsRow base 3 1 v' (l ++ [x]).length (ints (l ++ [x])) ∧ (w.alloc (.cells #[.int .i64 x] 3)).grownBy w' v.ownBlock ∧ Below base w w' := by
  obtain ⟨i0, hi, hz0, hz1, hz2⟩ := info_parts' infoI
  have hb1 := (Below.refl w.heap.size w).alloc (Nat.le_refl _) (.cells #[.int .i64 x] 3)
  obtain ⟨v', w2, hrun, hown', hgrow, -⟩ := run_append_own (P := Try.prog) (w := w.alloc (.cells #[.int .i64 x] 3)) base 37 37 3 i0 (.int .i64 0) 1 8 Try.underlying37 hi hz0 hz1 hz2 rfl (by decide) v l.length (ints l) (hown.alloc _) ⟨w.heap.size, 0, none⟩ 1 1 [.int .i64 x] rfl
    (by intro j u hj; have hj0 : j = 0 := (by cases j with | zero => rfl | succ j => simp at hj); subst hj0; simp at hj; subst hj; simp [Addr.add]) (by simp [Value.oneCell']) (by unfold maxLen; omega) (by omega) (by simp; omega)
  refine ⟨v', w2, hrun, ?_, hgrow, (hb1.mono hb).grown hgrow (by simp; omega) (fun k e => (hown.lt k e).1)⟩
  rw [show (l ++ [x]).length = l.length + 1 by simp, show ints (l ++ [x]) = ints l ++ [.int .i64 x] by simp [ints]]
  exact hown'
end Go.Proofs.Ytpfnjeicenhciaa.Ftj
