/-
  The document's own queues: in, Where, List, fewest, May, Pick.
-/
import Derived.Test.YtkjmpkoogjbjnaaQuw
namespace Go.Proofs.Ytkjmpkoogjbjnaa.Qux
open Go Go.RowKit Go.Shelf Kit Bk Qua Qub Quc Qud Que Quf Qug Quh Qui Quj Quk Qul Qum Qun Quq Qup Qur Quu Quw
set_option linter.unusedVariables false
attribute [local go_sem ↓] app_wrap
variable {w w' : World} {f r c : Nat} {D : List It} {v : Value} {l : Ls}

theorem rin_any (w : World) (h : Rs w f r c D) (hc8 : c ≤ 8) (z : Int) (m : Nat) (hm : m < 4294967296) : Calls Try.prog 33 #[pv f, .int .i64 z, uv m] w fun e w' => e = .returned (.bool (hasC c m z)) ∧ w = w' := by
  obtain ⟨v, h1, h2⟩ := h
  have c0 : w.cell? ⟨f, 0, none⟩ = some (.int .i64 (c : Int)) := h1.cell 0
  clear h1 h2
  by_cases hz : 0 ≤ z ∧ z < (c : Int)
  · obtain ⟨k, rfl⟩ : ∃ k : Nat, z = (k : Int) := ⟨z.toNat, by omega⟩
    have d0 : decide ((k : Int) < 0) = false := decide_eq_false (by omega)
    have d1 : decide ((c : Int) ≤ (k : Int)) = false := decide_eq_false (by omega)
    have d2 : decide (c ≤ k) = false := decide_eq_false (by omega)
    have hk8 : (k : Int) < 8 := by omega
    rw [hasC_nat, show decide (k < c) = true from decide_eq_true (by omega), Bool.true_and]
    clear hz
    go_enter Try.func33, Try.ntmps33
    go_wp2
    go_loop [7, 2] (fun i s => ∃ j : Nat, j ≤ k ∧ i = .int .i64 (j : Int) ∧ s = uv (m / 2 ^ j)) (fun i _ => k - (intOf i).toNat)
    case atStart => exact ⟨0, Nat.zero_le _, rfl, by simp⟩
    case round =>
      obtain ⟨j, hj, rfl, rfl⟩ := hrel
      have hlm : m / 2 ^ j < 4294967296 := Nat.lt_of_le_of_lt (Nat.div_le_self _ _) hm
      by_cases hlt : j < k
      · have hltI : (j : Int) < (k : Int) := by omega
        have hnx : m / 2 ^ j / 2 = m / 2 ^ (j + 1) := by rw [Nat.div_div_eq_div_mul, ← Nat.pow_succ]
        have HN := Lib.hid hnx
        generalize m / 2 ^ j = g at *
        have ew : IntKind.wrap .u32 ((g : Int) / 2) = ((g / 2 : Nat) : Int) := by
          simp [IntKind.wrap, IntKind.bits, IntKind.signed]
          omega
        clear hnx
        go_wp2
        go_round
        case rel => exact ⟨j + 1, by omega, by go_num, by rw [← HN.out]; rfl⟩
        case measure => simp [intOf]; omega
      · obtain rfl : j = k := by omega
        have hb : (((m / 2 ^ j : Nat) : Int) % 2 == 1) = bt m j := by
          unfold bt
          rw [Nat.testBit_eq_decide_div_mod_eq]
          rw [Bool.eq_iff_iff]
          simp only [beq_iff_eq, decide_eq_true_eq]
          omega
        have HB := Lib.hid hb
        generalize m / 2 ^ j = g at *
        clear hb
        go_wp2
        go_ret
        exact ⟨by rw [← HB.out]; rfl, rfl⟩
  · have hh : hasC c m z = false := by
      rw [Bool.eq_false_iff]
      intro e
      obtain ⟨k, h1, h2, h3⟩ := hasC_iff.1 e
      omega
    rw [hh]
    by_cases h0 : z < 0
    · have d0 : decide (z < 0) = true := decide_eq_true h0
      clear hz hh h0
      go_enter Try.func33, Try.ntmps33
      go_wp2
      go_ret
      exact ⟨rfl, rfl⟩
    · have d0 : decide (z < 0) = false := decide_eq_false h0
      have d1 : decide ((c : Int) ≤ z) = true := decide_eq_true (by omega)
      clear hz hh h0
      go_enter Try.func33, Try.ntmps33
      go_wp2
      go_ret
      exact ⟨rfl, rfl⟩
theorem dW_some {D : List It} {p : Int} {j : Nat} (hj : j < D.length) (h : D[j].p = p) (hno : ∀ m (hm : m < D.length), m < j → D[m].p ≠ p) : dW D p = D[j].k := by
  unfold dW
  rw [List.find?_eq_some_iff_getElem.2 ⟨by simpa using h, j, hj, rfl, fun m hm => by simpa using hno m (by omega) hm⟩]
theorem dW_none {D : List It} {p : Int} (hno : ∀ m (hm : m < D.length), D[m].p ≠ p) : dW D p = -1 := by
  unfold dW
  rw [List.find?_eq_none.2 (fun x hx => by
    obtain ⟨m, hm, rfl⟩ := List.mem_iff_getElem.1 hx
    simpa using hno m hm)]
theorem rwhere_any (w : World) (h : Rs w f r c D) (p : Int) : Calls Try.prog 18 #[pv f, .int .i64 p] w fun e w' => e = .returned (.int .i64 (dW D p)) ∧ w = w' := by
  obtain ⟨v, h1, h2⟩ := h
  have c1 : w.cell? ⟨f, 1, none⟩ = some v := h1.cell 1
  obtain ⟨a, n, rfl, hc1, hc2, ha⟩ := h2.form
  have HA := Lib.hid ha
  have HR := Lib.hid h2
  unfold maxLen at hc2
  have hcI : (D.length : Int) ≤ 9223372036854775807 := by omega
  clear h1 h2 ha hc1 hc2
  go_enter Try.func18, Try.ntmps18
  go_wp2
  go_loop [5] (fun i => ∃ j : Nat, j ≤ D.length ∧ i = .int .i64 (j : Int) ∧ ∀ m (hm : m < D.length), m < j → D[m].p ≠ p) (fun i => D.length - (intOf i).toNat)
  case atStart => exact ⟨0, Nat.zero_le _, rfl, fun m hm h => absurd h (Nat.not_lt_zero _)⟩
  case round =>
    obtain ⟨j, hj, rfl, hno⟩ := hrel
    by_cases hlt : j < D.length
    · have hltI : (j : Int) < (D.length : Int) := by omega
      obtain rfl := HA.out j hlt
      obtain ⟨x0, x1⟩ := HR.out.cells j hlt
      have HN := Lib.hid hno
      by_cases he : D[j].p = p
      · have HE := Lib.hid (dW_some hlt he hno)
        have d0 : (D[j].p == p) = true := by simpa using he
        generalize D[j] = x at *
        clear he hno
        go_wp2
        go_ret
        exact ⟨by rw [HE.out]; rfl, rfl⟩
      · have HE := Lib.hid he
        have d0 : (D[j].p == p) = false := by simpa using he
        generalize hx : D[j] = x at *
        clear he hno
        go_wp2
        go_round
        case rel => exact ⟨j + 1, by omega, by go_num, fun m hm h => by
          by_cases e : m = j
          · subst e; rw [hx]; exact HE.out
          · exact HN.out m hm (by omega)⟩
        case measure => simp [intOf]; omega
    · obtain rfl : j = D.length := by omega
      have HE := Lib.hid (dW_none (fun m hm => hno m hm hm))
      clear hno
      go_wp2
      go_ret
      exact ⟨by rw [HE.out]; rfl, rfl⟩
theorem dL_take {D : List It} {z : Int} {j : Nat} (hj : j < D.length) : dL (D.take (j + 1)) z = if D[j].k = z then dL (D.take j) z ++ [D[j].p] else dL (D.take j) z := by
  rw [List.take_add_one, List.getElem?_eq_getElem hj]
  exact dL_snoc _ _ _
theorem dL_len (D : List It) (z : Int) : (dL D z).length ≤ D.length := by
  unfold dL
  rw [List.length_map]
  exact List.length_filter_le _ _
set_option maxHeartbeats 1000000 in
theorem rlist_any (w : World) (h : Rs w f r c D) (hl : D.length ≤ 90000) (z : Int) : Calls Try.prog 25 #[pv f, .int .i64 z] w fun e w' => Below w.heap.size w w' ∧ ∃ u G, e = .returned u ∧ Rw w' u G (dL D z) ∧ ∀ g, G = some g → w.heap.size ≤ g := by
  obtain ⟨v, h1, h2⟩ := h
  obtain ⟨a, n, rfl, hc1, hc2, ha⟩ := h2.form
  have HA := Lib.hid ha
  have HR := Lib.hid (And.intro h1 h2)
  unfold maxLen at hc2
  have hcI : (D.length : Int) ≤ 9223372036854775807 := by omega
  clear h1 h2 ha hc1 hc2
  go_enter Try.func25, Try.ntmps25
  go_wp2
  go_loopw [6, 5] (fun i o wr => ∃ (j : Nat) (G : Option Nat), j ≤ D.length ∧ i = .int .i64 (j : Int) ∧ Rw wr o G (dL (D.take j) z) ∧ Below w.heap.size w wr ∧ ∀ g, G = some g → w.heap.size ≤ g) (fun i _ _ => D.length - (intOf i).toNat)
  case atStart => exact ⟨0, none, Nat.zero_le _, rfl, Rw.nil _, Below.refl _ _, fun g e => (by cases e)⟩
  case round =>
    obtain ⟨j, G, hj, rfl, hr, hb, hg⟩ := hrel
    have c1 : wr.cell? ⟨f, 1, none⟩ = some (.slice a D.length n) := (HR.out.1.below hb).cell 1
    by_cases hlt : j < D.length
    · have hltI : (j : Int) < (D.length : Int) := by omega
      obtain rfl := HA.out j hlt
      obtain ⟨x0, x1⟩ := (HR.out.2.kept (kp_below (S := fun _ => False) hb) (fun e => e)).cells j hlt
      have ht := dL_take (z := z) hlt
      have hln := dL_len (D.take j) z
      rw [List.length_take] at hln
      by_cases he : D[j].k = z
      · have d0 : (D[j].k == z) = true := by simpa using he
        rw [if_pos he] at ht
        have HT := Lib.hid ht
        obtain ⟨v', w4, G4, q1, q2, q3, q4⟩ := app_one wr _ G _ D[j].p hr (by omega)
        obtain ⟨a2, n2, e2, _⟩ := hr.form
        obtain ⟨a3, n3, e3, _⟩ := q2.form
        rw [e2] at q1
        rw [e3] at q1 q2
        subst e2
        have H4 : Hid (Rw w4 (.slice a3 (dL (D.take j) z ++ [D[j].p]).length n3) G4 (dL (D.take (j + 1)) z) ∧ Below w.heap.size w w4 ∧ ∀ g, G4 = some g → w.heap.size ≤ g) := Lib.hid ⟨by rw [ht]; exact q2, hb.trans (q3.below hb.size (fun i e => hg i e.symm)), fun g e => by
          rcases q4 with h | h
          · rw [h] at e; exact hg g e
          · rw [h] at e; cases e; have := hb.size; omega⟩
        generalize (dL (D.take j) z ++ [D[j].p]).length = m3 at *
        generalize (dL (D.take j) z).length = m1 at *
        generalize D[j] = x at *
        clear he ht hr hb hg q2 q3 q4 e3 hln HT
        go_wp2
        go_roundw
        case rel => exact ⟨j + 1, G4, by omega, by go_num, H4.out.1, H4.out.2.1, H4.out.2.2⟩
        case measure => simp [intOf]; omega
      · have d0 : (D[j].k == z) = false := by simpa using he
        rw [if_neg he] at ht
        have H4 : Hid (Rw wr u5 G (dL (D.take (j + 1)) z) ∧ Below w.heap.size w wr ∧ ∀ g, G = some g → w.heap.size ≤ g) := Lib.hid ⟨by rw [ht]; exact hr, hb, hg⟩
        obtain ⟨a2, n2, e2, _⟩ := hr.form
        generalize D[j] = x at *
        clear he ht hr hb hg hln
        go_wp2
        go_roundw
        case rel => exact ⟨j + 1, G, by omega, by go_num, H4.out.1, H4.out.2.1, H4.out.2.2⟩
        case measure => simp [intOf]; omega
    · obtain rfl : j = D.length := by omega
      rw [List.take_length] at hr
      obtain ⟨a2, n2, e2, _⟩ := hr.form
      have H4 := Lib.hid (And.intro hr (And.intro hb hg))
      clear hr hb hg
      go_wp2
      go_ret
      exact ⟨H4.out.2.1, _, G, rfl, H4.out.1, H4.out.2.2⟩
/-- The best core of those from the j-th on. -/
def Bst (c m : Nat) (n : Nat → Nat) (t : Nat) (b : Int) : Prop := (b = -1 ∧ ∀ j, t ≤ j → j < c → bt m j = false) ∨ ∃ k : Nat, b = (k : Int) ∧ t ≤ k ∧ k < c ∧ bt m k = true ∧ ∀ j, t ≤ j → j < c → bt m j = true → n k ≤ n j ∧ (j < k → n k < n j)
theorem bst_few {c m : Nat} {n : Nat → Nat} {b : Int} (h : Bst c m n 0 b) : few c m n = b := by
  rcases h with ⟨rfl, h⟩ | ⟨k, rfl, _, h1, h2, h3⟩
  · refine few_eq_none (few_none.2 (List.eq_nil_iff_forall_not_mem.2 (fun j hj => ?_)))
    obtain ⟨g1, g2⟩ := ws_mem.1 hj
    rw [h j (Nat.zero_le _) g1] at g2
    cases g2
  · refine few_eq_some (few_is (ws_mem.2 ⟨h1, h2⟩) (fun j hj => ?_) (fun j hj hjk => ?_))
    · obtain ⟨g1, g2⟩ := ws_mem.1 hj
      exact (h3 j (Nat.zero_le _) g1 g2).1
    · obtain ⟨g1, g2⟩ := ws_mem.1 hj
      exact (h3 j (Nat.zero_le _) g1 g2).2 hjk
theorem bst_no {c m : Nat} {n : Nat → Nat} {t : Nat} {b : Int} (h : Bst c m n (t + 1) b) (ht : bt m t = false) : Bst c m n t b := by
  rcases h with ⟨rfl, h⟩ | ⟨k, rfl, h0, h1, h2, h3⟩
  · refine .inl ⟨rfl, fun j h1 h2 => ?_⟩
    by_cases e : j = t
    · rw [e]; exact ht
    · exact h j (by omega) h2
  · refine .inr ⟨k, rfl, by omega, h1, h2, fun j g1 g2 g3 => h3 j ?_ g2 g3⟩
    by_cases e : j = t
    · rw [e, ht] at g3; cases g3
    · omega
theorem bst_new {c m : Nat} {n : Nat → Nat} {t : Nat} {b : Int} (h : Bst c m n (t + 1) b) (htc : t < c) (ht : bt m t = true) (hb : b < 0 ∨ n t ≤ n b.toNat) : Bst c m n t (t : Int) := by
  refine .inr ⟨t, rfl, Nat.le_refl _, htc, ht, fun j g1 g2 g3 => ⟨?_, fun e => by omega⟩⟩
  by_cases e : j = t
  · rw [e]; exact Nat.le_refl _
  · rcases h with ⟨rfl, h⟩ | ⟨k, rfl, h0, h1, h2, h3⟩
    · rw [h j (by omega) g2] at g3; cases g3
    · have := (h3 j (by omega) g2 g3).1
      rcases hb with hb | hb
      · omega
      · simp at hb; omega
theorem bst_old {c m : Nat} {n : Nat → Nat} {t : Nat} {b : Int} (h : Bst c m n (t + 1) b) (hb0 : 0 ≤ b) (hb : n b.toNat < n t) : Bst c m n t b := by
  rcases h with ⟨rfl, h⟩ | ⟨k, rfl, h0, h1, h2, h3⟩
  · omega
  · simp at hb
    refine .inr ⟨k, rfl, by omega, h1, h2, fun j g1 g2 g3 => ?_⟩
    by_cases e : j = t
    · subst e; exact ⟨Nat.le_of_lt hb, fun _ => hb⟩
    · exact h3 j (by omega) g2 g3
theorem bst_lt {c m : Nat} {n : Nat → Nat} {t : Nat} {b : Int} (h : Bst c m n t b) : -1 ≤ b ∧ b < (c : Int) ∧ (b < 0 ∨ ∃ k : Nat, b = (k : Int) ∧ k < c) := by
  rcases h with ⟨rfl, h⟩ | ⟨k, rfl, h0, h1, h2, h3⟩
  · exact ⟨by omega, by omega, .inl (by omega)⟩
  · exact ⟨by omega, by omega, .inr ⟨k, rfl, h1⟩⟩
theorem rfew_any (w : World) (h : Rs w f r c D) (hl : D.length ≤ 90000) (hc8 : c ≤ 8) (m : Nat) (hm : m < 4294967296) : Calls Try.prog 32 #[pv f, uv m] w fun e w' => e = .returned (.int .i64 (few c m (fun k => (dL D (k : Int)).length))) ∧ Below w.heap.size w w' := by
  have HR := Lib.hid h
  have HI := Lib.hid (fun W (hb : Below w.heap.size w W) (z : Int) => rin_any W (h.below hb) hc8 z m hm)
  have HL : Hid (∀ W, Below w.heap.size w W → ∀ z : Int, Calls Try.prog 25 #[pv f, .int .i64 z] W fun e w' => Below w.heap.size w w' ∧ ∃ a n, e = .returned (.slice a (dL D z).length n)) := Lib.hid (fun W hb z => (rlist_any W (h.below hb) hl z).mono (by
    rintro e w' ⟨hb2, u, G, rfl, hr, _⟩
    obtain ⟨a, n, rfl, _⟩ := hr.form
    exact ⟨hb.trans (hb2.mono hb.size), a, n, rfl⟩))
  have c0 : w.cell? ⟨f, 0, none⟩ = some (.int .i64 (c : Int)) := by
    obtain ⟨v, h1, h2⟩ := h
    exact h1.cell 0
  have HN : Hid (∀ z, (dL D z).length ≤ 90000) := Lib.hid (fun z => Nat.le_trans (dL_len D z) hl)
  have hcI : (c : Int) ≤ 8 := by omega
  have HB0 : Hid (Bst c m (fun k => (dL D (k : Int)).length) c (-1)) := Lib.hid (.inl ⟨rfl, fun j h1 h2 => by omega⟩)
  clear h
  go_enter Try.func32, Try.ntmps32
  go_wp2
  go_loopw [6, 5] (fun i b wr => ∃ (t : Nat) (y z : Int), t ≤ c ∧ y = (t : Int) - 1 ∧ i = .int .i64 y ∧ b = .int .i64 z ∧ Bst c m (fun k => (dL D (k : Int)).length) t z ∧ Below w.heap.size w wr) (fun i _ _ => (intOf i + 1).toNat)
  case atStart => exact ⟨c, (c : Int) - 1, -1, Nat.le_refl _, rfl, rfl, rfl, HB0.out, Below.refl _ _⟩
  case round =>
    obtain ⟨t, y, z, ht, hy, rfl, rfl, hB, hb⟩ := hrel
    cases t with
    | zero =>
      have hy2 : y = -1 := by omega
      have d0 : decide (0 ≤ y) = false := decide_eq_false (by omega)
      have HE := Lib.hid (And.intro (bst_few hB) hb)
      clear hB hb hy hy2
      go_wp2
      go_ret
      exact ⟨by rw [HE.out.1]; rfl, HE.out.2⟩
    | succ t =>
      obtain rfl : y = (t : Int) := by omega
      clear hy
      have hIn := HI.out wr hb (t : Int)
      rw [hasC_nat, show decide (t < c) = true from decide_eq_true (by omega), Bool.true_and] at hIn
      have hLt := HL.out wr hb (t : Int)
      have hl1 := HN.out (t : Int)
      have hlt := bst_lt hB
      have HBd := Lib.hid hb
      have HBs := Lib.hid hB
      have HT : Hid (t < c) := Lib.hid (by omega)
      have hz1 : -1 ≤ z := hlt.1
      have hz2 : z ≤ 8 := by omega
      have htI : (t : Int) ≤ 8 := by omega
      clear hB hb
      cases hbt : bt m t with
      | false =>
        rw [hbt] at hIn
        have HIn := Lib.hid hIn
        have HX := Lib.hid (bst_no HBs.out hbt)
        clear hIn hLt hlt hbt hl1
        go_wp2_with (go_at_call 33; (with_reducible refine HIn.out.mono ?_); rintro e w1 ⟨rfl, rfl⟩)
        go_roundw
        case rel => exact ⟨t, (t : Int) - 1, z, by omega, rfl, by go_num, rfl, HX.out, HBd.out⟩
        case measure => simp [intOf]
      | true =>
        rw [hbt] at hIn
        have HIn := Lib.hid hIn
        by_cases hz : z < 0
        · have d0 : decide (z < 0) = true := decide_eq_true hz
          have HX := Lib.hid (bst_new HBs.out HT.out hbt (.inl hz))
          clear hIn hLt hlt hbt hl1
          go_wp2_with (go_at_call 33; (with_reducible refine HIn.out.mono ?_); rintro e w1 ⟨rfl, rfl⟩)
          go_roundw
          case rel => exact ⟨t, (t : Int) - 1, (t : Int), by omega, rfl, by go_num, rfl, HX.out, HBd.out⟩
          case measure => simp [intOf]
        · obtain ⟨kb, rfl⟩ : ∃ kb : Nat, z = (kb : Int) := ⟨z.toNat, by omega⟩
          have d0 : decide ((kb : Int) < 0) = false := decide_eq_false hz
          have HLt := Lib.hid hLt
          have HX : Hid (∀ Z, (dL D (t : Int)).length ≤ (dL D (kb : Int)).length ∧ Z = (t : Int) ∨ (dL D (kb : Int)).length < (dL D (t : Int)).length ∧ Z = (kb : Int) → Bst c m (fun k => (dL D (k : Int)).length) t Z) := Lib.hid (by
            rintro Z (⟨h1, rfl⟩ | ⟨h1, rfl⟩)
            · exact bst_new HBs.out HT.out hbt (.inr h1)
            · exact bst_old HBs.out (by omega) h1)
          by_cases hle : (dL D (t : Int)).length ≤ (dL D (kb : Int)).length
          · have d1 : decide (((dL D (t : Int)).length : Int) ≤ ((dL D (kb : Int)).length : Int)) = true := decide_eq_true (by omega)
            have d2 : decide ((dL D (t : Int)).length ≤ (dL D (kb : Int)).length) = true := decide_eq_true hle
            have HY := Lib.hid (HX.out _ (.inl ⟨hle, rfl⟩))
            clear hIn hLt hlt hbt hl1 hle hz
            go_wp2_with (first
              | (go_at_call 33; (with_reducible refine HIn.out.mono ?_); rintro e w1 ⟨rfl, rfl⟩)
              | (go_at_call 25; first
                | ((with_reducible refine HLt.out.mono ?_); rintro e w2 ⟨hb2, a2, n2, rfl⟩; have HL2 := Lib.hid (HL.out w2 hb2 (kb : Int)); clear hb2)
                | ((with_reducible refine HL2.out.mono ?_); rintro e w3 ⟨hb3, a3, n3, rfl⟩; have HB3 := Lib.hid hb3; clear hb3)))
            go_roundw
            case rel => exact ⟨t, (t : Int) - 1, (t : Int), by omega, rfl, by go_num, rfl, HY.out, HB3.out⟩
            case measure => simp [intOf]
          · have d1 : decide (((dL D (t : Int)).length : Int) ≤ ((dL D (kb : Int)).length : Int)) = false := decide_eq_false (by omega)
            have d2 : decide ((dL D (t : Int)).length ≤ (dL D (kb : Int)).length) = false := decide_eq_false hle
            have HY := Lib.hid (HX.out _ (.inr ⟨by omega, rfl⟩))
            clear hIn hLt hlt hbt hl1 hle hz
            go_wp2_with (first
              | (go_at_call 33; (with_reducible refine HIn.out.mono ?_); rintro e w1 ⟨rfl, rfl⟩)
              | (go_at_call 25; first
                | ((with_reducible refine HLt.out.mono ?_); rintro e w2 ⟨hb2, a2, n2, rfl⟩; have HL2 := Lib.hid (HL.out w2 hb2 (kb : Int)); clear hb2)
                | ((with_reducible refine HL2.out.mono ?_); rintro e w3 ⟨hb3, a3, n3, rfl⟩; have HB3 := Lib.hid hb3; clear hb3)))
            go_roundw
            case rel => exact ⟨t, (t : Int) - 1, (kb : Int), by omega, rfl, by go_num, rfl, HY.out, HB3.out⟩
            case measure => simp [intOf]
theorem rmay_any (w : World) (h : Rs w f r c D) (hl : D.length ≤ 90000) (hc8 : c ≤ 8) (m : Nat) (hm : m < 4294967296) : Calls Try.prog 20 #[pv f, uv m] w fun e w' => e = .returned (.bool (may c m)) ∧ Below w.heap.size w w' := by
  have HF := Lib.hid (rfew_any w h hl hc8 m hm)
  have hf := may_few (c := c) (m := m) (n := fun k => (dL D (k : Int)).length)
  rw [← hf]
  generalize few c m (fun k => (dL D (k : Int)).length) = F at *
  clear h hf
  go_enter Try.func20, Try.ntmps20
  go_wp2_with (go_at_call 32; (with_reducible refine HF.out.mono ?_); rintro e w1 ⟨rfl, hb⟩; have HB := Lib.hid hb; clear hb)
  go_ret
  exact ⟨rfl, HB.out⟩
end Go.Proofs.Ytkjmpkoogjbjnaa.Qux
