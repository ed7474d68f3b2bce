/-
  Rotate, Pick, List.
-/
import Derived.Test.YtkjmpkoogjbjnaaQuj
namespace Go.Proofs.Ytkjmpkoogjbjnaa.Quk
open Go Go.RowKit Go.Shelf Kit Bk Qua Qub Quc Qud Que Quf Qug Quh Qui Quj
set_option linter.unusedVariables false
attribute [local go_sem ↓] app_wrap

theorem Rw.tail {w : World} {g o n cap : Nat} {G : Option Nat} {l : List Int} (h : Rw w (.slice (some ⟨g, o, none⟩) n cap) G l) (h2 : 2 ≤ n) : Rw w (.slice (some ⟨g, o + 1, none⟩) (n - 1) (cap - 1)) G (l.drop 1) := by
  rcases h with ⟨h, _⟩ | ⟨g', o', cap', cs, h, h1, hb, h3, h4, h5, h6⟩
  · cases h
  · cases h
    refine .inr ⟨g, o + 1, cap - 1, cs, by simp, h1, hb, by simp; omega, by omega, by omega, fun i hi => ?_⟩
    rw [show o + 1 + i = o + (i + 1) by omega, h6 (i + 1) (by simp at hi; omega)]
    congr 2
    simp [List.getD]
variable {w : World} {q c : Nat} {S : Nat → Prop} {l : Ls}
theorem rotate_no (h : Qs w q S c l) (z : Int) (hz : (lst c l z).length < 2) : Calls Try.prog 15 #[pv q, .int .i64 z] w fun e w' => e = .returned (.bool false) ∧ w = w' := by
  by_cases hin : 0 ≤ z ∧ z < (c : Int)
  · obtain ⟨k, rfl⟩ : ∃ k : Nat, z = (k : Int) := ⟨z.toNat, by omega⟩
    have hkc : k < c := by omega
    rw [lst_nat hkc] at hz
    have hk8 : k < 8 := by have := h.c8; omega
    obtain ⟨vs, G, h⟩ := h
    have HL := list_at w h k hkc
    obtain ⟨a, n, e, _⟩ := (h.row k hk8).form
    rw [e] at HL
    replace HL := Lib.hid HL
    have d0 : decide (((l k).length : Int) < 2) = true := decide_eq_true (by omega)
    have d1 : decide ((l k).length < 2) = true := decide_eq_true hz
    generalize (l k).length = L at *
    clear h hz hin hkc hk8 e
    go_enter Try.func15, Try.ntmps15
    go_wp2_with (go_at_call 36; (with_reducible refine HL.out.mono ?_); rintro e w1 ⟨rfl, rfl⟩)
    go_ret
    exact ⟨rfl, rfl⟩
  · have HL := Lib.hid (list_no w h z hin)
    clear h hz hin
    go_enter Try.func15, Try.ntmps15
    go_wp2_with (go_at_call 36; (with_reducible refine HL.out.mono ?_); rintro e w1 ⟨rfl, rfl⟩)
    go_ret
    exact ⟨rfl, rfl⟩
set_option maxHeartbeats 1000000 in
theorem rotate_yes (h : Qs w q S c l) (k : Nat) (hkc : k < c) (h2 : 2 ≤ (l k).length) (hl : (l k).length ≤ 90000) : Calls Try.prog 15 #[pv q, .int .i64 (k : Int)] w fun e w' => e = .returned (.bool true) ∧ ∃ S', Kp S w w' ∧ Qs w' q S' c (up l k (rot (l k))) ∧ ∀ j, S' j → S j ∨ w.heap.size ≤ j := by
  have hk8 : k < 8 := by have := h.c8; omega
  have hkI : (k : Int) < 8 := by omega
  obtain ⟨vs, G, h⟩ := h
  have HL := list_at w h k hkc
  obtain ⟨g, o, cap, cs, e, eG, hb, h3, h4, h5, h6⟩ := (h.row k hk8).some (by intro e; rw [e] at h2; simp at h2)
  rw [e] at HL
  replace HL := Lib.hid HL
  have hrow := h.row k hk8
  rw [e] at hrow
  have hd : Below w.heap.size w w.drew := (Below.refl _ _).drew
  have ht := Rw.tail (hrow.below hd) h2
  obtain ⟨v', w4, G', q1, q2, q3, q4⟩ := app_one w.drew _ _ _ ((l k).getD 0 0) ht (by simp; omega)
  obtain ⟨xa, xc, e2, _⟩ := q2.form
  rw [e2] at q1 q2
  obtain ⟨d4, f4, hE⟩ := set_row (h.below hd) hk8 _ G' _ q3 q2 (q4.imp id fun e => ⟨_, e, Nat.le_succ _⟩)
  rw [e] at d4
  have hrot : (l k).drop 1 ++ [(l k).getD 0 0] = rot (l k) := by
    unfold rot
    cases hx : l k with
    | nil => rw [hx] at h2; simp at h2
    | cons a r => simp
  rw [hrot] at hE q1
  have HE : Hid (∃ S', Kp S w (w4.setCell ⟨q, 1 + k, none⟩ (.slice xa (rot (l k)).length xc)) ∧ Qs (w4.setCell ⟨q, 1 + k, none⟩ (.slice xa (rot (l k)).length xc)) q S' c (up l k (rot (l k))) ∧ ∀ j, S' j → S j ∨ w.heap.size ≤ j) := Lib.hid (by
    obtain ⟨S', g1, g2, g3⟩ := hE
    exact ⟨S', (kp_below hd).trans g1 (fun _ e => .inl e), g2, g3⟩)
  have c0 : w.cell? ⟨g, o, none⟩ = some (.int .i64 ((l k).getD 0 0)) := (hb.cell o).trans (by have := h6 0 (by omega); simpa using this)
  have q1' : (appO #[44, 44] 44 #[.slice (some ⟨g, o + 1, none⟩) ((l k).length - 1) (cap - 1), .slice (some ⟨w.heap.size, 0, none⟩) 1 1]).run Try.prog (w.alloc (.cells #[.int .i64 ((l k).getD 0 0)] 3)).drew = .ok (.slice xa (rot (l k)).length xc) w4 := q1
  have d0 : decide (((l k).length : Int) < 2) = false := decide_eq_false (by omega)
  have d1 : decide ((l k).length < 2) = false := decide_eq_false (by omega)
  have hc1 : ¬ cap = 1 := by omega
  unfold maxLen at h4
  generalize (rot (l k)).length = n4 at *
  generalize (l k).getD 0 0 = x at *
  generalize hn : (l k).length = n at *
  have hnI : (1 : Int) ≤ (n : Int) := by omega
  have hn1 : 1 ≤ n := by omega
  have hn0 : 0 < n := by omega
  clear h hrow ht q1 q2 q3 q4 e2 hE hrot e hb h5 h6 eG
  go_enter Try.func15, Try.ntmps15
  go_wp2_with (go_at_call 36; (with_reducible refine HL.out.mono ?_); rintro e w1 ⟨rfl, rfl⟩)
  go_region
  go_wp2
  go_ret
  exact ⟨rfl, HE.out⟩
theorem rotate_any (h : Qs w q S c l) (hl : ∀ k, (l k).length ≤ 90000) (z : Int) : Calls Try.prog 15 #[pv q, .int .i64 z] w fun e w' => e = .returned (.bool (rtB c l z)) ∧ ∃ S', Kp S w w' ∧ Qs w' q S' c (rtL c l z) ∧ ∀ j, S' j → S j ∨ w.heap.size ≤ j := by
  unfold rtL
  cases hb : rtB c l z
  · rw [if_neg (by decide)]
    refine (rotate_no h z (by unfold rtB at hb; simpa using hb)).mono ?_
    rintro e w' ⟨rfl, rfl⟩
    exact ⟨rfl, S, Kp.refl _ _, h, fun j e => .inl e⟩
  · rw [if_pos rfl]
    have h2 : 2 ≤ (lst c l z).length := by unfold rtB at hb; simpa using hb
    have hin : 0 ≤ z ∧ z < (c : Int) := Classical.byContradiction fun hn => by unfold lst at h2; rw [if_neg hn] at h2; simp at h2
    obtain ⟨k, rfl⟩ : ∃ k : Nat, z = (k : Int) := ⟨z.toNat, by omega⟩
    have hkc : k < c := by omega
    rw [lst_nat hkc] at h2
    exact rotate_yes h k hkc h2 (hl k)

theorem pick_none (h : Qs w q S c l) (z : Int) (n : Nat) (hz : (lst c l z).length = 0) : Calls Try.prog 26 #[pv q, .int .i64 z, uv n] w fun e w' => e = .returned (.int .i64 0) ∧ w = w' := by
  by_cases hin : 0 ≤ z ∧ z < (c : Int)
  · obtain ⟨k, rfl⟩ : ∃ k : Nat, z = (k : Int) := ⟨z.toNat, by omega⟩
    have hkc : k < c := by omega
    rw [lst_nat hkc] at hz
    have hk8 : k < 8 := by have := h.c8; omega
    obtain ⟨vs, G, h⟩ := h
    have HL := list_at w h k hkc
    obtain ⟨a, m, e, _⟩ := (h.row k hk8).form
    rw [e, hz] at HL
    replace HL := Lib.hid HL
    clear h hz hin hkc hk8 e
    go_enter Try.func26, Try.ntmps26
    go_wp2_with (go_at_call 36; (with_reducible refine HL.out.mono ?_); rintro e w1 ⟨rfl, rfl⟩)
    go_ret
    exact ⟨rfl, rfl⟩
  · have HL := Lib.hid (list_no w h z hin)
    clear h hz hin
    go_enter Try.func26, Try.ntmps26
    go_wp2_with (go_at_call 36; (with_reducible refine HL.out.mono ?_); rintro e w1 ⟨rfl, rfl⟩)
    go_ret
    exact ⟨rfl, rfl⟩
theorem pick_some (h : Qs w q S c l) (k n : Nat) (hn : n < 4294967296) (hkc : k < c) (h1 : 1 ≤ (l k).length) (hl : (l k).length ≤ 90000) : Calls Try.prog 26 #[pv q, .int .i64 (k : Int), uv n] w fun e w' => e = .returned (.int .i64 ((l k).getD (n % (l k).length) 0)) ∧ w = w' := by
  have hk8 : k < 8 := by have := h.c8; omega
  obtain ⟨vs, G, h⟩ := h
  have HL := list_at w h k hkc
  obtain ⟨g, o, cap, cs, e, eG, hb, h3, h4, h5, h6⟩ := (h.row k hk8).some (by intro e; rw [e] at h1; simp at h1)
  rw [e] at HL
  replace HL := Lib.hid HL
  have hmod : n % (l k).length < (l k).length := Nat.mod_lt _ h1
  have c0 : w.cell? ⟨g, o + n % (l k).length, none⟩ = some (.int .i64 ((l k).getD (n % (l k).length) 0)) := (hb.cell _).trans (h6 _ hmod)
  have d0 : (((l k).length : Int) == 0) = false := beq_eq_false_iff_ne.2 (by omega)
  have ew : IntKind.wrap .u32 ((l k).length : Int) = ((l k).length : Int) := by
    simp [IntKind.wrap, IntKind.bits, IntKind.signed]
    omega
  have er : ((n : Int)).tmod ((l k).length : Int) = ((n % (l k).length : Nat) : Int) := by
    rw [Int.tmod_eq_emod_of_nonneg (Int.natCast_nonneg n)]; simp
  have hrI : ((n % (l k).length : Nat) : Int) < ((l k).length : Int) := by omega
  have hL0 : ¬ ((l k).length : Int) = 0 := by omega
  generalize (l k).getD (n % (l k).length) 0 = x at *
  generalize n % (l k).length = r at *
  generalize (l k).length = L at *
  clear h e hb h6 h5 eG h4
  go_enter Try.func26, Try.ntmps26
  go_wp2_with (go_at_call 36; (with_reducible refine HL.out.mono ?_); rintro e w1 ⟨rfl, rfl⟩)
  go_ret
  exact ⟨rfl, rfl⟩
theorem pick_any (h : Qs w q S c l) (hl : ∀ k, (l k).length ≤ 90000) (z : Int) (n : Nat) (hn : n < 4294967296) : Calls Try.prog 26 #[pv q, .int .i64 z, uv n] w fun e w' => e = .returned (.int .i64 (pk c l z n)) ∧ w = w' := by
  by_cases h0 : (lst c l z).length = 0
  · have e : pk c l z n = 0 := by unfold pk; rw [List.eq_nil_of_length_eq_zero h0]; rfl
    rw [e]
    exact pick_none h z n h0
  · have hin : 0 ≤ z ∧ z < (c : Int) := Classical.byContradiction fun hn => by unfold lst at h0; rw [if_neg hn] at h0; simp at h0
    obtain ⟨k, rfl⟩ : ∃ k : Nat, z = (k : Int) := ⟨z.toNat, by omega⟩
    have hkc : k < c := by omega
    have e : pk c l (k : Int) n = (l k).getD (n % (l k).length) 0 := by unfold pk; rw [lst_nat hkc]; rfl
    rw [lst_nat hkc] at h0
    rw [e]
    exact pick_some h k n hn hkc (by omega) (hl k)
theorem clone_any (v : Value) (G : Option Nat) (x : List Int) (h : Rw w v G x) (hl : x.length ≤ 90000) : Calls Try.prog 40 #[v] w fun e w' => Below w.heap.size w w' ∧ ∃ u, e = .returned u ∧ w'.ownsRow w.heap.size 3 1 u x.length (ints x) := by
  rcases h with ⟨rfl, rfl, _⟩ | ⟨g, o, cap, cs, rfl, _, hb, h1, h2, h3, h4⟩
  · refine (Shl.slices_Clone_int_nil 0 0 w).mono ?_
    rintro e w' ⟨rfl, rfl⟩
    exact ⟨Below.refl _ _, _, rfl, World.ownsRow_nil _ _ _ _⟩
  · refine (Shl.slices_Clone_int g o x.length cap x w (Nat.le_refl _) (by omega) (fun j hj => (hb.cell _).trans (h4 j hj))).mono ?_
    rintro e w' ⟨v', rfl, ho, -, hb'⟩
    rw [List.take_length] at ho
    exact ⟨hb', v', rfl, ho⟩
theorem qlist_any (h : Qs w q S c l) (hl : ∀ k, (l k).length ≤ 90000) (z : Int) : Calls Try.prog 24 #[pv q, .int .i64 z] w fun e w' => Below w.heap.size w w' ∧ ∃ u, e = .returned u ∧ w'.ownsRow w.heap.size 3 1 u (lst c l z).length (ints (lst c l z)) := by
  obtain ⟨v, G, hr, hc⟩ : ∃ v G, Rw w v G (lst c l z) ∧ Calls Try.prog 36 #[pv q, .int .i64 z] w fun e w' => e = .returned v ∧ w = w' := by
    by_cases hin : 0 ≤ z ∧ z < (c : Int)
    · obtain ⟨k, rfl⟩ : ∃ k : Nat, z = (k : Int) := ⟨z.toNat, by omega⟩
      have hkc : k < c := by omega
      have hk8 : k < 8 := by have := h.c8; omega
      obtain ⟨vs, G, h⟩ := h
      rw [lst_nat hkc]
      exact ⟨vs k, G k, h.row k hk8, list_at w h k hkc⟩
    · have e : lst c l z = [] := by unfold lst; rw [if_neg hin]
      rw [e]
      exact ⟨_, none, Rw.nil w, list_no w h z hin⟩
  have hll : (lst c l z).length ≤ 90000 := by
    unfold lst
    split
    · exact hl _
    · simp
  have HC := Lib.hid (clone_any v G _ hr hll)
  have HL := Lib.hid hc
  clear h hl hr hc hll
  generalize lst c l z = x at *
  go_enter Try.func24, Try.ntmps24
  go_wp2_with (first | (go_at_call 36; (with_reducible refine HL.out.mono ?_); rintro e w1 ⟨rfl, rfl⟩) | (go_at_call 40; (with_reducible refine HC.out.mono ?_); rintro e w2 ⟨hb, u, rfl, ho⟩))
  go_ret
  exact ⟨hb, _, rfl, ho⟩
end Go.Proofs.Ytkjmpkoogjbjnaa.Quk
