/-
  The document's own table (carryallref05): what it holds; May, Get, Dirty.
-/
import Derived.Test.YtcmlcepdcpbdaaaPt
namespace Go.Proofs.Ytcmlcepdcpbdaaa.Rg
open Go Go.RowKit Kit Bk Tm Ts Tc Ti Tl Th Td Tq Tr Tn En Ov Gd Ho Pt
set_option linter.unusedVariables false
attribute [local go_sem ↓] app_wrap

/-- The reference's table in block q: a list of the entries. -/
def Rf (w : World) (q : Nat) (T : Nat → Option En) : Prop :=
  ∃ v, Blk w q #[v] 35 ∧ Rd w 59 v 6 (ents T 64).length (mcells (ents T 64))
theorem Rf.kept {S : Nat → Prop} {w w' : World} {q : Nat} {T : Nat → Option En} (h : Rf w q T) (hk : Kp S w w') (hq : ¬ S q) (hS : ∀ g cs, Blk w g cs 59 → ¬ S g) : Rf w' q T := by
  obtain ⟨v, h1, h2⟩ := h
  exact ⟨v, h1.kept hk hq, Rd.kept h2 hk hS⟩
theorem Rf.below {w w' : World} {q : Nat} {T : Nat → Option En} (h : Rf w q T) (hb : Below w.heap.size w w') : Rf w' q T := h.kept (S := fun _ => False) (.of_below hb) (fun e => e) (fun _ _ _ e => e)
theorem Rf.lt {w : World} {q : Nat} {T : Nat → Option En} (h : Rf w q T) : q < w.heap.size := by
  obtain ⟨v, h1, _⟩ := h
  exact h1.lt
/-- A step of the other's own leaves it. -/
theorem Rf.beside {w w' : World} {q p : Nat} {T T' : Nat → Option En} (h : Rf w q T) (hM : Mem w p T') (hk : Kp (fun j => j = p) w w') : Rf w' q T := by
  obtain ⟨⟨cs, h3, _⟩, _⟩ := hM
  have h' := h
  obtain ⟨v, h1, _⟩ := h'
  exact h.kept hk (h1.ne h3 (by decide)) (fun g ds hg => hg.ne h3 (by decide))
theorem mem_beside {w w' : World} {q p : Nat} {T T' : Nat → Option En} (hM : Mem w p T') (h : Rf w q T) (hk : Kp (fun j => j = q) w w') : Mem w' p T' := by
  obtain ⟨v, h1, _⟩ := h
  have hM' := hM
  obtain ⟨⟨cs, h3, _⟩, _⟩ := hM'
  exact Mem.kept hM hk (h3.ne h1 (by decide))
/-- A new list laid into it. -/
theorem Rf.put {w : World} {q : Nat} {T T' : Nat → Option En} (h : Rf w q T) {v : Value} (hr : Rd w 59 v 6 (ents T' 64).length (mcells (ents T' 64))) : Rf (w.setCell ⟨q, 0, none⟩ v) q T' ∧ Kp (fun j => j = q) w (w.setCell ⟨q, 0, none⟩ v) := by
  obtain ⟨u, h1, _⟩ := h
  have hk : Kp (fun j => j = q) w (w.setCell ⟨q, 0, none⟩ v) := Kp.set _ _ _ _ rfl
  refine ⟨⟨v, ?_, Rd.kept hr hk (fun g cs hg => hg.ne h1 (by decide))⟩, hk⟩
  have := h1.set 0 v
  simpa using this

theorem may_any (w : World) (x : En) :
    Calls Try.prog 18 #[ev x] w fun e w' => e = .returned (.bool (may x)) ∧ Below w.heap.size w w' := by
  obtain ⟨f, wr, s, c, d⟩ := x
  by_cases h1 : 0 ≤ f
  · have d1 : decide (0 ≤ f) = true := decide_eq_true h1
    by_cases h2 : f < 256
    · have d2 : decide (f ≤ 255) = true := decide_eq_true (by omega)
      have hm : may ⟨f, wr, s, c, d⟩ = !(s && c) := by unfold may; rw [d1, decide_eq_true h2]; rfl
      rw [hm]
      clear hm h1 h2
      cases s <;> cases c
      all_goals
        go_enter Try.func18, Try.ntmps18
        go_wp2
        go_ret
        exact ⟨rfl, (Below.refl _ _).alloc (Nat.le_refl _) _⟩
    · have d2 : decide (f ≤ 255) = false := decide_eq_false (by omega)
      have hm : may ⟨f, wr, s, c, d⟩ = false := by unfold may; rw [d1, decide_eq_false h2]; rfl
      rw [hm]
      clear hm h1 h2
      go_enter Try.func18, Try.ntmps18
      go_wp2
      go_ret
      exact ⟨rfl, (Below.refl _ _).alloc (Nat.le_refl _) _⟩
  · have d1 : decide (0 ≤ f) = false := decide_eq_false h1
    have hm : may ⟨f, wr, s, c, d⟩ = false := by unfold may; rw [d1]; rfl
    rw [hm]
    clear hm h1
    go_enter Try.func18, Try.ntmps18
    go_wp2
    go_ret
    exact ⟨rfl, (Below.refl _ _).alloc (Nat.le_refl _) _⟩

/-- The page that stands at an index. -/
theorem ents_idx {T : Nat → Option En} {i : Nat} (h : i < (ents T 64).length) : ∃ q e, q < 64 ∧ T q = some e ∧ (ents T q).length = i ∧ (ents T 64)[i] = (q, e) := ents_nth 64 i h
set_option maxHeartbeats 2000000 in
theorem rget_any (w : World) (q : Nat) (T : Nat → Option En) (hR : Rf w q T) (i : Int) :
    Calls Try.prog 32 #[.pointer (some ⟨q, 0, none⟩), .int .i64 i] w fun e w' => e = .returned (.tuple #[ev ((atI T i).getD z0), .bool (atI T i).isSome]) ∧ Below w.heap.size w w' := by
  obtain ⟨v, h1, h2⟩ := hR
  have HRd := Lib.hid h2
  obtain ⟨_, ad, cap, rfl, hc1, hc2, _⟩ := h2
  have cq := h1.cell 0
  have hqlt := h1.lt
  have hle := ents_len T 64
  have cqa : ∀ o, (w.alloc o).cell? ⟨q, 0, none⟩ = some (.slice ad (ents T 64).length cap) := fun o => (World.cell?_alloc_lt w o _ hqlt).trans cq
  have HIx : Hid (∀ j (h : j < (ents T 64).length), ∃ q e, q < 64 ∧ T q = some e ∧ (ents T q).length = j ∧ (ents T 64)[j] = (q, e)) := Lib.hid (fun j h => ents_idx h)
  -- where the page stands, if it does
  obtain ⟨m, hm, hno, hyes⟩ : ∃ m, m ≤ (ents T 64).length ∧ (∀ j (h : j < m) q e, (ents T 64)[j]? = some (q, e) → (q : Int) ≠ i) ∧ ((m = (ents T 64).length ∧ atI T i = none) ∨ (m < (ents T 64).length ∧ ∃ q e, (ents T 64)[m]? = some (q, e) ∧ (q : Int) = i ∧ atI T i = some e)) := by
    cases hx : atI T i with
    | none =>
      refine ⟨_, Nat.le_refl _, fun j hj q e hq heq => ?_, .inl ⟨rfl, rfl⟩⟩
      obtain ⟨q', e', h3, h4, h5, h6⟩ := HIx.out j hj
      rw [List.getElem?_eq_getElem hj, h6] at hq
      cases hq
      subst heq
      rw [atI_nat h3, h4] at hx
      cases hx
    | some e =>
      by_cases hi : 0 ≤ i ∧ i < 64
      · obtain ⟨k, rfl⟩ := Int.eq_ofNat_of_zero_le hi.1
        rw [atI_nat (by omega)] at hx
        obtain ⟨hl, hg⟩ := (show ∃ hl : (ents T k).length < (ents T 64).length, (ents T 64)[(ents T k).length] = (k, e) by
          have hl := ents_strict hx (show k < 64 by omega)
          refine ⟨hl, ?_⟩
          obtain ⟨q', e', g1, g2, g3, g4⟩ := HIx.out _ hl
          rw [g4]
          rcases Nat.lt_trichotomy k q' with h5 | h5 | h5
          · have := ents_strict hx h5; omega
          · subst h5; rw [hx] at g2; cases g2; rfl
          · have := ents_strict g2 h5; omega)
        refine ⟨_, Nat.le_of_lt hl, fun j hj q e' hq heq => ?_, .inr ⟨hl, k, e, by rw [List.getElem?_eq_getElem hl, hg], rfl, rfl⟩⟩
        obtain ⟨q', e'', g1, g2, g3, g4⟩ := HIx.out j (by omega)
        rw [List.getElem?_eq_getElem (by omega), g4] at hq
        cases hq
        have hqk : q = k := by omega
        rw [hqk] at g3
        omega
      · rw [atI_out hi] at hx
        cases hx
  obtain ⟨L, hL⟩ : ∃ L, ents T 64 = L := ⟨_, rfl⟩
  rw [hL] at HRd hc1 cq cqa hle hm hno hyes
  obtain ⟨N, hN⟩ : ∃ N, L.length = N := ⟨_, rfl⟩
  have HN := Lib.hid hN
  rw [hN] at hc1 cq cqa hle hm hyes
  rw [hN] at HRd
  obtain ⟨A, hA⟩ : ∃ A, atI T i = A := ⟨_, rfl⟩
  rw [hA] at hyes ⊢
  have HNo := Lib.hid hno
  have HYes := Lib.hid hyes
  have hNi : (N : Int) ≤ 64 := by omega
  clear h1 hL hN hno hyes HIx cq hA
  go_enter Try.func32, Try.ntmps32
  go_wp2
  go_loop [6] (fun j => ∃ k : Nat, k ≤ m ∧ j = .int .i64 (k : Int)) (fun j => m - (intOf j).toNat)
  case atStart => exact ⟨0, Nat.zero_le _, rfl⟩
  case round =>
    obtain ⟨k, hk, rfl⟩ := hrel
    have hRa := Rd.below HRd.out ((Below.refl _ w).alloc (Nat.le_refl _) (.cells #[.int .i64 0, .bool false, .bool false, .bool false, .bool false] 25))
    by_cases hlt : k < m
    · have hlt2 : k < L.length := by rw [HN.out]; omega
      obtain ⟨⟨q2, e2⟩, hq2⟩ : ∃ x, L[k] = x := ⟨_, rfl⟩
      rw [← HN.out] at hRa
      obtain ⟨g, cap', he, _, _, c0, _⟩ := Rd.at_ hRa hlt2 hq2
      rw [HN.out] at he
      cases he
      have hne : ((q2 : Int) == i) = false := beq_eq_false_iff_ne.2 (HNo.out k hlt q2 e2 (by rw [List.getElem?_eq_getElem hlt2, hq2]))
      have hkN : (k : Int) < (N : Int) := by omega
      clear hRa hq2 hlt2
      go_wp2
      go_round
      case rel => exact ⟨k + 1, by omega, by go_num⟩
      case measure => simp [intOf]; omega
    · obtain rfl : k = m := by omega
      rcases HYes.out with ⟨rfl, hn⟩ | ⟨hkl, q2, e2, hq2, heq, hs⟩
      · subst hn
        clear hRa
        go_wp2
        exact bodyPost_ret (v := .tuple #[.agg #[.int .i64 0, .bool false, .bool false, .bool false, .bool false], .bool false]) (by simp [results, Try.results32, go_sem]) rfl ⟨rfl, (by repeat' (first | exact Below.refl _ _ | exact Nat.le_refl _ | refine Below.drew ?_ | refine Below.alloc ?_ (by simp) _ | refine Below.setCell ?_ (by simp) _))⟩
      · have hlt2 : k < L.length := by rw [HN.out]; omega
        rw [List.getElem?_eq_getElem hlt2] at hq2
        rw [← HN.out] at hRa
        obtain ⟨g, cap', he, _, _, c0, c1, c2, c3, c4, c5⟩ := Rd.at_ hRa hlt2 (Option.some.inj hq2)
        rw [HN.out] at he
        cases he
        subst hs
        obtain ⟨ef, ew, es, ec, ed⟩ := e2
        dsimp only at c1 c2 c3 c4 c5
        have c2' : (w.alloc (.cells #[.int .i64 0, .bool false, .bool false, .bool false, .bool false] 25)).cell? ⟨g, k * 6 + 1 + 1, none⟩ = some (.bool ew) := c2
        have c3' : (w.alloc (.cells #[.int .i64 0, .bool false, .bool false, .bool false, .bool false] 25)).cell? ⟨g, k * 6 + 1 + 2, none⟩ = some (.bool es) := c3
        have c4' : (w.alloc (.cells #[.int .i64 0, .bool false, .bool false, .bool false, .bool false] 25)).cell? ⟨g, k * 6 + 1 + 3, none⟩ = some (.bool ec) := c4
        have c5' : (w.alloc (.cells #[.int .i64 0, .bool false, .bool false, .bool false, .bool false] 25)).cell? ⟨g, k * 6 + 1 + 4, none⟩ = some (.bool ed) := c5
        have hne : ((q2 : Int) == i) = true := beq_iff_eq.2 heq
        have hkN : (k : Int) < (N : Int) := by omega
        clear hRa hq2 hlt2 heq c2 c3 c4 c5
        go_wp2
        exact bodyPost_ret (v := .tuple #[.agg #[.int .i64 ef, .bool ew, .bool es, .bool ec, .bool ed], .bool true]) (by simp [results, Try.results32, go_sem]) rfl ⟨rfl, (by repeat' (first | exact Below.refl _ _ | exact Nat.le_refl _ | refine Below.drew ?_ | refine Below.alloc ?_ (by simp) _ | refine Below.setCell ?_ (by simp) _))⟩
end Go.Proofs.Ytcmlcepdcpbdaaa.Rg
