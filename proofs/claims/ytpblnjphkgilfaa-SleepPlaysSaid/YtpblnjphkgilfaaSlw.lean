/-
  The document's own Add and Tick.
-/
import Derived.Test.YtpblnjphkgilfaaSlv
namespace Go.Proofs.Ytpblnjphkgilfaa.Slw
open Go Go.RowKit Go.Shelf Kit Bk Sla Slb Slc Sld Sle Slf Slg Slh Sli Slj Slk Sll Sln Slo Slp Slq Slr Sls Slv
set_option linter.unusedVariables false
attribute [local go_sem ↓] app_wrap

/-- An insertion, as far as it has gone. -/
def Ia (D : St) (p : Int) (n j : Nat) (d : Bool) (E : St) : Prop := (d = false ∧ E = D.take j ∧ ∀ x ∈ D.take j, x.1 < p) ∨ (d = true ∧ E = ins (D.take j) p n ∧ ∀ y ∈ D.drop j, p < y.1)
variable {D E : St} {p : Int} {n j : Nat}
theorem ins_low {A : St} (h : ∀ x ∈ A, x.1 < p) (n : Nat) : ins A p n = A ++ [(p, n)] := by
  unfold ins
  rw [List.filter_eq_self.2 (fun x hx => decide_eq_true (h x hx)), List.filter_eq_nil_iff.2 (fun x hx => by have := h x hx; simp; omega)]
theorem ins_snoc (A : St) {x : Sl} (h : p < x.1) (n : Nat) : ins (A ++ [x]) p n = ins A p n ++ [x] := by
  have e1 : ([x].filter fun y : Sl => decide (y.1 < p)) = [] := List.filter_eq_nil_iff.2 (fun y hy => by rw [List.mem_singleton] at hy; subst hy; simp; omega)
  have e2 : ([x].filter fun y : Sl => decide (p < y.1)) = [x] := List.filter_eq_self.2 (fun y hy => by rw [List.mem_singleton] at hy; subst hy; exact decide_eq_true h)
  unfold ins
  rw [List.filter_append, List.filter_append, e1, e2]
  simp
theorem rise_after (ho : Ok D) (hj : j < D.length) : ∀ y ∈ D.drop (j + 1), D[j].1 < y.1 := by
  intro y hy
  have h := ho.up
  rw [← List.take_append_drop j D, List.drop_eq_getElem_cons hj] at h
  exact (List.pairwise_cons.1 (List.pairwise_append.1 h).2.1).1 y hy
theorem Ia.first (h : Ia D p n j false E) (ho : Ok D) (hj : j < D.length) (hp : p < pd D j) : Ia D p n (j + 1) true (E ++ [(p, n)] ++ [(pd D j, tc D j)]) := by
  rcases h with ⟨_, rfl, h1⟩ | ⟨h, _⟩
  · rw [pd_at hj] at hp
    refine .inr ⟨rfl, ?_, fun y hy => ?_⟩
    · rw [List.take_succ_eq_append_getElem hj, ins_snoc _ hp, ins_low h1, pd_at hj, tc_at hj]
    · have := rise_after ho hj y hy
      omega
  · cases h
theorem Ia.low (h : Ia D p n j false E) (hj : j < D.length) (hp : pd D j < p) : Ia D p n (j + 1) false (E ++ [(pd D j, tc D j)]) := by
  rcases h with ⟨_, rfl, h1⟩ | ⟨h, _⟩
  · refine .inl ⟨rfl, ?_, fun x hx => ?_⟩
    · rw [List.take_succ_eq_append_getElem hj, pd_at hj, tc_at hj]
    · rw [List.take_succ_eq_append_getElem hj] at hx
      rw [pd_at hj] at hp
      rcases List.mem_append.1 hx with hx | hx
      · exact h1 x hx
      · rw [List.mem_singleton] at hx; subst hx; exact hp
  · cases h
theorem Ia.more (h : Ia D p n j true E) (hj : j < D.length) : Ia D p n (j + 1) true (E ++ [(pd D j, tc D j)]) := by
  rcases h with ⟨h, _⟩ | ⟨_, rfl, h1⟩
  · cases h
  · have hm := h1 D[j] (by rw [List.drop_eq_getElem_cons hj]; exact List.mem_cons_self)
    refine .inr ⟨rfl, ?_, fun y hy => h1 y (by rw [List.drop_eq_getElem_cons hj]; exact List.mem_cons_of_mem _ hy)⟩
    rw [List.take_succ_eq_append_getElem hj, ins_snoc _ hm, pd_at hj, tc_at hj]
theorem Ia.len {d : Bool} (h : Ia D p n j d E) : E.length ≤ D.length + 1 := by
  rcases h with ⟨_, rfl, _⟩ | ⟨_, rfl, _⟩
  · rw [List.length_take]; omega
  · have := len_ins (D.take j) p n
    rw [List.length_take] at this
    omega
theorem Ia.endT (h : Ia D p n D.length true E) : E = ins D p n := by
  rcases h with ⟨h, _⟩ | ⟨_, h1, _⟩
  · cases h
  · rw [h1, List.take_length]
theorem Ia.endF (h : Ia D p n D.length false E) : E ++ [(p, n)] = ins D p n := by
  rcases h with ⟨_, h1, h2⟩ | ⟨h, _⟩
  · rw [List.take_length] at h1 h2
    subst h1
    rw [ins_low h2]
  · cases h
variable {w w' : World} {r : Nat}
theorem radd_arg (w : World) (r : Nat) (p : Int) (n : Nat) (h : p < 1 ∨ n < 1) : Calls Try.prog 9 #[pv r, .int .i64 p, uv n] w fun e w' => e = .returned (.int .i64 2) ∧ w = w' := by
  by_cases h1 : p < 1
  · have d1 : decide (p < 1) = true := decide_eq_true h1
    clear h h1
    go_enter Try.func9, Try.ntmps9
    go_wp2
    go_ret
    exact ⟨rfl, rfl⟩
  · obtain rfl : n = 0 := by omega
    have d1 : decide (p < 1) = false := decide_eq_false h1
    clear h h1
    go_enter Try.func9, Try.ntmps9
    go_wp2
    go_ret
    exact ⟨rfl, rfl⟩
theorem radd_there (h : Rs w r D) (p : Int) (n : Nat) (h1 : 1 ≤ p) (h2 : 1 ≤ n) (hs : slp D p = true) : Calls Try.prog 9 #[pv r, .int .i64 p, uv n] w fun e w' => e = .returned (.int .i64 140) ∧ w = w' := by
  have HL := rleft_any h p
  rw [hs] at HL
  replace HL := Lib.hid HL
  have d1 : decide (p < 1) = false := decide_eq_false (by omega)
  have d2 : decide ((n : Int) < 1) = false := decide_eq_false (by omega)
  have d3 : decide (n < 1) = false := decide_eq_false (by omega)
  have d4 : (n == 0) = false := beq_eq_false_iff_ne.2 (by omega)
  clear h h1 h2 hs
  go_enter Try.func9, Try.ntmps9
  go_wp2_with (go_at_call 17; (with_reducible refine HL.out.mono ?_); rintro e w1 ⟨rfl, rfl⟩)
  go_ret
  exact ⟨rfl, rfl⟩
set_option maxRecDepth 100000 in
set_option maxHeartbeats 2000000 in
theorem radd_new (h : Rs w r D) (ho : Ok D) (hl : D.length ≤ 80000) (p : Int) (n : Nat) (h1 : 1 ≤ p) (h2 : 1 ≤ n) (hs : slp D p = false) : Calls Try.prog 9 #[pv r, .int .i64 p, uv n] w fun e w' => e = .returned (.int .i64 0) ∧ Rs w' r (ins D p n) ∧ Kp (fun j => j = r) w w' := by
  have hne : ∀ j, j < D.length → pd D j ≠ p := fun j hj e => by
    rw [pd_at hj] at e
    have : slp D p = true := slp_mem.2 (List.mem_map.2 ⟨D[j], List.getElem_mem hj, e⟩)
    rw [hs] at this
    cases this
  have HL := rleft_any h p
  rw [hs] at HL
  replace HL := Lib.hid HL
  have d1 : decide (p < 1) = false := decide_eq_false (by omega)
  have d2 : decide ((n : Int) < 1) = false := decide_eq_false (by omega)
  have d3 : decide (n < 1) = false := decide_eq_false (by omega)
  have d4 : (n == 0) = false := beq_eq_false_iff_ne.2 (by omega)
  have HG := Lib.hid (Gb.start h)
  have HR := Lib.hid h
  have HO := Lib.hid (And.intro ho hne)
  have hrl := h.lt
  have hlI : (D.length : Int) ≤ 80000 := by omega
  clear h h1 h2 hs ho hne
  go_enter Try.func9, Try.ntmps9
  go_wp2_with (go_at_call 17; (with_reducible refine HL.out.mono ?_); rintro e w1 ⟨rfl, rfl⟩)
  go_loopw [9, 10, 11] (fun u db i wr => ∃ (j : Nat) (u' : Value) (d : Bool) (E : St), u' = u ∧ db = .bool d ∧ j ≤ D.length ∧ i = .int .i64 (j : Int) ∧ Gb w wr r D u' E ∧ Ia D p n j d E) (fun _ _ i _ => D.length - (intOf i).toNat)
  case atStart => exact ⟨0, _, false, [], rfl, rfl, Nat.zero_le _, rfl, HG.out, .inl ⟨rfl, rfl, fun x hx => by cases hx⟩⟩
  case round =>
    obtain ⟨j, u', d, E, rfl, rfl, hj, rfl, hg, hia⟩ := hrel
    obtain ⟨a, c, hc, ⟨hc1, hc2⟩, hrow⟩ := hg.rs.open
    have hel := hia.len
    by_cases hlt : j < D.length
    · have hltI : (j : Int) < (D.length : Int) := by omega
      obtain ⟨g, rfl, c0, c1⟩ := hrow j hlt
      by_cases hp : p < pd D j
      · have e1 : decide (p < pd D j) = true := decide_eq_true hp
        cases d
        · obtain ⟨u2, w2, q1, hg2⟩ := hg.new (by omega) HR.out p n
          obtain ⟨a2, c2, hc', ⟨hc1', hc2'⟩, hrow'⟩ := hg2.rs.open
          obtain ⟨g2, rfl, c0', c1'⟩ := hrow' j hlt
          obtain ⟨u3, w3, q2, hg3⟩ := hg2.new (by rw [List.length_append]; simp; omega) HR.out (pd D j) (tc D j)
          have HGn := Lib.hid (And.intro hg3 (hia.first HO.out.1 hlt hp))
          clear hp hg hg2 hg3 hrow hrow' hc1 hc2 hc1' hc2' hia hel
          generalize pd D j = x at *
          generalize tc D j = t at *
          go_wp2
          go_roundw
          case rel => exact ⟨j + 1, _, true, _, rfl, rfl, by omega, by go_num, HGn.out.1, HGn.out.2⟩
          case measure => simp [intOf]; omega
        · obtain ⟨u3, w3, q2, hg3⟩ := hg.new (by omega) HR.out (pd D j) (tc D j)
          have HGn := Lib.hid (And.intro hg3 (hia.more hlt))
          clear hp hg hg3 hrow hc1 hc2 hia hel
          generalize pd D j = x at *
          generalize tc D j = t at *
          go_wp2
          go_roundw
          case rel => exact ⟨j + 1, _, true, _, rfl, rfl, by omega, by go_num, HGn.out.1, HGn.out.2⟩
          case measure => simp [intOf]; omega
      · have e1 : decide (p < pd D j) = false := decide_eq_false hp
        have hpl : pd D j < p := by have := HO.out.2 j hlt; omega
        cases d
        · obtain ⟨u3, w3, q2, hg3⟩ := hg.new (by omega) HR.out (pd D j) (tc D j)
          have HGn := Lib.hid (And.intro hg3 (hia.low hlt hpl))
          clear hp hpl hg hg3 hrow hc1 hc2 hia hel
          generalize pd D j = x at *
          generalize tc D j = t at *
          go_wp2
          go_roundw
          case rel => exact ⟨j + 1, _, false, _, rfl, rfl, by omega, by go_num, HGn.out.1, HGn.out.2⟩
          case measure => simp [intOf]; omega
        · rcases hia with ⟨hd, _⟩ | ⟨_, _, hd⟩
          · cases hd
          · have := hd D[j] (by rw [List.drop_eq_getElem_cons hlt]; exact List.mem_cons_self)
            rw [pd_at hlt] at hpl
            omega
    · obtain rfl : j = D.length := by omega
      cases d
      · obtain ⟨u2, w2, q1, hg2⟩ := hg.new (by omega) HR.out p n
        rw [hia.endF] at hg2
        obtain ⟨ua, uc, rfl⟩ := own_form hg2.row
        have HE := Lib.hid (hg2.done hrl)
        obtain ⟨a2, c2, hc', _, _⟩ := hg2.rs.open
        have hf : w2.frozen? ⟨r, 0, none⟩ = false := by obtain ⟨v, h1, _⟩ := hg2.rs; exact h1.free 0
        clear hg hg2 hrow hc1 hc2 hia hel
        go_wp2
        go_ret
        exact ⟨rfl, HE.out⟩
      · rw [hia.endT] at hg
        obtain ⟨ua, uc, rfl⟩ := own_form hg.row
        have HE := Lib.hid (hg.done hrl)
        have hf : wr.frozen? ⟨r, 0, none⟩ = false := by obtain ⟨v, h1, _⟩ := hg.rs; exact h1.free 0
        clear hg hrow hc1 hc2 hia hel
        go_wp2
        go_ret
        exact ⟨rfl, HE.out⟩
theorem radd_any (h : Rs w r D) (ho : Ok D) (hl : D.length ≤ 80000) (p : Int) (n : Nat) : Calls Try.prog 9 #[pv r, .int .i64 p, uv n] w fun e w' => e = .returned (.int .i64 ((adE D p n : Nat) : Int)) ∧ Rs w' r (adL D p n) ∧ Kp (fun j => j = r) w w' := by
  by_cases h1 : p < 1 ∨ n < 1
  · rw [(adE_pid h1).1, (adE_pid h1).2]
    refine (radd_arg w r p n h1).mono ?_
    rintro e w' ⟨rfl, rfl⟩
    exact ⟨rfl, h, Kp.refl _ _⟩
  · cases h2 : slp D p
    · rw [(adE_new h1 h2).1, (adE_new h1 h2).2]
      exact radd_new h ho hl p n (by omega) (by omega) h2
    · rw [(adE_in h1 h2).1, (adE_in h1 h2).2]
      refine (radd_there h p n (by omega) (by omega) h2).mono ?_
      rintro e w' ⟨rfl, rfl⟩
      exact ⟨rfl, h, Kp.refl _ _⟩
end Go.Proofs.Ytpblnjphkgilfaa.Slw
