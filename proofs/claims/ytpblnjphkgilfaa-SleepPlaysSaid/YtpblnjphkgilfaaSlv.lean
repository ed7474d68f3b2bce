/-
  The document's own sleepers: a list behind a pointer; Left, Next, Drop.
-/
import Derived.Test.YtpblnjphkgilfaaSlu
namespace Go.Proofs.Ytpblnjphkgilfaa.Slv
open Go Go.RowKit Go.Shelf Kit Bk Sla Slb Slc Sld Sle Slf Slg Slh Sli Slj Slk Sll Sln Slo Slp Slq Slr Sls
set_option linter.unusedVariables false
attribute [local go_sem ↓] app_wrap

/-- The document's sleepers at block r. -/
def Rs (w : World) (r : Nat) (D : St) : Prop := ∃ v, Blk w r #[v] 30 ∧ Sr w v D
variable {w w' : World} {r : Nat} {D : St}
theorem Rs.below (h : Rs w r D) (hb : Below w.heap.size w w') : Rs w' r D := by
  obtain ⟨v, h1, h2⟩ := h
  exact ⟨v, h1.below hb, own_below h2 hb⟩
theorem Rs.lt (h : Rs w r D) : r < w.heap.size := by obtain ⟨v, h1, _⟩ := h; exact h1.lt
/-- What a walk reads: the slice, its records. -/
theorem Rs.open (h : Rs w r D) : ∃ a c, w.cell? ⟨r, 0, none⟩ = some (.slice a D.length c) ∧ (D.length ≤ c ∧ c ≤ maxLen) ∧ (∀ i, i < D.length → ∃ g, a = some ⟨g, 0, none⟩ ∧ w.cell? ⟨g, i * 2, none⟩ = some (.int .i64 (pd D i)) ∧ w.cell? ⟨g, i * 2 + 1, none⟩ = some (uv (tc D i))) := by
  obtain ⟨v, h1, h2⟩ := h
  obtain ⟨a, c, rfl, h3, h4, h5⟩ := sr_cells h2
  refine ⟨a, c, h1.cell 0, ⟨h4, h3⟩, fun i hi => ?_⟩
  obtain ⟨g, e, h6, h7⟩ := h5 i hi
  rw [pd_at hi, tc_at hi]
  exact ⟨g, e, h6, h7⟩
theorem slp_next {i : Nat} (hi : i < D.length) (p : Int) : slp (D.take (i + 1)) p = (slp (D.take i) p || pd D i == p) := by
  rw [List.take_succ_eq_append_getElem hi, slp_app, slp_cons, pd_at hi, slp_nil, Bool.or_false]
theorem found_at {i : Nat} (hi : i < D.length) (p : Int) (h : slp (D.take i) p = false) (h2 : pd D i = p) : lft D p = tc D i ∧ slp D p = true := by
  have e := take_mid hi
  have e1 : ∀ M, M = D.take i ++ (pd D i, tc D i) :: D.drop (i + 1) → lft M p = tc D i ∧ slp M p = true := by
    rintro M rfl
    rw [lft_app, h, lft_cons, slp_app, slp_cons, h2]
    simp
  exact e1 D e
set_option maxRecDepth 100000 in
set_option maxHeartbeats 2000000 in
theorem rleft_any (h : Rs w r D) (p : Int) : Calls Try.prog 17 #[pv r, .int .i64 p] w fun e w' => e = .returned (.tuple #[uv (lft D p), .bool (slp D p)]) ∧ w = w' := by
  obtain ⟨a, c, hc, ⟨hc1, hc2⟩, hrow⟩ := h.open
  unfold maxLen at hc2
  have HR := Lib.hid hrow
  have hlI : (D.length : Int) ≤ 9223372036854775807 := by omega
  clear hrow h hc1 hc2
  go_enter Try.func17, Try.ntmps17
  go_wp2
  go_loopw [6] (fun i wr => ∃ j : Nat, j ≤ D.length ∧ i = .int .i64 (j : Int) ∧ slp (D.take j) p = false ∧ w = wr) (fun i _ => D.length - (intOf i).toNat)
  case atStart => exact ⟨0, Nat.zero_le _, rfl, rfl, rfl⟩
  case round =>
    obtain ⟨j, hj, rfl, hs, rfl⟩ := hrel
    by_cases hlt : j < D.length
    · have hltI : (j : Int) < (D.length : Int) := by omega
      obtain ⟨g, rfl, c0, c1⟩ := HR.out j hlt
      by_cases hp : pd D j = p
      · have d1 : (pd D j == p) = true := beq_iff_eq.2 hp
        have HF := Lib.hid (found_at hlt p hs hp)
        clear hp hs
        generalize htc : tc D j = t at *
        generalize pd D j = x at *
        clear htc
        go_wp2
        go_ret2
        exact ⟨by rw [HF.out.1, HF.out.2]; rfl, rfl⟩
      · have d1 : (pd D j == p) = false := beq_eq_false_iff_ne.2 hp
        have HS : Hid (slp (D.take (j + 1)) p = false) := Lib.hid (by rw [slp_next hlt, hs, d1]; rfl)
        clear hp hs
        generalize pd D j = x at *
        go_wp2
        go_roundw
        case rel => exact ⟨j + 1, by omega, by go_num, HS.out, trivial⟩
        case measure => simp [intOf]; omega
    · obtain rfl : j = D.length := by omega
      rw [List.take_length] at hs
      have HS := Lib.hid (And.intro hs (lft_no hs))
      clear hs
      go_wp2
      go_ret2
      exact ⟨by rw [HS.out.1, HS.out.2]; rfl, rfl⟩
set_option maxRecDepth 100000 in
set_option maxHeartbeats 2000000 in
theorem rnext_any (h : Rs w r D) : Calls Try.prog 19 #[pv r] w fun e w' => e = .returned (.tuple #[uv (nx D), .bool (decide (0 < nx D))]) ∧ w = w' := by
  obtain ⟨a, c, hc, ⟨hc1, hc2⟩, hrow⟩ := h.open
  unfold maxLen at hc2
  have HR := Lib.hid hrow
  have hlI : (D.length : Int) ≤ 9223372036854775807 := by omega
  clear hrow h hc1 hc2
  go_enter Try.func19, Try.ntmps19
  go_wp2
  go_loopw [4, 5] (fun z i wr => ∃ (j : Nat) (n : Nat), j ≤ D.length ∧ i = .int .i64 (j : Int) ∧ n = nx (D.take j) ∧ z = uv n ∧ w = wr) (fun _ i _ => D.length - (intOf i).toNat)
  case atStart => exact ⟨0, 0, Nat.zero_le _, rfl, rfl, rfl, rfl⟩
  case round =>
    obtain ⟨j, n, hj, rfl, hn, rfl, rfl⟩ := hrel
    by_cases hlt : j < D.length
    · have hltI : (j : Int) < (D.length : Int) := by omega
      obtain ⟨g, rfl, c0, c1⟩ := HR.out j hlt
      have hnx := nx_next hlt
      rw [← hn] at hnx
      clear hn
      by_cases h1 : n = 0
      · have HN : Hid (tc D j = nx (D.take (j + 1))) := Lib.hid (by rw [hnx]; exact (if_pos (.inl h1)).symm)
        have d1 : ((n : Int) == 0) = true := by rw [h1]; rfl
        have d2 : (n == 0) = true := by rw [h1]; rfl
        clear hnx h1
        generalize tc D j = t at *
        go_wp2
        go_roundw
        case rel => exact ⟨j + 1, t, by omega, by go_num, HN.out, rfl, trivial⟩
        case measure => simp [intOf]; omega
      · have d1 : ((n : Int) == 0) = false := by simp; omega
        have d2 : (n == 0) = false := by simp; omega
        by_cases h2 : tc D j < n
        · have HN : Hid (tc D j = nx (D.take (j + 1))) := Lib.hid (by rw [hnx]; exact (if_pos (.inr h2)).symm)
          have d3 : decide ((tc D j : Int) < (n : Int)) = true := decide_eq_true (by omega)
          have d4 : decide (tc D j < n) = true := decide_eq_true h2
          clear hnx h1 h2
          generalize tc D j = t at *
          go_wp2
          go_roundw
          case rel => exact ⟨j + 1, t, by omega, by go_num, HN.out, rfl, trivial⟩
          case measure => simp [intOf]; omega
        · have HN : Hid (n = nx (D.take (j + 1))) := Lib.hid (by rw [hnx]; exact (if_neg (by omega)).symm)
          have d3 : decide ((tc D j : Int) < (n : Int)) = false := decide_eq_false (by omega)
          have d4 : decide (tc D j < n) = false := decide_eq_false h2
          clear hnx h1 h2
          generalize tc D j = t at *
          go_wp2
          go_roundw
          case rel => exact ⟨j + 1, n, by omega, by go_num, HN.out, rfl, trivial⟩
          case measure => simp [intOf]; omega
    · obtain rfl : j = D.length := by omega
      rw [List.take_length] at hn
      have HN := Lib.hid hn
      clear hn
      go_wp2
      go_ret2
      exact ⟨by rw [← HN.out]; rfl, rfl⟩
theorem own_form {w : World} {base : Nat} {e : TypeId} {s : Nat} {v : Value} {n : Nat} {xs : List Value} (h : w.ownsRow base e s v n xs) : ∃ a c, v = .slice a n c := by
  rcases h.2 with ⟨rfl, rfl⟩ | ⟨g, cap, cur, rfl, _⟩
  · exact ⟨_, _, rfl⟩
  · exact ⟨_, _, rfl⟩
/-- A record behind a row. -/
theorem grow2 {W : World} {base n : Nat} {v : Value} {xs : List Value} (p : Int) (k : Nat) (hrow : W.ownsRow base 54 2 v n xs) (hbase : base ≤ W.heap.size) (hl : n ≤ 90000) :
    ∃ v' w2, (appO #[28, 28] 28 #[v, .slice (some ⟨W.heap.size, 0, none⟩) 1 1]).run Try.prog (W.alloc (.cells #[.int .i64 p, uv k] 54)) = .ok v' w2 ∧
      w2.ownsRow base 54 2 v' (n + 1) (xs ++ ic (p, k)) ∧ Kp (fun j => v.ownBlock = some j) W w2 := by
  obtain ⟨i0, hi, hz0, hz1, hz2⟩ := info_parts' infoS
  have hb1 := (Below.refl W.heap.size W).alloc (Nat.le_refl _) (.cells #[.int .i64 p, uv k] 54)
  have hnew : Blk (W.alloc (.cells #[.int .i64 p, uv k] 54)) W.heap.size #[.int .i64 p, uv k] 54 := Blk.new _ _ _
  obtain ⟨v', w2, q1, q2, q3, q4, q5⟩ := run_append_own_at (P := Try.prog) (w := W.alloc (.cells #[.int .i64 p, uv k] 54)) base 28 28 54 i0 (.agg #[.int .i64 0, .int .u32 0]) 2 16 Try.underlying28 hi hz0 hz1 hz2 rfl (by decide) v n xs (own_below hrow hb1) ⟨W.heap.size, 0, none⟩ 1 1 (ic (p, k)) rfl
    (fun j u hj => by
      rw [Addr.add_mid, Nat.zero_add, hnew.cell j]
      simpa [ic] using hj) (by simp [ic, Value.oneCell']) (by unfold maxLen; omega) (by omega) (by simp; omega)
  exact ⟨v', w2, q1, q2, (Kp.of_below (S := fun k => v.ownBlock = some k) hb1).trans ((Kp.of_grown q3).mono (fun j _ e => (e.symm : v.ownBlock = some j))) (fun _ e => .inl e)⟩
/-- A row that is being made: nothing that lay there has turned. -/
structure Gb (w W : World) (r : Nat) (D : St) (u : Value) (E : St) : Prop where
  bel : Below w.heap.size w W
  rs : Rs W r D
  row : W.ownsRow w.heap.size 54 2 u E.length (ics E)
variable {W : World} {u : Value} {E : St}
theorem Gb.start (h : Rs w r D) : Gb w w r D (.slice none 0 0) [] := ⟨Below.refl _ _, h, World.ownsRow_nil _ _ _ _⟩
theorem Gb.new (h : Gb w W r D u E) (hl : E.length ≤ 90000) (hr : Rs w r D) (p : Int) (k : Nat) : ∃ u' w2, (appO #[28, 28] 28 #[u, .slice (some ⟨W.heap.size, 0, none⟩) 1 1]).run Try.prog (W.alloc (.cells #[.int .i64 p, uv k] 54)) = .ok u' w2 ∧ Gb w w2 r D u' (E ++ [(p, k)]) := by
  obtain ⟨u', w2, q1, q2, q3⟩ := grow2 p k h.row h.bel.size hl
  have hb : Below w.heap.size w w2 := h.bel.trans (q3.below h.bel.size (fun j e => (own_cells h.row e).1))
  refine ⟨u', w2, q1, hb, hr.below hb, ?_⟩
  rw [List.length_append, ics_app]
  simpa [ics] using q2
/-- Stored: the document's sleepers have it. -/
theorem Gb.done (h : Gb w W r D u E) (hr : r < w.heap.size) : Rs (W.setCell ⟨r, 0, none⟩ u) r E ∧ Kp (fun j => j = r) w (W.setCell ⟨r, 0, none⟩ u) := by
  obtain ⟨v, h1, h2⟩ := h.rs
  refine ⟨⟨u, h1.set 0 u, own_kept (own_base h.row (Nat.zero_le _)) (Kp.set (S := fun j => j = r) _ _ _ _ rfl) (fun g e e2 => ?_)⟩, (Kp.of_below (S := fun j => j = r) h.bel).trans (Kp.set (S := fun j => j = r) _ _ _ _ rfl) (fun _ e => .inl e)⟩
  have := (own_cells h.row e).1
  omega
set_option maxRecDepth 100000 in
set_option maxHeartbeats 2000000 in
theorem rdrop_any (h : Rs w r D) (hl : D.length ≤ 80000) (p : Int) : Calls Try.prog 14 #[pv r, .int .i64 p] w fun e w' => e = .returned (.tuple #[uv (lft D p), .bool (slp D p)]) ∧ Rs w' r (drL D p) ∧ Kp (fun j => j = r) w w' := by
  have HL := Lib.hid (rleft_any h p)
  have HG := Lib.hid (Gb.start h)
  have HR := Lib.hid h
  have hrl := h.lt
  have hlI : (D.length : Int) ≤ 80000 := by omega
  clear h
  generalize hle : lft D p = le at *
  generalize hsl : slp D p = sl at *
  clear hle hsl
  go_enter Try.func14, Try.ntmps14
  go_wp2_with (go_at_call 17; (with_reducible refine HL.out.mono ?_); rintro e w1 ⟨rfl, rfl⟩)
  go_loopw [8, 9] (fun u i wr => ∃ (j : Nat) (u' : Value), u' = u ∧ j ≤ D.length ∧ i = .int .i64 (j : Int) ∧ Gb w wr r D u' (drL (D.take j) p)) (fun _ i _ => D.length - (intOf i).toNat)
  case atStart => exact ⟨0, _, rfl, Nat.zero_le _, rfl, HG.out⟩
  case round =>
    obtain ⟨j, u', rfl, hj, rfl, hg⟩ := hrel
    obtain ⟨a, c, hc, ⟨hc1, hc2⟩, hrow⟩ := hg.rs.open
    by_cases hlt : j < D.length
    · have hltI : (j : Int) < (D.length : Int) := by omega
      obtain ⟨g, rfl, c0, c1⟩ := hrow j hlt
      have hdn := dr_next hlt p
      by_cases hp : pd D j = p
      · have d1 : (pd D j != p) = false := by simp [hp]
        rw [pd_at hlt] at hp
        rw [if_pos hp, List.append_nil] at hdn
        have HGn : Hid (Gb w wr r D u' (drL (D.take (j + 1)) p)) := Lib.hid (by rw [hdn]; exact hg)
        clear hp hdn hg hrow hc1 hc2
        generalize pd D j = x at *
        go_wp2
        go_roundw
        case rel => exact ⟨j + 1, _, rfl, by omega, by go_num, HGn.out⟩
        case measure => simp [intOf]; omega
      · have d1 : (pd D j != p) = true := by simpa using hp
        obtain ⟨u2, w2, q1, hg2⟩ := hg.new (by have := len_drL (D.take j) p; rw [List.length_take] at this; omega) HR.out (pd D j) (tc D j)
        rw [pd_at hlt] at hp
        rw [if_neg hp] at hdn
        have HGn : Hid (Gb w w2 r D u2 (drL (D.take (j + 1)) p)) := Lib.hid (by rw [hdn]; rw [pd_at hlt, tc_at hlt] at hg2; exact hg2)
        clear hp hdn hg hg2 hrow hc1 hc2
        generalize pd D j = x at *
        generalize tc D j = t at *
        go_wp2
        go_roundw
        case rel => exact ⟨j + 1, _, rfl, by omega, by go_num, HGn.out⟩
        case measure => simp [intOf]; omega
    · obtain rfl : j = D.length := by omega
      rw [List.take_length] at hg
      obtain ⟨ua, uc, rfl⟩ := own_form hg.row
      have HE := Lib.hid (hg.done hrl)
      have hf : wr.frozen? ⟨r, 0, none⟩ = false := by obtain ⟨v, h1, _⟩ := hg.rs; exact h1.free 0
      clear hg hrow hc1 hc2
      go_wp2
      go_ret2
      exact ⟨rfl, HE.out⟩
end Go.Proofs.Ytpblnjphkgilfaa.Slv
