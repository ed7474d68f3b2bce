/-
  SleepTraces, walked.
-/
import Derived.Test.YtpblnjphkgilfaaSlr
namespace Go.Proofs.Ytpblnjphkgilfaa.Sls
open Go Go.RowKit Go.Shelf Kit Bk Sla Slb Slc Sld Sle Slf Slg Slh Sli Slj Slk Sll Sln Slo Slp Slq Slr
set_option linter.unusedVariables false
attribute [local go_sem ↓] app_wrap

theorem traces_long (va : Value) (ops : List Opr) (p : Int) (w : World) (h : OpsAt w va ops) (hl : ¬ ops.length ≤ 200) :
    Calls Try.prog 6 #[va, .int .i64 p] w fun e w' => e = .returned (.bool true) ∧ Below w.heap.size w w' := by
  obtain ⟨ad, cap, rfl, h1, h2, h3⟩ := h
  have dl : decide ((200 : Int) < (ops.length : Int)) = true := decide_eq_true (by omega)
  clear h3 hl
  go_enter Try.func6, Try.ntmps6
  go_wp2_with (go_at_call 22; (with_reducible refine (alive_any _).mono ?_); rintro e w1 ⟨rfl, b1⟩; have B1 := Lib.hid b1; clear b1)
  go_ret
  exact ⟨rfl, B1.out⟩
variable {w0 w w' : World} {q q2 : Nat} {m m2 : Option Nat} {L L2 : St} {p : Int}
theorem Two.all (h : Two w0 w q m L q2 m2 L2) (hl : L.length < 80000) : Calls Try.prog 20 #[pv q] w fun e w' => Two w0 w' q m L q2 m2 L2 ∧ Below w.heap.size w w' ∧ ∃ a c, e = .returned (.slice a L.length c) ∧ Sr w' (.slice a L.length c) L := by
  refine (h.a.all hl).mono ?_
  rintro e w' ⟨_, h2, u, rfl, h3⟩
  have h4 : Sr w' u L := own_base h3 (Nat.zero_le _)
  obtain ⟨a, c, rfl, -⟩ := sr_cells h4
  exact ⟨h.below h2, h2, a, c, rfl, h4⟩
theorem Two.drop (h : Two w0 w q m L q2 m2 L2) (p : Int) (hp : (Lit.int .i64 p).wf = true) : Calls Try.prog 13 #[pv q, .int .i64 p] w fun e w' => e = .returned (.tuple #[uv (lft L p), .bool (slp L p)]) ∧ Two w0 w' q m (drL L p) q2 m2 L2 ∧ Kp (Slb.fr q m) w w' := by
  refine (h.a.drop p hp).mono ?_
  rintro e w' ⟨rfl, h1, h2⟩
  exact ⟨rfl, h.left h1 h2 (.inl rfl), h2⟩
theorem Two.tick (h : Two w0 w q m L q2 m2 L2) (hl : L.length < 80000) : Calls Try.prog 10 #[pv q] w fun e w' => Two w0 w' q m (tkL L) q2 m2 L2 ∧ Kp (Slb.fr q m) w w' ∧ ∃ u, e = .returned u ∧ Nr w' u (tkW L) := by
  refine (h.a.tick hl).mono ?_
  rintro e w' ⟨h1, h2, u, rfl, h3⟩
  exact ⟨h.left h1 h2 (.inl rfl), h2, u, rfl, own_base h3 (Nat.zero_le _)⟩
theorem Two.still (h : Two w0 w q m (drL L p) q2 m2 L2) (hp : (Lit.int .i64 p).wf = true) : Calls Try.prog 16 #[pv q, .int .i64 p] w fun e w' => (∃ n, e = .returned (.tuple #[uv n, .bool false])) ∧ w = w' := by
  refine (left_any h.a.sv p hp).mono ?_
  rintro e w' ⟨rfl, rfl⟩
  exact ⟨⟨_, by rw [slp_drL]; simp; rfl⟩, rfl⟩
theorem Two.again (h : Two w0 w q m (drL L p) q2 m2 L) (hl : L.length < 80000) (hp : (Lit.int .i64 p).wf = true) (hs : slp L p = true) : Calls Try.prog 8 #[pv q, .int .i64 p, uv (lft L p)] w fun e w' => e = .returned (.int .i64 0) ∧ ∃ m', Two w0 w' q m' L q2 m2 L := by
  have hb := add_back h.b.ok hs
  refine (h.a.add (Nat.lt_of_le_of_lt (len_drL L p) hl) p _ hp (lft_lt h.b.ok p)).mono ?_
  rintro e w' ⟨rfl, m', h1, h2, h3⟩
  rw [hb.1, hb.2] at *
  exact ⟨rfl, m', h.left h1 h2 h3⟩

theorem same_sl_self (w : World) (u v : Value) (a : St) (h : Sr w u a) (h2 : Sr w v a) (oa : Ok a) :
    Calls Try.prog 21 #[u, v] w fun e w' => e = .returned (.bool true) ∧ Below w.heap.size w w' := by
  have := same_sleepers w u v a a h h2 oa oa
  rwa [decide_eq_true (show a = a from rfl)] at this
set_option maxRecDepth 100000 in
set_option maxHeartbeats 4000000 in
theorem traces_short (va : Value) (ops : List Opr) (p : Int) (w : World) (h : OpsAt w va ops) (hp : (Lit.int .i64 p).wf = true) (hl : ops.length ≤ 200) :
    Calls Try.prog 6 #[va, .int .i64 p] w fun e w' => e = .returned (.bool true) ∧ Below w.heap.size w w' := by
  have dl : decide ((200 : Int) < (ops.length : Int)) = false := decide_eq_false (by omega)
  have HG : Hid (∀ w1, Below w.heap.size w w1 → Calls Try.prog 23 #[va] w1 fun e w' => ∃ q, e = .returned (pv q) ∧ Sta w1 w' q 200) := Lib.hid (fun w1 hb => grown_any w1 va ops (h.below hb) hl)
  obtain ⟨ad, cap, rfl, h1, h2, h3⟩ := h
  clear h3 hl
  go_enter Try.func6, Try.ntmps6
  go_wp2_with (first
    | (go_at_call 22; (with_reducible refine (alive_any _).mono ?_); rintro e w1 ⟨rfl, b1⟩; have B1 := Lib.hid b1; clear b1)
    | (go_at_call 23; (with_reducible refine (HG.out _ B1.out).mono ?_); rintro e w2 ⟨q, rfl, m, L, h1, h2⟩; have H2 := Lib.hid h1; have HL := Lib.hid h2; clear h1 h2 HG)
    | (go_at_call 15; (with_reducible refine (Slr.Two.copy H2.out).mono ?_); rintro e w3 ⟨q2, m2, rfl, h1, -⟩; have H3 := Lib.hid h1; clear H2 h1)
    | (go_at_call 20; (with_reducible refine (Sls.Two.all H3.out (Nat.lt_of_le_of_lt HL.out (by decide))).mono ?_); rintro e w4 ⟨h1, -, a, c, rfl, h2⟩; have H4 := Lib.hid h1; have HU := Lib.hid h2; clear H3 h1 h2)
    | (go_at_call 16; (with_reducible refine (left_any H4.out.a.sv p hp).mono ?_); rintro e w5 ⟨rfl, rfl⟩)
    | (go_at_call 13; (with_reducible refine (Sls.Two.drop H4.out p hp).mono ?_); rintro e w6 ⟨rfl, h1, h2⟩; have H6 := Lib.hid h1; replace HU := Lib.hid (Sv.row H4.out.a.sv HU.out h2 (by decide)); clear H4 h1 h2)
    | (go_at_call 16; (with_reducible refine (Sls.Two.still H6.out hp).mono ?_); rintro e w7 ⟨⟨z, rfl⟩, rfl⟩)
    | (go_at_call 20; (with_reducible refine (Sls.Two.all H6.out (Nat.lt_of_le_of_lt (Nat.le_trans (len_drL L p) HL.out) (by decide))).mono ?_); rintro e w8 ⟨h1, h2, a2, c2, rfl, h3⟩; have H8 := Lib.hid h1; have HV := Lib.hid h3; replace HU := Lib.hid (own_below HU.out h2); clear H6 h1 h2 h3; refine Hid.out ?_))
  refine Lib.hid ?_
  have HZ : Hid (Tz w1 w8 q m L q2 m2 p (.slice a L.length c) (.slice a2 (drL L p).length c2)) := Lib.hid ⟨H8.out, HU.out, HV.out⟩
  have hL := HL.out
  have hD := len_drL L p
  clear H8 HU HV
  go_wp2
  go_loopw [16, 68] (fun k i wr => ∃ (j : Nat) (kz : Int), j ≤ L.length ∧ i = .int .i64 (j : Int) ∧ kz = (((drL (L.take j) p).length : Nat) : Int) ∧ k = .int .i64 kz ∧ Tz w1 wr q m L q2 m2 p (.slice a L.length c) (.slice a2 (drL L p).length c2)) (fun _ i _ => L.length - (intOf i).toNat)
  case atStart => exact ⟨0, 0, Nat.zero_le _, rfl, rfl, rfl, HZ.out⟩
  case round =>
    obtain ⟨j, kz, hj, rfl, hkz, rfl, hZ⟩ := hrel
    by_cases hlt : j < L.length
    · have hltI : (j : Int) < (L.length : Int) := by omega
      have HZr := Lib.hid hZ
      have hdn := dr_next hlt p
      obtain ⟨r, c', eu, c0, c1⟩ := hZ.cell hlt
      cases eu
      by_cases hp2 : pd L j = p
      · have d1 : (pd L j == p) = true := beq_iff_eq.2 hp2
        rw [pd_at hlt] at hp2
        rw [if_pos hp2, List.append_nil] at hdn
        have HK : Hid (kz = (((drL (L.take (j + 1)) p).length : Nat) : Int)) := Lib.hid (by rw [hdn]; exact hkz)
        clear hZ hdn hp2 hkz
        generalize pd L j = pj at *
        go_wp2
        go_roundw
        case rel => exact ⟨j + 1, kz, by omega, by go_num, HK.out, rfl, HZr.out⟩
        case measure => simp [intOf]; omega
      · have d1 : (pd L j == p) = false := beq_eq_false_iff_ne.2 hp2
        obtain ⟨r2, c2', ev, hk, c2a, c3⟩ := hZ.cell2 hlt hp2
        cases ev
        have hr := run_sl (pd L j) (pd L j) (tc L j) (tc L j) (pd_wf hZ.two.b.ok hlt) (pd_wf hZ.two.b.ok hlt) (tc_lt hZ.two.b.ok hlt).2 (tc_lt hZ.two.b.ok hlt).2
        rw [decide_eq_true (show (pd L j, tc L j) = (pd L j, tc L j) from rfl)] at hr
        rw [pd_at hlt] at hp2
        rw [if_neg hp2] at hdn
        have HK : Hid (kz + 1 = (((drL (L.take (j + 1)) p).length : Nat) : Int)) := Lib.hid (by rw [hdn, hkz, List.length_append]; rfl)
        have hdL := hD
        clear hZ hdn hp2
        generalize hdj : (drL (L.take j) p).length = kj at *
        generalize hdl : (drL L p).length = kd at *
        subst hkz
        have d2 : decide ((kd : Int) ≤ (kj : Int)) = false := decide_eq_false (by omega)
        have d3 : decide (kd ≤ kj) = false := decide_eq_false (by omega)
        have hkI : (kj : Int) < (kd : Int) := by omega
        have HDL := Lib.hid hdl
        clear hdj hdl
        generalize pd L j = pj at *
        generalize tc L j = tj at *
        go_wp2
        go_quiet (fail)
        have HZ2 := Lib.hid (HZr.out.below (below_drewN (Below.refl _ _) nq))
        generalize wr.drewN nq = wz at *
        go_wp2
        go_roundw
        case rel => exact ⟨j + 1, _, by omega, by go_num, HK.out, by go_num, HZ2.out⟩
        case measure => simp [intOf]; omega
    · obtain rfl : j = L.length := by omega
      rw [List.take_length] at hkz
      subst hkz
      have HT2 : Hid (Two w1 wr q m (drL L p) q2 m2 L) := Lib.hid hZ.two
      have hl8 : L.length < 80000 := by omega
      clear hZ
      cases hs : slp L p
      · have e := drL_no hs
        have HT3 : Hid (Two w1 wr q m L q2 m2 L) := Lib.hid (by have := HT2.out; rwa [e] at this)
        clear HT2 e
        generalize (drL L p).length = kd at *
        generalize lft L p = n at *
        clear hs hD
        go_wp2_with (first
    | (go_at_call 10; (with_reducible refine (Sls.Two.tick HT3.out hl8).mono ?_); rintro e wa ⟨h1, -, u, rfl, h2⟩; have HT4 := Lib.hid h1.symm; have HR := Lib.hid h2; clear HT3 h1 h2)
    | (go_at_call 10; (with_reducible refine (Sls.Two.tick HT4.out hl8).mono ?_); rintro e wb ⟨h1, hk, v, rfl, h2⟩; have HT5 := Lib.hid h1.symm; have HR2 := Lib.hid (And.intro (Sv.row HT4.out.a.sv HR.out hk (by decide)) h2); clear HT4 h1 h2 hk HR)
    | (go_at_call 11; (with_reducible refine (same_self _ _ _ _ HR2.out.1 HR2.out.2).mono ?_); rintro e wc ⟨rfl, hb⟩; have HT6 := Lib.hid (HT5.out.below hb); clear HT5 hb)
    | (go_at_call 20; (with_reducible refine (Sls.Two.all HT6.out (Nat.lt_of_le_of_lt (len_tkL L) hl8)).mono ?_); rintro e wd ⟨h1, -, xa, xc, rfl, h2⟩; have HT7 := Lib.hid h1.symm; have HS := Lib.hid h2; clear HT6 h1 h2)
    | (go_at_call 20; (with_reducible refine (Sls.Two.all HT7.out (Nat.lt_of_le_of_lt (len_tkL L) hl8)).mono ?_); rintro e we ⟨h1, h3, ya, yc, rfl, h2⟩; have HT8 := Lib.hid h1; have HS2 := Lib.hid (And.intro (own_below HS.out h3) h2); clear HT7 h1 h2 h3)
    | (go_at_call 21; (with_reducible refine (same_sl_self _ _ _ _ HS2.out.1 HS2.out.2 HT8.out.a.ok).mono ?_); rintro e wf ⟨rfl, hb⟩; have HT9 := Lib.hid (HT8.out.below hb); clear HT8 hb))
        go_ret
        exact ⟨rfl, B1.out.trans (HT9.out.a.bel.mono B1.out.size)⟩
      · have HA := Lib.hid (Sls.Two.again HT2.out hl8 hp hs)
        clear HT2
        generalize (drL L p).length = kd at *
        generalize lft L p = n at *
        clear hs hD
        go_wp2_with (first
    | (go_at_call 8; (with_reducible refine HA.out.mono ?_); rintro e w9 ⟨rfl, m', h1⟩; have HT3 := Lib.hid h1; clear HA h1)
    | (go_at_call 10; (with_reducible refine (Sls.Two.tick HT3.out hl8).mono ?_); rintro e wa ⟨h1, -, u, rfl, h2⟩; have HT4 := Lib.hid h1.symm; have HR := Lib.hid h2; clear HT3 h1 h2)
    | (go_at_call 10; (with_reducible refine (Sls.Two.tick HT4.out hl8).mono ?_); rintro e wb ⟨h1, hk, v, rfl, h2⟩; have HT5 := Lib.hid h1.symm; have HR2 := Lib.hid (And.intro (Sv.row HT4.out.a.sv HR.out hk (by decide)) h2); clear HT4 h1 h2 hk HR)
    | (go_at_call 11; (with_reducible refine (same_self _ _ _ _ HR2.out.1 HR2.out.2).mono ?_); rintro e wc ⟨rfl, hb⟩; have HT6 := Lib.hid (HT5.out.below hb); clear HT5 hb)
    | (go_at_call 20; (with_reducible refine (Sls.Two.all HT6.out (Nat.lt_of_le_of_lt (len_tkL L) hl8)).mono ?_); rintro e wd ⟨h1, -, xa, xc, rfl, h2⟩; have HT7 := Lib.hid h1.symm; have HS := Lib.hid h2; clear HT6 h1 h2)
    | (go_at_call 20; (with_reducible refine (Sls.Two.all HT7.out (Nat.lt_of_le_of_lt (len_tkL L) hl8)).mono ?_); rintro e we ⟨h1, h3, ya, yc, rfl, h2⟩; have HT8 := Lib.hid h1; have HS2 := Lib.hid (And.intro (own_below HS.out h3) h2); clear HT7 h1 h2 h3)
    | (go_at_call 21; (with_reducible refine (same_sl_self _ _ _ _ HS2.out.1 HS2.out.2 HT8.out.a.ok).mono ?_); rintro e wf ⟨rfl, hb⟩; have HT9 := Lib.hid (HT8.out.below hb); clear HT8 hb))
        go_ret
        exact ⟨rfl, B1.out.trans (HT9.out.a.bel.mono B1.out.size)⟩
theorem traces_law (va : Value) (ops : List Opr) (p : Int) (w : World) (h : OpsAt w va ops) (hp : (Lit.int .i64 p).wf = true) :
    Calls Try.prog 6 #[va, .int .i64 p] w fun e w' => e = .returned (.bool true) ∧ Below w.heap.size w w' := by
  by_cases hl : ops.length ≤ 200
  · exact traces_short va ops p w h hp hl
  · exact traces_long va ops p w h hl
end Go.Proofs.Ytpblnjphkgilfaa.Sls
namespace Go.Proofs.Ytpblnjphkgilfaa.Walk
open Go Go.RowKit Sln
theorem sleepTraces (va : Value) (ops : List Opr) (p : Int) (w : World) (h : OpsAt w va ops) (hp : (Lit.int .i64 p).wf = true) : Calls Try.prog 6 #[va, .int .i64 p] w fun e w' => e = .returned (.bool true) ∧ Below w.heap.size w w' := Sls.traces_law va ops p w h hp
end Go.Proofs.Ytpblnjphkgilfaa.Walk
