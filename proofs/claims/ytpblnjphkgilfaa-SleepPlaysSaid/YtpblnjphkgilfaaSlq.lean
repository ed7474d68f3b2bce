/-
  SleepNext, walked.
-/
import Derived.Test.YtpblnjphkgilfaaSlp
namespace Go.Proofs.Ytpblnjphkgilfaa.Slq
open Go Go.RowKit Go.Shelf Kit Bk Sla Slb Slc Sld Sle Slf Slg Slh Sli Slj Slk Sll Sln Slo Slp
set_option linter.unusedVariables false
attribute [local go_sem ↓] app_wrap

theorem wrap_sub {a b : Nat} (h : b ≤ a) (h2 : a < 1000000) : IntKind.i64.wrap ((a : Int) - (b : Int)) = ((a - b : Nat) : Int) := by
  rw [show (a : Int) - (b : Int) = ((a - b : Nat) : Int) by omega]
  simp [IntKind.wrap, IntKind.bits, IntKind.signed]
  omega
theorem wrap_prev {k j : Nat} (h : k = j + 1) (h2 : k < 1000000) : IntKind.i64.wrap ((k : Int) - 1) = (j : Int) := by
  have := wrap_sub (a := k) (b := 1) (by omega) h2
  rw [show k - 1 = j by omega] at this
  exact this
theorem wrap_next {j : Nat} (h2 : j < 1000000) : IntKind.u32.wrap ((j : Int) + 1) = ((j + 1 : Nat) : Int) := by
  simp only [IntKind.wrap, IntKind.bits, IntKind.signed]
  simp only [Bool.false_and, Bool.false_eq_true, if_false]
  omega
theorem next_long (va : Value) (ops : List Opr) (w : World) (h : OpsAt w va ops) (hl : ¬ ops.length ≤ 200) :
    Calls Try.prog 7 #[va] w fun e w' => e = .returned (.bool true) ∧ Below w.heap.size w w' := by
  obtain ⟨ad, cap, rfl, h1, h2, h3⟩ := h
  have dl : decide ((200 : Int) < (ops.length : Int)) = true := decide_eq_true (by omega)
  clear h3 hl
  go_enter Try.func7, Try.ntmps7
  go_wp2_with (go_at_call 22; (with_reducible refine (alive_any _).mono ?_); rintro e w1 ⟨rfl, b1⟩; have B1 := Lib.hid b1; clear b1)
  go_ret
  exact ⟨rfl, B1.out⟩
theorem same_self (w : World) (u v : Value) (a : List Int) (h : Nr w u a) (h2 : Nr w v a) :
    Calls Try.prog 11 #[u, v] w fun e w' => e = .returned (.bool true) ∧ Below w.heap.size w w' := by
  have := same_ints w u v a a h h2
  rwa [decide_eq_true (show a = a from rfl)] at this
theorem all_len {w0 w : World} {q : Nat} {m : Option Nat} {L : St} (h : On w0 w q m L) (k : Nat) (hk : L.length = k) (hl : k < 80000) : Calls Try.prog 20 #[pv q] w fun e w' => On w0 w' q m L ∧ ∃ a c, e = .returned (.slice a k c) := by
  refine (h.all (by omega)).mono ?_
  rintro e w' ⟨h1, -, u, rfl, h2⟩
  obtain ⟨a, c, rfl, -⟩ := sr_cells (own_base h2 (Nat.zero_le _))
  exact ⟨h1, a, c, by rw [hk]⟩
set_option maxRecDepth 100000 in
set_option maxHeartbeats 4000000 in
theorem next_short (va : Value) (ops : List Opr) (w : World) (h : OpsAt w va ops) (hl : ops.length ≤ 200) :
    Calls Try.prog 7 #[va] w fun e w' => e = .returned (.bool true) ∧ Below w.heap.size w w' := by
  have dl : decide ((200 : Int) < (ops.length : Int)) = false := decide_eq_false (by omega)
  have HG : Hid (∀ w1, Below w.heap.size w w1 → Calls Try.prog 23 #[va] w1 fun e w' => ∃ q, e = .returned (pv q) ∧ Sta w1 w' q 200) := Lib.hid (fun w1 hb => grown_any w1 va ops (h.below hb) hl)
  obtain ⟨ad, cap, rfl, h1, h2, h3⟩ := h
  clear h3 hl
  go_enter Try.func7, Try.ntmps7
  go_wp2_with (first
    | (go_at_call 22; (with_reducible refine (alive_any _).mono ?_); rintro e w1 ⟨rfl, b1⟩; have B1 := Lib.hid b1; clear b1)
    | (go_at_call 23; (with_reducible refine (HG.out _ B1.out).mono ?_); rintro e w2 ⟨q, rfl, m, L, h1, h2⟩; have H2 := Lib.hid h1; have HL := Lib.hid h2; clear h1 h2 HG)
    | (go_at_call 20; (with_reducible refine (H2.out.all (Nat.lt_of_le_of_lt HL.out (by decide))).mono ?_); rintro e w3 ⟨h1, -, u, rfl, h2⟩; have H3 := Lib.hid h1; have HU := Lib.hid (own_base h2 (Nat.zero_le _)); clear H2 h1 h2)
    | (go_at_call 18; (with_reducible refine (H3.out.next (Nat.lt_of_le_of_lt HL.out (by decide))).mono ?_); rintro e w4 ⟨rfl, h1, h2⟩; have H4 := Lib.hid h1; replace HU := Lib.hid (own_below HU.out h2); clear H3 h1 h2; refine Hid.out ?_))
  refine Lib.hid ?_
  have hL := HL.out
  by_cases h0 : L = []
  · subst h0
    obtain ⟨a, c, rfl, _⟩ := sr_cells HU.out
    rw [show nx [] = 0 from rfl, show decide (0 < 0) = false from rfl]
    clear hL
    go_wp2
    refine wp_loop_rounds 1 ?_
    rw [rounds_succ]
    go_wp2
    go_ret
    exact ⟨rfl, B1.out.trans (H4.out.bel.mono B1.out.size)⟩
  · have hones := H4.out.ok.ones
    have hmin := (nx_le L hones).1
    obtain ⟨hpos, xm, hxm, hxe⟩ := (nx_le L hones).2 h0
    have hlen : 0 < L.length := List.length_pos_iff.2 h0
    have hne : fs (nx L) L ≠ [] := by
      unfold fs
      intro e
      have : xm ∈ L.filter fun x => x.2 == nx L := List.mem_filter.2 ⟨hxm, by simp [hxe]⟩
      rw [List.map_eq_nil_iff] at e
      rw [e] at this
      cases this
    have hmt : ∀ k, k < L.length → nx L ≤ tc L k := fun k hk => by rw [tc_at hk]; exact hmin _ (List.getElem_mem hk)
    have hn32 : nx L < 4294967296 := nx_lt (fun x hx => (H4.out.ok.each x hx).2.2)
    have HX := Lib.hid (And.intro hmin (And.intro hne hmt))
    have HN0 : Hid (Nx w1 w4 q m L u (.slice none 0 0) (nx L) 0) := Lib.hid ⟨H4.out, HU.out, World.ownsRow_nil _ _ _ _⟩
    obtain ⟨a, c, rfl, hc1, hc2, _⟩ := sr_cells HU.out
    have d1 : decide (0 < nx L) = true := decide_eq_true hpos
    have d2 : decide ((0 : Int) < (L.length : Int)) = true := decide_eq_true (by omega)
    have d3 : decide (0 < L.length) = true := decide_eq_true hlen
    have hlI : (L.length : Int) ≤ 200 := by omega
    have HO := Lib.hid H4.out.ok
    rw [d1]
    clear d1 hmin hones hxm hxe hne hmt h0 H4 HU hlen hc1 hc2
    generalize hnn : nx L = n at *
    have HNN := Lib.hid hnn
    clear hnn
    go_wp2
    go_loopw [8, 44] (fun f i wr => ∃ (k : Nat) (f' : Value), f' = f ∧ k ≤ L.length ∧ i = .int .i64 (k : Int) ∧ Nx w1 wr q m L (.slice a L.length c) f' n k) (fun _ i _ => L.length - (intOf i).toNat)
    case atStart => exact ⟨0, _, rfl, Nat.zero_le _, rfl, HN0.out⟩
    case round =>
      obtain ⟨k, f', rfl, hk, rfl, hN⟩ := hrel
      by_cases hlt : k < L.length
      · have hltI : (k : Int) < (L.length : Int) := by omega
        have HN := Lib.hid hN
        have hlow := HX.out.2.2 k hlt
        have e1 : decide ((tc L k : Int) < (n : Int)) = false := decide_eq_false (by omega)
        have e2 : decide (tc L k < n) = false := decide_eq_false (by omega)
        cases k with
        | zero =>
          obtain ⟨r, c', eu, _, _, c1, c2, _⟩ := hN.cell hlt 0 (Nat.le_refl _)
          cases eu
          rw [show ((0 : Nat) : Int) = 0 from rfl] at hltI ⊢
          clear hN hlow
          go_wp2
          go_quiet (fail)
          have HN2 := Lib.hid (HN.out.below (below_drewN (Below.refl _ _) nq))
          generalize wr.drewN nq = wz at *
          by_cases hE : tc L 0 = n
          · have e3 : ((tc L 0 : Int) == (n : Int)) = true := by rw [hE]; simp
            have e4 : (tc L 0 == n) = true := by rw [hE]; simp
            obtain ⟨f2, w6, p1, hN3⟩ := HN2.out.app (by omega) hlt hE
            obtain ⟨r2, c2', eu, _, _, g1, g2, _⟩ := HN2.out.cell hlt 0 (Nat.le_refl _)
            cases eu
            have HN3 := Lib.hid hN3
            clear hN3 hE
            generalize tc L 0 = t at *
            generalize pd L 0 = p at *
            go_wp2
            go_roundw
            case rel => exact ⟨0 + 1, _, rfl, hlt, by go_num, HN3.out⟩
            case measure => simp [intOf]; omega
          · have e3 : ((tc L 0 : Int) == (n : Int)) = false := by simp; omega
            have e4 : (tc L 0 == n) = false := by simp; omega
            have HN3 := Lib.hid (HN2.out.skip hlt hE)
            obtain ⟨r2, c2', eu, _, _, g1, g2, _⟩ := HN2.out.cell hlt 0 (Nat.le_refl _)
            cases eu
            clear hE
            generalize tc L 0 = t at *
            generalize pd L 0 = p at *
            go_wp2
            go_roundw
            case rel => exact ⟨0 + 1, _, rfl, hlt, by go_num, HN3.out⟩
            case measure => simp [intOf]; omega
        | succ j =>
          obtain ⟨r, c', eu, _, _, c1, c2, c3⟩ := hN.cell hlt j (Nat.le_succ _)
          cases eu
          have e5 : decide (pd L (j + 1) ≤ pd L j) = false := decide_eq_false (by have := pd_up HO.out hlt; omega)
          have e6 : IntKind.i64.wrap (((j + 1 : Nat) : Int) - 1) = (j : Int) := wrap_prev rfl (by omega)
          have e7 : decide ((0 : Int) < ((j + 1 : Nat) : Int)) = true := decide_eq_true (by omega)
          have e8 : decide (0 < j + 1) = true := decide_eq_true (by omega)
          have hltj : (j : Int) < (L.length : Int) := by omega
          have HK : Hid (∃ k, k = j + 1) := Lib.hid ⟨_, rfl⟩
          generalize hkk : j + 1 = k at *
          have HKK := Lib.hid hkk
          clear hN hlow hkk
          go_wp2
          go_quiet (fail)
          have HN2 := Lib.hid (HN.out.below (below_drewN (Below.refl _ _) nq))
          generalize wr.drewN nq = wz at *
          by_cases hE : tc L k = n
          · have e3 : ((tc L k : Int) == (n : Int)) = true := by rw [hE]; simp
            have e4 : (tc L k == n) = true := by rw [hE]; simp
            obtain ⟨f2, w6, p1, hN3⟩ := HN2.out.app (by omega) hlt hE
            obtain ⟨r2, c2', eu, _, _, g1, g2, _⟩ := HN2.out.cell hlt k (Nat.le_refl _)
            cases eu
            have HN3 := Lib.hid hN3
            clear hN3 hE
            generalize tc L k = t at *
            generalize pd L k = p at *
            go_wp2
            go_roundw
            case rel => exact ⟨k + 1, _, rfl, hlt, by go_num, HN3.out⟩
            case measure => simp [intOf]; omega
          · have e3 : ((tc L k : Int) == (n : Int)) = false := by simp; omega
            have e4 : (tc L k == n) = false := by simp; omega
            have HN3 := Lib.hid (HN2.out.skip hlt hE)
            obtain ⟨r2, c2', eu, _, _, g1, g2, _⟩ := HN2.out.cell hlt k (Nat.le_refl _)
            cases eu
            clear hE
            generalize tc L k = t at *
            generalize pd L k = p at *
            go_wp2
            go_roundw
            case rel => exact ⟨k + 1, _, rfl, hlt, by go_num, HN3.out⟩
            case measure => simp [intOf]; omega
      · obtain rfl : k = L.length := by omega
        have hy : Ny w1 wr q m L f' n 0 := ⟨by rw [dn_zero]; exact hN.on_, by have := hN.row; rw [List.take_length] at this; exact own_base this (Nat.zero_le _)⟩
        obtain ⟨fa, fc, rfl, -⟩ := nr_cells hy.row
        have hfl : 0 < (fs n L).length := List.length_pos_iff.2 HX.out.2.1
        have hfle := fs_len n L
        have d4 : decide ((0 : Int) < ((fs n L).length : Int)) = true := decide_eq_true (by omega)
        have d5 : decide (0 < (fs n L).length) = true := decide_eq_true hfl
        have HY := Lib.hid hy
        clear hN hy hfl
        by_cases hbig : 100 < n
        · have d6 : decide ((100 : Int) < (n : Int)) = true := decide_eq_true (by omega)
          have d7 : decide (100 < n) = true := decide_eq_true hbig
          have HE := Lib.hid (B1.out.trans (HY.out.on_.bel.mono B1.out.size))
          clear hbig hfle
          generalize (fs n L).length = fl at *
          go_wp2
          go_ret
          exact ⟨rfl, HE.out⟩
        · have d6 : decide ((100 : Int) < (n : Int)) = false := decide_eq_false (by omega)
          have d7 : decide (100 < n) = false := decide_eq_false hbig
          have hws := wrap_sub hfle (by omega)
          have hb100 : n ≤ 100 := by omega
          clear hbig
          generalize hfls : (fs n L).length = fl at *
          have HFL := Lib.hid hfls
          clear hfls
          go_wp2
          go_loopw [10] (fun i wr => ∃ j : Nat, 1 ≤ j ∧ j ≤ n ∧ i = .int .u32 (j : Int) ∧ Ny w1 wr q m L (.slice fa fl fc) n (j - 1)) (fun i _ => n - (intOf i).toNat)
          case atStart => exact ⟨1, Nat.le_refl _, hpos, rfl, HY.out⟩
          case round =>
            obtain ⟨j, hj1, hjn, rfl, hY⟩ := hrel
            by_cases hlt : j < n
            · have hltI : (j : Int) < (n : Int) := by omega
              have HT := hY.tick (by omega) (fun x hx => by have := HX.out.1 x hx; omega)
              rw [show j - 1 + 1 = j by omega] at HT
              replace HT := Lib.hid HT
              have hwn := wrap_next (j := j) (by omega)
              clear hY
              go_wp2_with (go_at_call 10; (with_reducible refine HT.out.mono ?_); rintro e w7 ⟨hY2, ta, tc', rfl⟩; have HY2 := Lib.hid hY2; clear hY2)
              go_roundw
              case rel => exact ⟨j + 1, by omega, by omega, rfl, HY2.out⟩
              case measure => simp [intOf]; omega
            · obtain rfl : j = n := by omega
              have HT := hY.last (by omega) hj1 HX.out.1
              replace HT := Lib.hid HT
              clear hY
              go_wp2_with (first
                | (go_at_call 10; (with_reducible refine HT.out.mono ?_); rintro e w7 ⟨M, h1, h2, h3, v, rfl, h4⟩; have H7 := Lib.hid h1; have HM := Lib.hid h2; have HS := Lib.hid (And.intro h3 h4); clear h1 h2 h3 h4)
                | (go_at_call 11; (with_reducible refine (same_self _ _ _ _ HS.out.2 HS.out.1).mono ?_); rintro e w8 ⟨rfl, hb⟩; have H8 := Lib.hid (H7.out.below hb); clear hb)
                | (go_at_call 20; (with_reducible refine (all_len H8.out (L.length - fl) (by rw [HM.out, HFL.out]) (by omega)).mono ?_); rintro e w9 ⟨h1, za, zc, rfl⟩; have H9 := Lib.hid (B1.out.trans (h1.bel.mono B1.out.size)); clear h1))
              go_ret
              exact ⟨rfl, H9.out⟩
theorem next_law (va : Value) (ops : List Opr) (w : World) (h : OpsAt w va ops) :
    Calls Try.prog 7 #[va] w fun e w' => e = .returned (.bool true) ∧ Below w.heap.size w w' := by
  by_cases hl : ops.length ≤ 200
  · exact next_short va ops w h hl
  · exact next_long va ops w h hl
end Go.Proofs.Ytpblnjphkgilfaa.Slq
namespace Go.Proofs.Ytpblnjphkgilfaa.Walk
open Go Go.RowKit Sln
theorem sleepNext (va : Value) (ops : List Opr) (w : World) (h : OpsAt w va ops) : Calls Try.prog 7 #[va] w fun e w' => e = .returned (.bool true) ∧ Below w.heap.size w w' := Slq.next_law va ops w h
end Go.Proofs.Ytpblnjphkgilfaa.Walk
