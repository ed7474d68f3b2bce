/-
  SleepPlays, walked.
-/
import Derived.Test.YtpblnjphkgilfaaSly
import Derived.Deep.RegionHeld
import Derived.Deep.DeepCutAuto
import Derived.Deep.CutBlock
namespace Go.Proofs.Ytpblnjphkgilfaa.Slz
open Go Go.RowKit Go.Shelf Kit Bk Sla Slb Slc Sld Sle Slf Slg Slh Sli Slj Slk Sll Sln Slo Slp Slq Slr Sls Slv Slw Slx Sly
set_option linter.unusedVariables false

theorem plays_long (va : Value) (ops : List Opr) (w : World) (h : OpsAt w va ops) (hl : ¬ ops.length ≤ 200) :
    Calls Try.prog 3 #[va] w fun e w' => e = .returned (.bool true) ∧ Below w.heap.size w w' := by
  obtain ⟨ad, cap, rfl, h1, h2, h3⟩ := h
  have dl : decide ((200 : Int) < (ops.length : Int)) = true := decide_eq_true (by omega)
  clear h3 hl
  go_enter Try.func3, Try.ntmps3
  go_wp2
  go_ret
  exact ⟨rfl, Below.refl _ _⟩
set_option maxRecDepth 100000 in
set_option maxHeartbeats 8000000 in
theorem plays_short (va : Value) (ops : List Opr) (w : World) (h : OpsAt w va ops) (hl : ops.length ≤ 200) :
    Calls Try.prog 3 #[va] w fun e w' => e = .returned (.bool true) ∧ Below w.heap.size w w' := by
  obtain ⟨ad, cap, rfl, h1, h2, h3⟩ := h
  have dl : decide ((200 : Int) < (ops.length : Int)) = false := decide_eq_false (by omega)
  have hli : (ops.length : Int) ≤ 200 := by omega
  have H3 := Lib.hid h3
  have HHl := Lib.hid hl
  have HS := Lib.hid (Sly.start w)
  clear h3 hl
  go_enter Try.func3, Try.ntmps3
  go_wp2
  go_loopw [3, 33] (fun s i wr => ∃ (j q r : Nat) (m : Option Nat) (L : St), j ≤ ops.length ∧ i = .int .i64 (j : Int) ∧ s = pv q ∧ r = w.heap.size + 1 ∧ On w wr q m L ∧ Rs wr r L ∧ L.length ≤ j) (fun _ i _ => ops.length - (intOf i).toNat)
  case atStart => exact ⟨0, _, _, none, [], Nat.zero_le _, rfl, rfl, rfl, HS.out.1, HS.out.2, Nat.le_refl _⟩
  case round =>
    obtain ⟨j, q, r, m, L, hj, rfl, rfl, rfl, hon, hrs, hlen⟩ := hrel
    clear HS
    by_cases hlt : j < ops.length
    · rcases H3.out with h0 | ⟨ba, off, rfl, hb, h4⟩
      · subst h0; simp at hlt
      · obtain ⟨⟨c0, c1, c2⟩, hok⟩ := (h4 j hlt).below hb hon.bel
        have HOk := Lib.hid hok
        generalize ops[j] = o at *
        have hlti : (j : Int) < (ops.length : Int) := by omega
        have HX := Lib.hid (Px.new hon hrs (by omega) o)
        obtain ⟨y0, y1, y2⟩ := HX.out.rb.cells
        have HJ : Hid (j ≤ 200 ∧ L.length ≤ j) := Lib.hid ⟨by have := HHl.out; omega, hlen⟩
        clear h4 hon hrs hok hlen
        go_upto_block 2 with fail
        generalize wr.alloc (.cells #[.int .i64 o.kind, .int .i64 o.p, uv o.n] 33) = wa at *
        generalize wr.heap.size = x at *
        clear c0 c1 c2
        go_cut [3, 7] (fun s3 s7 wx => ∃ (q' : Nat) (m' : Option Nat) (L' : St), s3 = pv q' ∧ s7 = .bool true ∧ Px w wx q' m' (w.heap.size + 1) x o L' L' ∧ L'.length ≤ j + 1)
        case first =>
          as_aux_lemma =>
            have hL8 : L.length < 80000 := by have := HJ.out; omega
            by_cases k0 : o.kind = 0
            · have d0 : (o.kind == 0) = true := by simpa using k0
              clear k0
              have HA := Lib.hid (HX.out.add hL8 HOk.out)
              have HB := Lib.hid (fun W m' (hp : Px w W q m' (w.heap.size + 1) x o (adL L o.p o.n) L) => hp.radd (by omega) HOk.out)
              have HG : Hid ((adL L o.p o.n).length ≤ j + 1) := Lib.hid (by have := len_adL L o.p o.n; have := HJ.out; omega)
              generalize adE L o.p o.n = E at *
              generalize adL L o.p o.n = L2 at *
              clear hL8
              go_wp2_with (first
                | (go_at_call 8; (with_reducible refine HA.out.mono ?_); rintro e w1 ⟨rfl, m1, hp⟩; clear y0 y1 y2; obtain ⟨y0, y1, y2⟩ := hp.rb.cells; have HP := Lib.hid hp; clear hp)
                | (go_at_call 9; (with_reducible refine (HB.out _ _ HP.out).mono ?_); rintro e w2 ⟨rfl, hp2⟩; have HP2 := Lib.hid hp2; clear hp2))
              go_meet
              exact ⟨_, _, _, rfl, rfl, HP2.out, HG.out⟩
            · have e0 : (o.kind == 0) = false := by simpa using k0
              clear k0
              by_cases k1 : o.kind = 1
              · have d1 : (o.kind == 1) = true := by simpa using k1
                clear k1
                have HA := Lib.hid (HX.out.tick hL8)
                have HB := Lib.hid (fun W u l (hp : Px w W q m (w.heap.size + 1) x o (tkL L) L) (hu : Nr W u l) => hp.rtick (by omega) hu)
                have HG : Hid ((tkL L).length ≤ j + 1) := Lib.hid (by have := len_tkL L; have := HJ.out; omega)
                generalize tkL L = L2 at *
                generalize tkW L = l at *
                clear hL8
                go_wp2_with (first
                  | (go_at_call 10; (with_reducible refine HA.out.mono ?_); rintro e w1 ⟨u1, rfl, hu, hp⟩; clear y0 y1 y2; have HP := Lib.hid hp; have HN := Lib.hid hu; clear hp hu)
                  | (go_at_call 12; (with_reducible refine (HB.out _ _ _ HP.out HN.out).mono ?_); rintro e w2 ⟨u2, rfl, hu2, hu, hp2⟩; have HP2 := Lib.hid hp2; have HN2 := Lib.hid (And.intro hu hu2); clear hp2 hu hu2)
                  | (go_at_call 11; (with_reducible refine (same_self _ _ _ l HN2.out.1 HN2.out.2).mono ?_); rintro e w3 ⟨rfl, hb3⟩; have HP3 := Lib.hid (HP2.out.below hb3); clear hb3))
                go_meet
                exact ⟨_, _, _, rfl, rfl, HP3.out, HG.out⟩
              · have e1 : (o.kind == 1) = false := by simpa using k1
                clear k1
                by_cases k2 : o.kind = 2
                · have d2 : (o.kind == 2) = true := by simpa using k2
                  clear k2
                  have HA := Lib.hid (HX.out.drop HOk.out)
                  have HB := Lib.hid (fun W (hp : Px w W q m (w.heap.size + 1) x o (drL L o.p) L) => hp.rdrop (by omega))
                  have HG : Hid ((drL L o.p).length ≤ j + 1) := Lib.hid (by have := len_drL L o.p; have := HJ.out; omega)
                  generalize drL L o.p = L2 at *
                  generalize lft L o.p = le at *
                  generalize slp L o.p = sl at *
                  clear hL8
                  cases sl
                  all_goals
                    go_wp2_with (first
                      | (go_at_call 13; (with_reducible refine HA.out.mono ?_); rintro e w1 ⟨rfl, hp⟩; clear y0 y1 y2; obtain ⟨y0, y1, y2⟩ := hp.rb.cells; have HP := Lib.hid hp; clear hp)
                      | (go_at_call 14; (with_reducible refine (HB.out _ HP.out).mono ?_); rintro e w2 ⟨rfl, hp2⟩; have HP2 := Lib.hid hp2; clear hp2))
                    go_meet
                    exact ⟨_, _, _, rfl, rfl, HP2.out, HG.out⟩
                · have e2 : (o.kind == 2) = false := by simpa using k2
                  clear k2
                  have HG : Hid (L.length ≤ j + 1) := Lib.hid (by have := HJ.out; omega)
                  by_cases k3 : o.kind = 3
                  · have d3 : (o.kind == 3) = true := by simpa using k3
                    clear k3
                    have HA := Lib.hid HX.out.copy
                    have HT2 : Hid ((tkL L).length < 80000) := Lib.hid (by have := len_tkL L; omega)
                    go_wp2_with (first
                      | (go_at_call 15; (with_reducible refine HA.out.mono ?_); rintro e w1 ⟨q2, m2, rfl, hp⟩; clear y0 y1 y2; have HP := Lib.hid hp; clear hp)
                      | (go_at_call 10; (with_reducible refine (HP.out.tick hL8).mono ?_); rintro e w2 ⟨⟨u2, rfl⟩, hp2⟩; have HP2 := Lib.hid hp2; clear hp2)
                      | (go_at_call 8; (with_reducible refine (HP2.out.add HT2.out).mono ?_); rintro e w3 ⟨⟨z, rfl⟩, hp3⟩; have HP3 := Lib.hid hp3; clear hp3))
                    go_meet
                    exact ⟨_, _, _, rfl, rfl, HP3.out, HG.out⟩
                  · have e3 : (o.kind == 3) = false := by simpa using k3
                    clear k3
                    go_wp2
                    go_meet
                    exact ⟨_, _, _, rfl, rfl, HX.out, HG.out⟩
        case rest =>
          as_aux_lemma =>
            obtain ⟨q', m', L', rfl, rfl, hp, hg⟩ := hcut
            obtain ⟨w0, hwc⟩ : ∃ u, u = wc := ⟨_, rfl⟩
            subst hwc
            have HP0 := Lib.hid hp
            have HG := Lib.hid hg
            have hl9 : L'.length < 80000 := by have := HJ.out; omega
            clear y0 y1 y2 HX
            obtain ⟨y0, y1, y2⟩ := hp.rb.cells
            have HLf := Lib.hid (left_any hp.on_.sv o.p HOk.out.1)
            have HLr := Lib.hid (rleft_any hp.rb.ref o.p)
            have HNx := Lib.hid (hp.next hl9)
            have HNr := Lib.hid (fun W (hp : Px w W q' m' (w.heap.size + 1) x o L' L') => rnext_any hp.rb.ref)
            have HAl := Lib.hid (fun W (hp : Px w W q' m' (w.heap.size + 1) x o L' L') => hp.all hl9)
            clear hp hg hl9
            generalize hn1 : lft L' o.p = le at *
            generalize hn2 : slp L' o.p = sl at *
            generalize hn3 : nx L' = nn at *
            generalize hn4 : decide (0 < nn) = nb at *
            clear hn1 hn2 hn3 hn4
            go_wp2_with (first
              | (go_at_call 16; (with_reducible refine HLf.out.mono ?_); rintro e w1 ⟨rfl, rfl⟩)
              | (go_at_call 17; (with_reducible refine HLr.out.mono ?_); rintro e w1 ⟨rfl, rfl⟩)
              | (go_at_call 18; (with_reducible refine HNx.out.mono ?_); rintro e w2 ⟨rfl, hp2⟩; have HP2 := Lib.hid hp2; clear hp2)
              | (go_at_call 19; (with_reducible refine (HNr.out _ HP2.out).mono ?_); rintro e w3 ⟨rfl, rfl⟩)
              | (go_at_call 20; (with_reducible refine (HAl.out _ HP2.out).mono ?_); rintro e w4 ⟨a4, c4, rfl, hs4, hp4⟩; have HP4 := Lib.hid hp4; have HS4 := Lib.hid hs4; clear hp4 hs4; refine Hid.out ?_))
            refine Lib.hid ?_
            obtain ⟨vr, hv1, hv2⟩ := HP4.out.rb.ref
            obtain ⟨va2, vc2, rfl, -⟩ := sr_cells hv2
            have hcr : w4.cell? ⟨w.heap.size + 1, 0, none⟩ = some (.slice va2 L'.length vc2) := hv1.cell 0
            have HSm := Lib.hid (same_sl_self w4 _ _ L' HS4.out hv2 HP4.out.on_.ok)
            clear hv1 hv2 y0 y1 y2
            cases sl <;> cases nb
            all_goals
              go_wp2_with (go_at_call 21; (with_reducible refine HSm.out.mono ?_); rintro e w5 ⟨rfl, hb5⟩; have HP5 := Lib.hid (HP4.out.below hb5); clear hb5)
              go_roundw
              case rel => exact ⟨j + 1, _, _, _, _, by omega, by go_num, rfl, rfl, HP5.out.on_, HP5.out.rb.ref, HG.out⟩
              case measure => simp [intOf]; omega
    · obtain rfl : j = ops.length := by omega
      have HE := Lib.hid hon.bel
      clear hon hrs hlen
      go_wp2
      go_ret
      exact ⟨rfl, HE.out⟩
theorem plays_law (va : Value) (ops : List Opr) (w : World) (h : OpsAt w va ops) :
    Calls Try.prog 3 #[va] w fun e w' => e = .returned (.bool true) ∧ Below w.heap.size w w' := by
  by_cases hl : ops.length ≤ 200
  · exact plays_short va ops w h hl
  · exact plays_long va ops w h hl
end Go.Proofs.Ytpblnjphkgilfaa.Slz
namespace Go.Proofs.Ytpblnjphkgilfaa.Walk
open Go Go.RowKit Sln
theorem sleepPlays (va : Value) (ops : List Opr) (w : World) (h : OpsAt w va ops) : Calls Try.prog 3 #[va] w fun e w' => e = .returned (.bool true) ∧ Below w.heap.size w w' := Slz.plays_law va ops w h
end Go.Proofs.Ytpblnjphkgilfaa.Walk
