/-
  FutexPlays: the walk.
-/
import Derived.Test.YtpfnjeicenhciaaFtx
import Derived.Deep.RegionHeld
import Derived.Deep.DeepCutAuto
import Derived.Deep.CutBlock
namespace Go.Proofs.Ytpfnjeicenhciaa.Fty
open Go Go.RowKit Kit Bk Fta Ftb Ftc Ftd Fte Ftf Ftg Fth Fti Ftj Ftk Ftl Ftm Ftn Fto Ftq Ftr Fts Ftt Ftu Ftv Ftx
set_option linter.unusedVariables false

set_option maxRecDepth 100000 in
theorem plays_long (va : Value) (ops : List Opr) (w : World) (h : OpsAt w va ops) (hl : ¬ ops.length ≤ 200) :
    Calls Try.prog 3 #[va] w fun e w' => e = .returned (.bool true) ∧ Below w.heap.size w w' := by
  obtain ⟨ad, cap, rfl, h1, h2, h3⟩ := h
  have dl : decide ((200 : Int) < (ops.length : Int)) = true := decide_eq_true (by omega)
  clear h3 hl
  go_enter Try.func3, Try.ntmps3
  go_wp2
  go_ret
  exact ⟨rfl, Below.refl _ _⟩
theorem pl_start (w : World) : Pl w ((w.alloc (.cells #[.slice none 0 0] 26)).alloc (.cells #[.slice none 0 0] 29)) w.heap.size w.heap.size (w.heap.size + 1) (w.heap.size + 1) [] := by
  have h1 := On.new w
  have hb := (Below.refl (w.alloc (.cells #[.slice none 0 0] 26)).heap.size (w.alloc (.cells #[.slice none 0 0] 26))).alloc (Nat.le_refl _) (.cells #[.slice none 0 0] 29)
  have h2 := h1.below hb
  have hs : (w.alloc (.cells #[.slice none 0 0] 26)).heap.size = w.heap.size + 1 := by simp
  have h3 := Blk.new (w.alloc (.cells #[.slice none 0 0] 26)) #[.slice none 0 0] 29
  rw [hs] at h3
  exact ⟨h2.bel, h2.lx, ⟨_, h3, World.ownsRow_nil _ _ _ _, .inl ⟨rfl, rfl⟩⟩, by omega, by omega⟩

set_option maxRecDepth 100000 in
set_option maxHeartbeats 32000000 in
theorem plays_fine (va : Value) (ops : List Opr) (w : World) (h : OpsAt w va ops) (hl : ops.length ≤ 200) :
    Calls Try.prog 3 #[va] w fun e w' => e = .returned (.bool true) ∧ Below w.heap.size w w' := by
  obtain ⟨ad, cap, rfl, h1, h2, h3⟩ := h
  have dl : decide ((200 : Int) < (ops.length : Int)) = false := decide_eq_false (by omega)
  have hli : (ops.length : Int) ≤ 200 := by omega
  have H3 := Lib.hid h3
  have HHl := Lib.hid hl
  have HS := Lib.hid (pl_start w)
  clear h3 hl
  go_enter Try.func3, Try.ntmps3
  go_wp2
  go_loopw [3, 29] (fun s i wr => ∃ (j f r u ru : Nat) (L : List Wt), j ≤ ops.length ∧ i = .int .i64 (j : Int) ∧ s = .pointer (some ⟨f, 0, none⟩) ∧ u = w.heap.size + 1 ∧ Pl w wr f r u ru L ∧ Gd j L) (fun _ i _ => ops.length - (intOf i).toNat)
  case atStart => exact ⟨0, _, _, _, _, _, Nat.zero_le _, rfl, rfl, rfl, HS.out, Gd.nil 0⟩
  case round =>
    obtain ⟨j, f, r, u, ru, L, hj, rfl, rfl, rfl, hs, hd⟩ := hrel
    clear HS
    by_cases hlt : j < ops.length
    · rcases H3.out with h0 | ⟨ba, off, rfl, hb, h4⟩
      · subst h0; simp at hlt
      · obtain ⟨hat, hok⟩ := h4 j hlt
        obtain ⟨c0, c1, c2, c3, c4, c5⟩ := hat.below hs.bel hb
        have HOk := Lib.hid hok
        generalize ops[j] = o at *
        have hlti : (j : Int) < (ops.length : Int) := by omega
        have HX := Lib.hid (Px.new hs o)
        obtain ⟨y0, y1, y2, y3, y4, y5⟩ := HX.out.cells
        have HD := Lib.hid hd
        have HJ : Hid (j ≤ 200) := Lib.hid (by have := HHl.out; omega)
        clear h4 hs hat hok hd
        go_upto_block 2 with fail
        have HXc := Lib.hid (HX.out.cells)
        generalize wr.alloc (.cells #[.int .i64 o.kind, .int .i64 o.q, .int .i64 o.k.p, .int .i64 o.k.f, .int .i64 o.k.o, .int .i64 o.n] 33) = wa at *
        generalize wr.heap.size = x at *
        clear c0 c1 c2 c3 c4 c5
        go_cut [3, 7] (fun s3 s7 wx => ∃ (f' r' ru' : Nat) (L' : List Wt), s3 = .pointer (some ⟨f', 0, none⟩) ∧ s7 = .bool true ∧ Px w wx f' r' (w.heap.size + 1) ru' x o L' L' ∧ Gd (j + 1) L')
        case first =>
          as_aux_lemma =>
            have hdl := HD.out.len
            have hj2 := HJ.out
            have HDb : Hid (Gd 80000 L) := Lib.hid (HD.out.mono (by omega))
            by_cases k0 : o.kind = 0
            · have d0 : (o.kind == 0) = true := by simpa using k0
              clear k0
              have HA := Lib.hid (HX.out.wait (by omega))
              have HB := Lib.hid (fun W r1 (hp : Px w W f r1 (w.heap.size + 1) ru x o (wtL L o.q o.k) L) => hp.rwait (by omega))
              have HG := Lib.hid (HD.out.wait o.q o.k HOk.out.1 HOk.out.2)
              generalize wtE L o.q o.k = E at *
              generalize wtL L o.q o.k = L2 at *
              go_wp2_with (first
                | (go_at_call 9; (with_reducible refine HA.out.mono ?_); rintro e w1 ⟨rfl, r1, hp⟩; clear y0 y1 y2 y3 y4 y5; obtain ⟨y0, y1, y2, y3, y4, y5⟩ := hp.cells; have HP := Lib.hid hp; clear hp)
                | (go_at_call 10; (with_reducible refine (HB.out _ _ HP.out).mono ?_); rintro e w2 ⟨rfl, ru2, hp2⟩; have HP2 := Lib.hid hp2; clear hp2))
              go_meet
              exact ⟨_, _, _, _, rfl, rfl, HP2.out, HG.out⟩
            · have e0 : (o.kind == 0) = false := by simpa using k0
              clear k0
              by_cases k1 : o.kind = 1
              · have d1 : (o.kind == 1) = true := by simpa using k1
                clear k1
                have HA := Lib.hid (HX.out.wake HDb.out HOk.out.2)
                have HB := Lib.hid (fun W v l (hp : Px w W f r (w.heap.size + 1) ru x o (rst L o.k o.n.toNat) L) (hv : Nr W v l) => hp.rwake HDb.out HOk.out.2 hv)
                have HG := Lib.hid ((rst_good HD.out o.k o.n.toNat).mono (Nat.le_succ j))
                have HL9 : Hid ((wks L o.k o.n).length ≤ 90000) := Lib.hid (by have := wks_len L o.k o.n; omega)
                generalize rst L o.k o.n.toNat = L2 at *
                generalize wks L o.k o.n = l at *
                go_wp2_with (first
                  | (go_at_call 11; (with_reducible refine HA.out.mono ?_); rintro e w1 ⟨a1, c1, rfl, hn1, hp⟩; clear y0 y1 y2 y3 y4 y5; obtain ⟨y0, y1, y2, y3, y4, y5⟩ := hp.cells; have HP := Lib.hid hp; have HN1 := Lib.hid hn1; clear hp hn1)
                  | (go_at_call 13; (with_reducible refine (HB.out _ _ _ HP.out HN1.out).mono ?_); rintro e w2 ⟨a2, c2, rfl, hn2, hm2, ru2, hp2⟩; have HP2 := Lib.hid hp2; have HN2 := Lib.hid (And.intro hm2 hn2); clear hp2 hn2 hm2)
                  | (go_at_call 12; (with_reducible refine (same_nr _ _ l _ HL9.out HN2.out.1 HN2.out.2).mono ?_); rintro e w3 ⟨rfl, hb3⟩; have HP3 := Lib.hid (HP2.out.below hb3); clear hb3))
                go_meet
                exact ⟨_, _, _, _, rfl, rfl, HP3.out, HG.out⟩
              · have e1 : (o.kind == 1) = false := by simpa using k1
                clear k1
                by_cases k2 : o.kind = 2
                · have d2 : (o.kind == 2) = true := by simpa using k2
                  clear k2
                  have HA := Lib.hid HX.out.gone
                  have HB := Lib.hid (fun W (hp : Px w W f r (w.heap.size + 1) ru x o (Ftf.stay (eqq o.q) L) L) => hp.rgone (by omega))
                  have HG := Lib.hid ((HD.out.stay (eqq o.q)).mono (Nat.le_succ j))
                  generalize Ftf.stay (eqq o.q) L = L2 at *
                  generalize fkB L o.q = B at *
                  go_wp2_with (first
                    | (go_at_call 14; (with_reducible refine HA.out.mono ?_); rintro e w1 ⟨rfl, hp⟩; clear y0 y1 y2 y3 y4 y5; obtain ⟨y0, y1, y2, y3, y4, y5⟩ := hp.cells; have HP := Lib.hid hp; clear hp)
                    | (go_at_call 15; (with_reducible refine (HB.out _ HP.out).mono ?_); rintro e w2 ⟨rfl, ru2, hp2⟩; have HP2 := Lib.hid hp2; clear hp2))
                  go_meet
                  exact ⟨_, _, _, _, rfl, rfl, HP2.out, HG.out⟩
                · have e2 : (o.kind == 2) = false := by simpa using k2
                  clear k2
                  by_cases k3 : o.kind = 3
                  · have d3 : (o.kind == 3) = true := by simpa using k3
                    clear k3
                    have HA := Lib.hid (HX.out.copy (by omega))
                    have HB := Lib.hid (fun W c rc (hp : Px w W f r (w.heap.size + 1) ru x o L L) (hg : Px w W c rc (w.heap.size + 1) ru x o L L) ha => hp.oldWake hg HDb.out HOk.out.2 ha)
                    have HC := Lib.hid (fun W c rc (hp : Px w W f r (w.heap.size + 1) ru x o (rst L o.k 3) L) (hg : Px w W c rc (w.heap.size + 1) ru x o L L) ha => hp.oldWait hg (by have := rst_len o.k L 3; omega) ha 77 ⟨0, 0, 0⟩)
                    have HG := Lib.hid (HD.out.mono (Nat.le_succ j))
                    go_wp2_with (first
                      | (go_at_call 16; (with_reducible refine HA.out.mono ?_); rintro e w1 ⟨c, rfl, rc, hp, hg, ha⟩; clear y0 y1 y2 y3 y4 y5; obtain ⟨y0, y1, y2, y3, y4, y5⟩ := hp.cells; have HP := Lib.hid hp; have HQ := Lib.hid hg; have HAp := Lib.hid ha; clear hp hg ha)
                      | (go_at_call 11; (with_reducible refine (HB.out _ _ _ HP.out HQ.out HAp.out).mono ?_); rintro e w2 ⟨v2, rfl, hp2, hg2⟩; have HP2 := Lib.hid hp2; have HQ2 := Lib.hid hg2; clear hp2 hg2)
                      | (go_at_call 9; (with_reducible refine (HC.out _ _ _ HP2.out HQ2.out HAp.out).mono ?_); rintro e w3 ⟨⟨z, rfl⟩, hg3⟩; have HQ3 := Lib.hid hg3; clear hg3))
                    go_meet
                    exact ⟨_, _, _, _, rfl, rfl, HQ3.out, HG.out⟩
                  · have e3 : (o.kind == 3) = false := by simpa using k3
                    clear k3
                    have HG := Lib.hid (HD.out.mono (Nat.le_succ j))
                    go_wp2
                    go_meet
                    exact ⟨_, _, _, _, rfl, rfl, HX.out, HG.out⟩
        case rest =>
          as_aux_lemma =>
            obtain ⟨f', r', ru', L', rfl, rfl, hp, hg⟩ := hcut
            obtain ⟨w0, hwc⟩ : ∃ u, u = wc := ⟨_, rfl⟩
            subst hwc
            have HP0 := Lib.hid hp
            have HG := Lib.hid hg
            have hkw : Hid (Fta.kwf o.k) := Lib.hid HOk.out.2
            have hdl := hg.len
            have hl9 : Hid (L'.length ≤ 80000 ∧ L'.length ≤ 90000) := Lib.hid (by have := HJ.out; omega)
            have hlI : (L'.length : Int) ≤ 201 := by have := HJ.out; omega
            clear y0 y1 y2 y3 y4 y5 HX HXc HD
            obtain ⟨y0, y1, y2, y3, y4, y5⟩ := hp.cells
            have HKy := Lib.hid (fun W (h : Px w W f' r' (w.heap.size + 1) ru' x o L' L') => key_any W f' r' L' o.q h.lx)
            have HRk := Lib.hid (fun W (h : Px w W f' r' (w.heap.size + 1) ru' x o L' L') => rkey_any W (w.heap.size + 1) ru' L' o.q h.rx)
            have HKw := Lib.hid (fkK_wf hg o.q)
            have hsm := run_same (fkK L' o.q) HKw.out
            have HCk := Lib.hid (fun W : World => check_any W o.k)
            have hem := ckE_may o.k
            have HMy := Lib.hid (fun W : World => rmay_any W o.k)
            generalize fkK L' o.q = K at *
            generalize fkB L' o.q = B at *
            generalize ckE o.k = E at *
            generalize mayK o.k = My at *
            clear hp hg hdl
            go_wp2_with (first
              | (go_at_call 17; (with_reducible refine (HKy.out _ HP0.out).mono ?_); rintro e w1 ⟨rfl, hb1⟩; have hba := hb1.alloc hb1.size (.cells #[.int .i64 K.p, .int .i64 K.f, .int .i64 K.o] 31); have HP1 := Lib.hid (HP0.out.below hba); have HB1 := Lib.hid (Blk.new w1 #[.int .i64 K.p, .int .i64 K.f, .int .i64 K.o] 31); clear y0 y1 y2 y3 y4 y5; obtain ⟨y0, y1, y2, y3, y4, y5⟩ := HP1.out.cells; clear hb1 hba)
              | (go_at_call 18; (with_reducible refine (HRk.out _ HP1.out).mono ?_); rintro e w2 ⟨rfl, hb2⟩; have hba := hb2.alloc hb2.size (.cells #[.int .i64 K.p, .int .i64 K.f, .int .i64 K.o] 31); have HP2 := Lib.hid (HP1.out.below hba); have HC2 := Lib.hid (HB1.out.below hba); have HB2 := Lib.hid (Blk.new w2 #[.int .i64 K.p, .int .i64 K.f, .int .i64 K.o] 31); clear y0 y1 y2 y3 y4 y5; obtain ⟨y0, y1, y2, y3, y4, y5⟩ := HP2.out.cells; clear hb2 hba)
              | (go_at_call 19; (with_reducible refine (at_any _ f' r' L' o.k HP2.out.lx HG.out.kwf hkw.out hl9.out.2).mono ?_); rintro e w3 ⟨hb3, va, rfl, ha3⟩; have HP3 := Lib.hid (HP2.out.below hb3); have HC3 := Lib.hid (HC2.out.below hb3); have HB3 := Lib.hid (HB2.out.below hb3); have HA3 := Lib.hid (nr_own ha3); obtain ⟨na, nc, rfl⟩ := own_form ha3; clear hb3 ha3)
              | (go_at_call 20; (with_reducible refine (all_any _ f' r' L' HP3.out.lx hl9.out.2).mono ?_); rintro e w4 ⟨hb4, vb, rfl, ha4⟩; have HP4 := Lib.hid (HP3.out.below hb4); have HC4 := Lib.hid (HC3.out.below hb4); have HB4 := Lib.hid (HB3.out.below hb4); have HA4 := Lib.hid (HA3.out.below hb4); have HL4 := Lib.hid (nw_own ha4); have HO4 := Lib.hid (And.intro (Ow.of (r := r') (ru := ru') ha4 HP3.out.lx.lt.2 HP3.out.rx.lt.2) (And.intro ha4 HP3.out.bel.size)); obtain ⟨ma, mc, rfl⟩ := own_form ha4; clear y0 y1 y2 y3 y4 y5; obtain ⟨y0, y1, y2, y3, y4, y5⟩ := HP4.out.cells; clear hb4 ha4)
              | (go_at_call 21; (with_reducible refine (HCk.out _).mono ?_); rintro e w5 ⟨rfl, hb5⟩; refine Hid.out ?_))
            have HP5 := Lib.hid (HP4.out.below hb5)
            have HC5 := Lib.hid (HC4.out.below hb5)
            have HB5 := Lib.hid (HB4.out.below hb5)
            have HA5 := Lib.hid (HA4.out.below hb5)
            have HL5 := Lib.hid (HL4.out.below hb5)
            have HO5 := Lib.hid (HO4.out.1.below hb5)
            obtain ⟨vu, u1, u2⟩ := HP5.out.rx
            obtain ⟨ua, uc, rfl⟩ := own_form u2.1
            have HU := Lib.hid (And.intro u1 (show Nw w5 (.slice ua L'.length uc) L' from u2.1))
            have KS : Hid (∀ W, Below w5.heap.size w5 W → (W.cell? ⟨w1.heap.size, 0, none⟩ = some (.int .i64 K.p) ∧ W.cell? ⟨w1.heap.size, 1, none⟩ = some (.int .i64 K.f) ∧ W.cell? ⟨w1.heap.size, 2, none⟩ = some (.int .i64 K.o) ∧ W.cell? ⟨w2.heap.size, 0, none⟩ = some (.int .i64 K.p) ∧ W.cell? ⟨w2.heap.size, 1, none⟩ = some (.int .i64 K.f) ∧ W.cell? ⟨w2.heap.size, 2, none⟩ = some (.int .i64 K.o) ∧ W.cell? ⟨x, 2, none⟩ = some (.int .i64 o.k.p) ∧ W.cell? ⟨x, 3, none⟩ = some (.int .i64 o.k.f) ∧ W.cell? ⟨x, 4, none⟩ = some (.int .i64 o.k.o) ∧ W.cell? ⟨w.heap.size + 1, 0, none⟩ = some (.slice ua L'.length uc))) := Lib.hid (fun W hb => by
              have a1 := HC5.out.below hb
              have a2 := HB5.out.below hb
              have a3 := (HP5.out.below hb).cells
              exact ⟨a1.cell 0, a1.cell 1, a1.cell 2, a2.cell 0, a2.cell 1, a2.cell 2, a3.2.2.1, a3.2.2.2.1, a3.2.2.2.2.1, (HU.out.1.below hb).cell 0⟩)
            have HRa := Lib.hid (fun W (hb : Below w5.heap.size w5 W) => rat_any W (w.heap.size + 1) ru' L' o.k (HP5.out.below hb).rx HG.out.kwf hkw.out hl9.out.2)
            have HLn := Lib.hid (fun W (hb : Below w5.heap.size w5 W) => flen_any W f' r' L' (HP5.out.below hb).lx)
            have Hlat : Hid ((ats L' o.k).length ≤ 90000) := Lib.hid (by have := ats_len L' o.k; have := hl9.out.2; omega)
            have HSa := Lib.hid (fun W v (hb : Below w5.heap.size w5 W) (hv : Nr W v (ats L' o.k)) => same_nr (.slice na (ats L' o.k).length nc) v (ats L' o.k) W Hlat.out (HA5.out.below hb) hv)
            have HSb := Lib.hid (fun W (hb : Below w5.heap.size w5 W) => same_nw (.slice ma L'.length mc) (.slice ua L'.length uc) L' W hl9.out.2 HG.out.xwf (HL5.out.below hb) (HU.out.2.below hb))
            have HRt : Hid (∀ W, Below w5.heap.size w5 W → Calls Try.prog 22 #[.pointer (some ⟨w.heap.size + 1, 0, none⟩), kv o.k] W fun e w' => Below W.heap.size W w' ∧ ∃ a c, e = .returned (.slice a (ats L' o.k).length c) ∧ Nr w' (.slice a (ats L' o.k).length c) (ats L' o.k)) := Lib.hid (fun W hb => (HRa.out W hb).mono (by
              rintro e w' ⟨q1, v, rfl, q2⟩
              obtain ⟨a, c, rfl⟩ := own_form q2
              exact ⟨q1, a, c, rfl, nr_own q2⟩))
            clear u1 u2 hb5 y0 y1 y2 y3 y4 y5 HRa HKy HRk HCk HA3 HA4 HB1 HB2 HB3 HB4 HC2 HC3 HC4 HL4 HP0 HP1 HP2 HP3
            have K5 := KS.out _ (Below.refl w5.heap.size w5)
            have K5d := Lib.hid (KS.out _ ((Below.refl w5.heap.size w5).drew))
            refine Lib.hid ?_
            go_upto_region 30 with fail
            go_cut [164] (fun s wx => s = .bool false ∧ Below w5.heap.size w5 wx)
            case first =>
              as_aux_lemma =>
                generalize (ats L' o.k).length = lat at *
                go_region_held (fun W => (W.cell? ⟨w1.heap.size, 0, none⟩ = some (.int .i64 K.p) ∧ W.cell? ⟨w1.heap.size, 1, none⟩ = some (.int .i64 K.f) ∧ W.cell? ⟨w1.heap.size, 2, none⟩ = some (.int .i64 K.o) ∧ W.cell? ⟨w2.heap.size, 0, none⟩ = some (.int .i64 K.p) ∧ W.cell? ⟨w2.heap.size, 1, none⟩ = some (.int .i64 K.f) ∧ W.cell? ⟨w2.heap.size, 2, none⟩ = some (.int .i64 K.o) ∧ W.cell? ⟨x, 2, none⟩ = some (.int .i64 o.k.p) ∧ W.cell? ⟨x, 3, none⟩ = some (.int .i64 o.k.f) ∧ W.cell? ⟨x, 4, none⟩ = some (.int .i64 o.k.o) ∧ W.cell? ⟨w.heap.size + 1, 0, none⟩ = some (.slice ua L'.length uc)))
                  (first | exact KS.out _ B9.out | exact KS.out _ B8.out | exact KS.out _ B7.out | exact KS.out _ B6.out | exact K5d.out)
                  (first
                    | (go_at_call 22; (with_reducible refine (HRt.out _ ((Below.refl w5.heap.size w5).drew)).mono ?_); rintro e w6 ⟨b6, ra, rc, rfl, h6⟩; have B6 := Lib.hid ((Below.refl w5.heap.size w5).drew.trans b6); have HR6 := Lib.hid h6; clear b6 h6)
                    | (go_at_call 12; (with_reducible refine (HSa.out _ _ B6.out HR6.out).mono ?_); rintro e w7 ⟨rfl, b7⟩; have B7 := Lib.hid (B6.out.trans (b7.mono B6.out.size)); clear b7)
                    | (go_at_call 23; (with_reducible refine (HSb.out _ B7.out).mono ?_); rintro e w8 ⟨rfl, b8⟩; have B8 := Lib.hid (B7.out.trans (b8.mono B7.out.size)); clear b8)
                    | (go_at_call 24; (with_reducible refine (HLn.out _ B8.out).mono ?_); rintro e w9 ⟨rfl, rfl⟩)
                    | (go_at_call 25; (with_reducible refine (HMy.out _).mono ?_); rintro e w10 ⟨rfl, b9⟩; have B9 := Lib.hid (B8.out.trans (b9.mono B8.out.size)); clear b9))
                all_goals go_wp2_with fail
                all_goals go_meet
                all_goals exact ⟨rfl, B9.out⟩
            case rest =>
              as_aux_lemma =>
                obtain ⟨rfl, hbc⟩ := hcut
                obtain ⟨w20, hwc⟩ : ∃ u, u = wc := ⟨_, rfl⟩
                subst hwc
                have HPc := Lib.hid (HP5.out.below hbc).pl
                have HOc := Lib.hid (HO5.out.below hbc)
                have hma : Hid (∀ m, m < L'.length → ∃ b, ma = some ⟨b, 0, none⟩ ∧ w.heap.size ≤ b) := Lib.hid (fun m hm => by
                  have h1 := HO4.out.2.1
                  have h2 := HO4.out.2.2
                  rcases h1.2 with ⟨e1, e2⟩ | ⟨g, cap', cur, e1, hg, _⟩
                  · omega
                  · cases e1
                    exact ⟨g, rfl, Nat.le_trans h2 hg⟩)
                have hj200 : Hid (j + 1 ≤ ops.length) := Lib.hid hlt
                clear hbc HO4 HO5 HP5 HP4 HC5 HB5 HA5 HL5 HU KS HLn HSa HSb HRt K5 K5d HMy hem hsm HKw hlt
                try go_wp2
                go_loopw [167] (fun i wr => ∃ m : Nat, m ≤ L'.length ∧ i = .int .i64 (m : Int) ∧ Pl w wr f' r' (w.heap.size + 1) ru' L' ∧ Ow wr r' ru' (.slice ma L'.length mc)) (fun i _ => L'.length - (intOf i).toNat)
                case atStart => exact ⟨0, Nat.zero_le _, rfl, HPc.out, HOc.out⟩
                case round =>
                  obtain ⟨m, hm, rfl, hpl, how⟩ := hrel
                  by_cases hmt : m < L'.length
                  · have hmI : (m : Int) < (L'.length : Int) := by omega
                    obtain ⟨b, rfl, hlo⟩ := hma.out m hmt
                    obtain ⟨⟨z, hz⟩, hfz, hp2, ho2⟩ := hpl.over how hmt hlo (.int .i64 0)
                    have HE := Lib.hid (And.intro hp2 ho2)
                    clear hpl how hp2 ho2
                    go_wp2
                    go_roundw
                    case rel => exact ⟨m + 1, by omega, by go_num, HE.out⟩
                    case measure => simp [intOf]; omega
                  · obtain rfl : m = L'.length := by omega
                    have HE := Lib.hid hpl
                    clear hpl how
                    go_wp2
                    go_roundw
                    case rel => exact ⟨j + 1, _, _, _, _, _, hj200.out, by go_num, rfl, rfl, HE.out, HG.out⟩
                    case measure => have := hj200.out; simp [intOf]; omega
    · obtain rfl : j = ops.length := by omega
      have HB := Lib.hid hs.bel
      clear hs H3
      go_wp2
      go_ret
      exact ⟨rfl, HB.out⟩
theorem plays (va : Value) (ops : List Opr) (w : World) (h : OpsAt w va ops) :
    Calls Try.prog 3 #[va] w fun e w' => e = .returned (.bool true) ∧ Below w.heap.size w w' := by
  by_cases hl : ops.length ≤ 200
  · exact plays_fine va ops w h hl
  · exact plays_long va ops w h hl
end Go.Proofs.Ytpfnjeicenhciaa.Fty
namespace Go.Proofs.Ytpfnjeicenhciaa.Walk
open Go Go.RowKit Kit Ftq Fty
theorem futexPlays (va : Value) (ops : List Opr) (w : World) (h : OpsAt w va ops) : Calls Try.prog 3 #[va] w fun e w' => e = .returned (.bool true) ∧ Below w.heap.size w w' := plays va ops w h
end Go.Proofs.Ytpfnjeicenhciaa.Walk
