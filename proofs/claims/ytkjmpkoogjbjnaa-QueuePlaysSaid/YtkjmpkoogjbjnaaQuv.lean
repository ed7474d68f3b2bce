/-
  QueueOnce: the walk.
-/
import Derived.Test.YtkjmpkoogjbjnaaQuu
import Derived.Deep.RegionHeld
import Derived.Deep.DeepCutAuto
import Derived.Deep.CutBlock
namespace Go.Proofs.Ytkjmpkoogjbjnaa.Quv
open Go Go.RowKit Go.Shelf Kit Bk Qua Qub Quc Qud Que Quf Qug Quh Qui Quj Quk Qul Qum Qun Quq Qup Qur Quu
set_option linter.unusedVariables false

theorem once_great (z0 : Int) (v : Value) (ops : List Opr) (w : World) (hops : OpsAt w v ops) (hl : 60 < ops.length) : Calls Try.prog 5 #[.int .i64 z0, v] w fun e w' => e = .returned (.bool true) ∧ Below w.heap.size w w' := by
  obtain ⟨a, n, rfl, hx⟩ := ops_cells hops
  clear hx
  have HA := Lib.hid (alive_any w)
  have d0 : decide ((60 : Int) < (ops.length : Int)) = true := decide_eq_true (by omega)
  have d1 : decide (60 < ops.length) = true := decide_eq_true hl
  clear hops
  generalize ops.length = L at *
  clear hl
  go_enter Try.func5, Try.ntmps5
  go_wp2_with (first | (go_at_call 29; (with_reducible refine HA.out.mono ?_); rintro e w1 ⟨rfl, hb⟩; have HN := Lib.hid (new_gen w1 z0); have HB := Lib.hid hb; clear hb) | (go_at_call 8; (with_reducible refine HN.out.mono ?_); rintro e w2 ⟨⟨x1, x2, rfl⟩, hb⟩; replace HB := Lib.hid (HB.out.trans (hb.mono HB.out.size)); clear hb))
  go_ret
  exact ⟨rfl, HB.out⟩
theorem once_bad (z0 : Int) (v : Value) (ops : List Opr) (w : World) (hops : OpsAt w v ops) (hl : ops.length ≤ 60) (hz : z0 < 1 ∨ 8 < z0) : Calls Try.prog 5 #[.int .i64 z0, v] w fun e w' => e = .returned (.bool true) ∧ Below w.heap.size w w' := by
  obtain ⟨a, n, rfl, hx⟩ := ops_cells hops
  clear hx
  have HA := Lib.hid (alive_any w)
  have d0 : decide ((60 : Int) < (ops.length : Int)) = false := decide_eq_false (by omega)
  have d1 : decide (60 < ops.length) = false := decide_eq_false (by omega)
  clear hops
  generalize ops.length = L at *
  clear hl
  go_enter Try.func5, Try.ntmps5
  go_wp2_with (first | (go_at_call 29; (with_reducible refine HA.out.mono ?_); rintro e w1 ⟨rfl, hb⟩; have HN := Lib.hid (new_bad w1 z0 hz); have HB := Lib.hid hb; clear hb) | (go_at_call 8; (with_reducible refine HN.out.mono ?_); rintro e w2 ⟨rfl, rfl⟩))
  go_ret
  exact ⟨rfl, HB.out⟩
theorem zeros : Try.zeroCells54 = Array.replicate 100 (uv 0) := by kernel_rfl
theorem ms_new (w : World) : Ms (w.alloc (.cells Try.zeroCells54 54)) w.heap.size (fun _ => 0) := by
  refine ⟨_, Blk.new w _ _, by rw [zeros]; simp, fun i hi => ?_⟩
  rw [zeros]
  simp [hi]
theorem oa_start {N : Nat} {w0 w : World} {q c : Nat} {l : Ls} (h : St (fun _ => False) N w0 w q c l) : Oa N w0 (w.alloc (.cells Try.zeroCells54 54)) q c l w.heap.size (fun _ => 0) := by
  have hb := (Below.refl w.heap.size w).alloc (Nat.le_refl _) (.cells Try.zeroCells54 54)
  exact ⟨_, h.adopt hb, .inr ⟨Nat.le_refl _, by simp⟩, ms_new w, h.bel.size⟩
set_option maxHeartbeats 4000000 in
set_option maxRecDepth 100000 in
theorem once_good (c : Nat) (v : Value) (ops : List Opr) (w : World) (hops : OpsAt w v ops) (hl : ops.length ≤ 60) (h1 : 1 ≤ c) (h8 : c ≤ 8) : Calls Try.prog 5 #[.int .i64 (c : Int), v] w fun e w' => e = .returned (.bool true) ∧ Below w.heap.size w w' := by
  obtain ⟨a, n, rfl, hcell⟩ := ops_cells hops
  have HA := Lib.hid (alive_any w)
  have HC := Lib.hid hcell
  have H1 := Lib.hid h1
  have H8 := Lib.hid h8
  have HLn := Lib.hid hl
  have d0 : decide ((60 : Int) < (ops.length : Int)) = false := decide_eq_false (by omega)
  have d1 : decide (60 < ops.length) = false := decide_eq_false (by omega)
  have hlI : (ops.length : Int) ≤ 60 := by omega
  clear hops hcell hl
  go_enter Try.func5, Try.ntmps5
  go_wp2_with (first | (go_at_call 29; (with_reducible refine HA.out.mono ?_); rintro e w1 ⟨rfl, hb⟩; have HN := Lib.hid (new_st w1 c h1 h8); have HB := Lib.hid hb; clear hb h1 h8) | (go_at_call 8; (with_reducible refine HN.out.mono ?_); rintro e w2 ⟨rfl, hst⟩; have HS := Lib.hid hst; clear hst))
  clear d0 d1
  have HS0 : Hid (Oa 0 w (w2.alloc (.cells Try.zeroCells54 54)) w1.heap.size c NoL w2.heap.size (fun _ => 0)) := Lib.hid (by
    obtain ⟨S, g1, g2, g3, g4, g5⟩ := HS.out
    exact oa_start ⟨S, g1, fun j e => Nat.le_trans HB.out.size (g2 j e), HB.out.trans (g3.mono HB.out.size), g4, g5⟩)
  generalize w2.alloc (.cells Try.zeroCells54 54) = wz at *
  generalize hmb : w2.heap.size = mb at *
  generalize hq : w1.heap.size = q at *
  clear hq hmb HS HB
  go_loopw [9] (fun i wr => ∃ (j : Nat) (l : Ls) (M : Nat → Nat), j ≤ ops.length ∧ i = .int .i64 (j : Int) ∧ Oa j w wr q c l mb M ∧ Ok c l ∧ Inv l M) (fun i _ => ops.length - (intOf i).toNat)
  case atStart => exact ⟨0, NoL, _, Nat.zero_le _, rfl, HS0.out, ok_nol c, fun k p h => (by cases h)⟩
  case round =>
    clear HS0
    obtain ⟨j, l, M, hj, rfl, hoa, hok, hinv⟩ := hrel
    by_cases hlt : j < ops.length
    · have hltI : (j : Int) < (ops.length : Int) := by omega
      obtain ⟨b, off, rfl, c0, c1, c2, c3, hm⟩ := HC.out wr hoa.bel j hlt
      generalize ops[j] = o at *
      have hX0 := hoa.box o
      unfold opc at hX0
      have HX := Lib.hid hX0
      have HM := Lib.hid hm
      have HO := Lib.hid (And.intro hok hinv)
      have HJ : Hid (j ≤ 60) := Lib.hid (by have := HLn.out; omega)
      obtain ⟨y0, y1, y2, y3⟩ := HX.out.cells
      clear hoa hok hinv hm hX0
      go_upto_block 2 with fail
      generalize wr.alloc (.cells #[.int .i64 o.kind, .int .i64 o.p, .int .i64 o.z, uv o.m] 33) = wa at *
      generalize wr.heap.size = x at *
      clear c0 c1 c2 c3
      go_cut [11] (fun s11 wx => ∃ (E : Int) (l' : Ls), s11 = .int .i64 E ∧ Ob (j + 1) w wx q c l' mb M x o ∧ Ok c l' ∧ Trn c l l' o.p o.m E)
      case first =>
        as_aux_lemma =>
          by_cases k0 : o.kind = 0
          · have d0 : (o.kind == 0) = true := by simpa using k0
            clear k0
            have HA := Lib.hid (HX.out.place (by have := HJ.out; omega) H1.out o.p o.z o.m HM.out)
            have HG := Lib.hid (And.intro (trn_place HO.out.1 o.p o.z o.m) (HO.out.1.place o.p o.z o.m))
            generalize plR c l o.p o.z o.m = R at *
            generalize plE c l o.p o.m = E at *
            generalize plL c l o.p o.z o.m = L2 at *
            go_wp2_with (go_at_call 9; (with_reducible refine HA.out.mono ?_); rintro e w3 ⟨rfl, hp⟩; have HP := Lib.hid hp; clear hp)
            go_meet
            exact ⟨_, _, rfl, HP.out, HG.out.2, HG.out.1⟩
          · have e0 : (o.kind == 0) = false := by simpa using k0
            clear k0
            by_cases k1 : o.kind = 1
            · have d1 : (o.kind == 1) = true := by simpa using k1
              clear k1
              have HA := Lib.hid (HX.out.move (by have := HJ.out; omega) H1.out o.p o.m HM.out)
              have HG := Lib.hid (And.intro (trn_move HO.out.1 o.p o.m) (HO.out.1.move o.p o.m))
              generalize mvR c l o.p o.m = R at *
              generalize mvE c l o.p o.m = E at *
              generalize mvL c l o.p o.m = L2 at *
              go_wp2_with (go_at_call 11; (with_reducible refine HA.out.mono ?_); rintro e w3 ⟨rfl, hp⟩; have HP := Lib.hid hp; clear hp)
              go_meet
              exact ⟨_, _, rfl, HP.out, HG.out.2, HG.out.1⟩
            · have e1 : (o.kind == 1) = false := by simpa using k1
              clear k1
              by_cases k2 : o.kind = 2
              · have d2 : (o.kind == 2) = true := by simpa using k2
                clear k2
                have HA := Lib.hid (HX.out.cut o.p)
                have HG := Lib.hid (And.intro (trn_cut HO.out.1 o.p o.m o.p) (HO.out.1.cut o.p))
                generalize ctL c l o.p = L2 at *
                go_wp2_with (go_at_call 13; (with_reducible refine HA.out.mono ?_); rintro e w3 ⟨rfl, hp⟩; have HP := Lib.hid hp; clear hp)
                go_meet
                exact ⟨_, _, rfl, HP.out.more (Nat.le_succ j), HG.out.2, HG.out.1⟩
              · have e2 : (o.kind == 2) = false := by simpa using k2
                clear k2
                by_cases k3 : o.kind = 3
                · have d3 : (o.kind == 3) = true := by simpa using k3
                  clear k3
                  have HA := Lib.hid (HX.out.rotate (by have := HJ.out; omega) o.z)
                  have HG := Lib.hid (And.intro (trn_rotate (c := c) (l := l) o.p o.m o.z) (HO.out.1.rotate o.z))
                  generalize rtL c l o.z = L2 at *
                  go_wp2_with (go_at_call 15; (with_reducible refine HA.out.mono ?_); rintro e w3 ⟨rfl, hp⟩; have HP := Lib.hid hp; clear hp)
                  go_meet
                  exact ⟨_, _, rfl, HP.out.more (Nat.le_succ j), HG.out.2, HG.out.1⟩
                · have e3 : (o.kind == 3) = false := by simpa using k3
                  clear k3
                  go_wp2
                  go_meet
                  exact ⟨_, _, rfl, HX.out.more (Nat.le_succ j), HO.out.1, trn_none o.p o.m⟩
      case rest =>
        as_aux_lemma =>
          obtain ⟨E, l', rfl, hp, hok', htr⟩ := hcut
          obtain ⟨w9, hwc⟩ : ∃ u, u = wc := ⟨_, rfl⟩
          subst hwc
          have HP := Lib.hid hp
          have HT := Lib.hid (And.intro hok' htr)
          clear y0 y1 y2 y3 HX
          obtain ⟨y0, y1, y2, y3⟩ := hp.cells
          clear hp hok' htr
          go_upto_region 20 with fail
          go_cut [93] (fun s93 wx => w9 = wx ∧ s93 = .bool (decide (E = 0 ∧ 0 ≤ o.p ∧ o.p < 100)))
          case first =>
            by_cases q0 : E = 0
            · have f0 : (E == 0) = true := by simpa using q0
              by_cases q1 : 0 ≤ o.p
              · have f1 : decide (0 ≤ o.p) = true := decide_eq_true q1
                by_cases q2 : o.p < 100
                · have f2 : decide (o.p < 100) = true := decide_eq_true q2
                  have hD := Lib.hid (decide_eq_true (And.intro q0 (And.intro q1 q2)))
                  clear q0 q1 q2
                  go_wp2
                  go_meet
                  exact ⟨rfl, by rw [hD.out]⟩
                · have f2 : decide (o.p < 100) = false := decide_eq_false q2
                  have hD : Hid (decide (E = 0 ∧ 0 ≤ o.p ∧ o.p < 100) = false) := Lib.hid (decide_eq_false (fun h => q2 h.2.2))
                  clear q0 q1 q2
                  go_wp2
                  go_meet
                  exact ⟨rfl, by rw [hD.out]⟩
              · have f1 : decide (0 ≤ o.p) = false := decide_eq_false q1
                have hD : Hid (decide (E = 0 ∧ 0 ≤ o.p ∧ o.p < 100) = false) := Lib.hid (decide_eq_false (fun h => q1 h.2.1))
                clear q0 q1
                go_wp2
                go_meet
                exact ⟨rfl, by rw [hD.out]⟩
            · have f0 : (E == 0) = false := by simpa using q0
              have hD : Hid (decide (E = 0 ∧ 0 ≤ o.p ∧ o.p < 100) = false) := Lib.hid (decide_eq_false (fun h => q0 h.1))
              clear q0
              go_wp2
              go_meet
              exact ⟨rfl, by rw [hD.out]⟩
          case rest =>
            obtain ⟨rfl, rfl⟩ := hcut
            obtain ⟨B, hB⟩ : ∃ B, decide (E = 0 ∧ 0 ≤ o.p ∧ o.p < 100) = B := ⟨_, rfl⟩
            rw [hB]
            go_upto_if 93 with fail
            have HB := Lib.hid hB
            clear hB
            have HPa := Lib.hid HP.out.less
            go_cut [11] (fun s11 wx => s11 = .int .i64 E ∧ ∃ M', Oa (j + 1) w wx q c l' mb M' ∧ Inv l' M')
            case first =>
              cases B
              · have HI : Hid (Inv l' M) := Lib.hid (HO.out.2.keep HT.out.2 (of_decide_eq_false HB.out) HT.out.1)
                go_wp2
                go_meet
                exact ⟨rfl, M, HPa.out, HI.out⟩
              · obtain ⟨b0, b1, b2⟩ := of_decide_eq_true HB.out
                obtain ⟨pn, hpn⟩ : ∃ pn : Nat, o.p = (pn : Int) := ⟨o.p.toNat, by omega⟩
                have hp100 : pn < 100 := by omega
                have hp100I : (pn : Int) < 100 := by omega
                have htr := HT.out.2
                rw [hpn, b0] at htr
                have hS := HPa.out.set pn hp100 o.m HM.out
                have HI : Hid (Oa (j + 1) w (w9.setCell ⟨mb, pn, none⟩ (uv o.m)) q c l' mb (up M pn o.m) ∧ Inv l' (up M pn o.m)) := Lib.hid ⟨hS, HO.out.2.next htr HT.out.1⟩
                rw [hpn] at y1
                obtain ⟨F, _, _, hms, _⟩ := HPa.out
                obtain ⟨k0, k1⟩ := hms.cell pn hp100
                clear htr hS hms b1 b2 hpn b0
                go_wp2
                go_meet
                exact ⟨rfl, _, HI.out.1, HI.out.2⟩
            case rest =>
              as_aux_lemma =>
                obtain ⟨rfl, M', hoa, hinv⟩ := hcut
                obtain ⟨wS, hwc⟩ : ∃ u, u = wc := ⟨_, rfl⟩
                subst hwc
                have HO' := Lib.hid (And.intro hoa (And.intro HT.out.1 hinv))
                have hfl : ∀ t, t ≤ c → (fl l' t).length ≤ 488 := fun t ht => by
                  have h1 := fl_le l' t 8 (by have := H8.out; omega)
                  have h2 := flat_len l' (j + 1) (fun k => hoa.len k)
                  rw [fl_eight] at h1
                  have := HJ.out
                  have := HLn.out
                  omega
                have HF := Lib.hid hfl
                have hall := hoa.all (by have := HJ.out; omega)
                clear hoa hinv hfl HPa HB HT HP HO HM HC y0 y1 y2 y3
                go_wp2
                go_loopw [13, 12] (fun k m wr => ∃ t : Nat, t ≤ c ∧ k = .int .i64 (t : Int) ∧ m = .int .i64 ((fl l' t).length : Int) ∧ Below wS.heap.size wS wr) (fun k _ _ => c - (intOf k).toNat)
                case atStart => exact ⟨0, Nat.zero_le _, rfl, rfl, Below.refl _ _⟩
                case round =>
                  obtain ⟨t, htc, rfl, rfl, hb⟩ := hrel
                  by_cases hlt2 : t < c
                  · have hltI : (t : Int) < (c : Int) := by omega
                    have hfe : (fl l' (t + 1)).length = (fl l' t).length + (l' t).length := by
                      show (fl l' t ++ l' t).length = _
                      simp
                    have hf1 := HF.out (t + 1) (by omega)
                    have HOb := Lib.hid (HO'.out.1.below hb)
                    have HL := Lib.hid (HOb.out.list (by have := HJ.out; omega) t hlt2)
                    have ew : IntKind.wrap .i64 (((fl l' t).length : Int) + ((l' t).length : Int)) = ((fl l' (t + 1)).length : Int) := by
                      rw [hfe]
                      simp [IntKind.wrap, IntKind.bits, IntKind.signed]
                      omega
                    have HBd := Lib.hid hb
                    have HT := Lib.hid hlt2
                    have hcI : (c : Int) ≤ 8 := by have := H8.out; omega
                    have hn0 : ((l' t).length : Int) ≤ 61 := by have h1 := HO'.out.1.len t; have h2 := HJ.out; omega
                    generalize (fl l' t).length = f0 at *
                    clear hb hfe hf1
                    go_wp2_with (go_at_call 24; (with_reducible refine HL.out.mono ?_); rintro e w4 ⟨hb4, a4, n4, rfl, hx4⟩; have HB4 := Lib.hid (HBd.out.trans (hb4.mono HBd.out.size)); have HX4 := Lib.hid hx4; clear hb4 hx4)
                    go_loopw [15] (fun i wr => ∃ s : Nat, s ≤ (l' t).length ∧ i = .int .i64 (s : Int) ∧ Below w4.heap.size w4 wr) (fun i _ => (l' t).length - (intOf i).toNat)
                    case atStart => exact ⟨0, Nat.zero_le _, rfl, Below.refl _ _⟩
                    case round =>
                      obtain ⟨s, hs, rfl, hb⟩ := hrel
                      by_cases hlt3 : s < (l' t).length
                      · have hltI3 : (s : Int) < ((l' t).length : Int) := by omega
                        obtain ⟨g, og, rfl, hc⟩ := HX4.out wr hb s hlt3
                        have hmem : (l' t).getD s 0 ∈ l' t := by
                          rw [List.getD_eq_getElem?_getD, List.getElem?_eq_getElem hlt3]
                          exact List.getElem_mem hlt3
                        have hoc := HO'.out.1.below (HB4.out.trans (hb.mono HB4.out.size))
                        have hw := hoc.where ((l' t).getD s 0)
                        rw [HO'.out.2.1.wh_lt hmem] at hw
                        have hy1 := HO'.out.2.1.pos t _ hmem
                        have hin := HO'.out.2.2 t _ hmem
                        have HW := Lib.hid hw
                        have HBs := Lib.hid hb
                        obtain ⟨y, hy⟩ : ∃ y : Nat, (l' t).getD s 0 = (y : Int) := ⟨((l' t).getD s 0).toNat, by omega⟩
                        rw [hy] at hc hy1 hin
                        have d3 : decide ((0 : Int) < (y : Int)) = true := decide_eq_true (by omega)
                        rw [hy] at HW
                        generalize (l' t).length = n0 at *
                        clear hw hb hmem hy
                        by_cases h100 : y < 100
                        · have h100I : (y : Int) < 100 := by omega
                          obtain ⟨k1, k0⟩ := hoc.mask y h100
                          have hbit := bt_bits (M' y) t k1
                          rw [show ((y : Int)).toNat = y from rfl] at hin
                          rw [hin h100I] at hbit
                          have hbit2 := eq_of_beq hbit
                          have ht8 : (t : Int) < 8 := by have := H8.out; have := HT.out; omega
                          have ht32 : t < 32 := by have := H8.out; have := HT.out; omega
                          clear hin hoc hbit
                          go_wp2_with (go_at_call 17; (with_reducible refine HW.out.mono ?_); rintro e w5 ⟨rfl, rfl⟩)
                          go_roundw
                          case rel => exact ⟨s + 1, by omega, by go_num, HBs.out⟩
                          case measure => simp [intOf]; omega
                        · have h100I : ¬ (y : Int) < 100 := by omega
                          have d4 : decide ((y : Int) < 100) = false := decide_eq_false h100I
                          clear hin hoc
                          go_wp2_with (go_at_call 17; (with_reducible refine HW.out.mono ?_); rintro e w5 ⟨rfl, rfl⟩)
                          go_roundw
                          case rel => exact ⟨s + 1, by omega, by go_num, HBs.out⟩
                          case measure => simp [intOf]; omega
                      · obtain rfl : s = (l' t).length := by omega
                        have HBs := Lib.hid (HB4.out.trans (hb.mono HB4.out.size))
                        clear hb
                        go_wp2
                        go_roundw
                        case rel => exact ⟨t + 1, by have := HT.out; omega, by go_num, rfl, HBs.out⟩
                        case measure => have := HT.out; simp [intOf]; omega
                  · obtain rfl : t = c := by omega
                    have HOb := Lib.hid (HO'.out.1.below hb)
                    have HAl := HOb.out.all (by have := HJ.out; omega)
                    rw [← fl_tot HO'.out.2.1 H8.out] at HAl
                    replace HAl := Lib.hid HAl
                    have hf1 := HF.out t (Nat.le_refl _)
                    generalize (fl l' t).length = f0 at *
                    clear hb
                    go_wp2_with (go_at_call 22; (with_reducible refine HAl.out.mono ?_); rintro e w4 ⟨hb4, a4, n4, rfl⟩; have HO4 := Lib.hid (HOb.out.below hb4); clear hb4)
                    go_roundw
                    case rel => exact ⟨j + 1, l', M', by omega, by go_num, HO4.out, HO'.out.2.1, HO'.out.2.2⟩
                    case measure => simp [intOf]; omega
    · obtain rfl : j = ops.length := by omega
      have HB := Lib.hid hoa.bel
      clear hoa hok hinv
      go_wp2
      go_ret
      exact ⟨rfl, HB.out⟩
end Go.Proofs.Ytkjmpkoogjbjnaa.Quv
namespace Go.Proofs.Ytkjmpkoogjbjnaa.Walk
open Go Go.RowKit Kit Qup
theorem queueOnce (z0 : Int) (v : Value) (ops : List Opr) (w : World) (w0 : (Lit.int .i64 z0).wf = true) (h : OpsAt w v ops) : Calls Try.prog 5 #[.int .i64 z0, v] w fun e w' => e = .returned (.bool true) ∧ Below w.heap.size w w' := by
  by_cases hl : ops.length ≤ 60
  · by_cases hz : 1 ≤ z0 ∧ z0 ≤ 8
    · obtain ⟨c, rfl⟩ : ∃ c : Nat, z0 = (c : Int) := ⟨z0.toNat, by omega⟩
      exact Quv.once_good c v ops w h hl (by omega) (by omega)
    · exact Quv.once_bad z0 v ops w h hl (by omega)
  · exact Quv.once_great z0 v ops w h (by omega)
end Go.Proofs.Ytkjmpkoogjbjnaa.Walk
