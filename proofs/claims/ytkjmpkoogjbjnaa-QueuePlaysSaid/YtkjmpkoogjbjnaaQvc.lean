/-
  QueuePlays: the walk.
-/
import Derived.Test.YtkjmpkoogjbjnaaQvb
import Derived.Deep.RegionHeld
import Derived.Deep.DeepCutAuto
import Derived.Deep.CutBlock
namespace Go.Proofs.Ytkjmpkoogjbjnaa.Qvc
open Go Go.RowKit Go.Shelf Kit Bk Qua Qub Quc Qud Que Quf Qug Quh Qui Quj Quk Qul Qum Qun Quq Qup Qur Quu Quw Qux Quy Quz Qva Qvb
set_option linter.unusedVariables false

set_option maxRecDepth 100000 in
theorem plays_great (z0 : Int) (v : Value) (ops : List Opr) (n : Nat) (w : World) (hops : OpsAt w v ops) (hl : 60 < ops.length) : Calls Try.prog 3 #[.int .i64 z0, v, uv n] w fun e w' => e = .returned (.bool true) ∧ Below w.heap.size w w' := by
  obtain ⟨a, m, rfl, hx⟩ := ops_cells hops
  clear hx
  have d0 : decide ((60 : Int) < (ops.length : Int)) = true := decide_eq_true (by omega)
  have d1 : decide (60 < ops.length) = true := decide_eq_true hl
  clear hops
  generalize ops.length = L at *
  clear hl
  go_enter Try.func3, Try.ntmps3
  go_wp2
  go_ret
  exact ⟨rfl, Below.refl _ _⟩
set_option maxRecDepth 100000 in
set_option maxHeartbeats 1000000 in
theorem plays_bad (z0 : Int) (v : Value) (ops : List Opr) (n : Nat) (w : World) (hops : OpsAt w v ops) (hl : ops.length ≤ 60) (hz : z0 < 1 ∨ 8 < z0) : Calls Try.prog 3 #[.int .i64 z0, v, uv n] w fun e w' => e = .returned (.bool true) ∧ Below w.heap.size w w' := by
  obtain ⟨a, m, rfl, hx⟩ := ops_cells hops
  clear hx
  have HN := Lib.hid (new_bad w z0 hz)
  have d0 : decide ((60 : Int) < (ops.length : Int)) = false := decide_eq_false (by omega)
  have d1 : decide (60 < ops.length) = false := decide_eq_false (by omega)
  clear hops
  generalize ops.length = L at *
  clear hl
  have hor : decide (z0 < 1) = true ∨ (decide (z0 < 1) = false ∧ decide ((8 : Int) < z0) = true) := by
    rcases hz with h | h
    · exact .inl (decide_eq_true h)
    · by_cases h1 : z0 < 1
      · exact .inl (decide_eq_true h1)
      · exact .inr ⟨decide_eq_false h1, decide_eq_true h⟩
  clear hz
  rcases hor with d2 | ⟨d2, d3⟩
  all_goals
    go_enter Try.func3, Try.ntmps3
    go_wp2_with (go_at_call 8; (with_reducible refine HN.out.mono ?_); rintro e w2 ⟨rfl, rfl⟩)
    go_ret
    exact ⟨rfl, Below.refl _ _⟩
set_option maxHeartbeats 8000000 in
set_option maxRecDepth 100000 in
theorem plays_good (c : Nat) (v : Value) (ops : List Opr) (n : Nat) (w : World) (hops : OpsAt w v ops) (hl : ops.length ≤ 60) (h1 : 1 ≤ c) (h8 : c ≤ 8) (hn : n < 4294967296) : Calls Try.prog 3 #[.int .i64 (c : Int), v, uv n] w fun e w' => e = .returned (.bool true) ∧ Below w.heap.size w w' := by
  obtain ⟨a, na, rfl, hcell⟩ := ops_cells hops
  have HC := Lib.hid hcell
  have H1 := Lib.hid h1
  have H8 := Lib.hid h8
  have HLn := Lib.hid hl
  have HNn := Lib.hid hn
  have HN := Lib.hid (new_st w c h1 h8)
  have d0 : decide ((60 : Int) < (ops.length : Int)) = false := decide_eq_false (by omega)
  have d1 : decide (60 < ops.length) = false := decide_eq_false (by omega)
  have d2 : decide ((c : Int) < 1) = false := decide_eq_false (by omega)
  have d3 : decide ((8 : Int) < (c : Int)) = false := decide_eq_false (by omega)
  have d4 : decide (8 < c) = false := decide_eq_false (by omega)
  have d5 : decide (c < 1) = false := decide_eq_false (by omega)
  have hlI : (ops.length : Int) ≤ 60 := by omega
  have hcI : (c : Int) ≤ 8 := by omega
  clear hops hcell hl h1 h8
  go_enter Try.func3, Try.ntmps3
  go_wp2_with (go_at_call 8; (with_reducible refine HN.out.mono ?_); rintro e w2 ⟨rfl, hst⟩; have HS := Lib.hid (Ta.start hst); clear hst)
  generalize hwz : w2.alloc (.cells #[.int .i64 (c : Int), .slice none 0 0] 31) = wz at *
  generalize hp : w2.heap.size = p at *
  generalize hq : w.heap.size = q at HS ⊢
  clear hp hq hwz d2 d3 d4 d5 d0 d1
  go_loopw [10] (fun i wr => ∃ (j : Nat) (l : Ls), j ≤ ops.length ∧ i = .int .i64 (j : Int) ∧ Ta (2 * j) w wr q p c l l ∧ Ok c l) (fun i _ => ops.length - (intOf i).toNat)
  case atStart => exact ⟨0, NoL, Nat.zero_le _, rfl, HS.out, ok_nol c⟩
  case round =>
    clear HS
    obtain ⟨j, l, hj, rfl, hta, hok⟩ := hrel
    by_cases hlt : j < ops.length
    · have hltI : (j : Int) < (ops.length : Int) := by omega
      obtain ⟨b, off, rfl, c0, c1, c2, c3, hm⟩ := HC.out wr hta.bel j hlt
      generalize ops[j] = o at *
      have hX0 := hta.box o
      unfold opc at hX0
      have HX := Lib.hid hX0
      have HM := Lib.hid hm
      have HO := Lib.hid hok
      have HJ : Hid (j ≤ 60) := Lib.hid (by have := HLn.out; omega)
      obtain ⟨y0, y1, y2, y3⟩ := HX.out.cells
      clear hta hok hm hX0
      go_upto_block 2 with fail
      generalize wr.alloc (.cells #[.int .i64 o.kind, .int .i64 o.p, .int .i64 o.z, uv o.m] 33) = wa at *
      generalize wr.heap.size = x at *
      clear c0 c1 c2 c3
      go_cut [12] (fun s12 wx => s12 = .bool true ∧ ∃ l', Tb (2 * j + 2) w wx q p c l' l' x o ∧ Ok c l')
      case first =>
        as_aux_lemma =>
          by_cases k0 : o.kind = 0
          · have d0 : (o.kind == 0) = true := by simpa using k0
            clear k0
            have HA := Lib.hid (HX.out.place (by have := HJ.out; omega) H1.out o.p o.z o.m HM.out)
            have HB := Lib.hid (fun W (hp : Tb (2 * j + 1) w W q p c (plL c l o.p o.z o.m) l x o) => hp.rplace (by have := HJ.out; omega) o.p o.z o.m HM.out)
            have HG := Lib.hid (HO.out.place o.p o.z o.m)
            generalize plR c l o.p o.z o.m = R at *
            generalize plE c l o.p o.m = E at *
            generalize plL c l o.p o.z o.m = L2 at *
            go_wp2_with (first
              | (go_at_call 9; (with_reducible refine HA.out.mono ?_); rintro e w3 ⟨rfl, hp⟩; have HP := Lib.hid hp; clear y0 y1 y2 y3; obtain ⟨y0, y1, y2, y3⟩ := hp.cells; clear hp)
              | (go_at_call 10; (with_reducible refine (HB.out _ HP.out).mono ?_); rintro e w4 ⟨rfl, hp⟩; have HP2 := Lib.hid hp; clear hp))
            go_meet
            exact ⟨rfl, _, HP2.out, HG.out⟩
          · have e0 : (o.kind == 0) = false := by simpa using k0
            clear k0
            by_cases k1 : o.kind = 1
            · have d1 : (o.kind == 1) = true := by simpa using k1
              clear k1
              have HA := Lib.hid (HX.out.move (by have := HJ.out; omega) H1.out o.p o.m HM.out)
              have HB := Lib.hid (fun W (hp : Tb (2 * j + 1) w W q p c (mvL c l o.p o.m) l x o) => hp.rmove (by have := HJ.out; omega) o.p o.m HM.out)
              have HG := Lib.hid (HO.out.move o.p o.m)
              generalize mvR c l o.p o.m = R at *
              generalize mvE c l o.p o.m = E at *
              generalize mvL c l o.p o.m = L2 at *
              go_wp2_with (first
                | (go_at_call 11; (with_reducible refine HA.out.mono ?_); rintro e w3 ⟨rfl, hp⟩; have HP := Lib.hid hp; clear y0 y1 y2 y3; obtain ⟨y0, y1, y2, y3⟩ := hp.cells; clear hp)
                | (go_at_call 12; (with_reducible refine (HB.out _ HP.out).mono ?_); rintro e w4 ⟨rfl, hp⟩; have HP2 := Lib.hid hp; clear hp))
              go_meet
              exact ⟨rfl, _, HP2.out, HG.out⟩
            · have e1 : (o.kind == 1) = false := by simpa using k1
              clear k1
              by_cases k2 : o.kind = 2
              · have d2 : (o.kind == 2) = true := by simpa using k2
                clear k2
                have hxd := HX.out.below ((Below.refl _ _).drew)
                have C0 := Lib.hid hxd.cells
                have HA := Lib.hid (hxd.cut o.p)
                have HB := Lib.hid (fun W (hp : Tb (2 * j) w W q p c (ctL c l o.p) l x o) => hp.rcut (by have := HJ.out; omega) o.p)
                have HG := Lib.hid (HO.out.cut o.p)
                generalize ctB c l o.p = B at *
                generalize ctL c l o.p = L2 at *
                clear hxd
                go_upto_region 22 with fail
                go_region_held (fun W => W.cell? ⟨x, 1, none⟩ = some (.int .i64 o.p)) (first | exact C2.out.2.1 | exact C1.out.2.1 | exact C0.out.2.1) (first
                  | (go_at_call 13; (with_reducible refine HA.out.mono ?_); rintro e w3 ⟨rfl, hp⟩; have HP := Lib.hid hp; have C1 := Lib.hid hp.cells; clear hp)
                  | (go_at_call 14; (with_reducible refine (HB.out _ HP.out).mono ?_); rintro e w4 ⟨rfl, hp⟩; have HP2 := Lib.hid (hp.more (show 2 * j ≤ 2 * j + 2 by omega)); have C2 := Lib.hid hp.cells; clear hp))
                all_goals go_wp2_with fail
                all_goals go_meet
                all_goals exact ⟨by simp, _, HP2.out, HG.out⟩
              · have e2 : (o.kind == 2) = false := by simpa using k2
                clear k2
                by_cases k3 : o.kind = 3
                · have d3 : (o.kind == 3) = true := by simpa using k3
                  clear k3
                  have hxd := HX.out.below ((Below.refl _ _).drew)
                  have C0 := Lib.hid hxd.cells
                  have HA := Lib.hid (hxd.rotate (by have := HJ.out; omega) o.z)
                  have HB := Lib.hid (fun W (hp : Tb (2 * j) w W q p c (rtL c l o.z) l x o) => hp.rrotate (by have := HJ.out; omega) o.z)
                  have HG := Lib.hid (HO.out.rotate o.z)
                  generalize rtB c l o.z = B at *
                  generalize rtL c l o.z = L2 at *
                  clear hxd
                  go_upto_region 24 with fail
                  go_region_held (fun W => W.cell? ⟨x, 2, none⟩ = some (.int .i64 o.z)) (first | exact C2.out.2.2.1 | exact C1.out.2.2.1 | exact C0.out.2.2.1) (first
                    | (go_at_call 15; (with_reducible refine HA.out.mono ?_); rintro e w3 ⟨rfl, hp⟩; have HP := Lib.hid hp; have C1 := Lib.hid hp.cells; clear hp)
                    | (go_at_call 16; (with_reducible refine (HB.out _ HP.out).mono ?_); rintro e w4 ⟨rfl, hp⟩; have HP2 := Lib.hid (hp.more (show 2 * j + 1 ≤ 2 * j + 2 by omega)); have C2 := Lib.hid hp.cells; clear hp))
                  all_goals go_wp2_with fail
                  all_goals go_meet
                  all_goals exact ⟨by simp, _, HP2.out, HG.out⟩
                · have e3 : (o.kind == 3) = false := by simpa using k3
                  clear k3
                  go_wp2
                  go_meet
                  exact ⟨rfl, _, HX.out.more (by omega), HO.out⟩
      case rest =>
        as_aux_lemma =>
          obtain ⟨rfl, l', htb, hok'⟩ := hcut
          obtain ⟨w9, hwc⟩ : ∃ u, u = wc := ⟨_, rfl⟩
          subst hwc
          clear y0 y1 y2 y3 HX HO
          have hbd : Below w9.heap.size w9 w9.drew := (Below.refl _ _).drew
          have HK : Hid (∀ W, Below w9.heap.size w9 W → W.cell? ⟨x, 1, none⟩ = some (.int .i64 o.p) ∧ W.cell? ⟨x, 3, none⟩ = some (uv o.m)) := Lib.hid (fun W hb => ⟨(htb.below hb).cells.2.1, (htb.below hb).cells.2.2.2⟩)
          have HT : Hid (∀ W, Below w9.heap.size w9 W → Ta (2 * j + 2) w W q p c l' l') := Lib.hid (fun W hb => htb.less.below hb)
          have HN9 : Hid (2 * j + 2 ≤ 9000) := Lib.hid (by have := HJ.out; omega)
          have HOk := Lib.hid hok'
          have HBd := Lib.hid hbd
          clear htb hok' hbd
          go_upto_region 25 with fail
          go_cut [170] (fun s wx => s = .bool false ∧ Below w9.heap.size w9 wx)
          case first =>
            as_aux_lemma =>
              have HWh := Lib.hid ((HT.out _ HBd.out).where o.p)
              have HRw := Lib.hid ((HT.out _ HBd.out).rwhere o.p)
              have HMy := Lib.hid ((HT.out _ HBd.out).may o.m HM.out)
              have HRm := Lib.hid (fun W (hb : Below w9.heap.size w9 W) => (HT.out W hb).rmay HN9.out o.m HM.out)
              have HAl := Lib.hid (fun W (hb : Below w9.heap.size w9 W) => (HT.out W hb).all HN9.out)
              have HRa := Lib.hid (fun W (hb : Below w9.heap.size w9 W) => (HT.out W hb).rall HN9.out)
              have HSm : Hid (∀ (W : World) (a1 a2 : Option Addr) (n1 n2 : Nat), (∃ G, Rw W (.slice a1 (al l').length n1) G (al l')) → (∃ G, Rw W (.slice a2 (al l').length n2) G (al l')) → Calls Try.prog 21 #[.slice a1 (al l').length n1, .slice a2 (al l').length n2] W fun e w' => e = .returned (.bool true) ∧ Below W.heap.size W w') := Lib.hid (fun W a1 a2 n1 n2 h1 h2 => same_yes h1 h2)
              generalize wh c l' o.p = Wv at *
              generalize may c o.m = My at *
              generalize hal : al l' = A at *
              generalize hAl : A.length = An at *
              clear HT HOk hal
              go_region_held (fun W => W.cell? ⟨x, 1, none⟩ = some (.int .i64 o.p) ∧ W.cell? ⟨x, 3, none⟩ = some (uv o.m)) (first | exact HK.out _ B5.out | exact HK.out _ B4.out | exact HK.out _ B3.out | exact HK.out _ B2.out | exact HK.out _ B1.out | exact HK.out _ HBd.out) (first
                | (go_at_call 17; (with_reducible refine HWh.out.mono ?_); rintro e v1 ⟨rfl, rfl⟩)
                | (go_at_call 18; (with_reducible refine HRw.out.mono ?_); rintro e v2 ⟨rfl, rfl⟩)
                | (go_at_call 19; (with_reducible refine HMy.out.mono ?_); rintro e v3 ⟨rfl, hb⟩; have B1 := Lib.hid (HBd.out.trans (hb.mono HBd.out.size)); clear hb)
                | (go_at_call 20; (with_reducible refine (HRm.out _ B1.out).mono ?_); rintro e v4 ⟨rfl, hb⟩; have B2 := Lib.hid (B1.out.trans (hb.mono B1.out.size)); clear hb)
                | (go_at_call 22; (with_reducible refine (HAl.out _ B2.out).mono ?_); rintro e v5 ⟨hb, a5, n5, rfl, hr5⟩; have B3 := Lib.hid (B2.out.trans (hb.mono B2.out.size)); have R5 := Lib.hid hr5; clear hb hr5)
                | (go_at_call 23; (with_reducible refine (HRa.out _ B3.out).mono ?_); rintro e v6 ⟨hb, a6, n6, rfl, hr6⟩; have B4 := Lib.hid (B3.out.trans (hb.mono B3.out.size)); have R6 := Lib.hid (And.intro (rw_below R5.out hb) hr6); clear hb hr6)
                | (go_at_call 21; (with_reducible refine (HSm.out _ _ _ _ _ R6.out.1 R6.out.2).mono ?_); rintro e v7 ⟨rfl, hb⟩; have B5 := Lib.hid (B4.out.trans (hb.mono B4.out.size)); clear hb))
              all_goals go_wp2_with fail
              all_goals go_meet
              all_goals exact ⟨by simp, B5.out⟩
          case rest =>
            as_aux_lemma =>
              obtain ⟨rfl, hbc⟩ := hcut
              obtain ⟨w20, hwc⟩ : ∃ u, u = wc := ⟨_, rfl⟩
              subst hwc
              have HTc : Hid (∀ W, Below w20.heap.size w20 W → Ta (2 * j + 2) w W q p c l' l') := Lib.hid (fun W hb => HT.out W (hbc.trans (hb.mono hbc.size)))
              clear HT HK hbc HBd
              try go_wp2
              go_loopw [21] (fun k wr => ∃ (t : Nat) (y : Int), t ≤ c + 2 ∧ y = (t : Int) - 1 ∧ k = .int .i64 y ∧ Below w20.heap.size w20 wr) (fun k _ => ((c : Int) + 1 - intOf k).toNat)
              case atStart => exact ⟨0, -1, Nat.zero_le _, rfl, rfl, Below.refl _ _⟩
              case round =>
                obtain ⟨t, y, htc, hy, rfl, hb⟩ := hrel
                by_cases hlt2 : y ≤ (c : Int)
                · have d0 : decide (y ≤ (c : Int)) = true := decide_eq_true hlt2
                  have hy1 : -1 ≤ y := by omega
                  have HB0 := Lib.hid hb
                  have HLi := Lib.hid ((HTc.out wr hb).list HN9.out y)
                  have HRl := Lib.hid (fun W (hb : Below w20.heap.size w20 W) => (HTc.out W hb).rlist HN9.out y)
                  have HPi := Lib.hid (fun W (hb : Below w20.heap.size w20 W) => (HTc.out W hb).pick HN9.out y n HNn.out)
                  have HRp := Lib.hid (fun W (hb : Below w20.heap.size w20 W) => (HTc.out W hb).rpick HN9.out y n HNn.out)
                  have HSm : Hid (∀ (W : World) (a1 a2 : Option Addr) (n1 n2 : Nat), (∃ G, Rw W (.slice a1 (lst c l' y).length n1) G (lst c l' y)) → (∃ G, Rw W (.slice a2 (lst c l' y).length n2) G (lst c l' y)) → Calls Try.prog 21 #[.slice a1 (lst c l' y).length n1, .slice a2 (lst c l' y).length n2] W fun e w' => e = .returned (.bool true) ∧ Below W.heap.size W w') := Lib.hid (fun W a1 a2 n1 n2 h1 h2 => same_yes h1 h2)
                  have HY := Lib.hid (And.intro htc hy)
                  generalize pk c l' y n = P at *
                  generalize hA : lst c l' y = A at *
                  generalize hAl : A.length = An at *
                  clear hb hy htc hA hAl
                  go_wp2_with (first
                    | (go_at_call 24; (with_reducible refine HLi.out.mono ?_); rintro e v1 ⟨hb, a5, n5, rfl, hr5⟩; have B1 := Lib.hid (HB0.out.trans (hb.mono HB0.out.size)); have R5 := Lib.hid hr5; clear hb hr5)
                    | (go_at_call 25; (with_reducible refine (HRl.out _ B1.out).mono ?_); rintro e v2 ⟨hb, a6, n6, rfl, hr6⟩; have B2 := Lib.hid (B1.out.trans (hb.mono B1.out.size)); have R6 := Lib.hid (And.intro (rw_below R5.out hb) hr6); clear hb hr6)
                    | (go_at_call 21; (with_reducible refine (HSm.out _ _ _ _ _ R6.out.1 R6.out.2).mono ?_); rintro e v3 ⟨rfl, hb⟩; have B3 := Lib.hid (B2.out.trans (hb.mono B2.out.size)); clear hb)
                    | (go_at_call 26; (with_reducible refine (HPi.out _ B3.out).mono ?_); rintro e v4 ⟨rfl, rfl⟩)
                    | (go_at_call 27; (with_reducible refine (HRp.out _ B3.out).mono ?_); rintro e v5 ⟨rfl, hb⟩; have B4 := Lib.hid (B3.out.trans (hb.mono B3.out.size)); clear hb))
                  go_roundw
                  case rel => exact ⟨t + 1, y + 1, by have := HY.out; omega, by have := HY.out; omega, by go_num, B4.out⟩
                  case measure => have := HY.out; simp [intOf]; omega
                · have d0 : decide (y ≤ (c : Int)) = false := decide_eq_false hlt2
                  have HTr := Lib.hid (HTc.out wr hb)
                  clear hb htc hy hlt2
                  go_wp2
                  go_roundw
                  case rel => exact ⟨j + 1, l', by omega, by go_num, HTr.out, HOk.out⟩
                  case measure => simp [intOf]; omega
    · obtain rfl : j = ops.length := by omega
      have HCo := Lib.hid hta.cores
      have HB := Lib.hid hta.bel
      clear hta hok
      go_wp2_with (go_at_call 28; (with_reducible refine HCo.out.mono ?_); rintro e w3 ⟨rfl, rfl⟩)
      go_ret
      exact ⟨rfl, HB.out⟩
end Go.Proofs.Ytkjmpkoogjbjnaa.Qvc
namespace Go.Proofs.Ytkjmpkoogjbjnaa.Walk
open Go Go.RowKit Kit Qup
theorem queuePlays (z0 : Int) (v : Value) (ops : List Opr) (n : Int) (w : World) (w0 : (Lit.int .i64 z0).wf = true) (h : OpsAt w v ops) (hn : (Lit.int .u32 n).wf = true) : Calls Try.prog 3 #[.int .i64 z0, v, .int .u32 n] w fun e w' => e = .returned (.bool true) ∧ Below w.heap.size w w' := by
  have hn' : 0 ≤ n ∧ n < 4294967296 := by
    simp [Lit.wf, IntKind.min, IntKind.max, IntKind.signed, IntKind.bits] at hn
    omega
  obtain ⟨m, rfl⟩ : ∃ m : Nat, n = (m : Int) := ⟨n.toNat, by omega⟩
  by_cases hl : ops.length ≤ 60
  · by_cases hz : 1 ≤ z0 ∧ z0 ≤ 8
    · obtain ⟨c, rfl⟩ : ∃ c : Nat, z0 = (c : Int) := ⟨z0.toNat, by omega⟩
      exact Qvc.plays_good c v ops m w h hl (by omega) (by omega) (by omega)
    · exact Qvc.plays_bad z0 v ops m w h hl (by omega)
  · exact Qvc.plays_great z0 v ops m w h (by omega)
end Go.Proofs.Ytkjmpkoogjbjnaa.Walk
