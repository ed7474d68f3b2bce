/-
  TreeOrphans, walked.
-/
import Derived.Test.YtkjcjodhpcfjiaaTez
import Derived.Test.YtkjcjodhpcfjiaaTfa
namespace Go.Proofs.Ytkjcjodhpcfjiaa.Tfb
open Go Go.RowKit Go.Shelf Kit Bk Tea Teb Tec Ted Tee Tef Teg Teh Tei Tej Tek Tel Tem Ten Teo Tep Teq Ter Tes Teu Tev Tew Tex Tey Tez Tfa
set_option linter.unusedVariables false
attribute [local go_sem ↓] app_wrap

set_option maxRecDepth 100000 in
set_option maxHeartbeats 8000000 in
theorem orphans_short (n : Nat) (hn : 1 ≤ n ∧ n ≤ 32) (va : Value) (ops : List Opr) (p : Int) (hp : (Lit.int .i64 p).wf = true) (su : Nat) (hsu : su < 4294967296) (w : World) (h : OpsAt w va ops) (hl : ops.length ≤ 60) :
    Calls Try.prog 6 #[.int .i64 (n : Int), va, .int .i64 p, uv su] w fun e w' => e = .returned (.bool true) ∧ Below w.heap.size w w' := by
  obtain ⟨ad, cap, rfl, hc1, hc2, h3⟩ := h
  have dl : decide ((60 : Int) < (ops.length : Int)) = false := decide_eq_false (by omega)
  have hli : (ops.length : Int) ≤ 60 := by omega
  have HC : Hid (∀ i (hi : i < ops.length), ∃ b off, ad = some ⟨b, off, none⟩ ∧ ∀ W, Below w.heap.size w W → OpAt W b (off + i * 5) ops[i]) := Lib.hid (fun i hi => by
    rcases h3 with e | ⟨b, off, rfl, hb, h4⟩
    · subst e; simp at hi
    · exact ⟨b, off, rfl, fun W hB => (h4 i hi).below hb hB⟩)
  have HN := Lib.hid (fun W => On.new n hn W)
  clear h3
  go_enter Try.func6, Try.ntmps6
  go_wp2_with (first
    | (go_at_call 15; (with_reducible refine (alive_any _).mono ?_); rintro e w1 ⟨rfl, b1⟩; have B1 := Lib.hid b1; clear b1)
    | (go_at_call 14; (with_reducible refine (HN.out _).mono ?_); rintro e w2 ⟨q, rfl, h2⟩; have H2 := Lib.hid h2; clear h2))
  go_loopw [12] (fun i wr => ∃ j : Nat, j ≤ ops.length ∧ i = .int .i64 (j : Int) ∧ Sf (fun _ => True) w1 wr q n) (fun i _ => ops.length - (intOf i).toNat)
  case atStart => exact ⟨0, Nat.zero_le _, rfl, _, _, H2.out, trivial⟩
  case round =>
    obtain ⟨j, hj, rfl, hs⟩ := hrel
    by_cases hlt : j < ops.length
    · have hltI : (j : Int) < (ops.length : Int) := by omega
      obtain ⟨b, off, rfl, hat⟩ := HC.out j hlt
      have HCC : Hid (∀ W, Below w1.heap.size w1 W → OpAt W b (off + j * 5) ops[j]) := Lib.hid (fun W hW => hat W (B1.out.trans (hW.mono B1.out.size)))
      obtain ⟨⟨c0, c1, c2, c3, c4⟩, hok⟩ := HCC.out wr hs.bel
      have HOk := Lib.hid hok
      generalize ops[j] = o at *
      have HSr := Lib.hid hs
      clear hat hok hs c2 c3
      by_cases k0 : o.kind = 0
      · have hD := Lib.hid (HSr.out.fork (fun _ _ _ _ _ => trivial) HOk.out.1)
        rw [k0] at c0
        clear k0 c4
        go_wp2_with (go_at_call 10; (with_reducible refine hD.out.mono ?_); rintro e w2 ⟨⟨a, c, rfl⟩, hs2⟩; have HS2 := Lib.hid hs2; clear hs2)
        go_roundw
        case rel => exact ⟨j + 1, by omega, by go_num, HS2.out⟩
        case measure => simp [intOf]; omega
      · have k0' : (o.kind == 0) = false := by simpa using k0
        clear k0
        by_cases k1 : o.kind = 1
        · have hD := Lib.hid (fun W (hb : Sf (fun _ => True) w1 W q n) => hb.exit (su := o.su) (fun _ _ _ _ => trivial) HOk.out.1 HOk.out.2.2)
          rw [k1] at c0
          clear k1 k0'
          go_wp2
          go_region_held (fun w' => w'.cell? ⟨b, off + j * 5 + 1, none⟩ = some (.int .i64 o.p) ∧ w'.cell? ⟨b, off + j * 5 + 4, none⟩ = some (uv o.su)) (first | exact ⟨c1, c4⟩ | (have X := HCC.out _ HS2.out.bel; exact ⟨X.1.2.1, X.1.2.2.2.2⟩)) ((go_at_call 8; (with_reducible refine (hD.out _ (HSr.out.below ((Below.refl _ _).drew))).mono ?_); rintro e w2 ⟨⟨a, m, c, z, rfl⟩, hs2⟩; have HS2 := Lib.hid hs2; clear hs2))
          go_wp2
          go_roundw
          case rel => exact ⟨j + 1, by omega, by go_num, HS2.out⟩
          case measure => simp [intOf]; omega
        · have k1' : (o.kind == 1) = false := by simpa using k1
          clear k1
          by_cases k2 : o.kind = 2
          · have hD := Lib.hid (HSr.out.reap (fun _ _ _ => trivial) HOk.out.1)
            rw [k2] at c0
            clear k2 k0' k1' c4
            go_wp2_with (go_at_call 9; (with_reducible refine hD.out.mono ?_); rintro e w2 ⟨⟨a, c, z, rfl⟩, hs2⟩; have HS2 := Lib.hid hs2; clear hs2)
            go_roundw
            case rel => exact ⟨j + 1, by omega, by go_num, HS2.out⟩
            case measure => simp [intOf]; omega
          · have k2' : (o.kind == 2) = false := by simpa using k2
            clear k2
            by_cases k3 : o.kind = 3
            · have hD := Lib.hid (HSr.out.freeze HOk.out.1)
              rw [k3] at c0
              clear k3 k0' k1' k2' c4
              go_wp2_with (go_at_call 11; (with_reducible refine hD.out.mono ?_); rintro e w2 ⟨⟨a, m, c, z, rfl⟩, hs2⟩; have HS2 := Lib.hid hs2; clear hs2)
              go_roundw
              case rel => exact ⟨j + 1, by omega, by go_num, HS2.out⟩
              case measure => simp [intOf]; omega
            · have k3' : (o.kind == 3) = false := by simpa using k3
              clear k3
              go_wp2
              go_roundw
              case rel => exact ⟨j + 1, by omega, by go_num, HSr.out⟩
              case measure => simp [intOf]; omega
    · obtain rfl : j = ops.length := by omega
      obtain ⟨L, S, hon, -⟩ := hs
      have HO0 := Lib.hid hon
      have hroom := hon.ok.room
      have hlen := hon.ok.len
      have HK := Lib.hid (hon.kids (p := p))
      have HP := Lib.hid (fun W (hb : Below wr.heap.size wr W) => (hon.below hb).parent hp)
      clear hon hlt hj
      have hpl : (pids L).length = L.length := by simp [pids]
      have hLI : (L.length : Int) ≤ 32 := by omega
      have hkl : (kids L p).length ≤ L.length := by rw [kl_len]; exact kl_le _ _
      have hkI : ((kids L p).length : Int) ≤ 32 := by omega
      go_wp2_with (first
        | (go_at_call 21; (with_reducible refine HK.out.mono ?_); rintro e w3 ⟨a3, c3, rfl, hn3, hb3⟩; obtain ⟨a4, c4, e4, hc3, hc4, hcl⟩ := nr_cells hn3; cases e4; have HN3 := Lib.hid hn3; have HR := Lib.hid hcl; have HO3 := Lib.hid (HO0.out.below hb3); have HB3 := Lib.hid hb3; clear HK hn3 hb3 hcl)
        | (go_at_call 24; (with_reducible refine (HP.out _ HB3.out).mono ?_); rintro e w4 ⟨rfl, rfl⟩))
      clear HP HB3
      go_loopw [16, 15] (fun i s wr => ∃ (j : Nat) (v : Value), j ≤ (kids L p).length ∧ i = .int .i64 (j : Int) ∧ s = v ∧ On w1 wr q n L S ∧ Bw w1.heap.size wr v j (fun i => kids L ((kids L p).getD i 0)) ∧ Nr wr (.slice a3 (kids L p).length c3) (kids L p)) (fun i _ _ => (kids L p).length - (intOf i).toNat)
      case atStart => exact ⟨0, _, Nat.zero_le _, rfl, rfl, HO3.out, Bw.nil _ _ _, HN3.out⟩
      case round =>
        obtain ⟨j, v, hj, rfl, rfl, hon, hbw, hnr⟩ := hrel
        by_cases hlt : j < (kids L p).length
        · have hltI : (j : Int) < ((kids L p).length : Int) := by omega
          obtain ⟨r, rfl, -⟩ := HR.out j hlt
          have hck : wr.cell? ⟨r, j, none⟩ = some (.int .i64 ((kids L p).getD j 0)) := by
            rw [hnr.cellAt j (by omega)]
            simp [ints, hlt]
          have HK := Lib.hid (hon.kids (p := (kids L p).getD j 0))
          have HE := Lib.hid (And.intro hon (And.intro hbw hnr))
          clear hon hbw hnr
          generalize hy : (kids L p).getD j 0 = y at *
          have HY := Lib.hid hy
          clear hy
          go_wp2_with (go_at_call 21; (with_reducible refine HK.out.mono ?_); rintro e w5 ⟨a5, c5, rfl, hn5, hb5⟩; obtain ⟨g', cap', w6, q1, q2, q3, q4⟩ := Bw.push (HE.out.1.below hb5) (HE.out.2.1.below hb5) (by omega) (show Nr w5 (.slice a5 (kids L y).length c5) (kids L ((kids L p).getD j 0)) from by rw [HY.out]; exact hn5); have HG := Lib.hid (And.intro q3 (And.intro q2 (q4 _ _ _ _ _ _ (by decide) (nr_below HE.out.2.2 hb5)))); clear hn5 hb5 q2 q3 q4)
          go_roundw
          case rel => exact ⟨j + 1, _, by omega, by go_num, rfl, HG.out.1, HG.out.2.1, HG.out.2.2⟩
          case measure => simp [intOf]; omega
        · obtain rfl : j = (kids L p).length := by omega
          clear hlt hj
          have HO4 := Lib.hid hon
          have HW4 := Lib.hid (And.intro hbw hnr)
          have HA := Lib.hid (fun W (hon : On w1 W q n L S) => hon.all)
          have HX := fun W (hon : On w1 W q n L S) => hon.exit (su := su) hp hsu
          have HA4 := Lib.hid hon.all
          clear hon hbw hnr
          have eL : ((pids L).length : Int) = (L.length : Int) := by rw [hpl]
          unfold fzE exA exM at HX
          cases hz : fzB L p
          · rw [hz] at HX
            rw [if_neg (by decide : ¬ false = true), if_neg (by decide : ¬ false = true), if_neg (by decide : ¬ false = true)] at HX
            replace HX := Lib.hid HX
            go_wp2_with (first
              | (go_at_call 19; (with_reducible refine HA4.out.mono ?_); rintro e w5 ⟨a5, c5, rfl, -, hb5⟩; have HO5 := Lib.hid (HO4.out.below hb5); clear hb5 HA4)
              | (go_at_call 8; (with_reducible refine (HX.out _ HO5.out).mono ?_); rintro e w6 ⟨a6, c6, rfl, -, hon6, -⟩; have HO6 := Lib.hid hon6; clear hon6 HO5)
              | (go_at_call 19; (with_reducible refine (HA.out _ HO6.out).mono ?_); rintro e w7 ⟨a7, c7, rfl, -, hb7⟩; have HO7 := Lib.hid (HO6.out.below hb7); clear hb7 HO6))
            go_ret
            exact ⟨rfl, B1.out.trans (HO7.out.bel.mono B1.out.size)⟩
          · rw [hz] at HX
            rw [if_pos rfl, if_pos rfl, if_pos rfl] at HX
            replace HX := Lib.hid HX
            have hz2 : p ≠ 1 ∧ (gt L p).st = 1 := by
              unfold fzB at hz
              simp only [Bool.and_eq_true, bne_iff_ne, beq_iff_eq] at hz
              exact hz
            have hin := HO0.out.ok.ok.there (p := p) (by omega)
            have hpb := HO0.out.ok.ok.pid p hin
            have hgx := gt_ex (su := su) hin
            have HS := fun W (hon : On w1 W q n (exL L p su) S) => hon.state hp
            have HU := fun W (hon : On w1 W q n (exL L p su) S) => hon.status hp
            have HPa := fun W (hon : On w1 W q n (exL L p su) S) => hon.parent hp
            have HKs := fun W (hon : On w1 W q n (exL L p su) S) => hon.kids (p := p)
            rw [hgx] at HS HU HPa
            rw [kids_gone HO0.out.ok.ok hin hz2.1] at HKs
            replace HS := Lib.hid HS
            replace HU := Lib.hid HU
            replace HPa := Lib.hid HPa
            replace HKs := Lib.hid HKs
            have HI := Lib.hid (And.intro hz2 (And.intro hin (And.intro hpb hgx)))
            obtain ⟨va, vc, rfl, -⟩ := Bw.cells HW4.out.1
            have HPB := Lib.hid (HO0.out.ok.ok.par_bd p)
            clear hz hz2 hin hpb hgx
            generalize hup : (gt L p).par = up at *
            generalize hK : kids L p = K at *
            go_wp2_with (first
              | (go_at_call 19; (with_reducible refine HA4.out.mono ?_); rintro e w5 ⟨a5, c5, rfl, -, hb5⟩; have HO5 := Lib.hid (HO4.out.below hb5); have HW5 := Lib.hid (And.intro (HW4.out.1.below hb5) (nr_below HW4.out.2 hb5)); clear hb5 HA4 HW4)
              | (go_at_call 8; (with_reducible refine (HX.out _ HO5.out).mono ?_); rintro e w6 ⟨a6, c6, rfl, hn6, hon6, hrk⟩; have HO6 := Lib.hid hon6; have HN6 := Lib.hid hn6; have HW6 := Lib.hid (And.intro (HW5.out.1.rk hrk) (hrk.nr HW5.out.2)); clear hon6 hn6 hrk HO5 HW5)
              | (go_at_call 16; (with_reducible refine (same_self _ _ _ K HN6.out HW6.out.2).mono ?_); rintro e w8 ⟨rfl, hb8⟩; have HO8 := Lib.hid (HO6.out.below hb8); have HW8 := Lib.hid (And.intro (HW6.out.1.below hb8) (nr_below HW6.out.2 hb8)); clear hb8 HO6 HN6 HW6)
              | (go_at_call 25; (with_reducible refine (HS.out _ HO8.out).mono ?_); rintro e w9 ⟨rfl, rfl⟩)
              | (go_at_call 18; (with_reducible refine (HU.out _ HO8.out).mono ?_); rintro e w9 ⟨rfl, rfl⟩)
              | (go_at_call 24; (with_reducible refine (HPa.out _ HO8.out).mono ?_); rintro e w9 ⟨rfl, rfl⟩)
              | (go_at_call 21; (with_reducible refine (HKs.out _ HO8.out).mono ?_); rintro e w10 ⟨a10, c10, rfl, -, hb10⟩; have HO10 := Lib.hid (HO8.out.below hb10); have HW10 := Lib.hid (And.intro (HW8.out.1.below hb10) (nr_below HW8.out.2 hb10)); clear hb10 HW8))
            clear HS HU HPa HKs HX HN3 HO3
            have HKK : Hid (∀ i (hi : i < K.length), K[i] ∈ kids L p) := Lib.hid (fun i hi => by rw [hK]; exact List.getElem_mem hi)
            have HKE := Lib.hid hK
            have HUP := Lib.hid hup
            clear hK hup
            go_loopw [20] (fun i wr => ∃ j : Nat, j ≤ K.length ∧ i = .int .i64 (j : Int) ∧ On w1 wr q n (exL L p su) S ∧ Bw w1.heap.size wr (.slice va K.length vc) K.length (fun i => kids L (K.getD i 0)) ∧ Nr wr (.slice a3 K.length c3) K) (fun i _ => K.length - (intOf i).toNat)
            case atStart => exact ⟨0, Nat.zero_le _, rfl, HO10.out, HW10.out.1, HW10.out.2⟩
            case round =>
              obtain ⟨j, hj, rfl, hon, hbw, hnr⟩ := hrel
              by_cases hlt : j < K.length
              · have hltI : (j : Int) < (K.length : Int) := by omega
                obtain ⟨r, rfl, -⟩ := HR.out j hlt
                have hck : wr.cell? ⟨r, j, none⟩ = some (.int .i64 K[j]) := by
                  rw [hnr.cellAt j (by omega)]
                  simp [ints, hlt]
                obtain ⟨a11, c11, e11, hv1, hv2, hbc⟩ := Bw.cells hbw
                cases e11
                obtain ⟨r2, u2, rfl, hcb, hnu⟩ := hbc j hlt
                have hmem := HKK.out j hlt
                have hkp := (kid_iff HO0.out.ok.ok.up).1 hmem
                have hpk := HO0.out.ok.ok.pid _ hkp.1
                have hwf := wf64 (p := K[j]) (by omega)
                have ed : K.getD j 0 = K[j] := by simp [hlt]
                have hnu2 : Nr wr u2 (kids L K[j]) := by rw [← ed]; exact hnu
                have HPa := fun W (hb : Below wr.heap.size wr W) => (hon.below hb).parent hwf
                have hgk := gt_kid (su := su) HO0.out.ok.ok HI.out.2.1 hmem
                have HKs := fun W (hb : Below wr.heap.size wr W) => (hon.below hb).kids (p := K[j])
                rw [kids_kid HO0.out.ok.ok HI.out.2.1 HI.out.2.2.1.1 hmem] at HKs
                rw [hgk] at HPa
                replace HPa := Lib.hid HPa
                replace HKs := Lib.hid HKs
                have HNu := Lib.hid hnu2
                have HE := Lib.hid (fun W (hb : Below wr.heap.size wr W) => (⟨hon.below hb, hbw.below hb, nr_below hnr hb⟩ : On w1 W q n (exL L p su) S ∧ Bw w1.heap.size W (.slice (some ⟨r2, 0, none⟩) K.length vc) K.length (fun i => kids L (K.getD i 0)) ∧ Nr W (.slice (some ⟨r, 0, none⟩) K.length c3) K))
                have HCk := Lib.hid (fun W (hb : Below wr.heap.size wr W) => (⟨(hb.cell (p := ⟨r, j, none⟩) (cell_lt hck)).trans hck, (hb.cell (p := ⟨r2, j, none⟩) (cell_lt hcb)).trans hcb⟩ : W.cell? ⟨r, j, none⟩ = some (.int .i64 K[j]) ∧ W.cell? ⟨r2, j, none⟩ = some u2))
                obtain ⟨ua, uc, rfl, -⟩ := nr_cells hnu2
                clear hon hbw hnr hbc hnu hmem hkp hpk hwf ed hnu2 hgk
                generalize kids L K[j] = l at *
                generalize K[j] = y at *
                go_wp2
                go_region_held (fun w' => w'.cell? ⟨r, j, none⟩ = some (.int .i64 y) ∧ w'.cell? ⟨r2, j, none⟩ = some (.slice ua l.length uc)) (first | exact ⟨hck, hcb⟩ | exact HCk.out _ HB13.out | exact HCk.out _ HB12.out | exact HCk.out _ ((Below.refl _ _).drew)) ((first
                  | (go_at_call 24; (with_reducible refine (HPa.out _ ((Below.refl _ _).drew)).mono ?_); rintro e w11 ⟨rfl, rfl⟩)
                  | (go_at_call 21; (with_reducible refine (HKs.out _ ((Below.refl _ _).drew)).mono ?_); rintro e w12 ⟨a12, c12, rfl, hn12, hb12⟩; have HN12 := Lib.hid hn12; have HB12 := Lib.hid (((Below.refl wr.heap.size wr).drew).trans hb12); clear hn12 hb12)
                  | (go_at_call 16; (with_reducible refine (same_self _ _ _ l HN12.out (nr_below HNu.out HB12.out)).mono ?_); rintro e w13 ⟨rfl, hb13⟩; have HB13 := Lib.hid (HB12.out.trans (hb13.mono HB12.out.size)); clear hb13)))
                go_wp2
                go_roundw
                case rel => exact ⟨j + 1, by omega, by go_num, HE.out _ HB13.out⟩
                case measure => simp [intOf]; omega
              · obtain rfl : j = K.length := by omega
                have hle : (exL L p su).length = L.length := by unfold exL; exact len_mp _ _
                have HG0 : Hid (Gn (exL L p su) p up su) := Lib.hid ⟨.inl ⟨by unfold exL; rw [hs_mp]; exact HI.out.2.1, by rw [HI.out.2.2.2]⟩⟩
                have HO11 := Lib.hid hon
                clear hon hbw hnr hlt hj
                generalize exL L p su = E at *
                go_wp2
                go_loopw [21] (fun i wr => ∃ (j : Nat) (M : St), i = .int .i64 (j : Int) ∧ On w1 wr q n M S ∧ Gn M p up su ∧ M.length + j ≤ L.length) (fun i _ => L.length - (intOf i).toNat)
                case atStart => exact ⟨0, E, rfl, HO11.out, HG0.out, by omega⟩
                case round =>
                  obtain ⟨j, M, rfl, hon, hgn, hml⟩ := hrel
                  have h1 : 1 ≤ M.length := by
                    have := hon.ok.ok.one.1
                    cases M with
                    | nil => cases this
                    | cons a M => simp
                  have hjI : decide ((j : Int) < (L.length : Int)) = true := decide_eq_true (by omega)
                  have hjN : decide (j < L.length) = true := decide_eq_true (by omega)
                  have huw := wf64 (p := up) (by have := HPB.out; omega)
                  have HSu := hon.state huw
                  have HSp := hon.state hp
                  have HBl := Lib.hid (B1.out.trans (hon.bel.mono B1.out.size))
                  by_cases hu : (gt M up).st = 1
                  · rw [hu] at HSu
                    replace HSu := Lib.hid HSu
                    by_cases hp2 : (gt M p).st = 2
                    · rw [hp2] at HSp
                      replace HSp := Lib.hid HSp
                      obtain ⟨g1, g2, g3, g4, g5, g6⟩ := gn_step hon.ok.ok hgn hu hp2
                      have HRp := hon.reap huw
                      rw [g1] at HRp
                      replace HRp := Lib.hid HRp
                      have HG := Lib.hid (And.intro g4 g5)
                      have HML := Lib.hid hml
                      have d1 : decide (p < (zb M up).1) = false := decide_eq_false (by omega)
                      have hjw : (j : Int) + 1 ≤ 1000 := by omega
                      have hjl : j < L.length := by omega
                      cases d2 : ((zb M up).1 == p)
                      · clear hon hgn hml hu hp2 g1 g2 g3 g4 g5 g6 h1
                        generalize rpL M up = M2 at *
                        generalize (zb M up).1 = a at *
                        generalize (zb M up).2.1 = s2 at *
                        go_wp2_with (first
                          | (go_at_call 25; first
                            | ((with_reducible refine HSu.out.mono ?_); rintro e w14 ⟨rfl, rfl⟩)
                            | ((with_reducible refine HSp.out.mono ?_); rintro e w14 ⟨rfl, rfl⟩))
                          | (go_at_call 9; (with_reducible refine HRp.out.mono ?_); rintro e w15 ⟨rfl, hon15, -⟩; have HO15 := Lib.hid hon15; clear hon15))
                        go_roundw
                        case rel => exact ⟨j + 1, M2, by go_num, HO15.out, HG.out.1, by have := HG.out.2; have := HML.out; omega⟩
                        case measure => simp [intOf]; omega
                      · have e3 := g3 (by simpa using d2)
                        have d3 : (((zb M up).2.1 : Int) != (su : Int)) = false := by rw [e3]; simp
                        have d4 : ((zb M up).2.1 != su) = false := by rw [e3]; simp
                        clear hon hgn hml hu hp2 g1 g2 g3 g4 g5 g6 h1 e3
                        generalize rpL M up = M2 at *
                        generalize (zb M up).1 = a at *
                        generalize (zb M up).2.1 = s2 at *
                        go_wp2_with (first
                          | (go_at_call 25; first
                            | ((with_reducible refine HSu.out.mono ?_); rintro e w14 ⟨rfl, rfl⟩)
                            | ((with_reducible refine HSp.out.mono ?_); rintro e w14 ⟨rfl, rfl⟩))
                          | (go_at_call 9; (with_reducible refine HRp.out.mono ?_); rintro e w15 ⟨rfl, hon15, -⟩; have HO15 := Lib.hid hon15; clear hon15))
                        go_roundw
                        case rel => exact ⟨j + 1, M2, by go_num, HO15.out, HG.out.1, by have := HG.out.2; have := HML.out; omega⟩
                        case measure => simp [intOf]; omega
                    · have h0 : (gt M p).st = 0 := by
                        rcases hgn.him with ⟨_, e⟩ | e
                        · rw [e] at hp2; exact absurd rfl hp2
                        · rw [gt_no e]; rfl
                      rw [h0] at HSp
                      replace HSp := Lib.hid HSp
                      clear hon hgn hml hu hp2 h0
                      go_wp2_with (go_at_call 25; first
                        | ((with_reducible refine HSu.out.mono ?_); rintro e w14 ⟨rfl, rfl⟩)
                        | ((with_reducible refine HSp.out.mono ?_); rintro e w14 ⟨rfl, rfl⟩))
                      go_ret
                      exact ⟨rfl, HBl.out⟩
                  · have d5 : ((gt M up).st == 1) = false := by simpa using hu
                    have d6 : ((gt M up).st != 1) = true := by simpa using hu
                    replace HSu := Lib.hid HSu
                    clear hon hgn hml hu HSp
                    generalize (gt M up).st = z at *
                    go_wp2_with (go_at_call 25; (with_reducible refine HSu.out.mono ?_); rintro e w14 ⟨rfl, rfl⟩)
                    go_ret
                    exact ⟨rfl, HBl.out⟩
set_option maxRecDepth 100000 in
theorem orphans_long (n : Nat) (hn : 1 ≤ n ∧ n ≤ 32) (va : Value) (ops : List Opr) (p : Int) (su : Nat) (w : World) (h : OpsAt w va ops) (hl : ¬ ops.length ≤ 60) :
    Calls Try.prog 6 #[.int .i64 (n : Int), va, .int .i64 p, uv su] w fun e w' => e = .returned (.bool true) ∧ Below w.heap.size w w' := by
  obtain ⟨ad, cap, rfl, hc1, hc2, h3⟩ := h
  have dl : decide ((60 : Int) < (ops.length : Int)) = true := decide_eq_true (by omega)
  have HN := Lib.hid (fun W => On.new n hn W)
  clear h3 hl
  go_enter Try.func6, Try.ntmps6
  go_wp2_with (first
    | (go_at_call 15; (with_reducible refine (alive_any _).mono ?_); rintro e w1 ⟨rfl, b1⟩; have B1 := Lib.hid b1; clear b1)
    | (go_at_call 14; (with_reducible refine (HN.out _).mono ?_); rintro e w2 ⟨q, rfl, h2⟩; have H2 := Lib.hid h2; clear h2))
  go_ret
  exact ⟨rfl, B1.out.trans (H2.out.bel.mono B1.out.size)⟩
set_option maxRecDepth 100000 in
theorem orphans_bad (n : Int) (hn : n < 1 ∨ 32 < n) (va : Value) (ops : List Opr) (p : Int) (su : Nat) (w : World) (h : OpsAt w va ops) :
    Calls Try.prog 6 #[.int .i64 n, va, .int .i64 p, uv su] w fun e w' => e = .returned (.bool true) ∧ Below w.heap.size w w' := by
  obtain ⟨ad, cap, rfl, hc1, hc2, h3⟩ := h
  have HN := Lib.hid (fun W => new_no n hn W)
  clear h3 hn
  cases dl : decide ((60 : Int) < (ops.length : Int))
  all_goals
    go_enter Try.func6, Try.ntmps6
    go_wp2_with (first
      | (go_at_call 15; (with_reducible refine (alive_any _).mono ?_); rintro e w1 ⟨rfl, b1⟩; have B1 := Lib.hid b1; clear b1)
      | (go_at_call 14; (with_reducible refine (HN.out _).mono ?_); rintro e w2 ⟨rfl, rfl⟩))
    go_ret
    exact ⟨rfl, B1.out⟩
end Go.Proofs.Ytkjcjodhpcfjiaa.Tfb
namespace Go.Proofs.Ytkjcjodhpcfjiaa.Walk
open Go Go.RowKit Teu
theorem treeOrphans (a : Int) (va : Value) (ops : List Opr) (p s : Int) (w : World) (_wa : (Lit.int .i64 a).wf = true) (h : OpsAt w va ops) (wp : (Lit.int .i64 p).wf = true) (ws : (Lit.int .u32 s).wf = true) : Calls Try.prog 6 #[.int .i64 a, va, .int .i64 p, .int .u32 s] w fun e w' => e = .returned (.bool true) ∧ Below w.heap.size w w' := by
  obtain ⟨su, rfl, hsu⟩ := Kit.u32_nat ws
  by_cases hn : a < 1 ∨ 32 < a
  · exact Tfb.orphans_bad a hn va ops p su w h
  · obtain ⟨n, rfl⟩ : ∃ n : Nat, a = (n : Int) := ⟨a.toNat, by omega⟩
    by_cases hl : ops.length ≤ 60
    · exact Tfb.orphans_short n (by omega) va ops p wp su hsu w h hl
    · exact Tfb.orphans_long n (by omega) va ops p su w h hl
end Go.Proofs.Ytkjcjodhpcfjiaa.Walk
