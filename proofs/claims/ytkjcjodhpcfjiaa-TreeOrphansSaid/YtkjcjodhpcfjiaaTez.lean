/-
  TreeThaws, walked.
-/
import Derived.Test.YtkjcjodhpcfjiaaTey
namespace Go.Proofs.Ytkjcjodhpcfjiaa.Tez
open Go Go.RowKit Go.Shelf Kit Bk Tea Teb Tec Ted Tee Tef Teg Teh Tei Tej Tek Tel Tem Ten Teo Tep Teq Ter Tes Teu Tev Tew Tex Tey
set_option linter.unusedVariables false
attribute [local go_sem ↓] app_wrap

theorem same_self (w : World) (u v : Value) (l : List Int) (h : Nr w u l) (h2 : Nr w v l) : Calls Try.prog 16 #[u, v] w fun e w' => e = .returned (.bool true) ∧ Below w.heap.size w w' := by
  have := same_ints w u v l l h h2
  rw [decide_eq_true (rfl : l = l)] at this
  exact this
set_option maxRecDepth 100000 in
set_option maxHeartbeats 8000000 in
theorem thaws_short (n : Nat) (hn : 1 ≤ n ∧ n ≤ 32) (va : Value) (ops : List Opr) (p : Int) (hp : (Lit.int .i64 p).wf = true) (w : World) (h : OpsAt w va ops) (hl : ops.length ≤ 60) :
    Calls Try.prog 5 #[.int .i64 (n : Int), va, .int .i64 p] w fun e w' => e = .returned (.bool true) ∧ Below w.heap.size w w' := by
  obtain ⟨ad, cap, rfl, hc1, hc2, h3⟩ := h
  have dl : decide ((60 : Int) < (ops.length : Int)) = false := decide_eq_false (by omega)
  have hli : (ops.length : Int) ≤ 60 := by omega
  have HC : Hid (∀ i (hi : i < ops.length), ∃ b off, ad = some ⟨b, off, none⟩ ∧ ∀ W, Below w.heap.size w W → OpAt W b (off + i * 5) ops[i]) := Lib.hid (fun i hi => by
    rcases h3 with e | ⟨b, off, rfl, hb, h4⟩
    · subst e; simp at hi
    · exact ⟨b, off, rfl, fun W hB => (h4 i hi).below hb hB⟩)
  have HN := Lib.hid (fun W => On.new n hn W)
  clear h3
  go_enter Try.func5, Try.ntmps5
  go_wp2_with (first
    | (go_at_call 15; (with_reducible refine (alive_any _).mono ?_); rintro e w1 ⟨rfl, b1⟩; have B1 := Lib.hid b1; clear b1)
    | (go_at_call 14; (with_reducible refine (HN.out _).mono ?_); rintro e w2 ⟨q, rfl, h2⟩; have H2 := Lib.hid h2; clear h2))
  go_loopw [10] (fun i wr => ∃ j : Nat, j ≤ ops.length ∧ i = .int .i64 (j : Int) ∧ Sf Nf w1 wr q n) (fun i _ => ops.length - (intOf i).toNat)
  case atStart => exact ⟨0, Nat.zero_le _, rfl, _, _, H2.out, nf_one⟩
  case round =>
    obtain ⟨j, hj, rfl, hs⟩ := hrel
    by_cases hlt : j < ops.length
    · have hltI : (j : Int) < (ops.length : Int) := by omega
      obtain ⟨b, off, rfl, hat⟩ := HC.out j hlt
      have HCC : Hid (∀ W, Below w1.heap.size w1 W → OpAt W b (off + j * 5) ops[j]) := Lib.hid (fun W hW => hat W (B1.out.trans (hW.mono B1.out.size)))
      obtain ⟨⟨c0, c1, c2, c3, c4⟩, hok⟩ := HCC.out wr hs.bel
      have HOk := Lib.hid hok
      generalize ops[j] = o at *
      have HSr := Lib.hid hs
      clear hat hok hs c2 c3
      by_cases k0 : o.kind = 0
      · have hD := Lib.hid (HSr.out.fork (fun _ _ _ _ => nf_fk) HOk.out.1)
        rw [k0] at c0
        clear k0 c4
        go_wp2_with (go_at_call 10; (with_reducible refine hD.out.mono ?_); rintro e w2 ⟨⟨a, c, rfl⟩, hs2⟩; have HS2 := Lib.hid hs2; clear hs2)
        go_roundw
        case rel => exact ⟨j + 1, by omega, by go_num, HS2.out⟩
        case measure => simp [intOf]; omega
      · have k0' : (o.kind == 0) = false := by simpa using k0
        clear k0
        by_cases k1 : o.kind = 1
        · have hD := Lib.hid (fun W (hb : Sf Nf w1 W q n) => hb.exit (su := o.su) (fun _ _ _ => nf_ex) HOk.out.1 HOk.out.2.2)
          rw [k1] at c0
          clear k1 k0'
          go_wp2
          go_region_held (fun w' => w'.cell? ⟨b, off + j * 5 + 1, none⟩ = some (.int .i64 o.p) ∧ w'.cell? ⟨b, off + j * 5 + 4, none⟩ = some (uv o.su)) (first | exact ⟨c1, c4⟩ | (have X := HCC.out _ HS2.out.bel; exact ⟨X.1.2.1, X.1.2.2.2.2⟩)) ((go_at_call 8; (with_reducible refine (hD.out _ (HSr.out.below ((Below.refl _ _).drew))).mono ?_); rintro e w2 ⟨⟨a, m, c, z, rfl⟩, hs2⟩; have HS2 := Lib.hid hs2; clear hs2))
          go_wp2
          go_roundw
          case rel => exact ⟨j + 1, by omega, by go_num, HS2.out⟩
          case measure => simp [intOf]; omega
        · have k1' : (o.kind == 1) = false := by simpa using k1
          clear k1
          by_cases k2 : o.kind = 2
          · have hD := Lib.hid (HSr.out.reap (fun _ _ => nf_rp) HOk.out.1)
            rw [k2] at c0
            clear k2 k0' k1' c4
            go_wp2_with (go_at_call 9; (with_reducible refine hD.out.mono ?_); rintro e w2 ⟨⟨a, c, z, rfl⟩, hs2⟩; have HS2 := Lib.hid hs2; clear hs2)
            go_roundw
            case rel => exact ⟨j + 1, by omega, by go_num, HS2.out⟩
            case measure => simp [intOf]; omega
          · have k2' : (o.kind == 2) = false := by simpa using k2
            clear k2
            go_wp2
            go_roundw
            case rel => exact ⟨j + 1, by omega, by go_num, HSr.out⟩
            case measure => simp [intOf]; omega
    · obtain rfl : j = ops.length := by omega
      obtain ⟨L, S, hon, hnf⟩ := hs
      have HO0 := Lib.hid hon
      have HNf := Lib.hid hnf
      have hroom := hon.ok.room
      have hlen := hon.ok.len
      have HA := Lib.hid hon.all
      clear hon hnf hlt hj
      have hpl : (pids L).length = L.length := by simp [pids]
      have hLI : (L.length : Int) ≤ 32 := by omega
      go_wp2_with (go_at_call 19; (with_reducible refine HA.out.mono ?_); rintro e w3 ⟨a3, c3, rfl, hn3, hb3⟩; obtain ⟨a4, c4, e4, hc3, hc4, hcl⟩ := nr_cells hn3; cases e4; have hn4 : w3.ownsRow 0 3 1 (.slice a3 (pids L).length c3) (pids L).length (ints (pids L)) := hn3; rw [hpl] at hn4; have HN3 := Lib.hid hn4; have HR := Lib.hid hcl; have HO3 := Lib.hid (HO0.out.below hb3); clear HA hn3 hn4 hb3 hcl)
      rw [hpl] at hc4
      go_loopw [13, 11] (fun i s wr => ∃ (j : Nat) (v : Value), j ≤ L.length ∧ i = .int .i64 (j : Int) ∧ s = v ∧ On w1 wr q n L S ∧ wr.ownsRow w1.heap.size 52 4 v j (pcs (L.take j)) ∧ wr.ownsRow 0 3 1 (.slice a3 L.length c3) L.length (ints (pids L))) (fun i _ _ => L.length - (intOf i).toNat)
      case atStart => exact ⟨0, _, Nat.zero_le _, rfl, rfl, HO3.out, World.ownsRow_nil _ _ _ _, HN3.out⟩
      case round =>
        obtain ⟨j, v, hj, rfl, rfl, hon, hwz, hnr⟩ := hrel
        by_cases hlt : j < L.length
        · have hltI : (j : Int) < (L.length : Int) := by omega
          obtain ⟨r, rfl, -⟩ := HR.out j (by rw [hpl]; exact hlt)
          have hck : wr.cell? ⟨r, j, none⟩ = some (.int .i64 (pd L j)) := by
            rw [hnr.cellAt j (by omega)]
            simp [ints, pids, hlt, pd_at hlt]
          have hwf := pd_wf hon.ok.ok hlt
          have hg := (pd_in hon.ok.ok.up hlt).2
          have HP := hon.parent hwf
          have HS := hon.state hwf
          have HU := hon.status hwf
          rw [hg] at HP HS HU
          replace HP := Lib.hid HP
          replace HS := Lib.hid HS
          replace HU := Lib.hid HU
          obtain ⟨g', cap', w4, q1, q2, q3, q4⟩ := Tey.On.push (T := 52) (S2 := 49) (by decide) (by decide) Try.underlying49 infoP rfl (by decide) (by decide) hon hwz #[.int .i64 (pd L j), .int .i64 (rc L j).par, .int .i64 (rc L j).st, uv (rc L j).su] rfl (by simp [Value.oneCell']) (by omega)
          have hpt : pcs (L.take (j + 1)) = pcs (L.take j) ++ [.int .i64 (pd L j), .int .i64 (rc L j).par, .int .i64 (rc L j).st, uv (rc L j).su] := by
            rw [List.take_succ_eq_append_getElem hlt, pcs_app, pd_at hlt, rc_at hlt]
            rfl
          have HE : Hid (On w1 w4 q n L S ∧ w4.ownsRow w1.heap.size 52 4 (.slice (some ⟨g', 0, none⟩) (j + 1) cap') (j + 1) (pcs (L.take (j + 1))) ∧ w4.ownsRow 0 3 1 (.slice (some ⟨r, 0, none⟩) L.length c3) L.length (ints (pids L))) := Lib.hid ⟨q3, by rw [hpt]; exact q2, q4 _ _ _ _ _ _ (by decide) hnr⟩
          clear hon hwz hnr q2 q3 q4 hpt hg hwf
          generalize rc L j = x at *
          generalize pd L j = y at *
          go_wp2_with (first
            | (go_at_call 24; (with_reducible refine HP.out.mono ?_); rintro e w5 ⟨rfl, rfl⟩)
            | (go_at_call 25; (with_reducible refine HS.out.mono ?_); rintro e w5 ⟨rfl, rfl⟩)
            | (go_at_call 18; (with_reducible refine HU.out.mono ?_); rintro e w5 ⟨rfl, rfl⟩))
          go_roundw
          case rel => exact ⟨j + 1, _, by omega, by go_num, rfl, HE.out.1, HE.out.2.1, HE.out.2.2⟩
          case measure => simp [intOf]; omega
        · obtain rfl : j = L.length := by omega
          rw [List.take_length] at hwz
          clear hnr hlt hj
          have HO4 := Lib.hid hon
          have HW4 := Lib.hid hwz
          have HT := Lib.hid (hon.tree hp)
          have HF := Lib.hid (fun W (hb : Below wr.heap.size wr W) => (hon.below hb).freeze hp)
          clear hon hwz
          unfold fzE fzA fzM at HF
          cases hz : fzB L p
          · rw [hz] at HF
            rw [if_neg (by decide : ¬ false = true), if_neg (by decide : ¬ false = true), if_neg (by decide : ¬ false = true)] at HF
            have hz2 : (p == 1) = true ∨ ((p == 1) = false ∧ ((gt L p).st != 1) = true) := by
              unfold fzB at hz
              cases e1 : (p == 1)
              · right
                rw [show (p != 1) = true from by rw [bne, e1]; rfl, Bool.true_and] at hz
                exact ⟨rfl, by rw [bne, hz]; rfl⟩
              · exact .inl rfl
            have HSt := Lib.hid (fun W (hon : On w1 W q n L S) => hon.state hp)
            rcases hz2 with d1 | ⟨d1, d2⟩
            · go_wp2_with (first
                | (go_at_call 22; (with_reducible refine HT.out.mono ?_); rintro e w5 ⟨a5, c5, rfl, -, hb5⟩; have HB5 := Lib.hid hb5; clear hb5)
                | (go_at_call 11; (with_reducible refine (HF.out _ HB5.out).mono ?_); rintro e w6 ⟨a6, c6, rfl, -, hon6, -⟩; have HO6 := Lib.hid hon6; clear hon6))
              go_ret
              exact ⟨rfl, B1.out.trans (HO6.out.bel.mono B1.out.size)⟩
            · generalize (gt L p).st = z at *
              go_wp2_with (first
                | (go_at_call 22; (with_reducible refine HT.out.mono ?_); rintro e w5 ⟨a5, c5, rfl, -, hb5⟩; have HB5 := Lib.hid hb5; clear hb5)
                | (go_at_call 11; (with_reducible refine (HF.out _ HB5.out).mono ?_); rintro e w6 ⟨a6, c6, rfl, -, hon6, -⟩; have HO6 := Lib.hid hon6; clear hon6)
                | (go_at_call 25; (with_reducible refine (HSt.out _ HO6.out).mono ?_); rintro e w7 ⟨rfl, rfl⟩))
              go_ret
              exact ⟨rfl, B1.out.trans (HO6.out.bel.mono B1.out.size)⟩
          · rw [hz] at HF
            rw [if_pos rfl, if_pos rfl, if_pos rfl, ← rst_zero] at HF
            have HFr := Lib.hid (fun W (hon : On w1 W q n (frL L (rst L p 0)) S) => hon.free)
            have hfl : (frL L (rst L p 0)).length = L.length := len_mp _ _
            rw [hfl] at HFr
            obtain ⟨va, vc, rfl, -⟩ := Wz.cells HW4.out
            have HFn : Hid ((n - L.length : Nat) < 1000) := Lib.hid (by omega)
            clear hz hfl
            generalize tr L p = l at *
            go_wp2_with (first
              | (go_at_call 22; (with_reducible refine HT.out.mono ?_); rintro e w5 ⟨a5, c5, rfl, hn5, hb5⟩; have HB5 := Lib.hid hb5; have HN5 := Lib.hid hn5; have HW5 := Lib.hid (own_below HW4.out hb5); clear hb5 hn5 HW4)
              | (go_at_call 11; (with_reducible refine (HF.out _ HB5.out).mono ?_); rintro e w6 ⟨a6, c6, rfl, hn6, hon6, hrk⟩; have HO6 := Lib.hid hon6; have HN6 := Lib.hid (And.intro hn6 (hrk.nr HN5.out)); have HW6 := Lib.hid (hrk _ _ _ _ _ _ (by decide) (by decide) HW5.out); clear hon6 hn6 hrk HW5 HN5)
              | (go_at_call 20; (with_reducible refine (HFr.out _ HO6.out).mono ?_); rintro e w7 ⟨rfl, hb7⟩; have HO7 := Lib.hid (HO6.out.below hb7); have HN7 := Lib.hid (And.intro (nr_below HN6.out.1 hb7) (nr_below HN6.out.2 hb7)); have HW7 := Lib.hid (own_below HW6.out hb7); clear hb7 HO6 HN6 HW6)
              | (go_at_call 16; (with_reducible refine (same_self _ _ _ l HN7.out.1 HN7.out.2).mono ?_); rintro e w8 ⟨rfl, hb8⟩; have HO8 := Lib.hid (HO7.out.below hb8); have HW8 := Lib.hid (own_below HW7.out hb8); clear hb8 HO7 HN7 HW7))
            clear HT HF HB5
            go_loopw [19] (fun i wr => ∃ j : Nat, j ≤ L.length ∧ i = .int .i64 (j : Int) ∧ On w1 wr q n (frL L (rst L p j)) S ∧ Wz w1.heap.size wr (.slice va L.length vc) L) (fun i _ => L.length - (intOf i).toNat)
            case atStart => exact ⟨0, Nat.zero_le _, rfl, HO8.out, HW8.out⟩
            case round =>
              obtain ⟨j, hj, rfl, hon, hwz⟩ := hrel
              have HJ : Hid (j ≤ L.length) := Lib.hid hj
              by_cases hlt : j < L.length
              · have hltI : (j : Int) < (L.length : Int) := by omega
                obtain ⟨a9, c9, e9, -, -, hcl⟩ := Wz.cells hwz
                cases e9
                obtain ⟨r, rfl, y0, y1, y2, y3⟩ := hcl j hlt
                have hok := HO0.out.ok.ok
                have hwf := pd_wf hok hlt
                have hg := (pd_in hok.up hlt)
                have hst := hok.st _ hg.1
                rw [hg.2] at hst
                have hnf := HNf.out (pd L j)
                rw [hg.2] at hnf
                have hpb := hok.par_bd (pd L j)
                rw [hg.2] at hpb
                have bx := (Below.refl wr.heap.size wr).alloc (Nat.le_refl _) (.cells #[.int .i64 (pd L j), .int .i64 (rc L j).par, .int .i64 (rc L j).st, uv (rc L j).su] 52)
                have hx : Blk (wr.alloc (.cells #[.int .i64 (pd L j), .int .i64 (rc L j).par, .int .i64 (rc L j).st, uv (rc L j).su] 52)) wr.heap.size #[.int .i64 (pd L j), .int .i64 (rc L j).par, .int .i64 (rc L j).st, uv (rc L j).su] 52 := Blk.new _ _ _
                have ho2 := hon.below bx
                have hw2 := own_below hwz bx
                have HP := Lib.hid (fun W (hb : Below (wr.alloc (.cells #[.int .i64 (pd L j), .int .i64 (rc L j).par, .int .i64 (rc L j).st, uv (rc L j).su] 52)).heap.size (wr.alloc (.cells #[.int .i64 (pd L j), .int .i64 (rc L j).par, .int .i64 (rc L j).st, uv (rc L j).su] 52)) W) => (ho2.below hb).parent hwf)
                have HS := Lib.hid (fun W (hb : Below (wr.alloc (.cells #[.int .i64 (pd L j), .int .i64 (rc L j).par, .int .i64 (rc L j).st, uv (rc L j).su] 52)).heap.size (wr.alloc (.cells #[.int .i64 (pd L j), .int .i64 (rc L j).par, .int .i64 (rc L j).st, uv (rc L j).su] 52)) W) => (ho2.below hb).state hwf)
                have HU := Lib.hid (fun W (hb : Below (wr.alloc (.cells #[.int .i64 (pd L j), .int .i64 (rc L j).par, .int .i64 (rc L j).st, uv (rc L j).su] 52)).heap.size (wr.alloc (.cells #[.int .i64 (pd L j), .int .i64 (rc L j).par, .int .i64 (rc L j).st, uv (rc L j).su] 52)) W) => (ho2.below hb).status hwf)
                have x0 := hx.cell 0
                have x1 := hx.cell 1
                have x2 := hx.cell 2
                have x3 := hx.cell 3
                simp only [List.getElem?_toArray, List.getElem?_cons_zero, List.getElem?_cons_succ] at x0 x1 x2 x3
                by_cases hin : pd L j ∈ tr L p
                · have h3 := rst_in hok.up hlt hin
                  rw [h3] at HP HS HU
                  obtain ⟨t1, t2, t3⟩ := thaw_ok (rm := n) (S := S) hok HNf.out hlt hin
                  have HTh := fun W (hb : Below (wr.alloc (.cells #[.int .i64 (pd L j), .int .i64 (rc L j).par, .int .i64 (rc L j).st, uv (rc L j).su] 52)).heap.size (wr.alloc (.cells #[.int .i64 (pd L j), .int .i64 (rc L j).par, .int .i64 (rc L j).st, uv (rc L j).su] 52)) W) => (ho2.below hb).thaw (p := pd L j) (r := (rc L j).par) (st := (rc L j).st) (su := (rc L j).su) hwf (wf64 (by omega)) hst.2.1
                  rw [t1, t2, t3] at HTh
                  replace HTh := Lib.hid HTh
                  have HW2 := Lib.hid (fun W (hb : Below (wr.alloc (.cells #[.int .i64 (pd L j), .int .i64 (rc L j).par, .int .i64 (rc L j).st, uv (rc L j).su] 52)).heap.size (wr.alloc (.cells #[.int .i64 (pd L j), .int .i64 (rc L j).par, .int .i64 (rc L j).st, uv (rc L j).su] 52)) W) => own_below hw2 hb)
                  clear hon hwz hcl hok hwf hg hst hnf hpb bx hx ho2 hw2 h3 t1 t2 t3 hin
                  generalize rc L j = x at *
                  generalize pd L j = y at *
                  go_wp2_with (go_at_call 25; (with_reducible refine (HS.out _ (Below.refl _ _)).mono ?_); rintro e w9 ⟨rfl, rfl⟩)
                  go_quiet ((first
                    | (go_at_call 24; exact Calls.quiet_of_same ((HP.out _ (by first | exact Below.refl _ _ | exact below_drewN (Below.refl _ _) _)).mono fun e w' ⟨he, hw⟩ => ⟨he, hw.symm⟩))))
                  go_wp2_with (go_at_call 12; (with_reducible refine (HTh.out _ (below_drewN (Below.refl _ _) nq)).mono ?_); rintro e w10 ⟨rfl, hon10, hrk⟩; have HO10 := Lib.hid hon10; have HW10 := Lib.hid (hrk _ _ _ _ _ _ (by decide) (by decide) (HW2.out _ (below_drewN (Below.refl _ _) nq))); clear hon10 hrk)
                  go_roundw
                  case rel => exact ⟨j + 1, by omega, by go_num, HO10.out, HW10.out⟩
                  case measure => simp [intOf]; omega
                · have h3 := rst_out hok.up hlt hin
                  rw [h3] at HP HS HU
                  have hskip := rst_skip hok.up hlt hin
                  have d3 : ((rc L j).st == 3) = false := by simpa using hnf
                  have HE := Lib.hid (fun W (hb : Below (wr.alloc (.cells #[.int .i64 (pd L j), .int .i64 (rc L j).par, .int .i64 (rc L j).st, uv (rc L j).su] 52)).heap.size (wr.alloc (.cells #[.int .i64 (pd L j), .int .i64 (rc L j).par, .int .i64 (rc L j).st, uv (rc L j).su] 52)) W) => (⟨by rw [hskip]; exact ho2.below hb, own_below hw2 hb⟩ : On w1 W q n (frL L (rst L p (j + 1))) S ∧ Wz w1.heap.size W (.slice (some ⟨r, 0, none⟩) L.length vc) L))
                  clear hon hwz hcl hok hwf hg hst hnf hpb bx hx ho2 hw2 h3 hskip hin
                  generalize rc L j = x at *
                  generalize pd L j = y at *
                  go_wp2_with (go_at_call 25; (with_reducible refine (HS.out _ (Below.refl _ _)).mono ?_); rintro e w9 ⟨rfl, rfl⟩)
                  go_quiet ((first
                    | (go_at_call 24; exact Calls.quiet_of_same ((HP.out _ (by first | exact Below.refl _ _ | exact below_drewN (Below.refl _ _) _)).mono fun e w' ⟨he, hw⟩ => ⟨he, hw.symm⟩))
                    | (go_at_call 25; exact Calls.quiet_of_same ((HS.out _ (by first | exact Below.refl _ _ | exact below_drewN (Below.refl _ _) _)).mono fun e w' ⟨he, hw⟩ => ⟨he, hw.symm⟩))
                    | (go_at_call 18; exact Calls.quiet_of_same ((HU.out _ (by first | exact Below.refl _ _ | exact below_drewN (Below.refl _ _) _)).mono fun e w' ⟨he, hw⟩ => ⟨he, hw.symm⟩))))
                  go_wp2
                  go_roundw
                  case rel => exact ⟨j + 1, by omega, by go_num, HE.out _ (below_drewN (Below.refl _ _) nq)⟩
                  case measure => simp [intOf]; omega
              · obtain rfl : j = L.length := by omega
                rw [rst_all] at hon
                have HO9 := Lib.hid hon
                have HW9 := Lib.hid hwz
                clear hon hwz hlt hj HJ
                go_wp2
                go_loopw [22] (fun i wr => ∃ j : Nat, j ≤ L.length ∧ i = .int .i64 (j : Int) ∧ On w1 wr q n L S ∧ Wz w1.heap.size wr (.slice va L.length vc) L) (fun i _ => L.length - (intOf i).toNat)
                case atStart => exact ⟨0, Nat.zero_le _, rfl, HO9.out, HW9.out⟩
                case round =>
                  obtain ⟨j, hj, rfl, hon, hwz⟩ := hrel
                  by_cases hlt : j < L.length
                  · have hltI : (j : Int) < (L.length : Int) := by omega
                    obtain ⟨a9, c9, e9, -, -, hcl⟩ := Wz.cells hwz
                    cases e9
                    obtain ⟨r, rfl, y0, y1, y2, y3⟩ := hcl j hlt
                    have hok := HO0.out.ok.ok
                    have hwf := pd_wf hok hlt
                    have hg := (pd_in hok.up hlt)
                    have bx := (Below.refl wr.heap.size wr).alloc (Nat.le_refl _) (.cells #[.int .i64 (pd L j), .int .i64 (rc L j).par, .int .i64 (rc L j).st, uv (rc L j).su] 52)
                    have hx : Blk (wr.alloc (.cells #[.int .i64 (pd L j), .int .i64 (rc L j).par, .int .i64 (rc L j).st, uv (rc L j).su] 52)) wr.heap.size #[.int .i64 (pd L j), .int .i64 (rc L j).par, .int .i64 (rc L j).st, uv (rc L j).su] 52 := Blk.new _ _ _
                    have ho2 := hon.below bx
                    have hw2 := own_below hwz bx
                    have HP := Lib.hid (fun W (hb : Below (wr.alloc (.cells #[.int .i64 (pd L j), .int .i64 (rc L j).par, .int .i64 (rc L j).st, uv (rc L j).su] 52)).heap.size (wr.alloc (.cells #[.int .i64 (pd L j), .int .i64 (rc L j).par, .int .i64 (rc L j).st, uv (rc L j).su] 52)) W) => (ho2.below hb).parent hwf)
                    have HS := Lib.hid (fun W (hb : Below (wr.alloc (.cells #[.int .i64 (pd L j), .int .i64 (rc L j).par, .int .i64 (rc L j).st, uv (rc L j).su] 52)).heap.size (wr.alloc (.cells #[.int .i64 (pd L j), .int .i64 (rc L j).par, .int .i64 (rc L j).st, uv (rc L j).su] 52)) W) => (ho2.below hb).state hwf)
                    have HU := Lib.hid (fun W (hb : Below (wr.alloc (.cells #[.int .i64 (pd L j), .int .i64 (rc L j).par, .int .i64 (rc L j).st, uv (rc L j).su] 52)).heap.size (wr.alloc (.cells #[.int .i64 (pd L j), .int .i64 (rc L j).par, .int .i64 (rc L j).st, uv (rc L j).su] 52)) W) => (ho2.below hb).status hwf)
                    rw [hg.2] at HP HS HU
                    have HE := Lib.hid (fun W (hb : Below (wr.alloc (.cells #[.int .i64 (pd L j), .int .i64 (rc L j).par, .int .i64 (rc L j).st, uv (rc L j).su] 52)).heap.size (wr.alloc (.cells #[.int .i64 (pd L j), .int .i64 (rc L j).par, .int .i64 (rc L j).st, uv (rc L j).su] 52)) W) => (⟨ho2.below hb, own_below hw2 hb⟩ : On w1 W q n L S ∧ Wz w1.heap.size W (.slice (some ⟨r, 0, none⟩) L.length vc) L))
                    have x0 := hx.cell 0
                    have x1 := hx.cell 1
                    have x2 := hx.cell 2
                    have x3 := hx.cell 3
                    simp only [List.getElem?_toArray, List.getElem?_cons_zero, List.getElem?_cons_succ] at x0 x1 x2 x3
                    clear hon hwz hcl hok hwf hg bx hx ho2 hw2
                    generalize rc L j = x at *
                    generalize pd L j = y at *
                    go_wp2
                    go_quiet ((first
                    | (go_at_call 24; exact Calls.quiet_of_same ((HP.out _ (by first | exact Below.refl _ _ | exact below_drewN (Below.refl _ _) _)).mono fun e w' ⟨he, hw⟩ => ⟨he, hw.symm⟩))
                    | (go_at_call 25; exact Calls.quiet_of_same ((HS.out _ (by first | exact Below.refl _ _ | exact below_drewN (Below.refl _ _) _)).mono fun e w' ⟨he, hw⟩ => ⟨he, hw.symm⟩))
                    | (go_at_call 18; exact Calls.quiet_of_same ((HU.out _ (by first | exact Below.refl _ _ | exact below_drewN (Below.refl _ _) _)).mono fun e w' ⟨he, hw⟩ => ⟨he, hw.symm⟩))))
                    go_wp2
                    go_roundw
                    case rel => exact ⟨j + 1, by omega, by go_num, HE.out _ (below_drewN (Below.refl _ _) nq)⟩
                    case measure => simp [intOf]; omega
                  · obtain rfl : j = L.length := by omega
                    have HF := Lib.hid hon.free
                    have HA := Lib.hid (fun W (hb : Below wr.heap.size wr W) => (hon.below hb).all)
                    have HE := Lib.hid (fun W (hb : Below wr.heap.size wr W) => B1.out.trans ((hon.below hb).bel.mono B1.out.size))
                    have e1 : (((pids L).length : Int) == (L.length : Int)) = true := by rw [hpl]; simp
                    have e2 : ((pids L).length == L.length) = true := by rw [hpl]; simp
                    clear hon hwz
                    generalize n - L.length = fz at *
                    go_wp2_with (first
                      | (go_at_call 20; (with_reducible refine HF.out.mono ?_); rintro e w9 ⟨rfl, hb9⟩; have HB9 := Lib.hid hb9; clear hb9)
                      | (go_at_call 19; (with_reducible refine (HA.out _ HB9.out).mono ?_); rintro e w10 ⟨a10, c10, rfl, -, hb10⟩; have HB10 := Lib.hid (HB9.out.trans (hb10.mono HB9.out.size)); clear hb10))
                    go_ret
                    exact ⟨rfl, HE.out _ HB10.out⟩
set_option maxRecDepth 100000 in
theorem thaws_long (n : Nat) (hn : 1 ≤ n ∧ n ≤ 32) (va : Value) (ops : List Opr) (p : Int) (w : World) (h : OpsAt w va ops) (hl : ¬ ops.length ≤ 60) :
    Calls Try.prog 5 #[.int .i64 (n : Int), va, .int .i64 p] w fun e w' => e = .returned (.bool true) ∧ Below w.heap.size w w' := by
  obtain ⟨ad, cap, rfl, hc1, hc2, h3⟩ := h
  have dl : decide ((60 : Int) < (ops.length : Int)) = true := decide_eq_true (by omega)
  have HN := Lib.hid (fun W => On.new n hn W)
  clear h3 hl
  go_enter Try.func5, Try.ntmps5
  go_wp2_with (first
    | (go_at_call 15; (with_reducible refine (alive_any _).mono ?_); rintro e w1 ⟨rfl, b1⟩; have B1 := Lib.hid b1; clear b1)
    | (go_at_call 14; (with_reducible refine (HN.out _).mono ?_); rintro e w2 ⟨q, rfl, h2⟩; have H2 := Lib.hid h2; clear h2))
  go_ret
  exact ⟨rfl, B1.out.trans (H2.out.bel.mono B1.out.size)⟩
set_option maxRecDepth 100000 in
theorem thaws_bad (n : Int) (hn : n < 1 ∨ 32 < n) (va : Value) (ops : List Opr) (p : Int) (w : World) (h : OpsAt w va ops) :
    Calls Try.prog 5 #[.int .i64 n, va, .int .i64 p] w fun e w' => e = .returned (.bool true) ∧ Below w.heap.size w w' := by
  obtain ⟨ad, cap, rfl, hc1, hc2, h3⟩ := h
  have HN := Lib.hid (fun W => new_no n hn W)
  clear h3 hn
  cases dl : decide ((60 : Int) < (ops.length : Int))
  all_goals
    go_enter Try.func5, Try.ntmps5
    go_wp2_with (first
      | (go_at_call 15; (with_reducible refine (alive_any _).mono ?_); rintro e w1 ⟨rfl, b1⟩; have B1 := Lib.hid b1; clear b1)
      | (go_at_call 14; (with_reducible refine (HN.out _).mono ?_); rintro e w2 ⟨rfl, rfl⟩))
    go_ret
    exact ⟨rfl, B1.out⟩
end Go.Proofs.Ytkjcjodhpcfjiaa.Tez
namespace Go.Proofs.Ytkjcjodhpcfjiaa.Walk
open Go Go.RowKit Teu
theorem treeThaws (a : Int) (va : Value) (ops : List Opr) (p : Int) (w : World) (_wa : (Lit.int .i64 a).wf = true) (h : OpsAt w va ops) (wp : (Lit.int .i64 p).wf = true) : Calls Try.prog 5 #[.int .i64 a, va, .int .i64 p] w fun e w' => e = .returned (.bool true) ∧ Below w.heap.size w w' := by
  by_cases hn : a < 1 ∨ 32 < a
  · exact Tez.thaws_bad a hn va ops p w h
  · obtain ⟨n, rfl⟩ : ∃ n : Nat, a = (n : Int) := ⟨a.toNat, by omega⟩
    by_cases hl : ops.length ≤ 60
    · exact Tez.thaws_short n (by omega) va ops p wp w h hl
    · exact Tez.thaws_long n (by omega) va ops p w h hl
end Go.Proofs.Ytkjcjodhpcfjiaa.Walk
