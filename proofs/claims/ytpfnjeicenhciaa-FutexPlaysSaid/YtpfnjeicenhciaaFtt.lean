/-
  FutexOrder: the walk.
-/
import Derived.Test.YtpfnjeicenhciaaFts
import Derived.Deep.RegionHeld
namespace Go.Proofs.Ytpfnjeicenhciaa.Ftt
open Go Go.RowKit Kit Bk Fta Ftb Ftc Ftd Fte Ftf Ftg Fth Fti Ftj Ftk Ftl Ftm Ftn Fto Ftq Ftr Fts
set_option linter.unusedVariables false
attribute [local go_sem ↓] app_wrap

theorem wrap_small {x : Nat} (h : x < 256) : wrap64 (x : Int) = (x : Int) := IntWalk.wrap64_in _ (by omega)
theorem iwrap_small {x : Nat} (h : x < 256) : IntKind.i64.wrap (x : Int) = (x : Int) := by rw [IntKind.wrap_i64]; omega
theorem wks_small (M : List Wt) (k : Ky) (x : Nat) : (wks M k (x : Int)).length ≤ x := by unfold wks; rw [List.length_take]; omega
/-- A cell of an argument, behind a call on a futex. -/
theorem cell_kept {w w1 wr W' : World} {f r r2 b o : Nat} {M : List Wt} {v : Value} (hon : On w1 wr f r M) (h1 : Below w.heap.size w w1) (hb : b < w.heap.size) (hk : Kp (fr f r) wr W') (hc : wr.cell? ⟨b, o, none⟩ = some v) : W'.cell? ⟨b, o, none⟩ = some v := by
  have hlo := hon.lo
  have h2 := h1.size
  have h3 := hon.bel.size
  refine (World.cell?_of_block (a := ⟨b, o, none⟩) (hk.block b (by omega) ?_)).trans hc
  intro e
  unfold fr at e
  omega
theorem order_long (va : Value) (ops : List Opr) (k : Ky) (vm : Value) (w : World) (h : OpsAt w va ops) (hl : ¬ ops.length ≤ 200) :
    Calls Try.prog 5 #[va, kv k, vm] w fun e w' => e = .returned (.bool true) ∧ Below w.heap.size w w' := by
  obtain ⟨ad, cap, rfl, h1, h2, h3⟩ := h
  have dl : decide ((200 : Int) < (ops.length : Int)) = true := decide_eq_true (by omega)
  have hb0 := Lib.hid ((Below.refl w.heap.size w).alloc (Nat.le_refl _) (.cells #[.int .i64 k.p, .int .i64 k.f, .int .i64 k.o] 31))
  clear h3 hl
  go_enter Try.func5, Try.ntmps5
  go_wp2_with (go_at_call 28; (with_reducible refine (alive_any _).mono ?_); rintro e w1 ⟨rfl, b1⟩; have B1 := Lib.hid (hb0.out.trans (b1.mono hb0.out.size)); clear b1)
  go_ret
  exact ⟨rfl, B1.out⟩
theorem order_many (va : Value) (ops : List Opr) (k : Ky) (vm : Value) (xs : List Nat) (w : World) (h : OpsAt w va ops) (hl : ops.length ≤ 200) (hm : Slc .u8 w vm xs) (hx : ¬ xs.length ≤ 20) :
    Calls Try.prog 5 #[va, kv k, vm] w fun e w' => e = .returned (.bool true) ∧ Below w.heap.size w w' := by
  obtain ⟨ad, cap, rfl, h1, h2, h3⟩ := h
  obtain ⟨am, cm, rfl, m1, m2, m3⟩ := hm
  have dl : decide ((200 : Int) < (ops.length : Int)) = false := decide_eq_false (by omega)
  have dx : decide ((20 : Int) < (xs.length : Int)) = true := decide_eq_true (by omega)
  have hb0 := Lib.hid ((Below.refl w.heap.size w).alloc (Nat.le_refl _) (.cells #[.int .i64 k.p, .int .i64 k.f, .int .i64 k.o] 31))
  clear h3 hl m3 hx
  go_enter Try.func5, Try.ntmps5
  go_wp2_with (go_at_call 28; (with_reducible refine (alive_any _).mono ?_); rintro e w1 ⟨rfl, b1⟩; have B1 := Lib.hid (hb0.out.trans (b1.mono hb0.out.size)); clear b1)
  go_ret
  exact ⟨rfl, B1.out⟩

set_option maxRecDepth 100000 in
set_option maxHeartbeats 8000000 in
theorem order_fine (va : Value) (ops : List Opr) (k : Ky) (vm : Value) (xs : List Nat) (w : World) (h : OpsAt w va ops) (hl : ops.length ≤ 200) (hk : Fta.kwf k) (hm : Slc .u8 w vm xs) (hx : xs.length ≤ 20) (hx8 : ∀ x ∈ xs, x < 256) :
    Calls Try.prog 5 #[va, kv k, vm] w fun e w' => e = .returned (.bool true) ∧ Below w.heap.size w w' := by
  obtain ⟨ad, cap, rfl, h1, h2, -⟩ := id h
  obtain ⟨am, cm, rfl, m1, m2, m3⟩ := id hm
  have HO := Lib.hid h
  have HL := Lib.hid hl
  have HM := Lib.hid (And.intro m3 hx8)
  have HK := Lib.hid hk
  have dl : decide ((200 : Int) < (ops.length : Int)) = false := decide_eq_false (by omega)
  have dx : decide ((20 : Int) < (xs.length : Int)) = false := decide_eq_false (by omega)
  have hxI : (xs.length : Int) ≤ 20 := by omega
  have hb0 := (Below.refl w.heap.size w).alloc (Nat.le_refl _) (.cells #[.int .i64 k.p, .int .i64 k.f, .int .i64 k.o] 31)
  have hbox := Blk.new w #[.int .i64 k.p, .int .i64 k.f, .int .i64 k.o] 31
  have HB0 := Lib.hid (And.intro hb0 hbox)
  clear h hl hm hx hx8 hk m3 hb0 hbox
  go_enter Try.func5, Try.ntmps5
  go_wp2_with (first
    | (go_at_call 28; (with_reducible refine (alive_any _).mono ?_); rintro e w1 ⟨rfl, b1⟩; have B1 := Lib.hid (HB0.out.1.trans (b1.mono HB0.out.1.size)); have X1 := Lib.hid (HB0.out.2.below b1); clear b1)
    | (go_at_call 29; (with_reducible refine (grown_any _ _ ops (OpsAt.below HO.out B1.out) HL.out).mono ?_); rintro e w2 ⟨f, rfl, r, L, ho, hd⟩; have HF := Lib.hid ho; have HD := Lib.hid hd; have B2 := Lib.hid (B1.out.trans (ho.bel.mono B1.out.size)); have x2 := X1.out.below ho.bel; have X2 := Lib.hid x2; have y0 := x2.cell 0; have y1 := x2.cell 1; have y2 := x2.cell 2; clear ho hd x2)
    | (go_at_call 19; (with_reducible refine (at_any _ f r L k HF.out.lx HD.out.kwf HK.out (by have := HD.out.len; omega)).mono ?_); rintro e w3 ⟨hb3, uw, rfl, hw3⟩; have B3 := Lib.hid (B2.out.trans (hb3.mono B2.out.size)); have HF3 := Lib.hid (HF.out.below hb3); have X3 := Lib.hid (X2.out.below hb3); have HW3 := Lib.hid hw3; clear hb3 hw3 y0 y1 y2)
    | (go_at_call 20; (with_reducible refine (all_any _ f r L HF3.out.lx (by have := HD.out.len; omega)).mono ?_); rintro e w4 ⟨hb4, ua, rfl, ha4⟩; refine Hid.out ?_))
  have HA0 : Hid (Or w1 w4 f r w.heap.size k L uw ua (.slice none 0 0) [] L w4.heap.size) := Lib.hid ⟨HF3.out.below hb4, HD.out, rfl, rfl, X3.out.below hb4, (nr_own HW3.out).below hb4, nw_own ha4, World.ownsRow_nil _ _ _ _, fun b n c e => by
    have h1 := own_lt (by rw [e] at ha4; exact ha4)
    have h2 := HF3.out.lx.lt
    omega, fun b n c e => by
    have h0 := HW3.out
    rw [e] at h0
    have h1 := own_lt h0
    have h2 := hb4.size
    omega, Nat.le_refl _, by have := HF3.out.bel.size; have := hb4.size; omega⟩
  obtain ⟨xa, xc, rfl⟩ := own_form ha4
  have hw3 := HW3.out
  obtain ⟨ya, yc, rfl⟩ := own_form hw3
  have hl200 : (L.length : Int) ≤ 200 := by have := HD.out.len; omega
  obtain ⟨N, hN⟩ : ∃ N, (ats L k).length = N := ⟨_, rfl⟩
  rw [hN] at HA0 ⊢
  replace hN := Lib.hid hN
  generalize hH : w4.heap.size = H at HA0
  clear ha4 hb4 hw3 HW3 HF HF3 X3 X2 X1
  refine Lib.hid ?_
  go_wp2
  clear hH
  go_loopw [11, 39] (fun wk i wr => ∃ (j : Nat) (P : List Int) (M : List Wt), j ≤ xs.length ∧ i = .int .i64 (j : Int) ∧ Or w1 wr f r w.heap.size k L (.slice ya N yc) (.slice xa L.length xc) wk P M H) (fun _ i _ => xs.length - (intOf i).toNat)
  case atStart => exact ⟨0, _, _, Nat.zero_le _, rfl, HA0.out⟩
  case round =>
    obtain ⟨j, P, M, hj, rfl, hs⟩ := hrel
    obtain ⟨wa, wc, rfl⟩ := own_form hs.wok
    have hB : Below w.heap.size w wr := B1.out.trans (hs.on_.bel.mono B1.out.size)
    have y0 := hs.key.cell 0
    have y1 := hs.key.cell 1
    have y2 := hs.key.cell 2
    by_cases hlt : j < xs.length
    · have hltI : (j : Int) < (xs.length : Int) := by omega
      rcases HM.out.1 with h0 | ⟨bm, off, rfl, hbm, hcm⟩
      · subst h0; simp at hlt
      · have cx0 := hcm j hlt
        have hx8 := HM.out.2 xs[j] (List.getElem_mem hlt)
        rw [List.getElem?_eq_getElem hlt, Option.getD_some] at cx0
        obtain ⟨x, hx⟩ : ∃ x, xs[j] = x := ⟨_, rfl⟩
        rw [hx] at cx0 hx8
        have cx := (hB.cell (p := ⟨bm, off + j, none⟩) hbm).trans cx0
        have hwx := wrap_small hx8
        have hwy := iwrap_small hx8
        have hml := wks_small M k x
        have HW := Lib.hid ((hs.below ((Below.refl _ _).drew)).wake HK.out (by omega) (x : Int))
        have HS := Lib.hid hs
        have HC : Hid (∀ W', Kp (fr f r) wr.drew W' → W'.cell? ⟨bm, off + j, none⟩ = some (.int .u8 (x : Int))) := Lib.hid (fun W' hk => cell_kept (r2 := r) (HS.out.on_.below ((Below.refl _ _).drew)) B1.out hbm hk cx)
        clear hx cx0 hs hB
        have hl200 : L.length ≤ 200 := HD.out.len
        have hdm : decide ((x : Int) < ((wks M k (x : Int)).length : Int)) = false := decide_eq_false (Int.not_lt.2 (Int.ofNat_le.2 hml))
        have hdn : decide (x < (wks M k (x : Int)).length) = false := decide_eq_false (Nat.not_lt.2 hml)
        generalize (wks M k (x : Int)).length = m at HW hdm hdn hml
        clear hml
        go_wp2
        go_region_held (fun W' => W'.cell? ⟨w.heap.size, 0, none⟩ = some (.int .i64 k.p) ∧ W'.cell? ⟨w.heap.size, 1, none⟩ = some (.int .i64 k.f) ∧ W'.cell? ⟨w.heap.size, 2, none⟩ = some (.int .i64 k.o) ∧ W'.cell? ⟨bm, off + j, none⟩ = some (.int .u8 (x : Int))) (first | exact ⟨y0, y1, y2, cx⟩ | exact ⟨z0, z1, z2, z3⟩) ((go_at_call 11; (with_reducible refine HW.out.mono ?_); rintro e w5 ⟨a5, c5, v5, w6, rfl, ⟨hs5, hk5, hkp5⟩, hr5, ho5⟩; have z0 := hk5.cell 0; have z1 := hk5.cell 1; have z2 := hk5.cell 2; have z3 := HC.out _ hkp5; have H5 := Lib.hid ho5; clear hs5 hk5 hkp5 ho5))
        obtain ⟨va, vc, rfl⟩ := own_form H5.out.wok
        generalize (P ++ wks M k (x : Int)).length = n6 at H5 hr5
        clear y0 y1 y2 cx z0 z1 z2
        go_wp2
        go_roundw
        case rel => exact ⟨j + 1, P ++ wks M k (x : Int), rst M k (x : Int).toNat, by omega, by go_num, H5.out⟩
        case measure => simp [intOf]; omega
    · obtain rfl : j = xs.length := by omega
      have HW := Lib.hid (hs.wake HK.out HD.out.len ((L.length : Int) + 1))
      have hcut : wks M k ((L.length : Int) + 1) = ats M k := by
        have h1 := ats_len M k
        have h2 := hs.gd.len
        have h3 := congrArg List.length hs.cut
        rw [List.length_append] at h3
        have h4 := ats_len L k
        exact (wks_all (by omega)).symm
      have hP : P ++ wks M k ((L.length : Int) + 1) = ats L k := by rw [hcut]; exact hs.cut
      rw [hP] at HW
      have HS := Lib.hid (And.intro hP (And.intro hcut hs.on_.bel))
      generalize (wks M k ((L.length : Int) + 1)).length = m at HW
      clear hs hcut hP
      go_wp2_with (go_at_call 11; (with_reducible refine HW.out.mono ?_); rintro e w5 ⟨a5, c5, v5, w6, rfl, ⟨hs5, hk5, hkp5⟩, hr5, ho5⟩; have H5 := Lib.hid ho5; have hx5 := hs5; obtain ⟨va, vc, rfl⟩ := own_form ho5.wok; clear hs5 hk5 hkp5 ho5 y0 y1 y2)
      have hdone := H5.out.done
      have HD5 := Lib.hid (And.intro hdone.1 (And.intro (H5.out.gd.kwf) H5.out.gd.len))
      obtain ⟨M', hM'⟩ : ∃ M', rst M k ((L.length : Int) + 1).toNat = M' := ⟨_, rfl⟩
      rw [hM'] at H5 HD5 hdone
      obtain rfl := hdone.2
      clear hM' hdone
      have HR : Hid (∀ W, Below w6.heap.size w6 W → W.cell? ⟨w.heap.size, 0, none⟩ = some (.int .i64 k.p) ∧ W.cell? ⟨w.heap.size, 1, none⟩ = some (.int .i64 k.f) ∧ W.cell? ⟨w.heap.size, 2, none⟩ = some (.int .i64 k.o) ∧ Nw W (.slice xa L.length xc) L) := Lib.hid (fun W hb => by
        have := H5.out.key.below hb
        exact ⟨this.cell 0, this.cell 1, this.cell 2, H5.out.all.below hb⟩)
      clear HS HW HD5 HA0
      go_loopw [14, 72] (fun o i wr => ∃ j : Nat, j ≤ L.length ∧ i = .int .i64 (j : Int) ∧ wr.ownsRow w6.heap.size 51 4 o (oth (L.take j) k).length (wcs (oth (L.take j) k)) ∧ Below w6.heap.size w6 wr) (fun _ i _ => L.length - (intOf i).toNat)
      case atStart => exact ⟨0, Nat.zero_le _, rfl, World.ownsRow_nil _ _ _ _, Below.refl _ _⟩
      case round =>
        obtain ⟨j, hj, rfl, ho, hb⟩ := hrel
        obtain ⟨oa, oc, rfl⟩ := own_form ho
        by_cases hlt : j < L.length
        · have hltI : (j : Int) < (L.length : Int) := by omega
          obtain ⟨y0, y1, y2, hn⟩ := HR.out _ hb
          obtain ⟨a, c, b, e, q1, q2, hc⟩ := hn.cells
          cases e
          obtain ⟨rfl, c0, c1, c2, c3⟩ := hc _ (Below.refl _ _) j hlt
          have hrk := run_key L[j].k k (HD.out.kwf _ (List.getElem_mem hlt)) HK.out
          have hlen := oth_len (L.take j) k
          have hl9 : (oth (L.take j) k).length ≤ 90000 := by rw [List.length_take] at hlen; omega
          by_cases he : L[j].k = k
          · rw [decide_eq_true he] at hrk
            have HT := Lib.hid (oth_yes hlt he)
            have HO6 := Lib.hid (And.intro ho hb)
            generalize oth (L.take j) k = l at *
            generalize hx : L[j] = x at *
            clear he ho hb hn hc hlen q1 q2
            go_wp2
            go_quiet (fail)
            have HQ := Lib.hid (bel_dr (Below.refl wr.heap.size wr) nq)
            go_wp2
            go_roundw
            case rel => exact ⟨j + 1, by omega, by go_num, by rw [HT.out]; exact own_below HO6.out.1 HQ.out, HO6.out.2.trans (HQ.out.mono HO6.out.2.size)⟩
            case measure => simp [intOf]; omega
          · rw [decide_eq_false he] at hrk
            have HT := Lib.hid (oth_no hlt he)
            have hq : ∀ nq, Below wr.heap.size wr (wr.drewN nq) := fun nq => bel_dr (Below.refl wr.heap.size wr) nq
            have HZ : Hid (∀ nq, (wr.drewN nq).cell? ⟨b, j * 4, none⟩ = some (.int .i64 L[j].q) ∧ (wr.drewN nq).cell? ⟨b, j * 4 + 1, none⟩ = some (.int .i64 L[j].k.p) ∧ (wr.drewN nq).cell? ⟨b, j * 4 + 2, none⟩ = some (.int .i64 L[j].k.f) ∧ (wr.drewN nq).cell? ⟨b, j * 4 + 3, none⟩ = some (.int .i64 L[j].k.o)) := Lib.hid (fun nq => (hc _ (hq nq) j hlt).2)
            have HO6 := Lib.hid (And.intro ho (And.intro hb (And.intro hq hl9)))
            generalize oth (L.take j) k = l at *
            generalize hx : L[j] = x at *
            clear he ho hb hn hc hlen q1 q2 hq hl9
            go_wp2
            go_quiet (fail)
            have hq := HO6.out.2.2.1 nq
            have hbq := HO6.out.2.1.trans (hq.mono HO6.out.2.1.size)
            obtain ⟨v', w', g1, g2, g3, -⟩ := app_one (wr.drewN nq) w6.heap.size (.slice oa l.length oc) l x (own_below HO6.out.1 hq) HO6.out.2.2.2 hbq.size
            obtain ⟨ga, gc, rfl⟩ := own_form g2
            have HE := Lib.hid (And.intro g2 ((hbq.alloc hbq.size (.cells #[.int .i64 x.q, .int .i64 x.k.p, .int .i64 x.k.f, .int .i64 x.k.o] 51)).grown g3 (by rw [World.size_alloc]; exact Nat.le_succ_of_le hbq.size) (fun k e => ((own_below HO6.out.1 hq).lt k e).1)))
            obtain ⟨z0, z1, z2, z3⟩ := HZ.out nq
            clear c0 c1 c2 c3 y0 y1 y2 hrk g2 g3 hq hbq
            generalize hn4 : (l ++ [x]).length = n4 at *
            generalize wr.drewN nq = wf at *
            go_wp2
            go_roundw
            case rel => exact ⟨j + 1, by omega, by go_num, by rw [HT.out, hn4]; exact HE.out.1, HE.out.2⟩
            case measure => simp [intOf]; omega
        · obtain rfl : j = L.length := by omega
          rw [List.take_length] at ho
          have HO6 := Lib.hid (And.intro ho hb)
          clear ho hb
          obtain ⟨y0, y1, y2, hn⟩ := HR.out _ HO6.out.2
          have HX := Lib.hid (H5.out.below HO6.out.2)
          have HL2 : Hid ((ats L k).length ≤ 90000 ∧ (oth L k).length ≤ 90000 ∧ ats (oth L k) k = []) := Lib.hid ⟨by have := ats_len L k; have := HD.out.len; omega, by have := oth_len L k; have := HD.out.len; omega, H5.out.done.1⟩
          have HV := Lib.hid (nw_own HO6.out.1)
          clear hn
          go_wp2_with (first
            | (go_at_call 12; (with_reducible refine (same_nr _ _ (ats L k) _ HL2.out.1 (nr_own HX.out.wok) HX.out.want).mono ?_); rintro e w7 ⟨rfl, hb7⟩; have HX7 := Lib.hid (HX.out.below hb7); have HV7 := Lib.hid (HV.out.below hb7); have x7 := HX7.out.key.cell 0; have x8 := HX7.out.key.cell 1; have x9 := HX7.out.key.cell 2; clear hb7 y0 y1 y2)
            | (go_at_call 20; (with_reducible refine (all_any _ f r (oth L k) HX7.out.on_.lx HL2.out.2.1).mono ?_); rintro e w8 ⟨hb8, v8, rfl, ha8⟩; have HX8 := Lib.hid (HX7.out.below hb8); have HV8 := Lib.hid (HV7.out.below hb8); have HA8 := Lib.hid (nw_own ha8); obtain ⟨ea, ec, rfl⟩ := own_form ha8; clear hb8 ha8 x7 x8 x9)
            | (go_at_call 23; (with_reducible refine (same_nw _ _ (oth L k) _ HL2.out.2.1 HX8.out.gd.xwf HA8.out HV8.out).mono ?_); rintro e w9 ⟨rfl, hb9⟩; have HX9 := Lib.hid (HX8.out.below hb9); have x7 := HX9.out.key.cell 0; have x8 := HX9.out.key.cell 1; have x9 := HX9.out.key.cell 2; clear hb9)
            | (go_at_call 19; (with_reducible refine (at_any _ f r (oth L k) k HX9.out.on_.lx HX9.out.gd.kwf HK.out HL2.out.2.1).mono ?_); rintro e w10 ⟨hb10, v10, rfl, ha10⟩; rw [HL2.out.2.2] at ha10; obtain ⟨fa, fc, rfl⟩ := own_form ha10; have HX10 := Lib.hid (HX9.out.on_.bel.trans (hb10.mono HX9.out.on_.bel.size)); clear hb10 ha10))
          go_ret
          exact ⟨rfl, B1.out.trans (HX10.out.mono B1.out.size)⟩
theorem order (va : Value) (ops : List Opr) (k : Ky) (vm : Value) (xs : List Nat) (w : World) (h : OpsAt w va ops) (hk : Fta.kwf k) (hm : Slc .u8 w vm xs) (hx8 : ∀ x ∈ xs, x < 256) :
    Calls Try.prog 5 #[va, kv k, vm] w fun e w' => e = .returned (.bool true) ∧ Below w.heap.size w w' := by
  by_cases hl : ops.length ≤ 200
  · by_cases hx : xs.length ≤ 20
    · exact order_fine va ops k vm xs w h hl hk hm hx hx8
    · exact order_many va ops k vm xs w h hl hm hx
  · exact order_long va ops k vm w h hl
end Go.Proofs.Ytpfnjeicenhciaa.Ftt
namespace Go.Proofs.Ytpfnjeicenhciaa.Walk
open Go Go.RowKit Kit Fta Ftq Ftt
theorem futexOrder (va : Value) (ops : List Opr) (k : Ky) (a : Option Addr) (len cap : Nat) (z : List Int) (w : World) (h : OpsAt w va ops) (hk : Fta.kwf k) (hz : IsRow .u8 w a len cap z) : Calls Try.prog 5 #[va, kv k, .slice a len cap] w fun e w' => e = .returned (.bool true) ∧ Below w.heap.size w w' := by
  obtain ⟨xs, -, h1, h2⟩ := hz.slc nn_u8
  refine order va ops k _ xs w h hk h1 (fun x hx => ?_)
  obtain ⟨n, e, hn⟩ := u8_nat (h2 x hx)
  omega
end Go.Proofs.Ytpfnjeicenhciaa.Walk
