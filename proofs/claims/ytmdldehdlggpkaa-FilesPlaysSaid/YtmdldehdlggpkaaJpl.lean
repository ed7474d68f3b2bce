/-
  FilesPlays: the walk.
-/
import Derived.Test.YtmdldehdlggpkaaKz
import Derived.Test.YtmdldehdlggpkaaJf
import Derived.Deep.RegionHeld
import Derived.Deep.DeepCutAuto
import Derived.Deep.QuietTactic
import Derived.BigQuiet
namespace Go.Proofs.Ytmdldehdlggpkaa.Jpl
open Go Go.RowKit Kit Bk Jp Jm Ji Jo Ju Jd Je Jr Jq Js Jb Jy Jt Jf
set_option linter.unusedVariables false
attribute [local go_sem ↓] stf_wrap

set_option maxRecDepth 100000 in
set_option maxHeartbeats 8000000 in
theorem law_long (va : Value) (ops : List Opr) (w : World) (h : OpsAt w va ops) (hl : ¬ ops.length ≤ 200) :
    Calls Try.prog 3 #[va] w fun e w' => e = .returned (.bool true) ∧ Below w.heap.size w w' := by
  obtain ⟨ad, cap, rfl, h1, h2, h3⟩ := h
  have dl : decide ((200 : Int) < (ops.length : Int)) = true := decide_eq_true (by omega)
  clear h3 hl
  go_enter Try.func3, Try.ntmps3
  go_wp2
  go_ret
  exact ⟨rfl, Below.refl _ _⟩
/-- A call's argument stored in a block of its own. -/
def stO (p v : Value) : Sem Unit := Instr.storeAt 28 p v
theorem sto_wrap (p v : Value) : Instr.storeAt 28 p v = stO p v := rfl
attribute [local go_sem ↓] sto_wrap
theorem infoO : (Try.prog.info? 28).map (fun i => (i.size)) = some 5 := by kernel_rfl
theorem blk_five {w : World} {b : Nat} {T : TypeId} {a0 a1 a2 a3 a4 : Value} (h : Blk w b #[a0, a1, a2, a3, a4] T) (k P : Int) (V : Bool) (n fd : Int) : Blk (w.setCells b 0 [.int .i64 k, .int .i64 P, .bool V, .int .i64 n, .int .i64 fd]) b #[.int .i64 k, .int .i64 P, .bool V, .int .i64 n, .int .i64 fd] T := by
  have := ((((h.set 0 (.int .i64 k)).set 1 (.int .i64 P)).set 2 (.bool V)).set 3 (.int .i64 n)).set 4 (.int .i64 fd)
  show Blk (((((w.setCell ⟨b, 0, none⟩ (.int .i64 k)).setCell ⟨b, 1, none⟩ (.int .i64 P)).setCell ⟨b, 2, none⟩ (.bool V)).setCell ⟨b, 3, none⟩ (.int .i64 n)).setCell ⟨b, 4, none⟩ (.int .i64 fd)) b _ T
  simpa using this
set_option maxRecDepth 100000 in
theorem op_st (w : World) (k P : Int) (V : Bool) (n fd : Int) : ∃ W2, (stO (.pointer (some ⟨w.heap.size, 0, none⟩)) (.agg #[.int .i64 k, .int .i64 P, .bool V, .int .i64 n, .int .i64 fd])).run Try.prog (w.alloc (.cells #[.int .i64 0, .int .i64 0, .bool false, .int .i64 0, .int .i64 0] 28)) = .ok () W2 ∧ Blk W2 w.heap.size #[.int .i64 k, .int .i64 P, .bool V, .int .i64 n, .int .i64 fd] 28 ∧ Below w.heap.size w W2 := by
  have hx : Blk (w.alloc (.cells #[.int .i64 0, .int .i64 0, .bool false, .int .i64 0, .int .i64 0] 28)) w.heap.size #[.int .i64 0, .int .i64 0, .bool false, .int .i64 0, .int .i64 0] 28 := Blk.new _ _ _
  refine ⟨(w.alloc (.cells #[.int .i64 0, .int .i64 0, .bool false, .int .i64 0, .int .i64 0] 28)).setCells w.heap.size 0 [.int .i64 k, .int .i64 P, .bool V, .int .i64 n, .int .i64 fd], ?_, ?_, ((Below.refl _ _).alloc (Nat.le_refl _) _).trans ((Kp.sets (S := fun j => j = w.heap.size) w.heap.size rfl [.int .i64 k, .int .i64 P, .bool V, .int .i64 n, .int .i64 fd] 0 _).below (by simp) (fun j e => by omega))⟩
  · unfold stO
    refine run_storeAt_mid _ w.heap.size 0 _ #[.int .i64 k, .int .i64 P, .bool V, .int .i64 n, .int .i64 fd] (hx.there _ _ (Nat.le_refl _)) ?_ (by simp [Value.oneCell'])
    rw [infoO]
    rfl
  · exact blk_five hx k P V n fd
theorem gP_wf {S : Sf} {c : Nat} (hg : Gof c S) (n : Int) : (Lit.int .i64 (gP S n)).wf = true := by
  refine wf_small ?_
  unfold gP
  split
  · exact ⟨Int.le_refl _, show (0 : Int) < 16 by decide⟩
  · exact hg.pipe _
theorem gD_ge {D : Nat → Nat} {k : Nat} (hk : k < 8) : decide (0 ≤ gD D (k : Int)) = decide (D k ≠ 0) := decide_eq_decide.2 (by rw [gD_nat hk]; omega)
theorem bel_drewN {B : Nat} {a w : World} (h : Below B a w) (n : Nat) : Below B a (w.drewN n) := ⟨h.os, h.tape, h.output, h.size, h.block⟩

set_option maxRecDepth 100000 in
set_option maxHeartbeats 32000000 in
theorem plays_fine (va : Value) (ops : List Opr) (w : World) (h : OpsAt w va ops) (hl : ops.length ≤ 200) :
    Calls Try.prog 3 #[va] w fun e w' => e = .returned (.bool true) ∧ Below w.heap.size w w' := by
  obtain ⟨ad, cap, rfl, h1, h2, h3⟩ := h
  have dl : decide ((200 : Int) < (ops.length : Int)) = false := decide_eq_false (by omega)
  have hli : (ops.length : Int) ≤ 200 := by omega
  have H3 := Lib.hid h3
  have HHl := Lib.hid hl
  clear h3 hl
  go_enter Try.func3, Try.ntmps3
  go_wp2_with (go_at_call 10; (with_reducible refine (fresh_sta _).mono ?_); rintro e w2 ⟨p, rfl, hs⟩; have HS := Lib.hid hs; clear hs)
  go_loopw [19] (fun i wr => ∃ j : Nat, j ≤ ops.length ∧ i = .int .i64 (j : Int) ∧ Sta w wr p j) (fun i _ => ops.length - (intOf i).toNat)
  case atStart => exact ⟨0, Nat.zero_le _, rfl, HS.out⟩
  case round =>
    obtain ⟨j, hj, rfl, hs⟩ := hrel
    clear HS
    by_cases hlt : j < ops.length
    · rcases H3.out with h0 | ⟨ba, off, rfl, hb, h4⟩
      · subst h0; simp at hlt
      · obtain ⟨c0, c1, c2, c3, c4⟩ := OpAt.below (h4 j hlt) hs.bel hb
        generalize ops[j] = o at *
        have hlti : (j : Int) < (ops.length : Int) := by omega
        have hj2 : j ≤ 100000 := by have := HHl.out; omega
        obtain ⟨W2, hst2, hxb2, hb2⟩ := op_st wr o.kind o.P o.V o.n o.fd
        obtain ⟨xb, hxbv⟩ : ∃ xb, wr.heap.size = xb := ⟨_, rfl⟩
        rw [hxbv] at hxb2 hst2
        have hD : Hid (Calls Try.prog 11 #[.pointer (some ⟨p, 0, none⟩), .agg #[.int .i64 o.kind, .int .i64 o.P, .bool o.V, .int .i64 o.n, .int .i64 o.fd]] W2 fun e w' => e = .returned (.bool true) ∧ ∃ f d q v S D, Dx w w' p f d q v xb o S S D D ∧ Gof (j + 1) S) := Lib.hid (by
          obtain ⟨f, d, q, v, S, D, q1, q2⟩ := hs
          refine (Kz.do_any w W2 p f d q v j S D (q1.below hb2) q2 hj2 o).mono ?_
          rintro e w' ⟨r1, ⟨f', d', q', v', S', D', r2, r3⟩, r4⟩
          exact ⟨r1, f', d', q', v', S', D', ⟨r2, r4 _ _ hxb2⟩, r3⟩)
        have y0 := hxb2.cell 0
        have y1 := hxb2.cell 1
        have y2 := hxb2.cell 2
        have y3 := hxb2.cell 3
        have y4 := hxb2.cell 4
        clear h4 hs hxb2 hb2 h1 h2 hj2
        go_wp2_with (first | (go_at_call 11; (with_reducible refine hD.out.mono ?_); rintro e w3 ⟨rfl, f, d, q, v, S, D, hdx, hg⟩; refine Hid.out ?_))
        refine Lib.hid ?_
        clear y0 y1 y2 y3 y4 hst2 hD c0 c1 c2 c3 c4 hxbv
        have HGo := Lib.hid hg
        -- Get, into a variable
        have hX1 := Lib.hid hdx.drew
        have HZ := Lib.hid (fun W => (Below.refl W.heap.size W).alloc (Nat.le_refl _) (.cells #[.int .i64 0, .bool false] 26))
        have hX2 := Lib.hid ((hdx.below (HZ.out _)).drew)
        have hZ2 := Lib.hid ((Blk.new w3 #[.int .i64 0, .bool false] 26).below ((Below.refl _ _).drew))
        have C0 := Lib.hid hX1.out.cl
        have C0a := Lib.hid hX2.out.cl
        have HGA := Lib.hid (get_any w3.drew f S hX1.out.bo.fl o.n)
        have HGB := Lib.hid (get_any _ f S hX2.out.bo.fl o.n)
        have hwf := gP_wf hg o.n
        obtain ⟨a1, ha1⟩ : ∃ a1, gP S o.n = a1 := ⟨_, rfl⟩
        obtain ⟨a2, ha2⟩ : ∃ a2, gV S o.n = a2 := ⟨_, rfl⟩
        obtain ⟨is, his⟩ : ∃ is, decide (rf S.R o.n ≠ 0) = is := ⟨_, rfl⟩
        rw [ha1, ha2, his] at HGA HGB
        rw [ha1] at hwf
        have HA := Lib.hid (And.intro ha1 (And.intro ha2 (And.intro his hwf)))
        clear ha1 ha2 his hwf hdx hg
        go_wp2
        go_cut [6, 7] (fun s1 s2 wx => ∃ g : Nat, s1 = .pointer (some ⟨g, 0, none⟩) ∧ s2 = .bool is ∧ Blk wx g #[.int .i64 a1, .bool a2] 26 ∧ Dx w wx p f d q v xb o S S D D)
        case first =>
          as_aux_lemma =>
            go_region_held (fun W => W.cell? ⟨p, 0, none⟩ = some (.pointer (some ⟨f, 0, none⟩)) ∧ W.cell? ⟨xb, 3, none⟩ = some (.int .i64 o.n)) (first | exact ⟨CE.out.p0, CE.out.x3⟩ | exact ⟨C1a.out.p0, C1a.out.x3⟩ | exact ⟨C1.out.p0, C1.out.x3⟩ | exact ⟨C0a.out.p0, C0a.out.x3⟩ | exact ⟨C0.out.p0, C0.out.x3⟩)
              (first
                | (go_at_call 12; (with_reducible refine HGA.out.mono ?_); rintro e w1 ⟨rfl, b1⟩; have X1 := hX1.out.below b1; have C1 := Lib.hid X1.cl; obtain ⟨W5, hst, hbk, X5, q5, -⟩ := Jy.aft_A X1 a1 a2; have C1a := Lib.hid q5; have XE := Lib.hid X5; have CE := Lib.hid X5.cl; have BE := Lib.hid hbk; clear hbk X5 q5 b1 X1)
                | (go_at_call 12; (with_reducible refine HGB.out.mono ?_); rintro e w1 ⟨rfl, b1⟩; have X1 := hX2.out.below b1; have C1 := Lib.hid X1.cl; have C1a := C1; obtain ⟨W5, hst, hbk, X5, -⟩ := Jy.aft_B X1 (hZ2.out.below b1) (by have := hX1.out.bo.bel.size; exact this) a1 a2; have XE := Lib.hid X5; have CE := Lib.hid X5.cl; have BE := Lib.hid hbk; clear hbk X5 b1 X1))
            all_goals go_wp2_with fail
            all_goals go_meet
            all_goals exact ⟨_, rfl, rfl, BE.out, XE.out⟩
        case rest =>
          as_aux_lemma =>
            obtain ⟨g, rfl, rfl, hbk, hdx⟩ := hcut
            obtain ⟨w4, hwc⟩ : ∃ u, u = wc := ⟨_, rfl⟩
            subst hwc
            clear hX1 hX2 hZ2 C0 C0a HGA HGB HZ
            -- Used, List
            have HU := Lib.hid (used_any w4 f S hdx.bo.fl)
            obtain ⟨L, hL⟩ : ∃ L, (usd S.R 64).length = L := ⟨_, rfl⟩
            have hLl := usd_len S.R 64
            rw [hL] at HU hLl
            have HLv := Lib.hid hL
            have hLi : (L : Int) ≤ 64 := by omega
            have HLi := Lib.hid (fun W (hh : Ds W d D) => list_any W d D hh)
            have k0 := hdx.cl.p0
            have HX4 := Lib.hid hdx
            have HB4 := Lib.hid hbk
            clear hdx hbk hL hLl
            go_wp2_with (first
              | (go_at_call 13; (with_reducible refine HU.out.mono ?_); rintro e w5 ⟨b5, r5, rfl, h5⟩; obtain ⟨au, cu, rfl⟩ := row_form h5; have HX5 := Lib.hid (HX4.out.below b5); have HB5 := Lib.hid (HB4.out.below b5); have HI5 := Lib.hid (ir_own (by rw [HLv.out]) h5); have k5 := HX5.out.cl.p1; clear b5 h5)
              | (go_at_call 14; (with_reducible refine (HLi.out _ HX5.out.bo.ds).mono ?_); rintro e w6 ⟨b6, rfl, h6⟩; have HX6 := Lib.hid (HX5.out.below b6); have HB6 := Lib.hid (HB5.out.below b6); have HI6 := Lib.hid (HI5.out.below b6); have HJ6 := Lib.hid h6; clear b6 h6; refine Hid.out ?_))
            refine Lib.hid ?_
            generalize w5.heap.size = gl5 at *
            obtain ⟨g8, cap8, hrb, hri⟩ := HX6.out.bo.rd.row
            have k6 := HX6.out.cl.p3
            have r0 : w6.cell? ⟨v, 0, none⟩ = some (.slice (some ⟨g8, 0, none⟩) 8 cap8) := hrb.cell 0
            have hc8 : ∀ k : Nat, k < 8 → w6.cell? ⟨g8, k, none⟩ = some (.int .i64 (gD D k)) := fun k hk => by
              obtain ⟨gx, cx, ex, _, _, _, hx⟩ := hri.at_ k hk
              cases ex
              exact hx
            have HC8 := Lib.hid hc8
            have HRb := Lib.hid (And.intro hrb hri)
            clear hrb hri hc8 HU HLi HX4 HX5 HB4 HB5 HI5 k0 k5
            go_wp2
            go_loop [10, 58] (fun s i => ∃ k : Nat, k ≤ 8 ∧ s = .int .i64 ((usd D k).length : Int) ∧ i = .int .i64 (k : Int)) (fun _ i => 8 - (intOf i).toNat)
            case atStart => exact ⟨0, Nat.zero_le _, rfl, rfl⟩
            case round =>
              obtain ⟨k, hk, rfl, rfl⟩ := hrel
              have hul := usd_len D k
              by_cases hlt8 : k < 8
              · have hk8 : (k : Int) < 8 := by omega
                have z0 := HC8.out k hlt8
                have hge := gD_ge (D := D) hlt8
                by_cases hz : D k = 0
                · have d0 : decide (0 ≤ gD D (k : Int)) = false := by rw [hge]; exact decide_eq_false (fun e => e hz)
                  have hu := usd_no hz
                  clear hge hz
                  generalize gD D (k : Int) = G at *
                  go_wp2
                  go_round
                  case rel => exact ⟨k + 1, by omega, by rw [hu], by go_num⟩
                  case measure => simp [intOf]; omega
                · have d0 : decide (0 ≤ gD D (k : Int)) = true := by rw [hge]; exact decide_eq_true hz
                  have hu : Hid ((usd D (k + 1)).length = (usd D k).length + 1) := Lib.hid (by rw [usd_yes hz, List.length_append]; rfl)
                  clear hge hz
                  generalize gD D (k : Int) = G at *
                  generalize (usd D k).length = Lk at *
                  have hLk : (Lk : Int) ≤ 8 := by omega
                  go_wp2
                  go_round
                  case rel => exact ⟨k + 1, by omega, by rw [hu.out]; go_num, by go_num⟩
                  case measure => simp [intOf]; omega
              · obtain rfl : k = 8 := by omega
                -- all is asked
                have hbd : Below w6.heap.size w6 w6.drew := (Below.refl _ _).drew
                have HXd := Lib.hid (HX6.out.below hbd)
                have HBd := Lib.hid (HB6.out.below hbd)
                have HId := Lib.hid (HI6.out.below hbd)
                have HJd := Lib.hid (HJ6.out.below hbd)
                have HRd := Lib.hid (And.intro (HRb.out.1.below hbd) (HRb.out.2.below hbd))
                have KF : Hid (∀ W, Dx w W p f d q v xb o S S D D → Blk W v #[.slice (some ⟨g8, 0, none⟩) 8 cap8] 41 → (W.cell? ⟨p, 0, none⟩ = some (.pointer (some ⟨f, 0, none⟩)) ∧ W.cell? ⟨p, 1, none⟩ = some (.pointer (some ⟨d, 0, none⟩)) ∧ W.cell? ⟨p, 2, none⟩ = some (.pointer (some ⟨q, 0, none⟩)) ∧ W.cell? ⟨p, 3, none⟩ = some (.pointer (some ⟨v, 0, none⟩)) ∧ W.cell? ⟨xb, 3, none⟩ = some (.int .i64 o.n) ∧ W.cell? ⟨xb, 4, none⟩ = some (.int .i64 o.fd) ∧ W.cell? ⟨v, 0, none⟩ = some (.slice (some ⟨g8, 0, none⟩) 8 cap8))) := Lib.hid (fun W h1 h2 => ⟨h1.cl.p0, h1.cl.p1, h1.cl.p2, h1.cl.p3, h1.cl.x3, h1.cl.x4, h2.cell 0⟩)
                have Kd := Lib.hid (KF.out _ HXd.out HRd.out.1)
                have HIs := is_any w6.drew q S HXd.out.bo.rf o.n
                rw [HA.out.2.2.1] at HIs
                have HIs2 := Lib.hid HIs
                have HRu := Lib.hid (rused_any w6.drew q S HXd.out.bo.rf)
                rw [HLv.out] at HRu
                have HFr := Lib.hid (fun W (hh : Fl W f S) => free_any W f S hh)
                rw [HLv.out] at HFr
                have HLn := Lib.hid (fun W (hh : Ds W d D) => flen_any W d D hh)
                have HGf := Lib.hid (fun W (hh : Ds W d D) => fget_any W d D hh o.fd)
                have HGv := Lib.hid (fun W (hh : Rd W v D) => rget_any W v D hh o.fd)
                generalize (usd D 8).length = M at *
                clear HIs HC8 hul r0 hbd k6 HX6 HB6 HI6 HJ6 HRb
                have hLn : L ≤ 64 := by omega
                have hwr : IntKind.i64.wrap (64 - (L : Int)) = 64 - (L : Int) := by rw [IntKind.wrap_i64]; omega
                go_wp2
                go_cut [134] (fun s wx => s = .bool false ∧ Dx w wx p f d q v xb o S S D D ∧ Blk wx g #[.int .i64 a1, .bool a2] 26)
                case first =>
                  as_aux_lemma =>
                    go_region_held (fun W => W.cell? ⟨p, 0, none⟩ = some (.pointer (some ⟨f, 0, none⟩)) ∧ W.cell? ⟨p, 1, none⟩ = some (.pointer (some ⟨d, 0, none⟩)) ∧ W.cell? ⟨p, 2, none⟩ = some (.pointer (some ⟨q, 0, none⟩)) ∧ W.cell? ⟨p, 3, none⟩ = some (.pointer (some ⟨v, 0, none⟩)) ∧ W.cell? ⟨xb, 3, none⟩ = some (.int .i64 o.n) ∧ W.cell? ⟨xb, 4, none⟩ = some (.int .i64 o.fd) ∧ W.cell? ⟨v, 0, none⟩ = some (.slice (some ⟨g8, 0, none⟩) 8 cap8))
                      (first | exact K12.out | exact K11.out | exact K10.out | exact K9.out | exact K8.out | exact Kd.out)
                      (first
                        | (go_at_call 15; (with_reducible refine HIs2.out.mono ?_); rintro e w7 ⟨rfl, rfl⟩)
                        | (go_at_call 17; (with_reducible refine HRu.out.mono ?_); rintro e w8 ⟨b8, r8, rfl, h8⟩; obtain ⟨a8, c8, rfl⟩ := row_form h8; have HX8 := Lib.hid (HXd.out.below b8); have HB8 := Lib.hid (HBd.out.below b8); have HI8 := Lib.hid (HId.out.below b8); have HJ8 := Lib.hid (HJd.out.below b8); have HQ8 := Lib.hid (ir_own (by rw [HLv.out]) h8); have HR8 := Lib.hid (And.intro (HRd.out.1.below b8) (HRd.out.2.below b8)); have K8 := Lib.hid (KF.out _ HX8.out HR8.out.1); clear b8 h8)
                        | (go_at_call 16; (with_reducible refine (same_ir _ _ L _ _ (Nat.le_trans hLn (by decide)) HI8.out HQ8.out).mono ?_); rintro e w9 ⟨rfl, b9⟩; have HX9 := Lib.hid (HX8.out.below b9); have HB9 := Lib.hid (HB8.out.below b9); have HJ9 := Lib.hid (HJ8.out.below b9); have HR9 := Lib.hid (And.intro (HR8.out.1.below b9) (HR8.out.2.below b9)); have K9 := Lib.hid (KF.out _ HX9.out HR9.out.1); clear b9)
                        | (go_at_call 16; (with_reducible refine (same_ir _ _ 8 _ _ (by decide) HJ10.out HR10.out.2).mono ?_); rintro e w11 ⟨rfl, b11⟩; have HX11 := Lib.hid (HX10.out.below b11); have HB11 := Lib.hid (HB10.out.below b11); have HR11 := Lib.hid (HR10.out.1.below b11); have K11 := Lib.hid (KF.out _ HX11.out HR11.out); clear b11)
                        | (go_at_call 18; (with_reducible refine (HFr.out _ HX9.out.bo.fl).mono ?_); rintro e w10 ⟨rfl, b10⟩; have HX10 := Lib.hid (HX9.out.below b10); have HB10 := Lib.hid (HB9.out.below b10); have HJ10 := Lib.hid (HJ9.out.below b10); have HR10 := Lib.hid (And.intro (HR9.out.1.below b10) (HR9.out.2.below b10)); have K10 := Lib.hid (KF.out _ HX10.out HR10.out.1); clear b10)
                        | (go_at_call 19; (with_reducible refine (HLn.out _ HX11.out.bo.ds).mono ?_); rintro e w12 ⟨rfl, b12⟩; have HX12 := Lib.hid (HX11.out.below b12); have HB12 := Lib.hid (HB11.out.below b12); have HR12 := Lib.hid (HR11.out.below b12); have K12 := Lib.hid (KF.out _ HX12.out HR12.out); clear b12)
                        | (go_at_call 20; (with_reducible refine (HGf.out _ HX12.out.bo.ds).mono ?_); rintro e w13 ⟨rfl, rfl⟩)
                        | (go_at_call 21; (with_reducible refine (HGv.out _ HX12.out.bo.rd).mono ?_); rintro e w14 ⟨rfl, rfl⟩))
                    all_goals go_wp2_with fail
                    all_goals go_meet
                    all_goals exact ⟨rfl, HX12.out, HB12.out⟩
                case rest =>
                  as_aux_lemma =>
                    obtain ⟨rfl, hXc, hBc⟩ := hcut
                    obtain ⟨w12, hwc⟩ : ∃ u, u = wc := ⟨_, rfl⟩
                    subst hwc
                    have HX12 := Lib.hid hXc
                    have HB12 := Lib.hid hBc
                    clear hXc hBc hwr hLn HLn HGf HGv HFr HRu HIs2 HId HJd HRd HBd HXd KF Kd hLi HLv
                    try go_wp2
                    have HXe := HX12.out
                    have HBe := HB12.out
                    have HRf := Lib.hid (fun W (hb : Below w12.heap.size w12 W) => refs_any W f S (HX12.out.bo.fl.below hb) o.n)
                    have HB := Lib.hid (Below.refl w12.heap.size w12)
                    cases is with
                    | true =>
                      as_aux_lemma =>
                        have hrk : rf S.R o.n ≠ 0 := of_decide_eq_true HA.out.2.2.1
                        obtain ⟨k, hk, hk64, hRk⟩ := rf_pos hrk
                        have hki : (k : Int) < 64 := by omega
                        obtain ⟨cs, c1, c2, c3⟩ := id HXe.bo.rf
                        obtain ⟨⟨P', V', x1, x2, x3⟩, x4⟩ := c3 k hk64
                        obtain ⟨e1, e2⟩ := x3 hRk
                        have ea1 : S.P k = a1 := by rw [← HA.out.1]; unfold gP; rw [if_neg hrk, hk]; rfl
                        have ea2 : S.V k = a2 := by rw [← HA.out.2.1]; unfold gV; rw [if_neg hrk, hk]; rfl
                        rw [e1, ea1] at x1
                        rw [e2, ea2] at x2
                        rw [hk, rf_nat hk64] at HRf
                        have hx3 := HXe.cl.x3
                        rw [hk] at hx3
                        obtain ⟨r, hr⟩ : ∃ r, S.R k = r := ⟨_, rfl⟩
                        rw [hr] at HRf x4
                        have hs := run_same a1 a2 HA.out.2.2.2
                        have y0 := HXe.cl.p0
                        have y2 := HXe.cl.p2
                        have b0 := HBe.cell 0
                        have b1 := HBe.cell 1
                        have q0 := (c1.cell _).trans x1
                        have q1 := (c1.cell _).trans x2
                        have q2 := (c1.cell _).trans x4
                        clear hr x1 x2 x3 x4 e1 e2 ea1 ea2 c1 c2 c3 hrk hRk hk HA HXe HBe hk64
                        go_quiet ((go_at_call 22; exact Calls.quiet_of_same ((HRf.out _ (by first | exact HB.out | exact bel_drewN HB.out _)).mono fun e w' ⟨he, hw⟩ => ⟨he, hw.symm⟩)))
                        try go_wp2
                        go_roundw
                        case rel => exact ⟨j + 1, by omega, by go_num, f, d, q, v, S, D, (HX12.out.bo.below (bel_drewN (Below.refl _ _) nq)), HGo.out⟩
                        case measure => simp [intOf]; omega
                    | false =>
                      as_aux_lemma =>
                        have hrk : rf S.R o.n = 0 := by have := HA.out.2.2.1; simpa using this
                        have ea1 : a1 = 0 := by rw [← HA.out.1]; unfold gP; rw [if_pos hrk]
                        have ea2 : a2 = false := by rw [← HA.out.2.1]; unfold gV; rw [if_pos hrk]
                        subst ea1
                        subst ea2
                        rw [hrk] at HRf
                        have hs := run_same 0 false HA.out.2.2.2
                        obtain ⟨N, hN⟩ : ∃ N, o.n = N := ⟨_, rfl⟩
                        have hx3 := HXe.cl.x3
                        rw [hN] at hx3 HRf
                        have y0 := HXe.cl.p0
                        have b0 := HBe.cell 0
                        have b1 := HBe.cell 1
                        clear hrk HA HXe HBe hN
                        go_quiet ((go_at_call 22; exact Calls.quiet_of_same ((HRf.out _ (by first | exact HB.out | exact bel_drewN HB.out _)).mono fun e w' ⟨he, hw⟩ => ⟨he, hw.symm⟩)))
                        try go_wp2
                        go_roundw
                        case rel => exact ⟨j + 1, by omega, by go_num, f, d, q, v, S, D, (HX12.out.bo.below (bel_drewN (Below.refl _ _) nq)), HGo.out⟩
                        case measure => simp [intOf]; omega
    · obtain rfl : j = ops.length := by omega
      have HB := Lib.hid hs.bel
      clear hs H3
      go_wp2
      go_ret
      exact ⟨rfl, HB.out⟩
end Go.Proofs.Ytmdldehdlggpkaa.Jpl
namespace Go.Proofs.Ytmdldehdlggpkaa.Walk
open Go Go.RowKit Kit Jpl Jb Jt
theorem filesPlays (va : Value) (ops : List Opr) (W : World) (h : OpsAt W va ops) :
    Calls Try.prog 3 #[va] W fun e w' => e = .returned (.bool true) ∧ Below W.heap.size W w' := by
  by_cases hl : ops.length ≤ 200
  · exact plays_fine va ops W h hl
  · exact law_long va ops W h hl
end Go.Proofs.Ytmdldehdlggpkaa.Walk
