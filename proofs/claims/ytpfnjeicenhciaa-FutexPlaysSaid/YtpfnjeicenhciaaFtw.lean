/-
  FutexKeys: the walk.
-/
import Derived.Test.YtpfnjeicenhciaaFtv
namespace Go.Proofs.Ytpfnjeicenhciaa.Ftw
open Go Go.RowKit Kit Bk Fta Ftb Ftc Ftd Fte Ftf Ftg Fth Fti Ftj Ftk Ftl Ftm Ftn Fto Ftq Ftr Fts Ftt Ftu Ftv
set_option linter.unusedVariables false
attribute [local go_sem ↓] app_wrap

set_option maxRecDepth 100000 in
set_option maxHeartbeats 8000000 in
theorem keys_fine (va : Value) (ops : List Opr) (k : Ky) (w : World) (h : OpsAt w va ops) (hl : ops.length ≤ 200) (hk : Fta.kwf k) :
    Calls Try.prog 8 #[va, kv k] w fun e w' => e = .returned (.bool true) ∧ Below w.heap.size w w' := by
  obtain ⟨ad, cap, rfl, h1, h2, -⟩ := id h
  have HO := Lib.hid h
  have HL := Lib.hid hl
  have HK := Lib.hid hk
  have dl : decide ((200 : Int) < (ops.length : Int)) = false := decide_eq_false (by omega)
  have hb0 := (Below.refl w.heap.size w).alloc (Nat.le_refl _) (.cells #[.int .i64 k.p, .int .i64 k.f, .int .i64 k.o] 31)
  have hbox := Blk.new w #[.int .i64 k.p, .int .i64 k.f, .int .i64 k.o] 31
  have HB0 := Lib.hid (And.intro hb0 hbox)
  have hmm := @run_makeMap Try.prog
  clear h hl hk hb0 hbox
  go_enter Try.func8, Try.ntmps8
  go_wp2_with (first
    | (go_at_call 28; (with_reducible refine (alive_any _).mono ?_); rintro e w1 ⟨rfl, b1⟩; have B1 := Lib.hid (HB0.out.1.trans (b1.mono HB0.out.1.size)); have X1 := Lib.hid (HB0.out.2.below b1); clear b1)
    | (go_at_call 29; (with_reducible refine (grown_any _ _ ops (OpsAt.below HO.out B1.out) HL.out).mono ?_); rintro e w2 ⟨f, rfl, r, L, ho, hd⟩; have HF := Lib.hid ho; have HD := Lib.hid hd; have X2 := Lib.hid (X1.out.below ho.bel); clear ho hd)
    | (go_at_call 20; (with_reducible refine (all_any _ f r L HF.out.lx (by have := HD.out.len; omega)).mono ?_); rintro e w4 ⟨hb4, ua, rfl, ha4⟩; refine Hid.out ?_))
  have hmade := World.ownsMap_made (H := Unit) w4 Try.prog 3 (plainElem Try.prog 3)
  have hbm : Below w4.heap.size w4 (w4.alloc (.map #[] 0)) := (Below.refl _ _).alloc (Nat.le_refl _) _
  have HG : Hid (Ks w1 (w4.alloc (.map #[] 0)) f r w.heap.size w4.heap.size 0 k L ua) := Lib.hid ⟨(HF.out.below hb4).below hbm, (X2.out.below hb4).below hbm, (nw_own ha4).below hbm, ⟨_, hmade, fun q hq => by simp [Maps.has] at hq⟩, Nat.le_trans HF.out.bel.size hb4.size⟩
  obtain ⟨xa, xc, rfl⟩ := own_form ha4
  have hl200 : (L.length : Int) ≤ 200 := by have := HD.out.len; omega
  clear HF X1 X2 ha4 hb4 hmade hbm
  refine Lib.hid ?_
  go_wp2
  clear hmm
  generalize w4.heap.size = bm at HG ⊢
  go_loopw [31] (fun i wr => ∃ j : Nat, j ≤ L.length ∧ i = .int .i64 (j : Int) ∧ Ks w1 wr f r w.heap.size bm j k L (.slice xa L.length xc)) (fun i _ => L.length - (intOf i).toNat)
  case atStart => exact ⟨0, Nat.zero_le _, rfl, HG.out⟩
  case round =>
    clear HG
    obtain ⟨j, hj, rfl, hs⟩ := hrel
    by_cases hlt : j < L.length
    · have hltI : (j : Int) < (L.length : Int) := by omega
      obtain ⟨a, c', b, e, q1, q2, hc⟩ := hs.all.cells
      cases e
      obtain ⟨rfl, c0, c1, c2, c3⟩ := hc _ (Below.refl _ _) j hlt
      have hlt2 := Lib.hid hlt
      have HFind := Lib.hid (fun W (hg : Ks w1 W f r w.heap.size bm j k L (.slice (some ⟨b, 0, none⟩) L.length xc)) => hg.find HD.out hlt)
      have HLook := Lib.hid (fun W (hg : Ks w1 W f r w.heap.size bm j k L (.slice (some ⟨b, 0, none⟩) L.length xc)) => hg.look HD.out hlt)
      have HChk := Lib.hid (fun W => Ks.check W HD.out hlt)
      have HUpd := Lib.hid (fun W cs T (hg : Ks w1 W f r w.heap.size bm j k L (.slice (some ⟨b, 0, none⟩) L.length xc)) (hb : Blk W wr.heap.size cs T) => hg.upd HD.out hlt hb)
      have HAt := Lib.hid (fun W (hg : Ks w1 W f r w.heap.size bm (j + 1) k L (.slice (some ⟨b, 0, none⟩) L.length xc)) => hg.at_ HD.out hlt)
      have HWt := Lib.hid (fun (hk : mayK k = true) W (hg : Ks w1 W f r w.heap.size bm (j + 1) k L (.slice (some ⟨b, 0, none⟩) L.length xc)) => hg.wait HD.out hlt hk)
      have hxx := HD.out.each L[j] (List.getElem_mem hlt)
      have hrs := run_same L[j].k hxx.2.2.2
      have HXw := Lib.hid hxx
      have d1 : decide (L[j].q < 1) = false := decide_eq_false (by have := hxx.1; omega)
      have hba := (Below.refl wr.heap.size wr).alloc (Nat.le_refl _) (.cells #[.int .i64 L[j].q, .int .i64 L[j].k.p, .int .i64 L[j].k.f, .int .i64 L[j].k.o] 51)
      have HS0 := Lib.hid (hs.below hba)
      have HX0 := Lib.hid (Blk.new wr #[.int .i64 L[j].q, .int .i64 L[j].k.p, .int .i64 L[j].k.f, .int .i64 L[j].k.o] 51)
      generalize L[j] = x at *
      clear hs hc q1 q2 hxx hba hlt
      by_cases hmk : mayK k = true
      · have HCk : Hid (∀ W : World, Calls Try.prog 21 #[kv k] W fun e w' => e = .returned (.int .i64 0) ∧ Below W.heap.size W w') := Lib.hid (fun W => by
          have := check_any W k
          rw [ckE_ok.2 hmk] at this
          exact this)
        go_wp2_with (first
          | (go_at_call 17; (with_reducible refine (HFind.out _ HS0.out).mono ?_); rintro e w6 ⟨rfl, hb6⟩; have hb7 := hb6.alloc hb6.size (.cells #[.int .i64 x.k.p, .int .i64 x.k.f, .int .i64 x.k.o] 31); have hlk := HLook.out _ (HS0.out.below hb7); have HS7 := Lib.hid (HS0.out.below hb7); have x7 := HX0.out.below hb7; have p0 := x7.cell 0; have p1 := x7.cell 1; have p2 := x7.cell 2; have p3 := x7.cell 3; have HX7 := Lib.hid x7; clear hb6 hb7 x7 c0 c1 c2 c3)
          | (go_at_call 21; first
            | ((with_reducible refine (HChk.out _).mono ?_); rintro e w8 ⟨rfl, hb8⟩; obtain ⟨w9, hup, hs9, hx9⟩ := HUpd.out _ _ _ (HS7.out.below hb8) (HX7.out.below hb8); clear p0 p1 p2 p3; have p0 := (HX7.out.below hb8).cell 0; have r0 := hx9.cell 0; have r1 := hx9.cell 1; have r2 := hx9.cell 2; have r3 := hx9.cell 3; have y0 := hs9.key.cell 0; have y1 := hs9.key.cell 1; have y2 := hs9.key.cell 2; have HS9 := Lib.hid hs9; have HX9 := Lib.hid hx9; clear hb8 hs9 hx9)
            | ((with_reducible refine (HCk.out _).mono ?_); rintro e w10 ⟨rfl, hb10⟩; have HSE := Lib.hid (HS9.out.below hb10); have hxe := HX9.out.below hb10; clear r0 r1 r2 r3 y0 y1 y2; have r0 := hxe.cell 0; have r1 := hxe.cell 1; have r2 := hxe.cell 2; have r3 := hxe.cell 3; have y0 := HSE.out.key.cell 0; have y1 := HSE.out.key.cell 1; have y2 := HSE.out.key.cell 2; have HXE := Lib.hid hxe; clear hb10 hxe))
          | (go_at_call 9; (with_reducible refine (HWt.out hmk _ HSE.out).mono ?_); rintro e w11 ⟨rfl, hb11⟩; replace HSE := Lib.hid (HSE.out.below hb11); replace HXE := Lib.hid (HXE.out.below hb11); clear r0 r1 r2 r3 y0 y1 y2 hb11))
        clear HFind HLook HChk HUpd HWt HCk HS0 HS7 HS9 HX0 HX7 HX9 hrs hup hlk d1
        have hxe1 := HXE.out
        generalize wr.heap.size = g10 at hxe1 ⊢
        clear HXE
        have HXE := Lib.hid hxe1
        have hxlt := hxe1.lt
        clear hxe1
        go_loopw [13, 87] (fun o i wr => ∃ m : Nat, m ≤ L.length ∧ i = .int .i64 (m : Int) ∧ wr.ownsRow w11.heap.size 3 1 o (ats (L.take m) x.k).length (ints (ats (L.take m) x.k)) ∧ Below w11.heap.size w11 wr) (fun _ i _ => L.length - (intOf i).toNat)
        case atStart => exact ⟨0, Nat.zero_le _, rfl, World.ownsRow_nil _ _ _ _, Below.refl _ _⟩
        case round =>
          obtain ⟨m, hm, rfl, ho, hb⟩ := hrel
          obtain ⟨oa, oc, rfl⟩ := own_form ho
          have hxr := HXE.out.below hb
          have r0 := hxr.cell 0
          have r1 := hxr.cell 1
          have r2 := hxr.cell 2
          have r3 := hxr.cell 3
          by_cases hmt : m < L.length
          · have hmtI : (m : Int) < (L.length : Int) := by omega
            obtain ⟨c0, c1, c2, c3⟩ := Nw.at_ (HSE.out.below hb).all m hmt
            have hrk := run_key L[m].k x.k (HD.out.kwf _ (List.getElem_mem hmt)) HXw.out.2.2.2
            have hlen := ats_len (L.take m) x.k
            have hl9 : (ats (L.take m) x.k).length ≤ 90000 := by rw [List.length_take] at hlen; omega
            have hq : ∀ nq, Below wr.heap.size wr (wr.drewN nq) := fun nq => bel_dr (Below.refl wr.heap.size wr) nq
            by_cases he : L[m].k = x.k
            · rw [decide_eq_true he] at hrk
              have HT := Lib.hid (ats_yes hmt he)
              have HZ : Hid (∀ nq, (wr.drewN nq).cell? ⟨b, m * 4, none⟩ = some (.int .i64 L[m].q)) := Lib.hid (fun nq => (Nw.at_ ((HSE.out.below hb).below (hq nq)).all m hmt).1)
              have HO6 := Lib.hid (And.intro ho (And.intro hb (And.intro hq hl9)))
              generalize ats (L.take m) x.k = l at *
              generalize hx : L[m] = z at *
              clear he ho hb hlen hq hl9 hxr
              go_wp2
              go_quiet (fail)
              have hq := HO6.out.2.2.1 nq
              obtain ⟨v', w', g1, g2, g3, g4⟩ := app_int (wr.drewN nq) w11.heap.size (.slice oa l.length oc) l z.q (own_below HO6.out.1 hq) HO6.out.2.2.2 (Nat.le_trans HO6.out.2.1.size hq.size)
              obtain ⟨ga, gc, rfl⟩ := own_form g2
              have HE := Lib.hid (And.intro g2 ((HO6.out.2.1.trans (hq.mono HO6.out.2.1.size)).trans g4))
              have z0 := HZ.out nq
              clear c0 c1 c2 c3 r0 r1 r2 r3 hrk g2 g3 g4 hq
              generalize hn4 : (l ++ [z.q]).length = n4 at *
              generalize wr.drewN nq = wf at *
              go_wp2
              go_roundw
              case rel => exact ⟨m + 1, by omega, by go_num, by rw [HT.out, hn4]; exact HE.out.1, HE.out.2⟩
              case measure => simp [intOf]; omega
            · rw [decide_eq_false he] at hrk
              have HT := Lib.hid (ats_no hmt he)
              have HO6 := Lib.hid (And.intro ho (And.intro hb hq))
              generalize ats (L.take m) x.k = l at *
              generalize hx : L[m] = z at *
              clear he ho hb hlen hq hl9 hxr
              go_wp2
              go_quiet (fail)
              have HQ := Lib.hid (HO6.out.2.2 nq)
              go_wp2
              go_roundw
              case rel => exact ⟨m + 1, by omega, by go_num, by rw [HT.out]; exact own_below HO6.out.1 HQ.out, HO6.out.2.1.trans (HQ.out.mono HO6.out.2.1.size)⟩
              case measure => simp [intOf]; omega
          · obtain rfl : m = L.length := by omega
            rw [List.take_length] at ho ⊢
            have HSF := Lib.hid (HSE.out.below hb)
            have HV := Lib.hid (nr_own ho)
            have hal : Hid ((ats L x.k).length ≤ 90000) := Lib.hid (by have := ats_len L x.k; omega)
            clear ho hb hxr
            go_wp2_with (first
              | (go_at_call 19; (with_reducible refine (HAt.out _ HSF.out).mono ?_); rintro e w12 ⟨hb12, u12, rfl, hu12⟩; have HS12 := Lib.hid (HSF.out.below hb12); have HV12 := Lib.hid (HV.out.below hb12); have HU12 := Lib.hid (nr_own hu12); obtain ⟨na, nc, rfl⟩ := own_form hu12; clear hb12 hu12)
              | (go_at_call 12; (with_reducible refine (same_nr _ _ (ats L x.k) _ hal.out HU12.out HV12.out).mono ?_); rintro e w13 ⟨rfl, hb13⟩; have HS13 := Lib.hid (HS12.out.below hb13); clear hb13))
            go_roundw
            case rel => exact ⟨j + 1, by have := hlt2.out; omega, by go_num, HS13.out⟩
            case measure => have := hlt2.out; simp [intOf]; omega
      · have HCk : Hid (∀ W : World, Calls Try.prog 21 #[kv k] W fun e w' => e = .returned (.int .i64 2) ∧ Below W.heap.size W w') := Lib.hid (fun W => by
          have := check_any W k
          rw [show ckE k = 2 by unfold ckE; rw [if_neg hmk]] at this
          exact this)
        go_wp2_with (first
          | (go_at_call 17; (with_reducible refine (HFind.out _ HS0.out).mono ?_); rintro e w6 ⟨rfl, hb6⟩; have hb7 := hb6.alloc hb6.size (.cells #[.int .i64 x.k.p, .int .i64 x.k.f, .int .i64 x.k.o] 31); have hlk := HLook.out _ (HS0.out.below hb7); have HS7 := Lib.hid (HS0.out.below hb7); have x7 := HX0.out.below hb7; have p0 := x7.cell 0; have p1 := x7.cell 1; have p2 := x7.cell 2; have p3 := x7.cell 3; have HX7 := Lib.hid x7; clear hb6 hb7 x7 c0 c1 c2 c3)
          | (go_at_call 21; first
            | ((with_reducible refine (HChk.out _).mono ?_); rintro e w8 ⟨rfl, hb8⟩; obtain ⟨w9, hup, hs9, hx9⟩ := HUpd.out _ _ _ (HS7.out.below hb8) (HX7.out.below hb8); clear p0 p1 p2 p3; have p0 := (HX7.out.below hb8).cell 0; have r0 := hx9.cell 0; have r1 := hx9.cell 1; have r2 := hx9.cell 2; have r3 := hx9.cell 3; have y0 := hs9.key.cell 0; have y1 := hs9.key.cell 1; have y2 := hs9.key.cell 2; have HS9 := Lib.hid hs9; have HX9 := Lib.hid hx9; clear hb8 hs9 hx9)
            | ((with_reducible refine (HCk.out _).mono ?_); rintro e w10 ⟨rfl, hb10⟩; have HSE := Lib.hid (HS9.out.below hb10); have hxe := HX9.out.below hb10; clear r0 r1 r2 r3 y0 y1 y2; have r0 := hxe.cell 0; have r1 := hxe.cell 1; have r2 := hxe.cell 2; have r3 := hxe.cell 3; have y0 := HSE.out.key.cell 0; have y1 := HSE.out.key.cell 1; have y2 := HSE.out.key.cell 2; have HXE := Lib.hid hxe; clear hb10 hxe))
          | (go_at_call 9; (with_reducible refine (HWt.out hmk _ HSE.out).mono ?_); rintro e w11 ⟨rfl, hb11⟩; replace HSE := Lib.hid (HSE.out.below hb11); replace HXE := Lib.hid (HXE.out.below hb11); clear r0 r1 r2 r3 y0 y1 y2 hb11))
        clear HFind HLook HChk HUpd HWt HCk HS0 HS7 HS9 HX0 HX7 HX9 hrs hup hlk d1
        have hxe1 := HXE.out
        generalize wr.heap.size = g10 at hxe1 ⊢
        clear HXE
        have HXE := Lib.hid hxe1
        have hxlt := hxe1.lt
        clear hxe1
        go_loopw [13, 87] (fun o i wr => ∃ m : Nat, m ≤ L.length ∧ i = .int .i64 (m : Int) ∧ wr.ownsRow w10.heap.size 3 1 o (ats (L.take m) x.k).length (ints (ats (L.take m) x.k)) ∧ Below w10.heap.size w10 wr) (fun _ i _ => L.length - (intOf i).toNat)
        case atStart => exact ⟨0, Nat.zero_le _, rfl, World.ownsRow_nil _ _ _ _, Below.refl _ _⟩
        case round =>
          obtain ⟨m, hm, rfl, ho, hb⟩ := hrel
          obtain ⟨oa, oc, rfl⟩ := own_form ho
          have hxr := HXE.out.below hb
          have r0 := hxr.cell 0
          have r1 := hxr.cell 1
          have r2 := hxr.cell 2
          have r3 := hxr.cell 3
          by_cases hmt : m < L.length
          · have hmtI : (m : Int) < (L.length : Int) := by omega
            obtain ⟨c0, c1, c2, c3⟩ := Nw.at_ (HSE.out.below hb).all m hmt
            have hrk := run_key L[m].k x.k (HD.out.kwf _ (List.getElem_mem hmt)) HXw.out.2.2.2
            have hlen := ats_len (L.take m) x.k
            have hl9 : (ats (L.take m) x.k).length ≤ 90000 := by rw [List.length_take] at hlen; omega
            have hq : ∀ nq, Below wr.heap.size wr (wr.drewN nq) := fun nq => bel_dr (Below.refl wr.heap.size wr) nq
            by_cases he : L[m].k = x.k
            · rw [decide_eq_true he] at hrk
              have HT := Lib.hid (ats_yes hmt he)
              have HZ : Hid (∀ nq, (wr.drewN nq).cell? ⟨b, m * 4, none⟩ = some (.int .i64 L[m].q)) := Lib.hid (fun nq => (Nw.at_ ((HSE.out.below hb).below (hq nq)).all m hmt).1)
              have HO6 := Lib.hid (And.intro ho (And.intro hb (And.intro hq hl9)))
              generalize ats (L.take m) x.k = l at *
              generalize hx : L[m] = z at *
              clear he ho hb hlen hq hl9 hxr
              go_wp2
              go_quiet (fail)
              have hq := HO6.out.2.2.1 nq
              obtain ⟨v', w', g1, g2, g3, g4⟩ := app_int (wr.drewN nq) w10.heap.size (.slice oa l.length oc) l z.q (own_below HO6.out.1 hq) HO6.out.2.2.2 (Nat.le_trans HO6.out.2.1.size hq.size)
              obtain ⟨ga, gc, rfl⟩ := own_form g2
              have HE := Lib.hid (And.intro g2 ((HO6.out.2.1.trans (hq.mono HO6.out.2.1.size)).trans g4))
              have z0 := HZ.out nq
              clear c0 c1 c2 c3 r0 r1 r2 r3 hrk g2 g3 g4 hq
              generalize hn4 : (l ++ [z.q]).length = n4 at *
              generalize wr.drewN nq = wf at *
              go_wp2
              go_roundw
              case rel => exact ⟨m + 1, by omega, by go_num, by rw [HT.out, hn4]; exact HE.out.1, HE.out.2⟩
              case measure => simp [intOf]; omega
            · rw [decide_eq_false he] at hrk
              have HT := Lib.hid (ats_no hmt he)
              have HO6 := Lib.hid (And.intro ho (And.intro hb hq))
              generalize ats (L.take m) x.k = l at *
              generalize hx : L[m] = z at *
              clear he ho hb hlen hq hl9 hxr
              go_wp2
              go_quiet (fail)
              have HQ := Lib.hid (HO6.out.2.2 nq)
              go_wp2
              go_roundw
              case rel => exact ⟨m + 1, by omega, by go_num, by rw [HT.out]; exact own_below HO6.out.1 HQ.out, HO6.out.2.1.trans (HQ.out.mono HO6.out.2.1.size)⟩
              case measure => simp [intOf]; omega
          · obtain rfl : m = L.length := by omega
            rw [List.take_length] at ho ⊢
            have HSF := Lib.hid (HSE.out.below hb)
            have HV := Lib.hid (nr_own ho)
            have hal : Hid ((ats L x.k).length ≤ 90000) := Lib.hid (by have := ats_len L x.k; omega)
            clear ho hb hxr
            go_wp2_with (first
              | (go_at_call 19; (with_reducible refine (HAt.out _ HSF.out).mono ?_); rintro e w12 ⟨hb12, u12, rfl, hu12⟩; have HS12 := Lib.hid (HSF.out.below hb12); have HV12 := Lib.hid (HV.out.below hb12); have HU12 := Lib.hid (nr_own hu12); obtain ⟨na, nc, rfl⟩ := own_form hu12; clear hb12 hu12)
              | (go_at_call 12; (with_reducible refine (same_nr _ _ (ats L x.k) _ hal.out HU12.out HV12.out).mono ?_); rintro e w13 ⟨rfl, hb13⟩; have HS13 := Lib.hid (HS12.out.below hb13); clear hb13))
            go_roundw
            case rel => exact ⟨j + 1, by have := hlt2.out; omega, by go_num, HS13.out⟩
            case measure => have := hlt2.out; simp [intOf]; omega
    · obtain rfl : j = L.length := by omega
      have HS := Lib.hid hs
      have hl9 : Hid (L.length ≤ 90000) := Lib.hid (by omega)
      clear hs
      go_wp2_with (first
        | (go_at_call 24; (with_reducible refine (flen_any _ f r L HS.out.on_.lx).mono ?_); rintro e w6 ⟨rfl, rfl⟩)
        | (go_at_call 20; (with_reducible refine (all_any _ f r L HS.out.on_.lx hl9.out).mono ?_); rintro e w7 ⟨hb7, v7, rfl, ha7⟩; have HS7 := Lib.hid (HS.out.below hb7); have HA7 := Lib.hid (nw_own ha7); obtain ⟨na, nc, rfl⟩ := own_form ha7; clear hb7 ha7)
        | (go_at_call 23; (with_reducible refine (same_nw _ _ L _ hl9.out HD.out.xwf HA7.out HS7.out.all).mono ?_); rintro e w8 ⟨rfl, hb8⟩; have HS8 := Lib.hid (HS7.out.below hb8); clear hb8))
      go_ret
      exact ⟨rfl, B1.out.trans (HS8.out.on_.bel.mono B1.out.size)⟩
theorem keys (va : Value) (ops : List Opr) (k : Ky) (w : World) (h : OpsAt w va ops) (hk : Fta.kwf k) :
    Calls Try.prog 8 #[va, kv k] w fun e w' => e = .returned (.bool true) ∧ Below w.heap.size w w' := by
  by_cases hl : ops.length ≤ 200
  · exact keys_fine va ops k w h hl hk
  · exact keys_long va ops k w h hl
end Go.Proofs.Ytpfnjeicenhciaa.Ftw
namespace Go.Proofs.Ytpfnjeicenhciaa.Walk
open Go Go.RowKit Kit Fta Ftq Ftw
theorem futexKeys (va : Value) (ops : List Opr) (k : Ky) (w : World) (h : OpsAt w va ops) (hk : Fta.kwf k) : Calls Try.prog 8 #[va, kv k] w fun e w' => e = .returned (.bool true) ∧ Below w.heap.size w w' := keys va ops k w h hk
end Go.Proofs.Ytpfnjeicenhciaa.Walk
