/-
  PipePlace: the walk through its calls.
-/
import Derived.Test.YtfpdbcjnhgddoaaPpa
import Derived.Deep.RegionHeld
namespace Go.Proofs.Ytfpdbcjnhgddoaa.Ppl
open Go Go.RowKit Go.Shelf Kit Bk Rgm Rgt Rgw Rgp Rgn Rst Pm Pw Px Pr Ps Po Pn Pal Pop Pac Psd Ppa
set_option linter.unusedVariables false

/-- Two pipes beside each other. -/
structure Two (w W : World) (p r q t C : Nat) (s : Sta) : Prop where
  one : Ons w W p r C s
  two : Ons w W q t C s
  h1 : p ≠ q ∧ p ≠ t
  h2 : r ≠ q ∧ r ≠ t
theorem Two.below {w W W' : World} {p r q t C : Nat} {s : Sta} (h : Two w W p r q t C s) (hb : Below W.heap.size W W') : Two w W' p r q t C s := ⟨h.one.below hb, h.two.below hb, h.h1, h.h2⟩
/-- Both are turned alike, one behind the other. -/
theorem Two.both {w W W1 W2 : World} {p r q t C : Nat} {s s' : Sta} (h : Two w W p r q t C s) (k1 : Kr p r W W1) (p1 : Pps W1 p r C s') (k2 : Kr q t W1 W2) (p2 : Pps W2 q t C s') : Two w W2 p r q t C s' := by
  have o1 : Ons w W1 p r C s' := h.one.step k1 p1
  have o2 : Ons w W1 q t C s := ons_beside h.two k1 h.one.lp h.one.lr ⟨fun e => h.h1.1 e.symm, fun e => h.h2.1 e.symm⟩ ⟨fun e => h.h1.2 e.symm, fun e => h.h2.2 e.symm⟩
  exact ⟨ons_beside o1 k2 h.two.lp h.two.lr h.h1 h.h2, o2.step k2 p2, h.h1, h.h2⟩
theorem Two.other {w W W1 : World} {p r q t C : Nat} {s : Sta} (h : Two w W p r q t C s) (k1 : Kr p r W W1) : Pps W1 q t C s :=
  (ons_beside h.two k1 h.one.lp h.one.lr ⟨fun e => h.h1.1 e.symm, fun e => h.h2.1 e.symm⟩ ⟨fun e => h.h1.2 e.symm, fun e => h.h2.2 e.symm⟩).pp

set_option maxRecDepth 100000 in
set_option maxHeartbeats 8000000 in
theorem place_fine (st : Str) (bv v v2 : Value) (l m : List Opr) (w : World) (h0 : Slc .u8 w bv st.xs) (h1 : OpsAt w v l) (h2 : OpsAt w v2 m) (hf : Fine l) (hf2 : Fine m) (hl : st.xs.length ≤ 200) (hg : GoodS st) :
    Calls Try.prog 7 #[stv st bv, v, v2] w fun e w' => e = .returned (.bool true) ∧ Below w.heap.size w w' := by
  obtain ⟨wb, hwb, hb, hs⟩ := one_box w st.c st.r st.u bv
  have HO := Lib.hid (h1.below hb)
  have HO2 := Lib.hid (h2.below hb)
  have HB := Lib.hid hb
  have HSt : Hid (∀ W, Below wb.heap.size wb W → _) := Lib.hid (fun W h => start_ok wb W st bv (h0.below (hb.trans (h.mono hb.size))) hg h)
  obtain ⟨a, cap, rfl, c1, c2, -⟩ := h0
  have HS : Hid (∀ W, Below wb.heap.size wb W → W.cell? ⟨w.heap.size, 0, none⟩ = some (.int .i64 st.c) ∧ W.cell? ⟨w.heap.size, 1, none⟩ = some (.slice a st.xs.length cap) ∧ W.cell? ⟨w.heap.size, 2, none⟩ = some (.int .i64 st.r) ∧ W.cell? ⟨w.heap.size, 3, none⟩ = some (.int .i64 st.u)) := Lib.hid (fun W h => ⟨(hs.below h).cell 0, (hs.below h).cell 1, (hs.below h).cell 2, (hs.below h).cell 3⟩)
  have d0 : decide (200 < (st.xs.length : Int)) = false := decide_eq_false (by omega)
  have d1 : decide (200 < st.xs.length) = false := decide_eq_false (by omega)
  obtain ⟨a1, cap1, rfl, l1, m1, H1⟩ := id HO.out
  have D1 := Lib.hid H1
  obtain ⟨a2, cap2, rfl, l2, m2, H2⟩ := id HO2.out
  have D2 := Lib.hid H2
  have b1l : (l.length : Int) ≤ 200 := by have := hf.1; omega
  have b2l : (m.length : Int) ≤ 200 := by have := hf2.1; omega
  have HF := Lib.hid (And.intro hf hf2)
  unfold maxLen at m1 m2
  clear h1 h2 hb hs hl c1 c2 hg H1 H2 hf hf2 l1 l2
  go_enter Try.func7, Try.ntmps7
  go_wp2_with (first | (go_at_call 29; (with_reducible refine (alive_any _).mono ?_); rintro e w1 ⟨rfl, b1⟩; obtain ⟨x0, x1, x2, x3⟩ := HS.out _ b1; refine Hid.out ?_))
  refine Lib.hid ?_
  clear hwb
  obtain ⟨C, s, hC1, hC2, hC3, hs1, hs2, hs3, hof⟩ := HSt.out _ b1
  have HE := Lib.hid hof
  have B1 := Lib.hid b1
  have HCC := Lib.hid (And.intro hC3 hC2)
  clear hC1 hC2 hC3 hs1 hs2 hs3 hof HSt b1
  go_wp2_with (first | (go_at_call 9; (with_reducible refine (great_fine _ l _ (OpsAt.below HO.out B1.out) HF.out.1).mono ?_); rintro e w2 ⟨rfl, rfl⟩) | (go_at_call 9; (with_reducible refine (great_fine _ m _ (OpsAt.below HO2.out B1.out) HF.out.2).mono ?_); rintro e w2 ⟨rfl, rfl⟩) | (go_at_call 10; (with_reducible refine HE.out.mono ?_); rintro e w3 ⟨p, r, rfl, on3⟩; replace on3 := Lib.hid on3))
  clear x0 x1 x2 x3 d0 d1 B1 HE HS
  go_loopw [57] (fun i wr => ∃ (k : Nat) (s : Sta), k ≤ l.length ∧ i = .int .i64 (k : Int) ∧ Ons wb wr p r C s) (fun i _ => l.length - (intOf i).toNat)
  case atStart => exact ⟨0, s, Nat.zero_le _, rfl, on3.out⟩
  case round =>
    obtain ⟨k, s, hk, rfl, hO⟩ := hrel
    by_cases hlt : k < l.length
    · rcases D1.out with h0 | ⟨b, off, rfl, hb, h4⟩
      · subst h0; simp at hlt
      · have hkl : (k : Int) < (l.length : Int) := by omega
        obtain ⟨c0, ⟨bv, c1, hs⟩, c2, c3, -⟩ := h4 k hlt
        generalize l[k] = q at *
        have x0 := (hO.bel.cell (p := ⟨b, off + k * 4, none⟩) hb).trans c0
        have x1 := (hO.bel.cell (p := ⟨b, off + k * 4 + 1, none⟩) hb).trans c1
        have x2 := (hO.bel.cell (p := ⟨b, off + k * 4 + 2, none⟩) hb).trans c2
        have x3 := (hO.bel.cell (p := ⟨b, off + k * 4 + 3, none⟩) hb).trans c3
        have HA := Lib.hid (act_any wr p r C s q bv hO.pp (hO.src hs))
        have HOn := Lib.hid hO
        unfold ActR at HA
        clear h4 c0 c1 c2 c3 hs hO
        go_wp2_with (go_at_call 30; (with_reducible refine HA.out.mono ?_); rintro e w4 ⟨rfl, hk4, hr4⟩; have HE := Lib.hid (HOn.out.step hk4 hr4); clear hk4 hr4)
        go_roundw
        case rel => exact ⟨k + 1, nxt C q s, by omega, by go_num, HE.out⟩
        case measure => simp [intOf]; omega
    · obtain rfl : k = l.length := by omega
      clear on3 D1 HF HO
      have HCp := Lib.hid (pcap_any wr p r C _ _ _ hO.pp)
      have HAl := Lib.hid (pall_any wr p r C _ _ _ hO.pp)
      have HRd : Hid (∀ W, Ons wb W p r C s → _) := Lib.hid (fun W h => readers_any W p r C _ _ _ (On.pp h))
      have HWd : Hid (∀ W, Ons wb W p r C s → _) := Lib.hid (fun W h => writers_any W p r C _ _ _ (On.pp h))
      have HOn := Lib.hid hO
      have hxl := hO.pp.ring.cap_le.2
      have HXL := Lib.hid hxl
      clear hO hxl
      go_wp2_with (first | (go_at_call 24; (with_reducible refine HCp.out.mono ?_); rintro e w4 ⟨rfl, rfl⟩) | (go_at_call 21; (with_reducible refine HAl.out.mono ?_); rintro e w5 ⟨b5, rv, rfl, ho5⟩; replace HOn := Lib.hid (HOn.out.below b5); obtain ⟨ad, cp, rfl⟩ := row_form ho5; replace ho5 := Lib.hid ho5) | (go_at_call 22; (with_reducible refine (HRd.out _ HOn.out).mono ?_); rintro e w6 ⟨rfl, rfl⟩) | (go_at_call 23; (with_reducible refine (HWd.out _ HOn.out).mono ?_); rintro e w7 ⟨rfl, rfl⟩; refine Hid.out ?_))
      refine Lib.hid ?_
      by_cases hgone : s.R = 0 ∧ s.U = 0
      · have HQ := Lib.hid (pof_bad w5 C _ s.xs (s.R : Int) (s.U : Int) (own_slc ho5.out) ⟨HCC.out.1, HCC.out.2⟩ HXL.out (fun h => h.2.2.2.2 ⟨by omega, by omega⟩))
        have hG := fun W (h : Ons wb W p r C s) => gone_any W p r C _ _ _ h.pp
        rw [show ((s.R : Int) == 0 && (s.U : Int) == 0) = true by rw [hgone.1, hgone.2]; rfl] at hG
        have HG := Lib.hid hG
        clear hG ho5 b5 HCp HAl HRd HWd D2 HO2 hgone
        go_wp2_with (first | (go_at_call 10; (with_reducible refine HQ.out.mono ?_); rintro e w8 ⟨rfl, b8⟩; replace HOn := Lib.hid (HOn.out.below b8)) | (go_at_call 25; (with_reducible refine (HG.out _ HOn.out).mono ?_); rintro e w9 ⟨rfl, rfl⟩))
        go_ret
        exact ⟨rfl, HB.out.trans (HOn.out.bel.mono HB.out.size)⟩
      · have hRl := HOn.out.pp.hR
        have hUl := HOn.out.pp.hU
        have HQ := Lib.hid (pof_ok w5 C _ s.xs s.R s.U (own_slc ho5.out) ⟨HCC.out.1, HCC.out.2⟩ HXL.out ⟨by omega, by omega, by omega, by omega, by omega⟩)
        clear ho5 b5 HCp HAl HRd HWd hgone hRl hUl
        go_wp2_with (first | (go_at_call 10; (with_reducible refine HQ.out.mono ?_); rintro e w8 ⟨q, t, rfl, b8, hq, ht, p8⟩; refine Hid.out ?_))
        refine Lib.hid ?_
        have lp := HOn.out.pp.ltp
        have lr := HOn.out.pp.ltr
        have lw := HOn.out.bel.size
        have hT : Two wb w8 p r q t C s := by
          have h8 := HOn.out.below b8
          exact ⟨h8, ⟨h8.bel, p8, by omega, by omega⟩, ⟨by omega, by omega⟩, ⟨by omega, by omega⟩⟩
        have HT := Lib.hid hT
        clear hT lp lr lw hq ht p8 b8 HOn HQ HXL
        go_wp2
        go_loopw [92] (fun i wy => ∃ (j : Nat) (y : Sta), j ≤ m.length ∧ i = .int .i64 (j : Int) ∧ Two wb wy p r q t C y) (fun i _ => m.length - (intOf i).toNat)
        case atStart => exact ⟨0, _, Nat.zero_le _, rfl, HT.out⟩
        case round =>
          clear HT
          obtain ⟨j, y, hj, rfl, hT⟩ := hrel
          by_cases hlt : j < m.length
          · rcases D2.out with h0 | ⟨b, off, rfl, hb, h4⟩
            · subst h0; simp at hlt
            · have hkl : (j : Int) < (m.length : Int) := by omega
              obtain ⟨c0, ⟨bv, c1, hs⟩, c2, c3, -⟩ := h4 j hlt
              generalize m[j] = o at *
              have K0 : Hid (∀ W, Below wb.heap.size wb W → W.cell? ⟨b, off + j * 4, none⟩ = some (.int .i64 o.kind) ∧ W.cell? ⟨b, off + j * 4 + 1, none⟩ = some bv ∧ W.cell? ⟨b, off + j * 4 + 2, none⟩ = some (.int .i64 o.n) ∧ W.cell? ⟨b, off + j * 4 + 3, none⟩ = some (.bool o.w)) := Lib.hid (fun W h => ⟨(h.cell (p := ⟨b, off + j * 4, none⟩) hb).trans c0, (h.cell (p := ⟨b, off + j * 4 + 1, none⟩) hb).trans c1, (h.cell (p := ⟨b, off + j * 4 + 2, none⟩) hb).trans c2, (h.cell (p := ⟨b, off + j * 4 + 3, none⟩) hb).trans c3⟩)
              obtain ⟨x0, x1, x2, x3⟩ := K0.out _ hT.one.bel
              have hA := act_any wr p r C y o bv hT.one.pp (hT.one.src hs)
              have hA2 := fun W (k : Kr p r wr W) => act_any W q t C y o bv (hT.other k) ((ons_beside hT.two k hT.one.lp hT.one.lr ⟨fun e => hT.h1.1 e.symm, fun e => hT.h2.1 e.symm⟩ ⟨fun e => hT.h1.2 e.symm, fun e => hT.h2.2 e.symm⟩).src hs)
              unfold ActR at hA hA2
              have HA := Lib.hid hA
              have HA2 := Lib.hid hA2
              have HT := Lib.hid hT
              obtain ⟨z, hz⟩ : ∃ z, nxt C o y = z := ⟨_, rfl⟩
              rw [hz] at HA HA2
              generalize ans1 C o y = A1 at *
              generalize ans2 C o y = A2 at *
              generalize ans3 C o y = A3 at *
              clear h4 c0 c1 c2 c3 hs hT hA hA2 hz
              go_wp2_with (first | (go_at_call 30; (with_reducible refine HA.out.mono ?_); rintro e w6 ⟨rfl, k6, r6⟩; refine Hid.out ?_))
              refine Lib.hid ?_
              obtain ⟨y0, y1, y2, y3⟩ := K0.out _ (HT.out.one.step k6 r6).bel
              have HK6 := Lib.hid (And.intro k6 r6)
              have HA3 := Lib.hid (HA2.out _ k6)
              clear k6 r6 HA HA2 x0 x1 x2 x3
              go_wp2_with (first | (go_at_call 30; (with_reducible refine HA3.out.mono ?_); rintro e w7 ⟨rfl, k7, q7⟩; refine Hid.out ?_))
              refine Lib.hid ?_
              have HT7 := Lib.hid (HT.out.both HK6.out.1 HK6.out.2 k7 q7)
              have hP1 := fun s W (h : Two wb W p r q t C z) => pready_any W p r C z.xs z.R z.U s h.one.pp
              have hP2 := fun s W (h : Two wb W p r q t C z) => pready_any W q t C z.xs z.R z.U s h.two.pp
              clear k7 q7 HK6 HA3 HT y0 y1 y2 y3 K0
              have HP1t := Lib.hid (hP1 true)
              have HP2t := Lib.hid (hP2 true)
              have HP1f := Lib.hid (hP1 false)
              have HP2f := Lib.hid (hP2 false)
              generalize rdy C z.xs z.R z.U true = r1 at *
              generalize rdy C z.xs z.R z.U false = r2 at *
              clear hP1 hP2
              go_wp2_with (first | (go_at_call 26; (with_reducible refine (HP1t.out _ HT7.out).mono ?_); rintro e w8 ⟨rfl, b8⟩; replace HT7 := Lib.hid (HT7.out.below b8); clear b8) | (go_at_call 26; (with_reducible refine (HP2t.out _ HT7.out).mono ?_); rintro e w8 ⟨rfl, b8⟩; replace HT7 := Lib.hid (HT7.out.below b8); clear b8) | (go_at_call 26; (with_reducible refine (HP1f.out _ HT7.out).mono ?_); rintro e w8 ⟨rfl, b8⟩; replace HT7 := Lib.hid (HT7.out.below b8); clear b8) | (go_at_call 26; (with_reducible refine (HP2f.out _ HT7.out).mono ?_); rintro e w8 ⟨rfl, b8⟩; replace HT7 := Lib.hid (HT7.out.below b8); clear b8))
              go_roundw
              case rel => exact ⟨j + 1, _, by omega, by go_num, HT7.out⟩
              case measure => simp [intOf]; omega
          · obtain rfl : j = m.length := by omega
            have HT0 : Hid (Two wb wr.drew p r q t C y) := Lib.hid (hT.below (Below.refl _ _).drew)
            have HA1 := Lib.hid (pall_any wr.drew p r C _ _ _ HT0.out.one.pp)
            have HA2 : Hid (∀ W, Two wb W p r q t C y → _) := Lib.hid (fun W h => pall_any W q t C _ _ _ (On.pp (Two.two h)))
            have HR1 : Hid (∀ W, Two wb W p r q t C y → _) := Lib.hid (fun W h => readers_any W p r C _ _ _ (On.pp (Two.one h)))
            have HR2 : Hid (∀ W, Two wb W p r q t C y → _) := Lib.hid (fun W h => readers_any W q t C _ _ _ (On.pp (Two.two h)))
            have HU1 : Hid (∀ W, Two wb W p r q t C y → _) := Lib.hid (fun W h => writers_any W p r C _ _ _ (On.pp (Two.one h)))
            have HU2 : Hid (∀ W, Two wb W p r q t C y → _) := Lib.hid (fun W h => writers_any W q t C _ _ _ (On.pp (Two.two h)))
            clear hT
            go_wp2
            go_region_held (fun _ => True) (trivial) (first | (go_at_call 21; (with_reducible refine HA1.out.mono ?_); rintro e w6 ⟨b6, rv6, rfl, ho6⟩; have cv6 := slc_string (own_slc ho6); have HT6 := Lib.hid (HT0.out.below b6)) | (go_at_call 21; (with_reducible refine (HA2.out _ HT6.out).mono ?_); rintro e w7 ⟨b7, rv7, rfl, ho7⟩; have cv7 := slc_string (own_slc ho7); have cv8 := slc_string (own_slc (own_below ho6 b7)); have HT7 := Lib.hid (HT6.out.below b7)) | (go_at_call 22; (with_reducible refine (HR1.out _ HT7.out).mono ?_); rintro e w8 ⟨rfl, rfl⟩) | (go_at_call 22; (with_reducible refine (HR2.out _ HT7.out).mono ?_); rintro e w8 ⟨rfl, rfl⟩) | (go_at_call 23; (with_reducible refine (HU1.out _ HT7.out).mono ?_); rintro e w8 ⟨rfl, rfl⟩) | (go_at_call 23; (with_reducible refine (HU2.out _ HT7.out).mono ?_); rintro e w8 ⟨rfl, rfl⟩))
            all_goals
              go_wp2
              go_ret
              exact ⟨rfl, HB.out.trans (HT7.out.one.bel.mono HB.out.size)⟩
end Go.Proofs.Ytfpdbcjnhgddoaa.Ppl
namespace Go.Proofs.Ytfpdbcjnhgddoaa.Walk
open Go Go.RowKit Kit Pop Pac Psd Ppa Ppl
theorem pipePlace (st : Str) (bv v : Value) (l : List Opr) (v2 : Value) (m : List Opr) (W : World) (h0 : Slc .u8 W bv st.xs) (_ : (Lit.int .i64 st.c).wf = true) (_ : (Lit.int .i64 st.r).wf = true) (_ : (Lit.int .i64 st.u).wf = true) (h1 : OpsAt W v l) (h2 : OpsAt W v2 m) :
    Calls Try.prog 7 #[.agg #[.int .i64 st.c, bv, .int .i64 st.r, .int .i64 st.u], v, v2] W fun e w' => e = .returned (.bool true) ∧ Below W.heap.size W w' := by
  by_cases hf : Fine l
  · by_cases hf2 : Fine m
    · by_cases hl : st.xs.length ≤ 200
      · by_cases hg : GoodS st
        · exact place_fine st bv v v2 l m W h0 h1 h2 hf hf2 hl hg
        · exact place_bad st bv v v2 l m W h0 h1 h2 hf hf2 hl hg
      · exact place_far st bv v v2 l m W h0 h1 h2 hf hf2 (by omega)
    · exact place_great2 st bv v v2 l m W h1 h2 hf hf2
  · exact place_great1 st bv v v2 l W h1 hf
end Go.Proofs.Ytfpdbcjnhgddoaa.Walk
