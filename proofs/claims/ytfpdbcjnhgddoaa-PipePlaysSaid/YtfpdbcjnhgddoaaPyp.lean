/-
  PipePlays: the walk through its calls.
-/
import Derived.Test.YtfpdbcjnhgddoaaPya
import Derived.Deep.RegionHeld
namespace Go.Proofs.Ytfpdbcjnhgddoaa.Pyp
open Go Go.RowKit Go.Shelf Kit Bk Rgm Rgt Rgw Rgp Rgn Rst Pm Pw Px Pr Ps Po Pn Pal Pop Pac Psl Psd Rfa Rfb Qm Qo Pya
set_option linter.unusedVariables false

/-- A copy that the law goes on with, beside the pipe that was copied. -/
structure Cp (w W : World) (p r q t P Q C : Nat) (s s2 : Sta) : Prop where
  new : Ons w W q t C s
  ref : QP W w.heap.size P Q C s.xs s.R s.U
  old : Ons w W p r C s2
  h1 : q ≠ p ∧ q ≠ r
  h2 : t ≠ p ∧ t ≠ r
  lP : w.heap.size ≤ P
  lQ : w.heap.size ≤ Q
theorem Cp.step {w W W' : World} {p r q t P Q C : Nat} {s s2 s3 : Sta} (h : Cp w W p r q t P Q C s s2) (k : Kr p r W W') (hp : Pps W' p r C s3) : Cp w W' p r q t P Q C s s3 :=
  ⟨ons_beside h.new k h.old.lp h.old.lr h.h1 h.h2, qp_beside h.ref h.old.pp k, h.old.step k hp, h.h1, h.h2, h.lP, h.lQ⟩
theorem Cp.below {w W W' : World} {p r q t P Q C : Nat} {s s2 : Sta} (h : Cp w W p r q t P Q C s s2) (hb : Below W.heap.size W W') : Cp w W' p r q t P Q C s s2 :=
  ⟨h.new.below hb, h.ref.below hb, h.old.below hb, h.h1, h.h2, h.lP, h.lQ⟩
theorem Cp.pl {w W : World} {p r q t P Q C : Nat} {s s2 : Sta} (h : Cp w W p r q t P Q C s s2) : Pl w W q t P Q C s := ⟨h.new, h.ref, h.lP, h.lQ⟩

set_option maxRecDepth 100000 in
set_option maxHeartbeats 8000000 in
theorem plays_fine (st : Str) (bv v : Value) (l : List Opr) (w : World) (h0 : Slc .u8 w bv st.xs) (h1 : OpsAt w v l) (hf : Fine l) (hl : st.xs.length ≤ 200) (C : Nat) (s0 : Sta) (hc : st.c = (C : Int)) (hC : 1 ≤ C ∧ C ≤ 64) (hy : st.xs.length ≤ C) (hx : s0.xs = st.xs) (hr : st.r = (s0.R : Int)) (hu : st.u = (s0.U : Int)) (hg : Mays (s0.R : Int) (s0.U : Int)) :
    Calls Try.prog 3 #[stv st bv, v] w fun e w' => e = .returned (.bool true) ∧ Below w.heap.size w w' := by
  obtain ⟨c, ys, R, U⟩ := st
  obtain ⟨ys', R0, U0⟩ := s0
  dsimp only at *
  subst hc hx hr hu
  have kc := fun (w : World) (C : Array Value) (n c : Nat) => Lib.run_convert_bytes_const (P := Try.prog) w 22 5 C n c Try.underlying22 Try.underlying5
  obtain ⟨wb, hwb, hb, hs⟩ := one_box w (C : Int) (R0 : Int) (U0 : Int) bv
  have HO := Lib.hid (h1.below hb)
  have HB := Lib.hid hb
  have HPo : Hid (∀ W, Below wb.heap.size wb W → _) := Lib.hid (fun W h => pof_ok W C bv ys' R0 U0 (h0.below (hb.trans (h.mono hb.size))) hC hy hg)
  have HQo : Hid (∀ W, Below wb.heap.size wb W → _) := Lib.hid (fun W h => qof_ok W C bv ys' R0 U0 (h0.below (hb.trans (h.mono hb.size))) hC hy hg)
  obtain ⟨a, cap, rfl, c1, c2, -⟩ := h0
  obtain ⟨Z, hZ⟩ : ∃ Z, w.heap.size = Z := ⟨_, rfl⟩
  rw [hZ] at hs
  have HS : Hid (∀ W, Below wb.heap.size wb W → W.cell? ⟨Z, 0, none⟩ = some (.int .i64 (C : Int)) ∧ W.cell? ⟨Z, 1, none⟩ = some (.slice a ys'.length cap) ∧ W.cell? ⟨Z, 2, none⟩ = some (.int .i64 (R0 : Int)) ∧ W.cell? ⟨Z, 3, none⟩ = some (.int .i64 (U0 : Int))) := Lib.hid (fun W h => ⟨(hs.below h).cell 0, (hs.below h).cell 1, (hs.below h).cell 2, (hs.below h).cell 3⟩)
  obtain ⟨x0, x1, x2, x3⟩ := HS.out _ (Below.refl _ _)
  have d0 : decide (200 < (ys'.length : Int)) = false := decide_eq_false (by omega)
  have d1 : decide (200 < ys'.length) = false := decide_eq_false (by omega)
  obtain ⟨a1, cap1, rfl, l1, m1, H1⟩ := id HO.out
  have D1 := Lib.hid H1
  have b1l : (l.length : Int) ≤ 200 := by have := hf.1; omega
  have HF := Lib.hid hf
  have hCI : (C : Int) ≤ 64 := by omega
  unfold maxLen at m1
  clear h1 hb hs hl c1 c2 hg H1 hf l1 hC hy
  go_enter Try.func3, Try.ntmps3
  go_wp2_with (first | (go_at_call 9; (with_reducible refine (great_fine _ l _ HO.out HF.out).mono ?_); rintro e w2 ⟨rfl, rfl⟩) | (go_at_call 10; (with_reducible refine (HPo.out _ (Below.refl _ _)).mono ?_); rintro e w3 ⟨p, r, rfl, b3, hp, hr, p3⟩; refine Hid.out ?_))
  refine Lib.hid ?_
  obtain ⟨y0, y1, y2, y3⟩ := HS.out _ b3
  have H3 := Lib.hid (And.intro b3 (And.intro hp (And.intro hr p3)))
  have HQ3 := Lib.hid (HQo.out _ b3)
  clear x0 x1 x2 x3 b3 hp hr p3 HPo HQo
  go_wp2_with (first | (go_at_call 11; (with_reducible refine HQ3.out.mono ?_); rintro e w4 ⟨P, Q, rfl, b4, hP, hQ, q4⟩; refine Hid.out ?_))
  refine Lib.hid ?_
  have hPl : Pl wb w4 p r P Q C ⟨ys', R0, U0⟩ := by
    obtain ⟨b3, hp, hr, p3⟩ := H3.out
    have h3 : Ons wb w3 p r C ⟨ys', R0, U0⟩ := ⟨b3, p3, hp, hr⟩
    have hsz := b3.size
    exact ⟨h3.below b4, q4.base hsz, by omega, by omega⟩
  have HPl := Lib.hid hPl
  clear b4 hP hQ q4 hPl H3 HQ3 y0 y1 y2 y3 d0 d1 hwb
  go_wp2
  go_loopw [5, 76] (fun rp i wr => ∃ (k p r : Nat) (s : Sta), k ≤ l.length ∧ rp = .pointer (some ⟨p, 0, none⟩) ∧ i = .int .i64 (k : Int) ∧ Pl wb wr p r P Q C s) (fun _ i _ => l.length - (intOf i).toNat)
  case atStart => exact ⟨0, p, r, _, Nat.zero_le _, rfl, rfl, HPl.out⟩
  case round =>
    clear HPl
    obtain ⟨k, p, r, s, hk, rfl, rfl, hP⟩ := hrel
    by_cases hlt : k < l.length
    · rcases D1.out with h0 | ⟨b, off, rfl, hb, h4⟩
      · subst h0; simp at hlt
      · have hkl : (k : Int) < (l.length : Int) := by omega
        obtain ⟨c0, ⟨bv, c1, hs⟩, c2, c3, -⟩ := h4 k hlt
        generalize l[k] = q at *
        obtain ⟨kind, zs, n, x⟩ := q
        dsimp only at c0 c1 c2 c3 hs
        have x0 := (hP.one.bel.cell (p := ⟨b, off + k * 4, none⟩) hb).trans c0
        have x1 := (hP.one.bel.cell (p := ⟨b, off + k * 4 + 1, none⟩) hb).trans c1
        have x2 := (hP.one.bel.cell (p := ⟨b, off + k * 4 + 2, none⟩) hb).trans c2
        have x3 := (hP.one.bel.cell (p := ⟨b, off + k * 4 + 3, none⟩) hb).trans c3
        have HSl := Lib.hid hs
        obtain ⟨ba, bc, rfl, -⟩ := hs
        clear h4 c0 c1 c2 c3 D1 HO HF hb
        go_upto_block 2 with fail
        go_cut [5, 11] (fun rp fp wx => ∃ (p' r' : Nat) (s' : Sta), rp = .pointer (some ⟨p', 0, none⟩) ∧ fp = .bool true ∧ Pl wb wx p' r' P Q C s')
        case first =>
          have hX : Blk (wr.alloc (.cells #[.int .i64 kind, .slice ba zs.length bc, .int .i64 n, .bool x] 35)) wr.heap.size #[.int .i64 kind, .slice ba zs.length bc, .int .i64 n, .bool x] 35 := Blk.new _ _ _
          have hP1 := hP.below ((Below.refl _ _).alloc (Nat.le_refl _) (.cells #[.int .i64 kind, .slice ba zs.length bc, .int .i64 n, .bool x] 35))
          have hXp : p < wr.heap.size := hP.one.pp.ltp
          have hXr : r < wr.heap.size := hP.one.pp.ltr
          have hXP : P < wr.heap.size := hP.ref.blk.lt
          have hXQ : Q < wr.heap.size := hP.ref.ring.lt
          clear x0 x1 x2 x3 hP
          generalize wr.alloc (.cells #[.int .i64 kind, .slice ba zs.length bc, .int .i64 n, .bool x] 35) = w1 at *
          generalize wr.heap.size = X at *
          have x0 := hX.cell 0
          have x1 := hX.cell 1
          have x2 := hX.cell 2
          have x3 := hX.cell 3
          have HX := Lib.hid hX
          have HL := Lib.hid (And.intro hXp (And.intro hXr (And.intro hXP (And.intro hXQ hX.lt))))
          have HP1 := Lib.hid hP1
          obtain ⟨xs, R, U⟩ := s
          clear hX hXp hXr hXP hXQ hP1
          by_cases k0 : kind = 0
          · as_aux_lemma =>
              subst k0
              have hw := pwrite_any w1 p r C xs R U _ zs HP1.out.one.pp (HP1.out.one.src HSl.out)
              have hq := fun W (h : QP W wb.heap.size P Q C xs R U) (hb : Below wb.heap.size wb W) => qwrite_any W wb.heap.size P Q C xs R U _ zs h (HSl.out.below hb)
              unfold WriteR at hw
              unfold QWriteR at hq
              generalize wN C xs R U zs = a2 at *
              generalize wW C xs R U zs = a3 at *
              generalize wE U = a4 at *
              generalize wX C xs R U zs = xs2 at *
              have HW := Lib.hid hw
              have HQ := Lib.hid hq
              clear hw hq x2 x3 HSl
              go_wp2_with (go_at_call 12; (with_reducible refine HW.out.mono ?_); rintro e w2 ⟨rfl, k2, r2⟩; refine Hid.out ?_)
              refine Lib.hid ?_
              have hh := HP1.out.half (s' := ⟨xs2, R, U⟩) k2 r2
              have y1 := (HX.out.kept k2 (fun e => by have := HL.out; omega)).cell 1
              have HQ2 := Lib.hid (HQ.out _ hh.2 hh.1.bel)
              have H2 := Lib.hid (And.intro k2 (And.intro r2 hh.1.bel.size))
              clear k2 r2 hh HW HQ x0 x1
              go_wp2_with (go_at_call 13; (with_reducible refine HQ2.out.mono ?_); rintro e w3 ⟨rfl, k3, q3⟩; have HE : Hid (Pl wb w3 p r P Q C ⟨xs2, R, U⟩) := Lib.hid (HP1.out.both H2.out.1 H2.out.2.1 k3 q3 (by have := H2.out.2.2; omega)); clear k3 q3)
              go_meet
              exact ⟨p, r, _, rfl, rfl, HE.out⟩
          · have e0 : (kind == 0) = false := by simp [k0]
            by_cases k1 : kind = 1
            · as_aux_lemma =>
                subst k1
                have hw := pread_any w1 p r C xs R U n HP1.out.one.pp
                have hq := fun W (h : QP W wb.heap.size P Q C xs R U) => qread_any W wb.heap.size P Q C xs R U n h
                unfold ReadR at hw
                unfold QReadR at hq
                generalize rO xs R n = ts at *
                generalize rW xs R U n = a3 at *
                generalize rE R n = a4 at *
                generalize rX xs R n = xs2 at *
                obtain ⟨T, hT⟩ : ∃ T, bstr ts = T := ⟨_, rfl⟩
                have HT : Hid (∀ W B v, W.ownsRow B 5 1 v ts.length (u8s ts) → (convert 22 9 v).run Try.prog W = .ok (.string T) W) := Lib.hid (fun W B v h => by rw [← hT]; exact slc_string (own_slc h))
                have HW := Lib.hid hw
                have HQ := Lib.hid hq
                clear hw hq x1 x3 HSl k0 hT
                go_wp2_with (go_at_call 14; (with_reducible refine HW.out.mono ?_); rintro e w2 ⟨k2, r2, rv, rfl, o2⟩; refine Hid.out ?_)
                refine Lib.hid ?_
                have hh := HP1.out.half (s' := ⟨xs2, R, U⟩) k2 r2
                have y1 := (HX.out.kept k2 (fun e => by have := HL.out; omega)).cell 2
                have HQ2 := Lib.hid (HQ.out _ hh.2)
                have H2 := Lib.hid (And.intro k2 (And.intro r2 (And.intro hh.1.bel.size o2)))
                clear k2 r2 hh HW HQ x0 x2 o2
                go_wp2_with (go_at_call 15; (with_reducible refine HQ2.out.mono ?_); rintro e w3 ⟨k3, q3, rv3, rfl, o3⟩; have cv3 := HT.out _ _ _ o3; have cv2 := HT.out _ _ _ (own_kp H2.out.2.2.2 k3 (fun j e => by have := HL.out; omega)); have HE : Hid (Pl wb w3 p r P Q C ⟨xs2, R, U⟩) := Lib.hid (HP1.out.both H2.out.1 H2.out.2.1 k3 q3 (by have := H2.out.2.2.1; omega)); clear k3 q3 o3)
                go_meet
                exact ⟨p, r, _, rfl, rfl, HE.out⟩
            · have e1 : (kind == 1) = false := by simp [k1]
              by_cases k2 : kind = 2
              · as_aux_lemma =>
                  subst k2
                  have hw := popen_any w1 p r C xs R U x HP1.out.one.pp
                  have hq := fun W (h : QP W wb.heap.size P Q C xs R U) => qopen_any W wb.heap.size P Q C xs R U x h
                  unfold OpenR at hq
                  generalize oE (sc x R U) = a3 at *
                  generalize nR x R (oN (sc x R U)) = R2 at *
                  generalize nU x U (oN (sc x R U)) = U2 at *
                  have HW := Lib.hid hw
                  have HQ := Lib.hid hq
                  clear hw hq x1 x2 HSl k0 k1
                  go_wp2_with (go_at_call 16; (with_reducible refine HW.out.mono ?_); rintro e w2 ⟨rfl, k2, r2⟩; refine Hid.out ?_)
                  refine Lib.hid ?_
                  have hh := HP1.out.half (s' := ⟨xs, R2, U2⟩) k2 r2
                  have y1 := (HX.out.kept k2 (fun e => by have := HL.out; omega)).cell 3
                  have HQ2 := Lib.hid (HQ.out _ hh.2)
                  have H2 := Lib.hid (And.intro k2 r2)
                  clear k2 r2 hh HW HQ x0 x3
                  go_wp2_with (go_at_call 17; (with_reducible refine HQ2.out.mono ?_); rintro e w3 ⟨rfl, k3, q3⟩; have HE : Hid (Pl wb w3 p r P Q C ⟨xs, R2, U2⟩) := Lib.hid (HP1.out.both H2.out.1 H2.out.2 k3 q3 (Nat.le_refl _)); clear k3 q3)
                  go_meet
                  exact ⟨p, r, _, rfl, rfl, HE.out⟩
              · have e2 : (kind == 2) = false := by simp [k2]
                by_cases k3 : kind = 3
                · as_aux_lemma =>
                    subst k3
                    have hw := pclose_any w1 p r C xs R U x HP1.out.one.pp
                    have hq := fun W (h : QP W wb.heap.size P Q C xs R U) => qclose_any W wb.heap.size P Q C xs R U x h
                    unfold CloseR at hq
                    generalize cE (sc x R U) = a3 at *
                    generalize (sc x R U == 1) = a4 at *
                    generalize nR x R (sc x R U - 1) = R2 at *
                    generalize nU x U (sc x R U - 1) = U2 at *
                    have HW := Lib.hid hw
                    have HQ := Lib.hid hq
                    clear hw hq x1 x2 HSl k0 k1 k2
                    go_wp2_with (go_at_call 18; (with_reducible refine HW.out.mono ?_); rintro e w2 ⟨rfl, k2, r2⟩; refine Hid.out ?_)
                    refine Lib.hid ?_
                    have hh := HP1.out.half (s' := ⟨xs, R2, U2⟩) k2 r2
                    have y1 := (HX.out.kept k2 (fun e => by have := HL.out; omega)).cell 3
                    have HQ2 := Lib.hid (HQ.out _ hh.2)
                    have H2 := Lib.hid (And.intro k2 r2)
                    clear k2 r2 hh HW HQ x0 x3
                    go_wp2_with (go_at_call 19; (with_reducible refine HQ2.out.mono ?_); rintro e w3 ⟨rfl, k3, q3⟩; have HE : Hid (Pl wb w3 p r P Q C ⟨xs, R2, U2⟩) := Lib.hid (HP1.out.both H2.out.1 H2.out.2 k3 q3 (Nat.le_refl _)); clear k3 q3)
                    go_meet
                    exact ⟨p, r, _, rfl, rfl, HE.out⟩
                · have e3 : (kind == 3) = false := by simp [k3]
                  by_cases k4 : kind = 4
                  · as_aux_lemma =>
                      subst k4
                      have HW := Lib.hid (pcopy_any w1 p r C xs R U HP1.out.one.pp)
                      clear x1 x2 x3 HSl k0 k1 k2 k3
                      go_wp2_with (go_at_call 20; (with_reducible refine HW.out.mono ?_); rintro e w2 ⟨q, t, rfl, b2, hq, ht, p2⟩; refine Hid.out ?_)
                      refine Lib.hid ?_
                      have hCp : Cp wb w2 p r q t P Q C ⟨xs, R, U⟩ ⟨xs, R, U⟩ := by
                        have h2 := HP1.out.below b2
                        have hl := HL.out
                        have hs := HP1.out.one.bel.size
                        exact ⟨⟨h2.one.bel, p2, by omega, by omega⟩, h2.ref, h2.one, ⟨by omega, by omega⟩, ⟨by omega, by omega⟩, h2.lP, h2.lQ⟩
                      have hbl := (Below.refl w2.heap.size w2).alloc (Nat.le_refl _) (.cells #[.int .u8 120] 5 (1, 2))
                      have hC2 := hCp.below hbl
                      have hw := pwrite_any _ p r C xs R U (.slice (some ⟨w2.heap.size, 0, none⟩) 1 1) [120] hC2.old.pp (lit_src (n := 1) (l := [120]) hCp.old.pp.ltr rfl rfl (by decide))
                      unfold WriteR at hw
                      generalize wX C xs R U [120] = xs2 at *
                      have HW2 := Lib.hid hw
                      have HC2 := Lib.hid hC2
                      clear b2 hq ht p2 hCp hbl hC2 hw HW x0
                      go_wp2_with (go_at_call 12; (with_reducible refine HW2.out.mono ?_); rintro e w3 ⟨rfl, k3, r3⟩; refine Hid.out ?_)
                      refine Lib.hid ?_
                      have HC3 := Lib.hid (HC2.out.step (s3 := ⟨xs2, R, U⟩) k3 r3)
                      have hr3 := pread_any w3 p r C xs2 R U 2 r3
                      unfold ReadR at hr3
                      generalize rX xs2 R 2 = xs3 at *
                      have HR3 := Lib.hid hr3
                      clear k3 r3 hr3 HW2 HC2
                      go_wp2_with (go_at_call 14; (with_reducible refine HR3.out.mono ?_); rintro e w4 ⟨k4, r4, rv, rfl, o4⟩; refine Hid.out ?_)
                      refine Lib.hid ?_
                      have HC4 := Lib.hid (HC3.out.step (s3 := ⟨xs3, R, U⟩) k4 r4)
                      have HW4 := Lib.hid (pclose_any w4 p r C xs3 R U true r4)
                      clear k4 r4 o4 HR3 HC3
                      go_wp2_with (go_at_call 18; (with_reducible refine HW4.out.mono ?_); rintro e w5 ⟨rfl, k5, r5⟩; have HC5 := Lib.hid (HC4.out.step (s3 := ⟨xs3, nR true R (sc true R U - 1), nU true U (sc true R U - 1)⟩) k5 r5); clear k5 r5)
                      go_meet
                      exact ⟨q, t, _, rfl, rfl, HC5.out.pl⟩
                  · have e4 : (kind == 4) = false := by simp [k4]
                    clear x1 x2 x3 HSl k0 k1 k2 k3 k4
                    go_wp2
                    go_meet
                    exact ⟨p, r, _, rfl, rfl, HP1.out⟩
        case rest =>
          obtain ⟨p', r', s', rfl, rfl, hP⟩ := hcut
          clear x0 x1 x2 x3 HSl
          obtain ⟨xs, R, U⟩ := s'
          have HPl := Lib.hid hP
          have B0 : Hid (Below wc.heap.size wc wc.drew) := Lib.hid (Below.refl _ _).drew
          have HA : Hid (∀ W, Below wc.heap.size wc W → _) := Lib.hid (fun W hb => pall_any W p' r' C xs R U (Pl.below hP hb).one.pp)
          have HR : Hid (∀ W, Below wc.heap.size wc W → _) := Lib.hid (fun W hb => readers_any W p' r' C xs R U (Pl.below hP hb).one.pp)
          have HU : Hid (∀ W, Below wc.heap.size wc W → _) := Lib.hid (fun W hb => writers_any W p' r' C xs R U (Pl.below hP hb).one.pp)
          have HC : Hid (∀ W, Below wc.heap.size wc W → _) := Lib.hid (fun W hb => pcap_any W p' r' C xs R U (Pl.below hP hb).one.pp)
          have hG := fun W (hb : Below wc.heap.size wc W) => gone_any W p' r' C xs R U (Pl.below hP hb).one.pp
          have hRt := fun W (hb : Below wc.heap.size wc W) => pready_any W p' r' C xs R U true (Pl.below hP hb).one.pp
          have hRf := fun W (hb : Below wc.heap.size wc W) => pready_any W p' r' C xs R U false (Pl.below hP hb).one.pp
          have hQt := fun W (hb : Below wc.heap.size wc W) => qready_any W wb.heap.size P Q C xs R U true (Pl.below hP hb).ref
          have hQf := fun W (hb : Below wc.heap.size wc W) => qready_any W wb.heap.size P Q C xs R U false (Pl.below hP hb).ref
          generalize rdy C xs R U true = r1 at *
          generalize rdy C xs R U false = r2 at *
          have HRt := Lib.hid hRt
          have HRf := Lib.hid hRf
          have HQt := Lib.hid hQt
          have HQf := Lib.hid hQf
          obtain ⟨v, hB1, hB2⟩ := id hP.ref.ring
          obtain ⟨va, vc, rfl⟩ := row_form hB2
          have hSB := own_slc hB2
          obtain ⟨T, hT⟩ : ∃ T, bstr xs = T := ⟨_, rfl⟩
          have KS : Hid (∀ W, Below wc.heap.size wc W → W.cell? ⟨P, 0, none⟩ = some (.pointer (some ⟨Q, 0, none⟩)) ∧ W.cell? ⟨P, 1, none⟩ = some (.int .i64 (R : Int)) ∧ W.cell? ⟨P, 2, none⟩ = some (.int .i64 (U : Int)) ∧ W.cell? ⟨Q, 1, none⟩ = some (.slice va xs.length vc) ∧ (convert 22 9 (.slice va xs.length vc)).run Try.prog W = .ok (.string T) W ∧ W.cell? ⟨Z, 0, none⟩ = some (.int .i64 (C : Int))) := Lib.hid (fun W hb => ⟨(hP.ref.blk.below hb).cell 0, (hP.ref.blk.below hb).cell 1, (hP.ref.blk.below hb).cell 2, (hB1.below hb).cell 1, by rw [← hT]; exact slc_string (hSB.below hb), (HS.out _ (hP.below hb).one.bel).1⟩)
          have HTT : Hid (∀ W B r, W.ownsRow B 5 1 r xs.length (u8s xs) → (convert 22 9 r).run Try.prog W = .ok (.string T) W) := Lib.hid (fun W B r h => by rw [← hT]; exact slc_string (own_slc h))
          have hRI : (R : Int) ≤ 64 := by have : R ≤ 64 := hP.ref.hR; omega
          have hUI : (U : Int) ≤ 64 := by have : U ≤ 64 := hP.ref.hU; omega
          have hLI : (xs.length : Int) ≤ 64 := by have : xs.length ≤ C := hP.ref.hx; omega
          clear hRt hRf hQt hQf hB1 hB2 hSB hT hP HS kc
          go_wp2
          dsimp only [List.append]
          refine wp_region_held_drew (S := fun W => W.cell? ⟨P, 0, none⟩ = some (.pointer (some ⟨Q, 0, none⟩)) ∧ W.cell? ⟨P, 1, none⟩ = some (.int .i64 (R : Int)) ∧ W.cell? ⟨P, 2, none⟩ = some (.int .i64 (U : Int)) ∧ W.cell? ⟨Q, 1, none⟩ = some (.slice va xs.length vc) ∧ (convert 22 9 (.slice va xs.length vc)).run Try.prog W = .ok (.string T) W ∧ W.cell? ⟨Z, 0, none⟩ = some (.int .i64 (C : Int))) (by kernel_rfl) (KS.out _ B0.out) (fun hHeld0 => ?_)
          refine wpAnyH_take (i := 0) (v := ?_) rfl (by kernel_rfl) (by kernel_rfl) (by kernel_rfl) (fun _ _ _ h => h) (Or.inl ⟨by kernel_rfl, ?_⟩) (by assumption) ?_
          rotate_left 1
          · intro wz hSw
            try dsimp only at hSw
            go_simp <;> with_reducible rfl
          simp only [Act.put, List.setIfInBounds_toArray, List.set_cons_zero, List.set_cons_succ, List.getElem_toArray, List.getElem_cons_zero]
          refine wpAnyH_take (i := 1) (v := ?_) rfl (by kernel_rfl) (by kernel_rfl) (by kernel_rfl) (fun _ _ _ h => h) (Or.inl ⟨by kernel_rfl, ?_⟩) (by assumption) ?_
          rotate_left 1
          · intro wz hSw
            try dsimp only at hSw
            go_simp <;> with_reducible rfl
          simp only [Act.put, List.setIfInBounds_toArray, List.set_cons_zero, List.set_cons_succ, List.getElem_toArray, List.getElem_cons_zero, List.getElem_cons_succ]
          refine wpAnyH_take (i := 2) (v := ?_) rfl (by kernel_rfl) (by kernel_rfl) (by kernel_rfl) (fun _ _ _ h => h) (Or.inl ⟨by kernel_rfl, ?_⟩) (by assumption) ?_
          rotate_left 1
          · intro wz hSw
            try dsimp only at hSw
            go_simp <;> with_reducible rfl
          simp only [Act.put, List.setIfInBounds_toArray, List.set_cons_zero, List.set_cons_succ, List.getElem_toArray, List.getElem_cons_zero, List.getElem_cons_succ]
          refine wpAnyH_take (i := 3) (v := ?_) rfl (by kernel_rfl) (by kernel_rfl) (by kernel_rfl) (fun _ _ _ h => h) (Or.inl ⟨by kernel_rfl, ?_⟩) (by assumption) ?_
          rotate_left 1
          · intro wz hSw
            try dsimp only at hSw
            go_simp <;> with_reducible rfl
          simp only [Act.put, List.setIfInBounds_toArray, List.set_cons_zero, List.set_cons_succ, List.getElem_toArray, List.getElem_cons_zero, List.getElem_cons_succ]
          refine wpAnyH_take (i := 6) (v := ?_) rfl (by kernel_rfl) (by kernel_rfl) (by kernel_rfl) (fun _ _ _ h => h) (Or.inl ⟨by kernel_rfl, ?_⟩) (by assumption) ?_
          rotate_left 1
          · intro wz hSw
            try dsimp only at hSw
            go_simp <;> with_reducible rfl
          simp only [Act.put, List.setIfInBounds_toArray, List.set_cons_zero, List.set_cons_succ, List.getElem_toArray, List.getElem_cons_zero, List.getElem_cons_succ]
          refine wpAnyH_take (i := 7) (v := ?_) rfl (by kernel_rfl) (by kernel_rfl) (by kernel_rfl) (fun _ _ _ h => h) (Or.inl ⟨by kernel_rfl, ?_⟩) (by assumption) ?_
          rotate_left 1
          · intro wz hSw
            try dsimp only at hSw
            go_simp <;> with_reducible rfl
          simp only [Act.put, List.setIfInBounds_toArray, List.set_cons_zero, List.set_cons_succ, List.getElem_toArray, List.getElem_cons_zero, List.getElem_cons_succ]
          refine wpAnyH_take (i := 8) (v := ?_) rfl (by kernel_rfl) (by kernel_rfl) (by kernel_rfl) (fun _ _ _ h => h) (Or.inl ⟨by kernel_rfl, ?_⟩) (by assumption) ?_
          rotate_left 1
          · intro wz hSw
            try dsimp only at hSw
            go_simp <;> with_reducible rfl
          simp only [Act.put, List.setIfInBounds_toArray, List.set_cons_zero, List.set_cons_succ, List.getElem_toArray, List.getElem_cons_zero, List.getElem_cons_succ]
          refine wpAnyH_take (i := 9) (v := ?_) rfl (by kernel_rfl) (by kernel_rfl) (by kernel_rfl) (fun _ _ _ h => h) (Or.inl ⟨by kernel_rfl, ?_⟩) (by assumption) ?_
          rotate_left 1
          · intro wz hSw
            try dsimp only at hSw
            go_simp <;> with_reducible rfl
          simp only [Act.put, List.setIfInBounds_toArray, List.set_cons_zero, List.set_cons_succ, List.getElem_toArray, List.getElem_cons_zero, List.getElem_cons_succ]
          refine wpAnyH_take (i := 10) (v := ?_) rfl (by kernel_rfl) (by kernel_rfl) (by kernel_rfl) (fun _ _ _ h => h) (Or.inl ⟨by kernel_rfl, ?_⟩) (by assumption) ?_
          rotate_left 1
          · intro wz hSw
            try dsimp only at hSw
            go_simp <;> with_reducible rfl
          simp only [Act.put, List.setIfInBounds_toArray, List.set_cons_zero, List.set_cons_succ, List.getElem_toArray, List.getElem_cons_zero, List.getElem_cons_succ]
          refine wpAnyH_take (i := 11) (v := ?_) rfl (by kernel_rfl) (by kernel_rfl) (by kernel_rfl) (fun _ _ _ h => h) (Or.inl ⟨by kernel_rfl, ?_⟩) (by assumption) ?_
          rotate_left 1
          · intro wz hSw
            try dsimp only at hSw
            go_simp <;> with_reducible rfl
          simp only [Act.put, List.setIfInBounds_toArray, List.set_cons_zero, List.set_cons_succ, List.getElem_toArray, List.getElem_cons_zero, List.getElem_cons_succ]
          refine wpAnyH_take (i := 12) (v := ?_) rfl (by kernel_rfl) (by kernel_rfl) (by kernel_rfl) (fun _ _ _ h => h) (Or.inl ⟨by kernel_rfl, ?_⟩) (by assumption) ?_
          rotate_left 1
          · intro wz hSw
            try dsimp only at hSw
            go_simp <;> with_reducible rfl
          simp only [Act.put, List.setIfInBounds_toArray, List.set_cons_zero, List.set_cons_succ, List.getElem_toArray, List.getElem_cons_zero, List.getElem_cons_succ]
          refine wpAnyH_take (i := 13) (v := ?_) rfl (by kernel_rfl) (by kernel_rfl) (by kernel_rfl) (fun _ _ _ h => h) (Or.inl ⟨by kernel_rfl, ?_⟩) (by assumption) ?_
          rotate_left 1
          · intro wz hSw
            try dsimp only at hSw
            go_simp <;> with_reducible rfl
          simp only [Act.put, List.setIfInBounds_toArray, List.set_cons_zero, List.set_cons_succ, List.getElem_toArray, List.getElem_cons_zero, List.getElem_cons_succ]
          refine wpAnyH_ready (rs := [4]) (by kernel_rfl) (by simp) ?_
          refine AllReadyH.cons rfl (fun K hK => ?_) (AllReadyH.nil)
          go_simp
          go_wp2_with (go_at_call 21; (with_reducible refine (HA.out _ B0.out).mono ?_); rintro e w6 ⟨b6, rv, rfl, ho⟩; have cv6 := HTT.out _ _ _ ho; have B6 : Hid (Below wc.heap.size wc w6) := Lib.hid (B0.out.trans (b6.mono B0.out.size)); clear ho b6)
          refine hK.out _ _ (KS.out _ B6.out) (fun hHeld1 => ?_)
          clear hK K
          refine wpAnyH_ready (rs := [5]) (by kernel_rfl) (by simp) ?_
          refine AllReadyH.cons rfl (fun K hK => ?_) (AllReadyH.nil)
          go_simp
          refine hK.out _ _ (KS.out _ B6.out) (fun hHeld2 => ?_)
          clear hK K
          clear cv6
          refine wpAnyH_take (i := 14) (v := ?_) rfl (by kernel_rfl) (by kernel_rfl) (by kernel_rfl) (fun _ _ _ h => h) (Or.inl ⟨by kernel_rfl, ?_⟩) (by assumption) ?_
          rotate_left 1
          · intro wz hSw
            try dsimp only at hSw
            go_simp <;> with_reducible rfl
          simp only [Act.put, List.setIfInBounds_toArray, List.set_cons_zero, List.set_cons_succ, List.getElem_toArray, List.getElem_cons_zero, List.getElem_cons_succ]
          refine wpAnyH_take (i := 15) (v := ?_) rfl (by kernel_rfl) (by kernel_rfl) (by kernel_rfl) (fun _ _ _ h => h) (Or.inl ⟨by kernel_rfl, ?_⟩) (by assumption) ?_
          rotate_left 1
          · intro wz hSw
            try dsimp only at hSw
            go_simp <;> with_reducible rfl
          simp only [Act.put, List.setIfInBounds_toArray, List.set_cons_zero, List.set_cons_succ, List.getElem_toArray, List.getElem_cons_zero, List.getElem_cons_succ]
          refine wpAnyH_take (i := 16) (v := ?_) rfl (by kernel_rfl) (by kernel_rfl) (by kernel_rfl) (fun _ _ _ h => h) (Or.inl ⟨by kernel_rfl, ?_⟩) (by assumption) ?_
          rotate_left 1
          · intro wz hSw
            try dsimp only at hSw
            go_simp <;> with_reducible rfl
          simp only [Act.put, List.setIfInBounds_toArray, List.set_cons_zero, List.set_cons_succ, List.getElem_toArray, List.getElem_cons_zero, List.getElem_cons_succ]
          refine wpAnyH_take (i := 17) (v := ?_) rfl (by kernel_rfl) (by kernel_rfl) (by kernel_rfl) (fun _ _ _ h => h) (Or.inl ⟨by kernel_rfl, ?_⟩) (by assumption) ?_
          rotate_left 1
          · intro wz hSw
            try dsimp only at hSw
            go_simp <;> with_reducible rfl
          simp only [Act.put, List.setIfInBounds_toArray, List.set_cons_zero, List.set_cons_succ, List.getElem_toArray, List.getElem_cons_zero, List.getElem_cons_succ]
          refine wpAnyH_take (i := 19) (v := ?_) rfl (by kernel_rfl) (by kernel_rfl) (by kernel_rfl) (fun _ _ _ h => h) (Or.inl ⟨by kernel_rfl, ?_⟩) (by assumption) ?_
          rotate_left 1
          · intro wz hSw
            try dsimp only at hSw
            go_simp <;> with_reducible rfl
          simp only [Act.put, List.setIfInBounds_toArray, List.set_cons_zero, List.set_cons_succ, List.getElem_toArray, List.getElem_cons_zero, List.getElem_cons_succ]
          refine wpAnyH_take (i := 20) (v := ?_) rfl (by kernel_rfl) (by kernel_rfl) (by kernel_rfl) (fun _ _ _ h => h) (Or.inl ⟨by kernel_rfl, ?_⟩) (by assumption) ?_
          rotate_left 1
          · intro wz hSw
            try dsimp only at hSw
            go_simp <;> with_reducible rfl
          simp only [Act.put, List.setIfInBounds_toArray, List.set_cons_zero, List.set_cons_succ, List.getElem_toArray, List.getElem_cons_zero, List.getElem_cons_succ]
          refine wpAnyH_take (i := 21) (v := ?_) rfl (by kernel_rfl) (by kernel_rfl) (by kernel_rfl) (fun _ _ _ h => h) (Or.inl ⟨by kernel_rfl, ?_⟩) (by assumption) ?_
          rotate_left 1
          · intro wz hSw
            try dsimp only at hSw
            go_simp <;> with_reducible rfl
          simp only [Act.put, List.setIfInBounds_toArray, List.set_cons_zero, List.set_cons_succ, List.getElem_toArray, List.getElem_cons_zero, List.getElem_cons_succ]
          refine wpAnyH_take (i := 22) (v := ?_) rfl (by kernel_rfl) (by kernel_rfl) (by kernel_rfl) (fun _ _ _ h => h) (Or.inl ⟨by kernel_rfl, ?_⟩) (by assumption) ?_
          rotate_left 1
          · intro wz hSw
            try dsimp only at hSw
            go_simp <;> with_reducible rfl
          simp only [Act.put, List.setIfInBounds_toArray, List.set_cons_zero, List.set_cons_succ, List.getElem_toArray, List.getElem_cons_zero, List.getElem_cons_succ]
          refine wpAnyH_ready (rs := [18]) (by kernel_rfl) (by simp) ?_
          refine AllReadyH.cons rfl (fun K hK => ?_) (AllReadyH.nil)
          go_simp
          go_wp2_with (go_at_call 22; (with_reducible refine (HR.out _ B6.out).mono ?_); rintro e wx ⟨rfl, rfl⟩)
          refine hK.out _ _ (KS.out _ B6.out) (fun hHeld3 => ?_)
          clear hK K
          refine wpAnyH_take (i := 23) (v := ?_) rfl (by kernel_rfl) (by kernel_rfl) (by kernel_rfl) (fun _ _ _ h => h) (Or.inl ⟨by kernel_rfl, ?_⟩) (by assumption) ?_
          rotate_left 1
          · intro wz hSw
            try dsimp only at hSw
            go_simp <;> with_reducible rfl
          simp only [Act.put, List.setIfInBounds_toArray, List.set_cons_zero, List.set_cons_succ, List.getElem_toArray, List.getElem_cons_zero, List.getElem_cons_succ]
          refine wpAnyH_take (i := 24) (v := ?_) rfl (by kernel_rfl) (by kernel_rfl) (by kernel_rfl) (fun _ _ _ h => h) (Or.inl ⟨by kernel_rfl, ?_⟩) (by assumption) ?_
          rotate_left 1
          · intro wz hSw
            try dsimp only at hSw
            go_simp <;> with_reducible rfl
          simp only [Act.put, List.setIfInBounds_toArray, List.set_cons_zero, List.set_cons_succ, List.getElem_toArray, List.getElem_cons_zero, List.getElem_cons_succ]
          refine wpAnyH_take (i := 25) (v := ?_) rfl (by kernel_rfl) (by kernel_rfl) (by kernel_rfl) (fun _ _ _ h => h) (Or.inl ⟨by kernel_rfl, ?_⟩) (by assumption) ?_
          rotate_left 1
          · intro wz hSw
            try dsimp only at hSw
            go_simp <;> with_reducible rfl
          simp only [Act.put, List.setIfInBounds_toArray, List.set_cons_zero, List.set_cons_succ, List.getElem_toArray, List.getElem_cons_zero, List.getElem_cons_succ]
          refine wpAnyH_take (i := 26) (v := ?_) rfl (by kernel_rfl) (by kernel_rfl) (by kernel_rfl) (fun _ _ _ h => h) (Or.inl ⟨by kernel_rfl, ?_⟩) (by assumption) ?_
          rotate_left 1
          · intro wz hSw
            try dsimp only at hSw
            go_simp <;> with_reducible rfl
          simp only [Act.put, List.setIfInBounds_toArray, List.set_cons_zero, List.set_cons_succ, List.getElem_toArray, List.getElem_cons_zero, List.getElem_cons_succ]
          refine wpAnyH_take (i := 28) (v := ?_) rfl (by kernel_rfl) (by kernel_rfl) (by kernel_rfl) (fun _ _ _ h => h) (Or.inl ⟨by kernel_rfl, ?_⟩) (by assumption) ?_
          rotate_left 1
          · intro wz hSw
            try dsimp only at hSw
            go_simp <;> with_reducible rfl
          simp only [Act.put, List.setIfInBounds_toArray, List.set_cons_zero, List.set_cons_succ, List.getElem_toArray, List.getElem_cons_zero, List.getElem_cons_succ]
          refine wpAnyH_take (i := 29) (v := ?_) rfl (by kernel_rfl) (by kernel_rfl) (by kernel_rfl) (fun _ _ _ h => h) (Or.inl ⟨by kernel_rfl, ?_⟩) (by assumption) ?_
          rotate_left 1
          · intro wz hSw
            try dsimp only at hSw
            go_simp <;> with_reducible rfl
          simp only [Act.put, List.setIfInBounds_toArray, List.set_cons_zero, List.set_cons_succ, List.getElem_toArray, List.getElem_cons_zero, List.getElem_cons_succ]
          refine wpAnyH_take (i := 30) (v := ?_) rfl (by kernel_rfl) (by kernel_rfl) (by kernel_rfl) (fun _ _ _ h => h) (Or.inl ⟨by kernel_rfl, ?_⟩) (by assumption) ?_
          rotate_left 1
          · intro wz hSw
            try dsimp only at hSw
            go_simp <;> with_reducible rfl
          simp only [Act.put, List.setIfInBounds_toArray, List.set_cons_zero, List.set_cons_succ, List.getElem_toArray, List.getElem_cons_zero, List.getElem_cons_succ]
          refine wpAnyH_take (i := 31) (v := ?_) rfl (by kernel_rfl) (by kernel_rfl) (by kernel_rfl) (fun _ _ _ h => h) (Or.inl ⟨by kernel_rfl, ?_⟩) (by assumption) ?_
          rotate_left 1
          · intro wz hSw
            try dsimp only at hSw
            go_simp <;> with_reducible rfl
          simp only [Act.put, List.setIfInBounds_toArray, List.set_cons_zero, List.set_cons_succ, List.getElem_toArray, List.getElem_cons_zero, List.getElem_cons_succ]
          refine wpAnyH_ready (rs := [27]) (by kernel_rfl) (by simp) ?_
          refine AllReadyH.cons rfl (fun K hK => ?_) (AllReadyH.nil)
          go_simp
          go_wp2_with (go_at_call 23; (with_reducible refine (HU.out _ B6.out).mono ?_); rintro e wx ⟨rfl, rfl⟩)
          refine hK.out _ _ (KS.out _ B6.out) (fun hHeld4 => ?_)
          clear hK K
          refine wpAnyH_take (i := 32) (v := ?_) rfl (by kernel_rfl) (by kernel_rfl) (by kernel_rfl) (fun _ _ _ h => h) (Or.inl ⟨by kernel_rfl, ?_⟩) (by assumption) ?_
          rotate_left 1
          · intro wz hSw
            try dsimp only at hSw
            go_simp <;> with_reducible rfl
          simp only [Act.put, List.setIfInBounds_toArray, List.set_cons_zero, List.set_cons_succ, List.getElem_toArray, List.getElem_cons_zero, List.getElem_cons_succ]
          refine wpAnyH_take (i := 33) (v := ?_) rfl (by kernel_rfl) (by kernel_rfl) (by kernel_rfl) (fun _ _ _ h => h) (Or.inl ⟨by kernel_rfl, ?_⟩) (by assumption) ?_
          rotate_left 1
          · intro wz hSw
            try dsimp only at hSw
            go_simp <;> with_reducible rfl
          simp only [Act.put, List.setIfInBounds_toArray, List.set_cons_zero, List.set_cons_succ, List.getElem_toArray, List.getElem_cons_zero, List.getElem_cons_succ]
          refine wpAnyH_take (i := 34) (v := ?_) rfl (by kernel_rfl) (by kernel_rfl) (by kernel_rfl) (fun _ _ _ h => h) (Or.inl ⟨by kernel_rfl, ?_⟩) (by assumption) ?_
          rotate_left 1
          · intro wz hSw
            try dsimp only at hSw
            go_simp <;> with_reducible rfl
          simp only [Act.put, List.setIfInBounds_toArray, List.set_cons_zero, List.set_cons_succ, List.getElem_toArray, List.getElem_cons_zero, List.getElem_cons_succ]
          refine wpAnyH_take (i := 35) (v := ?_) rfl (by kernel_rfl) (by kernel_rfl) (by kernel_rfl) (fun _ _ _ h => h) (Or.inl ⟨by kernel_rfl, ?_⟩) (by assumption) ?_
          rotate_left 1
          · intro wz hSw
            try dsimp only at hSw
            go_simp <;> with_reducible rfl
          simp only [Act.put, List.setIfInBounds_toArray, List.set_cons_zero, List.set_cons_succ, List.getElem_toArray, List.getElem_cons_zero, List.getElem_cons_succ]
          refine wpAnyH_take (i := 37) (v := ?_) rfl (by kernel_rfl) (by kernel_rfl) (by kernel_rfl) (fun _ _ _ h => h) (Or.inl ⟨by kernel_rfl, ?_⟩) (by assumption) ?_
          rotate_left 1
          · intro wz hSw
            try dsimp only at hSw
            go_simp <;> with_reducible rfl
          simp only [Act.put, List.setIfInBounds_toArray, List.set_cons_zero, List.set_cons_succ, List.getElem_toArray, List.getElem_cons_zero, List.getElem_cons_succ]
          refine wpAnyH_take (i := 38) (v := ?_) rfl (by kernel_rfl) (by kernel_rfl) (by kernel_rfl) (fun _ _ _ h => h) (Or.inl ⟨by kernel_rfl, ?_⟩) (by assumption) ?_
          rotate_left 1
          · intro wz hSw
            try dsimp only at hSw
            go_simp <;> with_reducible rfl
          simp only [Act.put, List.setIfInBounds_toArray, List.set_cons_zero, List.set_cons_succ, List.getElem_toArray, List.getElem_cons_zero, List.getElem_cons_succ]
          refine wpAnyH_ready (rs := [36]) (by kernel_rfl) (by simp) ?_
          refine AllReadyH.cons rfl (fun K hK => ?_) (AllReadyH.nil)
          go_simp
          go_wp2_with (go_at_call 24; (with_reducible refine (HC.out _ B6.out).mono ?_); rintro e wx ⟨rfl, rfl⟩)
          refine hK.out _ _ (KS.out _ B6.out) (fun hHeld5 => ?_)
          clear hK K
          refine wpAnyH_take (i := 39) (v := ?_) rfl (by kernel_rfl) (by kernel_rfl) (by kernel_rfl) (fun _ _ _ h => h) (Or.inl ⟨by kernel_rfl, ?_⟩) (by assumption) ?_
          rotate_left 1
          · intro wz hSw
            try dsimp only at hSw
            go_simp <;> with_reducible rfl
          simp only [Act.put, List.setIfInBounds_toArray, List.set_cons_zero, List.set_cons_succ, List.getElem_toArray, List.getElem_cons_zero, List.getElem_cons_succ]
          refine wpAnyH_take (i := 40) (v := ?_) rfl (by kernel_rfl) (by kernel_rfl) (by kernel_rfl) (fun _ _ _ h => h) (Or.inl ⟨by kernel_rfl, ?_⟩) (by assumption) ?_
          rotate_left 1
          · intro wz hSw
            try dsimp only at hSw
            go_simp <;> with_reducible rfl
          simp only [Act.put, List.setIfInBounds_toArray, List.set_cons_zero, List.set_cons_succ, List.getElem_toArray, List.getElem_cons_zero, List.getElem_cons_succ]
          refine wpAnyH_take (i := 41) (v := ?_) rfl (by kernel_rfl) (by kernel_rfl) (by kernel_rfl) (fun _ _ _ h => h) (Or.inl ⟨by kernel_rfl, ?_⟩) (by assumption) ?_
          rotate_left 1
          · intro wz hSw
            try dsimp only at hSw
            go_simp <;> with_reducible rfl
          simp only [Act.put, List.setIfInBounds_toArray, List.set_cons_zero, List.set_cons_succ, List.getElem_toArray, List.getElem_cons_zero, List.getElem_cons_succ]
          refine wpAnyH_take (i := 42) (v := ?_) rfl (by kernel_rfl) (by kernel_rfl) (by kernel_rfl) (fun _ _ _ h => h) (Or.inl ⟨by kernel_rfl, ?_⟩) (by assumption) ?_
          rotate_left 1
          · intro wz hSw
            try dsimp only at hSw
            go_simp <;> with_reducible rfl
          simp only [Act.put, List.setIfInBounds_toArray, List.set_cons_zero, List.set_cons_succ, List.getElem_toArray, List.getElem_cons_zero, List.getElem_cons_succ]
          refine wpAnyH_take (i := 44) (v := ?_) rfl (by kernel_rfl) (by kernel_rfl) (by kernel_rfl) (fun _ _ _ h => h) (Or.inl ⟨by kernel_rfl, ?_⟩) (by assumption) ?_
          rotate_left 1
          · intro wz hSw
            try dsimp only at hSw
            go_simp <;> with_reducible rfl
          simp only [Act.put, List.setIfInBounds_toArray, List.set_cons_zero, List.set_cons_succ, List.getElem_toArray, List.getElem_cons_zero, List.getElem_cons_succ]
          refine wpAnyH_take (i := 45) (v := ?_) rfl (by kernel_rfl) (by kernel_rfl) (by kernel_rfl) (fun _ _ _ h => h) (Or.inl ⟨by kernel_rfl, ?_⟩) (by assumption) ?_
          rotate_left 1
          · intro wz hSw
            try dsimp only at hSw
            go_simp <;> with_reducible rfl
          simp only [Act.put, List.setIfInBounds_toArray, List.set_cons_zero, List.set_cons_succ, List.getElem_toArray, List.getElem_cons_zero, List.getElem_cons_succ]
          refine wpAnyH_take (i := 46) (v := ?_) rfl (by kernel_rfl) (by kernel_rfl) (by kernel_rfl) (fun _ _ _ h => h) (Or.inl ⟨by kernel_rfl, ?_⟩) (by assumption) ?_
          rotate_left 1
          · intro wz hSw
            try dsimp only at hSw
            go_simp <;> with_reducible rfl
          simp only [Act.put, List.setIfInBounds_toArray, List.set_cons_zero, List.set_cons_succ, List.getElem_toArray, List.getElem_cons_zero, List.getElem_cons_succ]
          refine wpAnyH_take (i := 47) (v := ?_) rfl (by kernel_rfl) (by kernel_rfl) (by kernel_rfl) (fun _ _ _ h => h) (Or.inl ⟨by kernel_rfl, ?_⟩) (by assumption) ?_
          rotate_left 1
          · intro wz hSw
            try dsimp only at hSw
            go_simp <;> with_reducible rfl
          simp only [Act.put, List.setIfInBounds_toArray, List.set_cons_zero, List.set_cons_succ, List.getElem_toArray, List.getElem_cons_zero, List.getElem_cons_succ]
          by_cases hR : R = 0
          · as_aux_lemma =>
              have e0 : ((R : Int) == 0) = true := beq_iff_eq.2 (by omega)
              have hg : ((R : Int) == 0 && (U : Int) == 0) = ((U : Int) == 0) := by rw [e0, Bool.true_and]
              clear hR
              have HG := Lib.hid (fun W (hb : Below wc.heap.size wc W) => (show Calls Try.prog 25 #[.pointer (some ⟨p', 0, none⟩)] W fun e w' => e = .returned (.bool ((U : Int) == 0)) ∧ W = w' from by have := hG W hb; rw [hg] at this; exact this))
              clear hG hg
              refine wpAnyH_take (i := 48) (v := ?_) rfl (by kernel_rfl) (by kernel_rfl) (by kernel_rfl) (fun _ _ _ h => h) (Or.inl ⟨by kernel_rfl, ?_⟩) (by assumption) ?_
              rotate_left 1
              · intro wz hSw
                try dsimp only at hSw
                go_simp <;> with_reducible rfl
              simp only [Act.put, List.setIfInBounds_toArray, List.set_cons_zero, List.set_cons_succ, List.getElem_toArray, List.getElem_cons_zero, List.getElem_cons_succ]
              refine wpAnyH_ready (rs := [43]) (by kernel_rfl) (by simp) ?_
              refine AllReadyH.cons rfl (fun K hK => ?_) (AllReadyH.nil)
              go_simp
              go_wp2_with (go_at_call 25; (with_reducible refine (HG.out _ B6.out).mono ?_); rintro e wx ⟨rfl, rfl⟩)
              refine hK.out _ _ (KS.out _ B6.out) (fun hHeld6 => ?_)
              clear hK K
              refine wpAnyH_take (i := 49) (v := ?_) rfl (by kernel_rfl) (by kernel_rfl) (by kernel_rfl) (fun _ _ _ h => h) (Or.inl ⟨by kernel_rfl, ?_⟩) (by assumption) ?_
              rotate_left 1
              · intro wz hSw
                try dsimp only at hSw
                go_simp <;> with_reducible rfl
              simp only [Act.put, List.setIfInBounds_toArray, List.set_cons_zero, List.set_cons_succ, List.getElem_toArray, List.getElem_cons_zero, List.getElem_cons_succ]
              refine wpAnyH_take (i := 50) (v := ?_) rfl (by kernel_rfl) (by kernel_rfl) (by kernel_rfl) (fun _ _ _ h => h) (Or.inl ⟨by kernel_rfl, ?_⟩) (by assumption) ?_
              rotate_left 1
              · intro wz hSw
                try dsimp only at hSw
                go_simp <;> with_reducible rfl
              simp only [Act.put, List.setIfInBounds_toArray, List.set_cons_zero, List.set_cons_succ, List.getElem_toArray, List.getElem_cons_zero, List.getElem_cons_succ]
              refine wpAnyH_take (i := 51) (v := ?_) rfl (by kernel_rfl) (by kernel_rfl) (by kernel_rfl) (fun _ _ _ h => h) (Or.inl ⟨by kernel_rfl, ?_⟩) (by assumption) ?_
              rotate_left 1
              · intro wz hSw
                try dsimp only at hSw
                go_simp <;> with_reducible rfl
              simp only [Act.put, List.setIfInBounds_toArray, List.set_cons_zero, List.set_cons_succ, List.getElem_toArray, List.getElem_cons_zero, List.getElem_cons_succ]
              refine wpAnyH_take (i := 52) (v := ?_) rfl (by kernel_rfl) (by kernel_rfl) (by kernel_rfl) (fun _ _ _ h => h) (Or.inl ⟨by kernel_rfl, ?_⟩) (by assumption) ?_
              rotate_left 1
              · intro wz hSw
                try dsimp only at hSw
                go_simp <;> with_reducible rfl
              simp only [Act.put, List.setIfInBounds_toArray, List.set_cons_zero, List.set_cons_succ, List.getElem_toArray, List.getElem_cons_zero, List.getElem_cons_succ]
              refine wpAnyH_take (i := 53) (v := ?_) rfl (by kernel_rfl) (by kernel_rfl) (by kernel_rfl) (fun _ _ _ h => h) (Or.inl ⟨by kernel_rfl, ?_⟩) (by assumption) ?_
              rotate_left 1
              · intro wz hSw
                try dsimp only at hSw
                go_simp <;> with_reducible rfl
              simp only [Act.put, List.setIfInBounds_toArray, List.set_cons_zero, List.set_cons_succ, List.getElem_toArray, List.getElem_cons_zero, List.getElem_cons_succ]
              refine wpAnyH_take (i := 54) (v := ?_) rfl (by kernel_rfl) (by kernel_rfl) (by kernel_rfl) (fun _ _ _ h => h) (Or.inl ⟨by kernel_rfl, ?_⟩) (by assumption) ?_
              rotate_left 1
              · intro wz hSw
                try dsimp only at hSw
                go_simp <;> with_reducible rfl
              simp only [Act.put, List.setIfInBounds_toArray, List.set_cons_zero, List.set_cons_succ, List.getElem_toArray, List.getElem_cons_zero, List.getElem_cons_succ]
              refine wpAnyH_take (i := 55) (v := ?_) rfl (by kernel_rfl) (by kernel_rfl) (by kernel_rfl) (fun _ _ _ h => h) (Or.inl ⟨by kernel_rfl, ?_⟩) (by assumption) ?_
              rotate_left 1
              · intro wz hSw
                try dsimp only at hSw
                go_simp <;> with_reducible rfl
              simp only [Act.put, List.setIfInBounds_toArray, List.set_cons_zero, List.set_cons_succ, List.getElem_toArray, List.getElem_cons_zero, List.getElem_cons_succ]
              refine wpAnyH_take (i := 56) (v := ?_) rfl (by kernel_rfl) (by kernel_rfl) (by kernel_rfl) (fun _ _ _ h => h) (Or.inl ⟨by kernel_rfl, ?_⟩) (by assumption) ?_
              rotate_left 1
              · intro wz hSw
                try dsimp only at hSw
                go_simp <;> with_reducible rfl
              simp only [Act.put, List.setIfInBounds_toArray, List.set_cons_zero, List.set_cons_succ, List.getElem_toArray, List.getElem_cons_zero, List.getElem_cons_succ]
              refine wpAnyH_take (i := 57) (v := ?_) rfl (by kernel_rfl) (by kernel_rfl) (by kernel_rfl) (fun _ _ _ h => h) (Or.inl ⟨by kernel_rfl, ?_⟩) (by assumption) ?_
              rotate_left 1
              · intro wz hSw
                try dsimp only at hSw
                go_simp <;> with_reducible rfl
              simp only [Act.put, List.setIfInBounds_toArray, List.set_cons_zero, List.set_cons_succ, List.getElem_toArray, List.getElem_cons_zero, List.getElem_cons_succ]
              refine wpAnyH_take (i := 58) (v := ?_) rfl (by kernel_rfl) (by kernel_rfl) (by kernel_rfl) (fun _ _ _ h => h) (Or.inl ⟨by kernel_rfl, ?_⟩) (by assumption) ?_
              rotate_left 1
              · intro wz hSw
                try dsimp only at hSw
                go_simp <;> with_reducible rfl
              simp only [Act.put, List.setIfInBounds_toArray, List.set_cons_zero, List.set_cons_succ, List.getElem_toArray, List.getElem_cons_zero, List.getElem_cons_succ]
              refine wpAnyH_take (i := 59) (v := ?_) rfl (by kernel_rfl) (by kernel_rfl) (by kernel_rfl) (fun _ _ _ h => h) (Or.inl ⟨by kernel_rfl, ?_⟩) (by assumption) ?_
              rotate_left 1
              · intro wz hSw
                try dsimp only at hSw
                go_simp <;> with_reducible rfl
              simp only [Act.put, List.setIfInBounds_toArray, List.set_cons_zero, List.set_cons_succ, List.getElem_toArray, List.getElem_cons_zero, List.getElem_cons_succ]
              refine wpAnyH_take (i := 61) (v := ?_) rfl (by kernel_rfl) (by kernel_rfl) (by kernel_rfl) (fun _ _ _ h => h) (Or.inl ⟨by kernel_rfl, ?_⟩) (by assumption) ?_
              rotate_left 1
              · intro wz hSw
                try dsimp only at hSw
                go_simp <;> with_reducible rfl
              simp only [Act.put, List.setIfInBounds_toArray, List.set_cons_zero, List.set_cons_succ, List.getElem_toArray, List.getElem_cons_zero, List.getElem_cons_succ]
              refine wpAnyH_ready (rs := [60]) (by kernel_rfl) (by simp) ?_
              refine AllReadyH.cons rfl (fun K hK => ?_) (AllReadyH.nil)
              go_simp
              go_wp2_with (go_at_call 26; (with_reducible refine (HRt.out _ B6.out).mono ?_); rintro e w7 ⟨rfl, b7⟩; have B7 : Hid (Below wc.heap.size wc w7) := Lib.hid (B6.out.trans (b7.mono B6.out.size)); clear b7)
              refine hK.out _ _ (KS.out _ B7.out) (fun hHeld7 => ?_)
              clear hK K
              refine wpAnyH_ready (rs := [62]) (by kernel_rfl) (by simp) ?_
              refine AllReadyH.cons rfl (fun K hK => ?_) (AllReadyH.nil)
              go_simp
              go_wp2_with (go_at_call 27; (with_reducible refine (HQt.out _ B7.out).mono ?_); rintro e w8 ⟨rfl, b8⟩; have B8 : Hid (Below wc.heap.size wc w8) := Lib.hid (B7.out.trans (b8.mono B7.out.size)); clear b8)
              refine hK.out _ _ (KS.out _ B8.out) (fun hHeld8 => ?_)
              clear hK K
              refine wpAnyH_take (i := 63) (v := ?_) rfl (by kernel_rfl) (by kernel_rfl) (by kernel_rfl) (fun _ _ _ h => h) (Or.inl ⟨by kernel_rfl, ?_⟩) (by assumption) ?_
              rotate_left 1
              · intro wz hSw
                try dsimp only at hSw
                go_simp <;> with_reducible rfl
              simp only [Act.put, List.setIfInBounds_toArray, List.set_cons_zero, List.set_cons_succ, List.getElem_toArray, List.getElem_cons_zero, List.getElem_cons_succ]
              refine wpAnyH_take (i := 64) (v := ?_) rfl (by kernel_rfl) (by kernel_rfl) (by kernel_rfl) (fun _ _ _ h => h) (Or.inl ⟨by kernel_rfl, ?_⟩) (by assumption) ?_
              rotate_left 1
              · intro wz hSw
                try dsimp only at hSw
                go_simp <;> with_reducible rfl
              simp only [Act.put, List.setIfInBounds_toArray, List.set_cons_zero, List.set_cons_succ, List.getElem_toArray, List.getElem_cons_zero, List.getElem_cons_succ]
              refine wpAnyH_take (i := 65) (v := ?_) rfl (by kernel_rfl) (by kernel_rfl) (by kernel_rfl) (fun _ _ _ h => h) (Or.inl ⟨by kernel_rfl, ?_⟩) (by assumption) ?_
              rotate_left 1
              · intro wz hSw
                try dsimp only at hSw
                go_simp <;> with_reducible rfl
              simp only [Act.put, List.setIfInBounds_toArray, List.set_cons_zero, List.set_cons_succ, List.getElem_toArray, List.getElem_cons_zero, List.getElem_cons_succ]
              refine wpAnyH_take (i := 66) (v := ?_) rfl (by kernel_rfl) (by kernel_rfl) (by kernel_rfl) (fun _ _ _ h => h) (Or.inl ⟨by kernel_rfl, ?_⟩) (by assumption) ?_
              rotate_left 1
              · intro wz hSw
                try dsimp only at hSw
                go_simp <;> with_reducible rfl
              simp only [Act.put, List.setIfInBounds_toArray, List.set_cons_zero, List.set_cons_succ, List.getElem_toArray, List.getElem_cons_zero, List.getElem_cons_succ]
              refine wpAnyH_take (i := 68) (v := ?_) rfl (by kernel_rfl) (by kernel_rfl) (by kernel_rfl) (fun _ _ _ h => h) (Or.inl ⟨by kernel_rfl, ?_⟩) (by assumption) ?_
              rotate_left 1
              · intro wz hSw
                try dsimp only at hSw
                go_simp <;> with_reducible rfl
              simp only [Act.put, List.setIfInBounds_toArray, List.set_cons_zero, List.set_cons_succ, List.getElem_toArray, List.getElem_cons_zero, List.getElem_cons_succ]
              refine wpAnyH_ready (rs := [67]) (by kernel_rfl) (by simp) ?_
              refine AllReadyH.cons rfl (fun K hK => ?_) (AllReadyH.nil)
              go_simp
              go_wp2_with (go_at_call 26; (with_reducible refine (HRf.out _ B8.out).mono ?_); rintro e w9 ⟨rfl, b9⟩; have B9 : Hid (Below wc.heap.size wc w9) := Lib.hid (B8.out.trans (b9.mono B8.out.size)); clear b9)
              refine hK.out _ _ (KS.out _ B9.out) (fun hHeld9 => ?_)
              clear hK K
              refine wpAnyH_ready (rs := [69]) (by kernel_rfl) (by simp) ?_
              refine AllReadyH.cons rfl (fun K hK => ?_) (AllReadyH.nil)
              go_simp
              go_wp2_with (go_at_call 27; (with_reducible refine (HQf.out _ B9.out).mono ?_); rintro e wa ⟨rfl, ba⟩; have BA : Hid (Below wc.heap.size wc wa) := Lib.hid (B9.out.trans (ba.mono B9.out.size)); clear ba)
              refine hK.out _ _ (KS.out _ BA.out) (fun hHeld10 => ?_)
              clear hK K
              refine wpAnyH_take (i := 70) (v := ?_) rfl (by kernel_rfl) (by kernel_rfl) (by kernel_rfl) (fun _ _ _ h => h) (Or.inl ⟨by kernel_rfl, ?_⟩) (by assumption) ?_
              rotate_left 1
              · intro wz hSw
                try dsimp only at hSw
                go_simp <;> with_reducible rfl
              simp only [Act.put, List.setIfInBounds_toArray, List.set_cons_zero, List.set_cons_succ, List.getElem_toArray, List.getElem_cons_zero, List.getElem_cons_succ]
              refine wpAnyH_take (i := 71) (v := ?_) rfl (by kernel_rfl) (by kernel_rfl) (by kernel_rfl) (fun _ _ _ h => h) (Or.inl ⟨by kernel_rfl, ?_⟩) (by assumption) ?_
              rotate_left 1
              · intro wz hSw
                try dsimp only at hSw
                go_simp <;> with_reducible rfl
              simp only [Act.put, List.setIfInBounds_toArray, List.set_cons_zero, List.set_cons_succ, List.getElem_toArray, List.getElem_cons_zero, List.getElem_cons_succ]
              refine wpAnyH_done (by kernel_rfl) ?_ _
              go_wp2
              go_roundw
              case rel => exact ⟨k + 1, p', r', _, by omega, rfl, by go_num, HPl.out.below BA.out⟩
              case measure => simp [intOf]; omega
          · as_aux_lemma =>
              have e0 : ((R : Int) == 0) = false := beq_eq_false_iff_ne.2 (by omega)
              have hg : ((R : Int) == 0 && (U : Int) == 0) = false := by rw [e0, Bool.false_and]
              clear hR
              have HG := Lib.hid (fun W (hb : Below wc.heap.size wc W) => (show Calls Try.prog 25 #[.pointer (some ⟨p', 0, none⟩)] W fun e w' => e = .returned (.bool false) ∧ W = w' from by have := hG W hb; rw [hg] at this; exact this))
              clear hG hg
              refine wpAnyH_take (i := 48) (v := ?_) rfl (by kernel_rfl) (by kernel_rfl) (by kernel_rfl) (fun _ _ _ h => h) (Or.inl ⟨by kernel_rfl, ?_⟩) (by assumption) ?_
              rotate_left 1
              · intro wz hSw
                try dsimp only at hSw
                go_simp <;> with_reducible rfl
              simp only [Act.put, List.setIfInBounds_toArray, List.set_cons_zero, List.set_cons_succ, List.getElem_toArray, List.getElem_cons_zero, List.getElem_cons_succ]
              refine wpAnyH_ready (rs := [43]) (by kernel_rfl) (by simp) ?_
              refine AllReadyH.cons rfl (fun K hK => ?_) (AllReadyH.nil)
              go_simp
              go_wp2_with (go_at_call 25; (with_reducible refine (HG.out _ B6.out).mono ?_); rintro e wx ⟨rfl, rfl⟩)
              refine hK.out _ _ (KS.out _ B6.out) (fun hHeld6 => ?_)
              clear hK K
              refine wpAnyH_take (i := 49) (v := ?_) rfl (by kernel_rfl) (by kernel_rfl) (by kernel_rfl) (fun _ _ _ h => h) (Or.inl ⟨by kernel_rfl, ?_⟩) (by assumption) ?_
              rotate_left 1
              · intro wz hSw
                try dsimp only at hSw
                go_simp <;> with_reducible rfl
              simp only [Act.put, List.setIfInBounds_toArray, List.set_cons_zero, List.set_cons_succ, List.getElem_toArray, List.getElem_cons_zero, List.getElem_cons_succ]
              refine wpAnyH_take (i := 50) (v := undef) rfl (by kernel_rfl) (by kernel_rfl) (by kernel_rfl) (fun _ _ _ h => h) (Or.inr ⟨by kernel_rfl, rfl⟩) (by assumption) ?_
              simp only [Act.put, List.setIfInBounds_toArray, List.set_cons_zero, List.set_cons_succ, List.getElem_toArray, List.getElem_cons_zero, List.getElem_cons_succ]
              refine wpAnyH_take (i := 51) (v := undef) rfl (by kernel_rfl) (by kernel_rfl) (by kernel_rfl) (fun _ _ _ h => h) (Or.inr ⟨by kernel_rfl, rfl⟩) (by assumption) ?_
              simp only [Act.put, List.setIfInBounds_toArray, List.set_cons_zero, List.set_cons_succ, List.getElem_toArray, List.getElem_cons_zero, List.getElem_cons_succ]
              refine wpAnyH_take (i := 52) (v := undef) rfl (by kernel_rfl) (by kernel_rfl) (by kernel_rfl) (fun _ _ _ h => h) (Or.inr ⟨by kernel_rfl, rfl⟩) (by assumption) ?_
              simp only [Act.put, List.setIfInBounds_toArray, List.set_cons_zero, List.set_cons_succ, List.getElem_toArray, List.getElem_cons_zero, List.getElem_cons_succ]
              refine wpAnyH_take (i := 53) (v := undef) rfl (by kernel_rfl) (by kernel_rfl) (by kernel_rfl) (fun _ _ _ h => h) (Or.inr ⟨by kernel_rfl, rfl⟩) (by assumption) ?_
              simp only [Act.put, List.setIfInBounds_toArray, List.set_cons_zero, List.set_cons_succ, List.getElem_toArray, List.getElem_cons_zero, List.getElem_cons_succ]
              refine wpAnyH_take (i := 54) (v := undef) rfl (by kernel_rfl) (by kernel_rfl) (by kernel_rfl) (fun _ _ _ h => h) (Or.inr ⟨by kernel_rfl, rfl⟩) (by assumption) ?_
              simp only [Act.put, List.setIfInBounds_toArray, List.set_cons_zero, List.set_cons_succ, List.getElem_toArray, List.getElem_cons_zero, List.getElem_cons_succ]
              refine wpAnyH_take (i := 55) (v := ?_) rfl (by kernel_rfl) (by kernel_rfl) (by kernel_rfl) (fun _ _ _ h => h) (Or.inl ⟨by kernel_rfl, ?_⟩) (by assumption) ?_
              rotate_left 1
              · intro wz hSw
                try dsimp only at hSw
                go_simp <;> with_reducible rfl
              simp only [Act.put, List.setIfInBounds_toArray, List.set_cons_zero, List.set_cons_succ, List.getElem_toArray, List.getElem_cons_zero, List.getElem_cons_succ]
              refine wpAnyH_take (i := 56) (v := ?_) rfl (by kernel_rfl) (by kernel_rfl) (by kernel_rfl) (fun _ _ _ h => h) (Or.inl ⟨by kernel_rfl, ?_⟩) (by assumption) ?_
              rotate_left 1
              · intro wz hSw
                try dsimp only at hSw
                go_simp <;> with_reducible rfl
              simp only [Act.put, List.setIfInBounds_toArray, List.set_cons_zero, List.set_cons_succ, List.getElem_toArray, List.getElem_cons_zero, List.getElem_cons_succ]
              refine wpAnyH_take (i := 57) (v := ?_) rfl (by kernel_rfl) (by kernel_rfl) (by kernel_rfl) (fun _ _ _ h => h) (Or.inl ⟨by kernel_rfl, ?_⟩) (by assumption) ?_
              rotate_left 1
              · intro wz hSw
                try dsimp only at hSw
                go_simp <;> with_reducible rfl
              simp only [Act.put, List.setIfInBounds_toArray, List.set_cons_zero, List.set_cons_succ, List.getElem_toArray, List.getElem_cons_zero, List.getElem_cons_succ]
              refine wpAnyH_take (i := 58) (v := ?_) rfl (by kernel_rfl) (by kernel_rfl) (by kernel_rfl) (fun _ _ _ h => h) (Or.inl ⟨by kernel_rfl, ?_⟩) (by assumption) ?_
              rotate_left 1
              · intro wz hSw
                try dsimp only at hSw
                go_simp <;> with_reducible rfl
              simp only [Act.put, List.setIfInBounds_toArray, List.set_cons_zero, List.set_cons_succ, List.getElem_toArray, List.getElem_cons_zero, List.getElem_cons_succ]
              refine wpAnyH_take (i := 59) (v := ?_) rfl (by kernel_rfl) (by kernel_rfl) (by kernel_rfl) (fun _ _ _ h => h) (Or.inl ⟨by kernel_rfl, ?_⟩) (by assumption) ?_
              rotate_left 1
              · intro wz hSw
                try dsimp only at hSw
                go_simp <;> with_reducible rfl
              simp only [Act.put, List.setIfInBounds_toArray, List.set_cons_zero, List.set_cons_succ, List.getElem_toArray, List.getElem_cons_zero, List.getElem_cons_succ]
              refine wpAnyH_take (i := 61) (v := ?_) rfl (by kernel_rfl) (by kernel_rfl) (by kernel_rfl) (fun _ _ _ h => h) (Or.inl ⟨by kernel_rfl, ?_⟩) (by assumption) ?_
              rotate_left 1
              · intro wz hSw
                try dsimp only at hSw
                go_simp <;> with_reducible rfl
              simp only [Act.put, List.setIfInBounds_toArray, List.set_cons_zero, List.set_cons_succ, List.getElem_toArray, List.getElem_cons_zero, List.getElem_cons_succ]
              refine wpAnyH_ready (rs := [60]) (by kernel_rfl) (by simp) ?_
              refine AllReadyH.cons rfl (fun K hK => ?_) (AllReadyH.nil)
              go_simp
              go_wp2_with (go_at_call 26; (with_reducible refine (HRt.out _ B6.out).mono ?_); rintro e w7 ⟨rfl, b7⟩; have B7 : Hid (Below wc.heap.size wc w7) := Lib.hid (B6.out.trans (b7.mono B6.out.size)); clear b7)
              refine hK.out _ _ (KS.out _ B7.out) (fun hHeld7 => ?_)
              clear hK K
              refine wpAnyH_ready (rs := [62]) (by kernel_rfl) (by simp) ?_
              refine AllReadyH.cons rfl (fun K hK => ?_) (AllReadyH.nil)
              go_simp
              go_wp2_with (go_at_call 27; (with_reducible refine (HQt.out _ B7.out).mono ?_); rintro e w8 ⟨rfl, b8⟩; have B8 : Hid (Below wc.heap.size wc w8) := Lib.hid (B7.out.trans (b8.mono B7.out.size)); clear b8)
              refine hK.out _ _ (KS.out _ B8.out) (fun hHeld8 => ?_)
              clear hK K
              refine wpAnyH_take (i := 63) (v := ?_) rfl (by kernel_rfl) (by kernel_rfl) (by kernel_rfl) (fun _ _ _ h => h) (Or.inl ⟨by kernel_rfl, ?_⟩) (by assumption) ?_
              rotate_left 1
              · intro wz hSw
                try dsimp only at hSw
                go_simp <;> with_reducible rfl
              simp only [Act.put, List.setIfInBounds_toArray, List.set_cons_zero, List.set_cons_succ, List.getElem_toArray, List.getElem_cons_zero, List.getElem_cons_succ]
              refine wpAnyH_take (i := 64) (v := ?_) rfl (by kernel_rfl) (by kernel_rfl) (by kernel_rfl) (fun _ _ _ h => h) (Or.inl ⟨by kernel_rfl, ?_⟩) (by assumption) ?_
              rotate_left 1
              · intro wz hSw
                try dsimp only at hSw
                go_simp <;> with_reducible rfl
              simp only [Act.put, List.setIfInBounds_toArray, List.set_cons_zero, List.set_cons_succ, List.getElem_toArray, List.getElem_cons_zero, List.getElem_cons_succ]
              refine wpAnyH_take (i := 65) (v := ?_) rfl (by kernel_rfl) (by kernel_rfl) (by kernel_rfl) (fun _ _ _ h => h) (Or.inl ⟨by kernel_rfl, ?_⟩) (by assumption) ?_
              rotate_left 1
              · intro wz hSw
                try dsimp only at hSw
                go_simp <;> with_reducible rfl
              simp only [Act.put, List.setIfInBounds_toArray, List.set_cons_zero, List.set_cons_succ, List.getElem_toArray, List.getElem_cons_zero, List.getElem_cons_succ]
              refine wpAnyH_take (i := 66) (v := ?_) rfl (by kernel_rfl) (by kernel_rfl) (by kernel_rfl) (fun _ _ _ h => h) (Or.inl ⟨by kernel_rfl, ?_⟩) (by assumption) ?_
              rotate_left 1
              · intro wz hSw
                try dsimp only at hSw
                go_simp <;> with_reducible rfl
              simp only [Act.put, List.setIfInBounds_toArray, List.set_cons_zero, List.set_cons_succ, List.getElem_toArray, List.getElem_cons_zero, List.getElem_cons_succ]
              refine wpAnyH_take (i := 68) (v := ?_) rfl (by kernel_rfl) (by kernel_rfl) (by kernel_rfl) (fun _ _ _ h => h) (Or.inl ⟨by kernel_rfl, ?_⟩) (by assumption) ?_
              rotate_left 1
              · intro wz hSw
                try dsimp only at hSw
                go_simp <;> with_reducible rfl
              simp only [Act.put, List.setIfInBounds_toArray, List.set_cons_zero, List.set_cons_succ, List.getElem_toArray, List.getElem_cons_zero, List.getElem_cons_succ]
              refine wpAnyH_ready (rs := [67]) (by kernel_rfl) (by simp) ?_
              refine AllReadyH.cons rfl (fun K hK => ?_) (AllReadyH.nil)
              go_simp
              go_wp2_with (go_at_call 26; (with_reducible refine (HRf.out _ B8.out).mono ?_); rintro e w9 ⟨rfl, b9⟩; have B9 : Hid (Below wc.heap.size wc w9) := Lib.hid (B8.out.trans (b9.mono B8.out.size)); clear b9)
              refine hK.out _ _ (KS.out _ B9.out) (fun hHeld9 => ?_)
              clear hK K
              refine wpAnyH_ready (rs := [69]) (by kernel_rfl) (by simp) ?_
              refine AllReadyH.cons rfl (fun K hK => ?_) (AllReadyH.nil)
              go_simp
              go_wp2_with (go_at_call 27; (with_reducible refine (HQf.out _ B9.out).mono ?_); rintro e wa ⟨rfl, ba⟩; have BA : Hid (Below wc.heap.size wc wa) := Lib.hid (B9.out.trans (ba.mono B9.out.size)); clear ba)
              refine hK.out _ _ (KS.out _ BA.out) (fun hHeld10 => ?_)
              clear hK K
              refine wpAnyH_take (i := 70) (v := ?_) rfl (by kernel_rfl) (by kernel_rfl) (by kernel_rfl) (fun _ _ _ h => h) (Or.inl ⟨by kernel_rfl, ?_⟩) (by assumption) ?_
              rotate_left 1
              · intro wz hSw
                try dsimp only at hSw
                go_simp <;> with_reducible rfl
              simp only [Act.put, List.setIfInBounds_toArray, List.set_cons_zero, List.set_cons_succ, List.getElem_toArray, List.getElem_cons_zero, List.getElem_cons_succ]
              refine wpAnyH_take (i := 71) (v := ?_) rfl (by kernel_rfl) (by kernel_rfl) (by kernel_rfl) (fun _ _ _ h => h) (Or.inl ⟨by kernel_rfl, ?_⟩) (by assumption) ?_
              rotate_left 1
              · intro wz hSw
                try dsimp only at hSw
                go_simp <;> with_reducible rfl
              simp only [Act.put, List.setIfInBounds_toArray, List.set_cons_zero, List.set_cons_succ, List.getElem_toArray, List.getElem_cons_zero, List.getElem_cons_succ]
              refine wpAnyH_done (by kernel_rfl) ?_ _
              go_wp2
              go_roundw
              case rel => exact ⟨k + 1, p', r', _, by omega, rfl, by go_num, HPl.out.below BA.out⟩
              case measure => simp [intOf]; omega
    · obtain rfl : k = l.length := by omega
      have HE := Lib.hid hP.one.bel
      clear hP HO D1 HF
      go_wp2
      go_ret
      exact ⟨rfl, HB.out.trans (HE.out.mono HB.out.size)⟩
end Go.Proofs.Ytfpdbcjnhgddoaa.Pyp
