/-
  Clone: a space with the same entries, over the same frames.
-/
import Derived.Test.YtjoapeeljigjcaaDr
import Derived.BigQuiet
namespace Go.Proofs.Ytjoapeeljigjcaa.Cl
open Go Go.RowKit Go.Shelf Kit Bk
open Fm hiding Mem made_any len_any
open Fo Fr Fw Fx Fu Fq
open Tm hiding Mem
open Ts Tc Ti Tl Sp Sa To Mp Rd
set_option linter.unusedVariables false

/-- An entry, in a page that is cloned. -/
def cow (x : En) : En := ⟨x.f, x.w, x.s, x.c || (x.w && !x.s), x.d⟩
def cl1 (s : Sx) (k : Nat) (x : En) : Sx := ⟨up s.R x.f.toNat (s.R x.f.toNat + 1), s.B, up s.T k (some (cow x))⟩
def cls (s : Sx) (l : List (Nat × En)) (j : Nat) : Sx := (l.take j).foldl (fun s x => cl1 s x.1 x.2) s
theorem cls_succ (s : Sx) (l : List (Nat × En)) (j : Nat) (h : j < l.length) : cls s l (j + 1) = cl1 (cls s l j) l[j].1 l[j].2 := by
  unfold cls
  rw [List.take_succ_eq_append_getElem h, List.foldl_append]
  rfl
def clOk (n : Nat) (s : Sx) (l : List (Nat × En)) : Prop := ∀ j (h : j < l.length), l[j].1 < 64 ∧ may (cow l[j].2) = true ∧ ∃ f : Nat, l[j].2.f = (f : Int) ∧ f < n ∧ (cls s l j).R f ≠ 0 ∧ (cls s l j).R f < 1000

set_option maxRecDepth 100000 in
set_option maxHeartbeats 4000000 in
theorem clone_is (w : World) (q p t b n : Nat) (s : Sx) (h : Sp w q p t) (hF : Fm.Mem w p b n s.R s.B) (hT : Tm.Mem w t s.T) (l : List (Nat × En)) (hl : ents s.T 64 = l) (hok : clOk n s l) :
    Calls Try.prog 10 #[.pointer (some ⟨q, 0, none⟩)] w fun e w' => ∃ q' t', e = .returned (.pointer (some ⟨q', 0, none⟩)) ∧ w.heap.size ≤ q' ∧ w.heap.size ≤ t' ∧ Sp w' q' p t' ∧ Fm.Mem w' p b n (cls s l l.length).R (cls s l l.length).B ∧ Tm.Mem w' t (cls s l l.length).T ∧ Tm.Mem w' t' (cls s l l.length).T ∧ Kp (fun j => j = b ∨ j = t) w w' := by
  have HNE := Lib.hid (apart h hF hT)
  have hll := ents_len s.T 64
  rw [hl] at hll
  have HM := Lib.hid (made_any w q p t h)
  have hlist := Tl.list_any w (some ⟨t, 0, none⟩) s.T (gets_mem hT hT.lt)
  rw [hl] at hlist
  have HLI : Hid (Calls Try.prog 25 #[.pointer (some ⟨t, 0, none⟩)] w fun e w' => ∃ r, e = .returned r ∧ Below w.heap.size w w' ∧ Rd w' 70 r 6 l.length (mcells l)) := Lib.hid (hlist.mono fun e w' ⟨h1, r, h2, h3⟩ => ⟨r, h2, h1, Rd.of_own h3⟩)
  have H := Lib.hid (And.intro h (And.intro hF hT))
  have HLT := Lib.hid (And.intro hF.lt hT.lt)
  obtain ⟨L, hL⟩ : ∃ L, l.length = L := ⟨_, rfl⟩
  rw [hL] at HLI hll ⊢
  have HL := Lib.hid hL
  have c1 := Blk.cell h 1
  clear hlist h hF hT hL
  go_enter Try.func10, Try.ntmps10
  go_wp2_with (first | (go_at_call 20; (with_reducible refine HM.out.mono ?_); rintro e w1 ⟨rfl, rfl⟩) | (go_at_call 25; (with_reducible refine HLI.out.mono ?_); rintro e w1 ⟨r, rfl, hb1, hr1⟩; obtain ⟨ad, cap, rfl⟩ : ∃ ad cap, r = .slice ad L cap := (by obtain ⟨_, ad, cap, h1, _⟩ := hr1; exact ⟨ad, cap, h1⟩); have H1 := Lib.hid (And.intro hb1 hr1); clear hb1 hr1))
  clear c1 HM
  go_loopw [15] (fun i wr => ∃ j : Nat, j ≤ L ∧ i = .int .i64 (j : Int) ∧ Fm.Mem wr p b n (cls s l j).R (cls s l j).B ∧ Tm.Mem wr t (cls s l j).T ∧ Kp (fun j => j = b ∨ j = t) w wr ∧ Rd wr 70 (.slice ad L cap) 6 L (mcells l)) (fun i _ => L - (intOf i).toNat)
  case atStart => exact ⟨0, Nat.zero_le _, rfl, H.out.2.1.below H1.out.1, H.out.2.2.below H1.out.1, Kp.of_below H1.out.1, H1.out.2⟩
  case round =>
    obtain ⟨j, hj, rfl, hFr, hTr, hkp, hrd⟩ := hrel
    by_cases hlt : j < L
    · have hlt2 : j < l.length := by rw [HL.out]; exact hlt
      obtain ⟨hk64, hmay, f, hf1, hf2, hf3, hf4⟩ := hok j hlt2
      have hsp := Sp.kept H.out.1 hkp (fun e => e.elim HNE.out.2.2.1 HNE.out.2.2.2.1)
      have hst := cls_succ s l j hlt2
      obtain ⟨k, e, hke⟩ : ∃ k e, l[j] = (k, e) := ⟨_, _, rfl⟩
      rw [hke] at hk64 hmay hf1 hst
      dsimp only at hk64 hmay hf1 hst
      obtain ⟨gl, cap', hv, hc1, hc2, d0, d1, d2, d3, d4, d5⟩ := Rd.at_ (by rw [HL.out]; exact hrd) hlt2 hke
      obtain ⟨ef, ew, es, ec, ed⟩ := e
      dsimp only at d1 d2 d3 d4 d5 hf1
      subst hf1
      rw [HL.out] at hv hc1
      cases hv
      have hjm : (j : Int) < (L : Int) := by omega
      obtain ⟨s', hs'⟩ : ∃ s', cls s l (j + 1) = s' := ⟨_, rfl⟩
      rw [hs'] at hst
      obtain ⟨s0, hs0⟩ : ∃ s0, cls s l j = s0 := ⟨_, rfl⟩
      rw [hs0] at hFr hTr hst hf3 hf4
      have HS : Hid (cls s l (j + 1) = s' ∧ s' = ⟨up s0.R f (s0.R f + 1), s0.B, up s0.T k (some (cow ⟨(f : Int), ew, es, ec, ed⟩))⟩) := Lib.hid ⟨hs', hst⟩
      have HMAY := Lib.hid hmay
      have HK64 := Lib.hid hk64
      have HF := Lib.hid (And.intro hf2 (And.intro hf3 hf4))
      have H0 := Lib.hid (And.intro hkp hrd)
      have H7 := Lib.hid (And.intro hFr hTr)
      obtain ⟨W, hW⟩ : ∃ W, (wr.alloc (.cells #[.int .i64 (k : Int), .int .i64 (f : Int), .bool ew, .bool es, .bool ec, .bool ed] 70)).alloc (.cells #[.int .i64 (f : Int), .bool ew, .bool es, .bool ec, .bool ed] 53) = W := ⟨_, rfl⟩
      have hbw : Below wr.heap.size wr W := by rw [← hW]; exact ((Below.refl _ _).alloc (Nat.le_refl _) _).alloc (by simp) _
      obtain ⟨gm, hgm⟩ : ∃ gm, wr.heap.size = gm := ⟨_, rfl⟩
      obtain ⟨g, hg⟩ : ∃ g, gm + 1 = g := ⟨_, rfl⟩
      have hme : Blk W gm #[.int .i64 (k : Int), .int .i64 (f : Int), .bool ew, .bool es, .bool ec, .bool ed] 70 := by
        rw [← hW, ← hgm]
        exact (Blk.new wr _ _).kept (.alloc (fun _ => False) _ _) (fun e => e)
      have hxe : Blk W g #[.int .i64 (f : Int), .bool ew, .bool es, .bool ec, .bool ed] 53 := by
        rw [← hW, ← hg, ← hgm]
        have := Blk.new (wr.alloc (.cells #[.int .i64 (k : Int), .int .i64 (f : Int), .bool ew, .bool es, .bool ec, .bool ed] 70)) #[.int .i64 (f : Int), .bool ew, .bool es, .bool ec, .bool ed] 53
        rwa [World.size_alloc] at this
      have HBW := Lib.hid hbw
      have HGS : Hid (wr.heap.size ≤ g) := Lib.hid (by omega)
      have hsw := Sp.below hsp hbw
      have hFw := hFr.below hbw
      have hTw := hTr.below hbw
      have NG : Hid (¬ gm = g ∧ ¬ q = g ∧ ¬ p = g ∧ ¬ b = g ∧ ¬ t = g) := Lib.hid (by
        have h1 := hFr.lt
        have h2 := hTr.lt
        have h3 : q < wr.heap.size := Blk.lt hsp
        omega)
      have NT : Hid (¬ gm = t) := Lib.hid (by have h2 := hTr.lt; omega)
      clear hst hs' hs0 hsp hFr hTr hkp hok hmay hk64 hf2 hf3 hf4 hrd hke hlt2 hbw
      cases ec with
      | true =>
        have HCW : Hid (cow ⟨(f : Int), ew, es, true, ed⟩ = ⟨(f : Int), ew, es, true, ed⟩) := Lib.hid rfl
        have e1 := hxe.cell 1
        have e2 := hxe.cell 2
        have e3 := hxe.cell 3
        have e4 := hxe.cell 4
        have e5 := hme.cell 0
        have y3 := hxe.free 3
        go_wp2
        clear hW hg hgm
        have hxs : Blk (W.setCell ⟨g, 3, none⟩ (.bool true)) g #[.int .i64 (f : Int), .bool ew, .bool es, .bool true, .bool ed] 53 := by
          have := hxe.set 3 (.bool true)
          simpa using this
        have hk1 : Kp (fun j => j = g) W (W.setCell ⟨g, 3, none⟩ (.bool true)) := Kp.set _ _ _ _ rfl
        have hms : Blk (W.setCell ⟨g, 3, none⟩ (.bool true)) gm _ 70 := hme.kept hk1 NG.out.1
        have hss : Sp (W.setCell ⟨g, 3, none⟩ (.bool true)) q p t := Sp.kept hsw hk1 NG.out.2.1
        have hFs : Fm.Mem (W.setCell ⟨g, 3, none⟩ (.bool true)) p b n s0.R s0.B := hFw.kept hk1 NG.out.2.2.1 NG.out.2.2.2.1
        have hTs : Tm.Mem (W.setCell ⟨g, 3, none⟩ (.bool true)) t s0.T := hTw.kept hk1 NG.out.2.2.2.2
        have hcow : cow ⟨(f : Int), ew, es, true, ed⟩ = ⟨(f : Int), ew, es, true, ed⟩ := HCW.out
        clear e1 e2 e3 e4 e5 y3
        generalize W.setCell ⟨g, 3, none⟩ (.bool true) = Y at hxs hk1 hms hss hFs hTs ⊢
        have s1 := Blk.cell hss 1
        have m0 := hms.cell 0
        have e0 := hxs.cell 0
        have e1 := hxs.cell 1
        have e2 := hxs.cell 2
        have e3 := hxs.cell 3
        have e4 := hxs.cell 4
        have HSE := Lib.hid (set_in Y.drew t s0.T (hTs.drew) k ⟨(f : Int), ew, es, true, ed⟩ HK64.out (by rw [← hcow]; exact HMAY.out))
        have HY := Lib.hid (And.intro hxs (And.intro hms (And.intro hss (And.intro hFs hk1))))
        clear hxs hms hss hFs hTs hk1 hsw hFw hTw hxe hme hcow
        go_region_held (fun W' => W'.cell? ⟨q, 1, none⟩ = some (.pointer (some ⟨t, 0, none⟩)) ∧ W'.cell? ⟨gm, 0, none⟩ = some (.int .i64 (k : Int)) ∧ W'.cell? ⟨g, 0, none⟩ = some (.int .i64 (f : Int)) ∧ W'.cell? ⟨g, 1, none⟩ = some (.bool ew) ∧ W'.cell? ⟨g, 2, none⟩ = some (.bool es) ∧ W'.cell? ⟨g, 3, none⟩ = some (.bool true) ∧ W'.cell? ⟨g, 4, none⟩ = some (.bool ed)) (first | exact ⟨s1, m0, e0, e1, e2, e3, e4⟩ | exact K5.out) (first | (go_at_call 24; (with_reducible refine HSE.out.mono ?_); rintro e w5 ⟨rfl, hk5, hT5⟩; have hk6 := (Kp.refl (fun j => j = t) Y).drew.trans hk5 (fun _ h => .inl h); have hx5 := HY.out.1.kept hk6 (fun e => NG.out.2.2.2.2 e.symm); have hs5 := Sp.kept HY.out.2.2.1 hk6 HNE.out.2.2.2.1; have hm5 := HY.out.2.1.kept hk6 NT.out; have K5 := Lib.hid (And.intro (Blk.cell hs5 1) (And.intro (hm5.cell 0) (And.intro (hx5.cell 0) (And.intro (hx5.cell 1) (And.intro (hx5.cell 2) (And.intro (hx5.cell 3) (hx5.cell 4))))))); have i0 := hx5.cell 0; have d0 := Blk.cell hs5 0; have H5 := Lib.hid (And.intro hk6 (And.intro hT5 (And.intro hx5 (And.intro hs5 (HY.out.2.2.2.1.kept hk6 HNE.out.2.1 HNE.out.2.2.2.2))))); clear hx5 hs5 hm5 hk5 hT5 hk6))
        go_wp2
        have HSH := Lib.hid (share_is w5.drew p b n s0.R s0.B (H5.out.2.2.2.2.below (Below.refl _ _).drew) f HF.out.1 HF.out.2.1 HF.out.2.2)
        go_region_held (fun W' => W'.cell? ⟨q, 0, none⟩ = some (.pointer (some ⟨p, 0, none⟩)) ∧ W'.cell? ⟨g, 0, none⟩ = some (.int .i64 (f : Int))) (first | exact ⟨d0, i0⟩ | exact K6.out) (first | (go_at_call 26; (with_reducible refine HSH.out.mono ?_); rintro e w6 ⟨rfl, hF6, hk6⟩; have hk7 := (Kp.refl (fun j => j = b) w5).drew.trans hk6 (fun _ h => .inl h); have K6 := Lib.hid (And.intro (Blk.cell (Sp.kept H5.out.2.2.2.1 hk7 HNE.out.2.2.1) 0) ((H5.out.2.2.1.kept hk7 (fun e => NG.out.2.2.2.1 e.symm)).cell 0)); have H6 := Lib.hid (And.intro hF6 (And.intro hk7 (H5.out.2.1.kept hk7 (fun e => HNE.out.2.2.2.2 e.symm)))); clear hF6 hk6 hk7))
        go_wp2
        have hkA : Kp (fun j => j = b ∨ j = t) wr w6 := (((Kp.of_below HBW.out).trans (S' := fun j => j = g) HY.out.2.2.2.2 (fun j hj => .inr (by have := HGS.out; omega))).trans H5.out.1 (fun j hj => .inl (.inr hj))).trans H6.out.2.1 (fun j hj => .inl (.inl hj))
        go_roundw
        case rel => exact ⟨j + 1, by omega, by go_num, by rw [HS.out.1, HS.out.2]; exact H6.out.1, by rw [HS.out.1, HS.out.2, HCW.out]; exact H6.out.2.2, H0.out.1.trans hkA (fun j hj => .inl hj), H0.out.2.kept hkA (fun g' cs hg' e => by
          rcases e with rfl | rfl
          · obtain ⟨_, ⟨ds, h3, _⟩, _⟩ := H7.out.1
            exact (hg'.ne h3 (by decide)) rfl
          · obtain ⟨⟨ds, h3, _⟩, _⟩ := H7.out.2
            exact (hg'.ne h3 (by decide)) rfl)⟩
        case measure => simp [intOf]; omega
      | false =>
        cases ew with
        | false =>
          have HCW : Hid (cow ⟨(f : Int), false, es, false, ed⟩ = ⟨(f : Int), false, es, false, ed⟩) := Lib.hid rfl
          have e1 := hxe.cell 1
          have e2 := hxe.cell 2
          have e3 := hxe.cell 3
          have e4 := hxe.cell 4
          have e5 := hme.cell 0
          have y3 := hxe.free 3
          go_wp2
          clear hW hg hgm
          have hxs : Blk (W.setCell ⟨g, 3, none⟩ (.bool false)) g #[.int .i64 (f : Int), .bool false, .bool es, .bool false, .bool ed] 53 := by
            have := hxe.set 3 (.bool false)
            simpa using this
          have hk1 : Kp (fun j => j = g) W (W.setCell ⟨g, 3, none⟩ (.bool false)) := Kp.set _ _ _ _ rfl
          have hms : Blk (W.setCell ⟨g, 3, none⟩ (.bool false)) gm _ 70 := hme.kept hk1 NG.out.1
          have hss : Sp (W.setCell ⟨g, 3, none⟩ (.bool false)) q p t := Sp.kept hsw hk1 NG.out.2.1
          have hFs : Fm.Mem (W.setCell ⟨g, 3, none⟩ (.bool false)) p b n s0.R s0.B := hFw.kept hk1 NG.out.2.2.1 NG.out.2.2.2.1
          have hTs : Tm.Mem (W.setCell ⟨g, 3, none⟩ (.bool false)) t s0.T := hTw.kept hk1 NG.out.2.2.2.2
          have hcow : cow ⟨(f : Int), false, es, false, ed⟩ = ⟨(f : Int), false, es, false, ed⟩ := HCW.out
          clear e1 e2 e3 e4 e5 y3
          generalize W.setCell ⟨g, 3, none⟩ (.bool false) = Y at hxs hk1 hms hss hFs hTs ⊢
          have s1 := Blk.cell hss 1
          have m0 := hms.cell 0
          have e0 := hxs.cell 0
          have e1 := hxs.cell 1
          have e2 := hxs.cell 2
          have e3 := hxs.cell 3
          have e4 := hxs.cell 4
          have HSE := Lib.hid (set_in Y.drew t s0.T (hTs.drew) k ⟨(f : Int), false, es, false, ed⟩ HK64.out (by rw [← hcow]; exact HMAY.out))
          have HY := Lib.hid (And.intro hxs (And.intro hms (And.intro hss (And.intro hFs hk1))))
          clear hxs hms hss hFs hTs hk1 hsw hFw hTw hxe hme hcow
          go_region_held (fun W' => W'.cell? ⟨q, 1, none⟩ = some (.pointer (some ⟨t, 0, none⟩)) ∧ W'.cell? ⟨gm, 0, none⟩ = some (.int .i64 (k : Int)) ∧ W'.cell? ⟨g, 0, none⟩ = some (.int .i64 (f : Int)) ∧ W'.cell? ⟨g, 1, none⟩ = some (.bool false) ∧ W'.cell? ⟨g, 2, none⟩ = some (.bool es) ∧ W'.cell? ⟨g, 3, none⟩ = some (.bool false) ∧ W'.cell? ⟨g, 4, none⟩ = some (.bool ed)) (first | exact ⟨s1, m0, e0, e1, e2, e3, e4⟩ | exact K5.out) (first | (go_at_call 24; (with_reducible refine HSE.out.mono ?_); rintro e w5 ⟨rfl, hk5, hT5⟩; have hk6 := (Kp.refl (fun j => j = t) Y).drew.trans hk5 (fun _ h => .inl h); have hx5 := HY.out.1.kept hk6 (fun e => NG.out.2.2.2.2 e.symm); have hs5 := Sp.kept HY.out.2.2.1 hk6 HNE.out.2.2.2.1; have hm5 := HY.out.2.1.kept hk6 NT.out; have K5 := Lib.hid (And.intro (Blk.cell hs5 1) (And.intro (hm5.cell 0) (And.intro (hx5.cell 0) (And.intro (hx5.cell 1) (And.intro (hx5.cell 2) (And.intro (hx5.cell 3) (hx5.cell 4))))))); have i0 := hx5.cell 0; have d0 := Blk.cell hs5 0; have H5 := Lib.hid (And.intro hk6 (And.intro hT5 (And.intro hx5 (And.intro hs5 (HY.out.2.2.2.1.kept hk6 HNE.out.2.1 HNE.out.2.2.2.2))))); clear hx5 hs5 hm5 hk5 hT5 hk6))
          go_wp2
          have HSH := Lib.hid (share_is w5.drew p b n s0.R s0.B (H5.out.2.2.2.2.below (Below.refl _ _).drew) f HF.out.1 HF.out.2.1 HF.out.2.2)
          go_region_held (fun W' => W'.cell? ⟨q, 0, none⟩ = some (.pointer (some ⟨p, 0, none⟩)) ∧ W'.cell? ⟨g, 0, none⟩ = some (.int .i64 (f : Int))) (first | exact ⟨d0, i0⟩ | exact K6.out) (first | (go_at_call 26; (with_reducible refine HSH.out.mono ?_); rintro e w6 ⟨rfl, hF6, hk6⟩; have hk7 := (Kp.refl (fun j => j = b) w5).drew.trans hk6 (fun _ h => .inl h); have K6 := Lib.hid (And.intro (Blk.cell (Sp.kept H5.out.2.2.2.1 hk7 HNE.out.2.2.1) 0) ((H5.out.2.2.1.kept hk7 (fun e => NG.out.2.2.2.1 e.symm)).cell 0)); have H6 := Lib.hid (And.intro hF6 (And.intro hk7 (H5.out.2.1.kept hk7 (fun e => HNE.out.2.2.2.2 e.symm)))); clear hF6 hk6 hk7))
          go_wp2
          have hkA : Kp (fun j => j = b ∨ j = t) wr w6 := (((Kp.of_below HBW.out).trans (S' := fun j => j = g) HY.out.2.2.2.2 (fun j hj => .inr (by have := HGS.out; omega))).trans H5.out.1 (fun j hj => .inl (.inr hj))).trans H6.out.2.1 (fun j hj => .inl (.inl hj))
          go_roundw
          case rel => exact ⟨j + 1, by omega, by go_num, by rw [HS.out.1, HS.out.2]; exact H6.out.1, by rw [HS.out.1, HS.out.2, HCW.out]; exact H6.out.2.2, H0.out.1.trans hkA (fun j hj => .inl hj), H0.out.2.kept hkA (fun g' cs hg' e => by
            rcases e with rfl | rfl
            · obtain ⟨_, ⟨ds, h3, _⟩, _⟩ := H7.out.1
              exact (hg'.ne h3 (by decide)) rfl
            · obtain ⟨⟨ds, h3, _⟩, _⟩ := H7.out.2
              exact (hg'.ne h3 (by decide)) rfl)⟩
          case measure => simp [intOf]; omega
        | true =>
          cases es with
          | false =>
            have HCW : Hid (cow ⟨(f : Int), true, false, false, ed⟩ = ⟨(f : Int), true, false, true, ed⟩) := Lib.hid rfl
            have e1 := hxe.cell 1
            have e2 := hxe.cell 2
            have e3 := hxe.cell 3
            have e4 := hxe.cell 4
            have e5 := hme.cell 0
            have y3 := hxe.free 3
            go_wp2
            clear hW hg hgm
            have hxs : Blk (W.setCell ⟨g, 3, none⟩ (.bool true)) g #[.int .i64 (f : Int), .bool true, .bool false, .bool true, .bool ed] 53 := by
              have := hxe.set 3 (.bool true)
              simpa using this
            have hk1 : Kp (fun j => j = g) W (W.setCell ⟨g, 3, none⟩ (.bool true)) := Kp.set _ _ _ _ rfl
            have hms : Blk (W.setCell ⟨g, 3, none⟩ (.bool true)) gm _ 70 := hme.kept hk1 NG.out.1
            have hss : Sp (W.setCell ⟨g, 3, none⟩ (.bool true)) q p t := Sp.kept hsw hk1 NG.out.2.1
            have hFs : Fm.Mem (W.setCell ⟨g, 3, none⟩ (.bool true)) p b n s0.R s0.B := hFw.kept hk1 NG.out.2.2.1 NG.out.2.2.2.1
            have hTs : Tm.Mem (W.setCell ⟨g, 3, none⟩ (.bool true)) t s0.T := hTw.kept hk1 NG.out.2.2.2.2
            have hcow : cow ⟨(f : Int), true, false, false, ed⟩ = ⟨(f : Int), true, false, true, ed⟩ := HCW.out
            clear e1 e2 e3 e4 e5 y3
            generalize W.setCell ⟨g, 3, none⟩ (.bool true) = Y at hxs hk1 hms hss hFs hTs ⊢
            have s1 := Blk.cell hss 1
            have m0 := hms.cell 0
            have e0 := hxs.cell 0
            have e1 := hxs.cell 1
            have e2 := hxs.cell 2
            have e3 := hxs.cell 3
            have e4 := hxs.cell 4
            have HSE := Lib.hid (set_in Y.drew t s0.T (hTs.drew) k ⟨(f : Int), true, false, true, ed⟩ HK64.out (by rw [← hcow]; exact HMAY.out))
            have HY := Lib.hid (And.intro hxs (And.intro hms (And.intro hss (And.intro hFs hk1))))
            clear hxs hms hss hFs hTs hk1 hsw hFw hTw hxe hme hcow
            go_region_held (fun W' => W'.cell? ⟨q, 1, none⟩ = some (.pointer (some ⟨t, 0, none⟩)) ∧ W'.cell? ⟨gm, 0, none⟩ = some (.int .i64 (k : Int)) ∧ W'.cell? ⟨g, 0, none⟩ = some (.int .i64 (f : Int)) ∧ W'.cell? ⟨g, 1, none⟩ = some (.bool true) ∧ W'.cell? ⟨g, 2, none⟩ = some (.bool false) ∧ W'.cell? ⟨g, 3, none⟩ = some (.bool true) ∧ W'.cell? ⟨g, 4, none⟩ = some (.bool ed)) (first | exact ⟨s1, m0, e0, e1, e2, e3, e4⟩ | exact K5.out) (first | (go_at_call 24; (with_reducible refine HSE.out.mono ?_); rintro e w5 ⟨rfl, hk5, hT5⟩; have hk6 := (Kp.refl (fun j => j = t) Y).drew.trans hk5 (fun _ h => .inl h); have hx5 := HY.out.1.kept hk6 (fun e => NG.out.2.2.2.2 e.symm); have hs5 := Sp.kept HY.out.2.2.1 hk6 HNE.out.2.2.2.1; have hm5 := HY.out.2.1.kept hk6 NT.out; have K5 := Lib.hid (And.intro (Blk.cell hs5 1) (And.intro (hm5.cell 0) (And.intro (hx5.cell 0) (And.intro (hx5.cell 1) (And.intro (hx5.cell 2) (And.intro (hx5.cell 3) (hx5.cell 4))))))); have i0 := hx5.cell 0; have d0 := Blk.cell hs5 0; have H5 := Lib.hid (And.intro hk6 (And.intro hT5 (And.intro hx5 (And.intro hs5 (HY.out.2.2.2.1.kept hk6 HNE.out.2.1 HNE.out.2.2.2.2))))); clear hx5 hs5 hm5 hk5 hT5 hk6))
            go_wp2
            have HSH := Lib.hid (share_is w5.drew p b n s0.R s0.B (H5.out.2.2.2.2.below (Below.refl _ _).drew) f HF.out.1 HF.out.2.1 HF.out.2.2)
            go_region_held (fun W' => W'.cell? ⟨q, 0, none⟩ = some (.pointer (some ⟨p, 0, none⟩)) ∧ W'.cell? ⟨g, 0, none⟩ = some (.int .i64 (f : Int))) (first | exact ⟨d0, i0⟩ | exact K6.out) (first | (go_at_call 26; (with_reducible refine HSH.out.mono ?_); rintro e w6 ⟨rfl, hF6, hk6⟩; have hk7 := (Kp.refl (fun j => j = b) w5).drew.trans hk6 (fun _ h => .inl h); have K6 := Lib.hid (And.intro (Blk.cell (Sp.kept H5.out.2.2.2.1 hk7 HNE.out.2.2.1) 0) ((H5.out.2.2.1.kept hk7 (fun e => NG.out.2.2.2.1 e.symm)).cell 0)); have H6 := Lib.hid (And.intro hF6 (And.intro hk7 (H5.out.2.1.kept hk7 (fun e => HNE.out.2.2.2.2 e.symm)))); clear hF6 hk6 hk7))
            go_wp2
            have hkA : Kp (fun j => j = b ∨ j = t) wr w6 := (((Kp.of_below HBW.out).trans (S' := fun j => j = g) HY.out.2.2.2.2 (fun j hj => .inr (by have := HGS.out; omega))).trans H5.out.1 (fun j hj => .inl (.inr hj))).trans H6.out.2.1 (fun j hj => .inl (.inl hj))
            go_roundw
            case rel => exact ⟨j + 1, by omega, by go_num, by rw [HS.out.1, HS.out.2]; exact H6.out.1, by rw [HS.out.1, HS.out.2, HCW.out]; exact H6.out.2.2, H0.out.1.trans hkA (fun j hj => .inl hj), H0.out.2.kept hkA (fun g' cs hg' e => by
              rcases e with rfl | rfl
              · obtain ⟨_, ⟨ds, h3, _⟩, _⟩ := H7.out.1
                exact (hg'.ne h3 (by decide)) rfl
              · obtain ⟨⟨ds, h3, _⟩, _⟩ := H7.out.2
                exact (hg'.ne h3 (by decide)) rfl)⟩
            case measure => simp [intOf]; omega
          | true =>
            have HCW : Hid (cow ⟨(f : Int), true, true, false, ed⟩ = ⟨(f : Int), true, true, false, ed⟩) := Lib.hid rfl
            have e1 := hxe.cell 1
            have e2 := hxe.cell 2
            have e3 := hxe.cell 3
            have e4 := hxe.cell 4
            have e5 := hme.cell 0
            have y3 := hxe.free 3
            go_wp2
            clear hW hg hgm
            have hxs : Blk (W.setCell ⟨g, 3, none⟩ (.bool false)) g #[.int .i64 (f : Int), .bool true, .bool true, .bool false, .bool ed] 53 := by
              have := hxe.set 3 (.bool false)
              simpa using this
            have hk1 : Kp (fun j => j = g) W (W.setCell ⟨g, 3, none⟩ (.bool false)) := Kp.set _ _ _ _ rfl
            have hms : Blk (W.setCell ⟨g, 3, none⟩ (.bool false)) gm _ 70 := hme.kept hk1 NG.out.1
            have hss : Sp (W.setCell ⟨g, 3, none⟩ (.bool false)) q p t := Sp.kept hsw hk1 NG.out.2.1
            have hFs : Fm.Mem (W.setCell ⟨g, 3, none⟩ (.bool false)) p b n s0.R s0.B := hFw.kept hk1 NG.out.2.2.1 NG.out.2.2.2.1
            have hTs : Tm.Mem (W.setCell ⟨g, 3, none⟩ (.bool false)) t s0.T := hTw.kept hk1 NG.out.2.2.2.2
            have hcow : cow ⟨(f : Int), true, true, false, ed⟩ = ⟨(f : Int), true, true, false, ed⟩ := HCW.out
            clear e1 e2 e3 e4 e5 y3
            generalize W.setCell ⟨g, 3, none⟩ (.bool false) = Y at hxs hk1 hms hss hFs hTs ⊢
            have s1 := Blk.cell hss 1
            have m0 := hms.cell 0
            have e0 := hxs.cell 0
            have e1 := hxs.cell 1
            have e2 := hxs.cell 2
            have e3 := hxs.cell 3
            have e4 := hxs.cell 4
            have HSE := Lib.hid (set_in Y.drew t s0.T (hTs.drew) k ⟨(f : Int), true, true, false, ed⟩ HK64.out (by rw [← hcow]; exact HMAY.out))
            have HY := Lib.hid (And.intro hxs (And.intro hms (And.intro hss (And.intro hFs hk1))))
            clear hxs hms hss hFs hTs hk1 hsw hFw hTw hxe hme hcow
            go_region_held (fun W' => W'.cell? ⟨q, 1, none⟩ = some (.pointer (some ⟨t, 0, none⟩)) ∧ W'.cell? ⟨gm, 0, none⟩ = some (.int .i64 (k : Int)) ∧ W'.cell? ⟨g, 0, none⟩ = some (.int .i64 (f : Int)) ∧ W'.cell? ⟨g, 1, none⟩ = some (.bool true) ∧ W'.cell? ⟨g, 2, none⟩ = some (.bool true) ∧ W'.cell? ⟨g, 3, none⟩ = some (.bool false) ∧ W'.cell? ⟨g, 4, none⟩ = some (.bool ed)) (first | exact ⟨s1, m0, e0, e1, e2, e3, e4⟩ | exact K5.out) (first | (go_at_call 24; (with_reducible refine HSE.out.mono ?_); rintro e w5 ⟨rfl, hk5, hT5⟩; have hk6 := (Kp.refl (fun j => j = t) Y).drew.trans hk5 (fun _ h => .inl h); have hx5 := HY.out.1.kept hk6 (fun e => NG.out.2.2.2.2 e.symm); have hs5 := Sp.kept HY.out.2.2.1 hk6 HNE.out.2.2.2.1; have hm5 := HY.out.2.1.kept hk6 NT.out; have K5 := Lib.hid (And.intro (Blk.cell hs5 1) (And.intro (hm5.cell 0) (And.intro (hx5.cell 0) (And.intro (hx5.cell 1) (And.intro (hx5.cell 2) (And.intro (hx5.cell 3) (hx5.cell 4))))))); have i0 := hx5.cell 0; have d0 := Blk.cell hs5 0; have H5 := Lib.hid (And.intro hk6 (And.intro hT5 (And.intro hx5 (And.intro hs5 (HY.out.2.2.2.1.kept hk6 HNE.out.2.1 HNE.out.2.2.2.2))))); clear hx5 hs5 hm5 hk5 hT5 hk6))
            go_wp2
            have HSH := Lib.hid (share_is w5.drew p b n s0.R s0.B (H5.out.2.2.2.2.below (Below.refl _ _).drew) f HF.out.1 HF.out.2.1 HF.out.2.2)
            go_region_held (fun W' => W'.cell? ⟨q, 0, none⟩ = some (.pointer (some ⟨p, 0, none⟩)) ∧ W'.cell? ⟨g, 0, none⟩ = some (.int .i64 (f : Int))) (first | exact ⟨d0, i0⟩ | exact K6.out) (first | (go_at_call 26; (with_reducible refine HSH.out.mono ?_); rintro e w6 ⟨rfl, hF6, hk6⟩; have hk7 := (Kp.refl (fun j => j = b) w5).drew.trans hk6 (fun _ h => .inl h); have K6 := Lib.hid (And.intro (Blk.cell (Sp.kept H5.out.2.2.2.1 hk7 HNE.out.2.2.1) 0) ((H5.out.2.2.1.kept hk7 (fun e => NG.out.2.2.2.1 e.symm)).cell 0)); have H6 := Lib.hid (And.intro hF6 (And.intro hk7 (H5.out.2.1.kept hk7 (fun e => HNE.out.2.2.2.2 e.symm)))); clear hF6 hk6 hk7))
            go_wp2
            have hkA : Kp (fun j => j = b ∨ j = t) wr w6 := (((Kp.of_below HBW.out).trans (S' := fun j => j = g) HY.out.2.2.2.2 (fun j hj => .inr (by have := HGS.out; omega))).trans H5.out.1 (fun j hj => .inl (.inr hj))).trans H6.out.2.1 (fun j hj => .inl (.inl hj))
            go_roundw
            case rel => exact ⟨j + 1, by omega, by go_num, by rw [HS.out.1, HS.out.2]; exact H6.out.1, by rw [HS.out.1, HS.out.2, HCW.out]; exact H6.out.2.2, H0.out.1.trans hkA (fun j hj => .inl hj), H0.out.2.kept hkA (fun g' cs hg' e => by
              rcases e with rfl | rfl
              · obtain ⟨_, ⟨ds, h3, _⟩, _⟩ := H7.out.1
                exact (hg'.ne h3 (by decide)) rfl
              · obtain ⟨⟨ds, h3, _⟩, _⟩ := H7.out.2
                exact (hg'.ne h3 (by decide)) rfl)⟩
            case measure => simp [intOf]; omega
    · obtain rfl : j = L := by omega
      have hsp := Sp.kept H.out.1 hkp (fun e => e.elim HNE.out.2.2.1 HNE.out.2.2.2.1)
      have c0 := Blk.cell hsp 0
      have c1 := Blk.cell hsp 1
      have HCO := Lib.hid (copy_any wr.drew t _ (hTr.drew))
      have HO := Lib.hid (And.intro hFr (And.intro hTr (And.intro hkp hsp)))
      clear hFr hTr hkp hrd hsp hok
      go_wp2
      go_region_held (fun W' => W'.cell? ⟨q, 0, none⟩ = some (.pointer (some ⟨p, 0, none⟩)) ∧ W'.cell? ⟨q, 1, none⟩ = some (.pointer (some ⟨t, 0, none⟩))) (first | exact ⟨c0, c1⟩ | exact K5.out _ (Below.refl _ _) | exact K5.out _ ((Below.refl _ _).alloc (Nat.le_refl _) _)) (first | (go_at_call 27; (with_reducible refine HCO.out.mono ?_); rintro e w5 ⟨rfl, hb5, hT5⟩; have hb6 : Below wr.heap.size wr w5 := (Below.refl _ _).drew.trans (hb5.mono (Nat.le_refl _)); have K5 := Lib.hid (fun W (hb : Below w5.heap.size w5 W) => And.intro (Blk.cell (Sp.below (Sp.below HO.out.2.2.2 hb6) hb) 0) (Blk.cell (Sp.below (Sp.below HO.out.2.2.2 hb6) hb) 1)); have H5 := Lib.hid (And.intro hb6 hT5); clear hb5 hT5 hb6))
      go_wp2
      go_ret
      have hA := (Below.refl w5.heap.size w5).alloc (Nat.le_refl _) (.cells #[.pointer (some ⟨p, 0, none⟩), .pointer (some ⟨wr.heap.size, 0, none⟩)] 61)
      have hB := H5.out.1.trans (hA.mono H5.out.1.size)
      have hz := HO.out.2.2.1.size
      exact ⟨_, _, rfl, Nat.le_trans hz H5.out.1.size, hz, Blk.new _ _ _, HO.out.1.below hB, HO.out.2.1.below hB, H5.out.2.below hA, HO.out.2.2.1.trans (Kp.of_below hB) (fun j hj => .inl hj)⟩
end Go.Proofs.Ytjoapeeljigjcaa.Cl
