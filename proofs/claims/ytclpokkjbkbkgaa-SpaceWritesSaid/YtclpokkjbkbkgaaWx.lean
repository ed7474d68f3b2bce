/-
  What is written is read, and nothing else is turned: SpaceWrites (its walk).
-/
import Derived.Test.YtclpokkjbkbkgaaWy
import Derived.BigQuiet
import Derived.Deep.RegionHeld
import Derived.Deep.MidRow
import Derived.Deep.DeepCutAuto
import Derived.Deep.CutRange
namespace Go.Proofs.Ytclpokkjbkbkgaa.Wx
open Go Go.RowKit Go.Shelf Kit Bk
open Fm hiding Mem made_any len_any
open Fo Fr Fw Fx Fu Fq
open Tm hiding Mem
open Ts Tc Ti Sp Sa Pz To My Pv Mp Mq Dr Cl Iv Iw Ix Wr Sy Al Pg So Oq Sn Tg Un Zf Um Qc Cn Fa Tu Ws Wy
set_option linter.unusedVariables false
attribute [local go_sem ↓] ldp_wrap stp_wrap eqp_wrap nep_wrap bsp_wrap Tl.app_wrap

set_option maxRecDepth 100000 in
set_option maxHeartbeats 16000000 in
theorem writes_law (vl : Value) (l : List Opr) (many who : Int) (a : Nat) (vb : Value) (xs : List Nat) (w : World) (hl : OpsAt w vl l) (hwho : (Lit.int .i64 who).wf = true) (ha : a < 4294967296) (hs : Slc .u8 w vb xs) (h8 : ∀ x ∈ xs, x < 256) :
    Calls Try.prog 4 #[.int .i64 many, vl, .int .i64 who, .int .u32 (a : Int), vb] w fun e w' => e = .returned (.bool true) ∧ Below w.heap.size w w' := by
  by_cases hyes : Fine 40 l ∧ xs.length ≤ 300 ∧ 1 ≤ many ∧ many ≤ 40
  case neg => exact writes_out vl l many who a vb xs w hl hs hyes
  obtain ⟨hfl, hx3, hm1, hm2⟩ := hyes
  obtain ⟨n, rfl⟩ := Int.eq_ofNat_of_zero_le (show 0 ≤ many by omega)
  have d : decide ((40 : Int) < (n : Int)) = false := decide_eq_false (by omega)
  have HGl : Hid (∀ W, Below w.heap.size w W → Calls Try.prog 18 #[vl, .int .i64 40] W fun e w' => e = .returned (.int .i64 0) ∧ W = w') := Lib.hid (fun W hb => great_fine vl l W 40 (by decide) (OpsAt.below hl hb) hfl)
  have HN2 : Hid (∀ W, _) := Lib.hid (fun W => new_ok W n (by omega))
  obtain ⟨al, cl, rfl, hl1, hl2, hl3⟩ := hl
  have HSRC := Lib.hid hs
  obtain ⟨av, bcap, rfl, hb1, hb2, -⟩ := hs
  obtain ⟨m, hm⟩ : ∃ m, xs.length = m := ⟨_, rfl⟩
  have HM := Lib.hid hm
  rw [hm] at hb1 hx3 HSRC ⊢
  have dm : decide ((300 : Int) < (m : Int)) = false := decide_eq_false (by omega)
  have HFl := Lib.hid hfl
  have HWH := Lib.hid (And.intro hwho (And.intro ha h8))
  have hll : (l.length : Int) ≤ 40 := by have := hfl.1; omega
  have hn40 : (n : Int) ≤ 40 := hm2
  have hm300 : (m : Int) ≤ 300 := by omega
  have HL3 := Lib.hid hl3
  clear hfl hl3 hm1 hm2 hwho ha h8 hm hx3
  go_enter Try.func4, Try.ntmps4
  go_wp2_with (first | (go_at_call 13; (with_reducible refine (alive_any _).mono ?_); rintro e w1 ⟨rfl, hb⟩; have HB1 := Lib.hid hb; clear hb) | (go_at_call 17; (with_reducible refine (HN2.out _).mono ?_); rintro e w2 ⟨hb2, p, b, rfl, hp, hb, hM⟩; have HB := Lib.hid (HB1.out.trans (hb2.mono HB1.out.size)); have HPB := Lib.hid (And.intro (Nat.le_trans HB1.out.size hp) (Nat.le_trans HB1.out.size hb)); have HSN := Lib.hid (sNew w2 p b n hM); clear hb2 hp hb hM) | (go_at_call 18; (with_reducible refine (HGl.out _ HB.out).mono ?_); rintro e w3 ⟨rfl, rfl⟩) | (go_at_call 15; (with_reducible refine HSN.out.mono ?_); rintro e w4 ⟨q, t, rfl, ht, hb4, hS⟩; refine Hid.out ?_))
  refine Lib.hid ?_
  have HB4 := Lib.hid (HB.out.trans (hb4.mono HB.out.size))
  have HFA := Lib.hid (fNew (N := w.heap.size) hS HPB.out.2 (Nat.le_trans HB.out.size ht) HB4.out.size)
  have HB5 := Lib.hid (HB4.out.alloc HB4.out.size (.cells #[.pointer (some ⟨q, 0, none⟩)] 23))
  clear ht hb4 hS HSN HB HB1 HGl HN2
  go_wp2
  go_loopw [14, 15] (fun s i wr => ∃ (k L : Nat) (qs : Nat → Nat), k ≤ l.length ∧ i = .int .i64 (k : Int) ∧ 1 ≤ L ∧ L ≤ 4 ∧ Fam w.heap.size wr p b n s L L qs ∧ Below w.heap.size w wr) (fun _ i _ => l.length - (intOf i).toNat)
  case atStart => exact ⟨0, 1, _, Nat.zero_le _, rfl, Nat.le_refl _, by decide, HFA.out, HB5.out⟩
  case round =>
    clear HFA HB5 HB4
    obtain ⟨k, L, qs, hk, rfl, h1L, h4L, hfam, hB⟩ := hrel
    by_cases hlt : k < l.length
    · rcases HL3.out with h0 | ⟨bl, off, rfl, hbl, h4⟩
      · exact absurd hlt (by rw [h0]; exact Nat.not_lt_zero _)
      · have hx300 := HFl.out.2 _ (List.getElem_mem hlt)
        have h4k := h4 k hlt
        clear h4
        generalize l[k] = o at *
        obtain ⟨⟨bv, c0, c1, c2, c3, c4, c5, c6, c7, c8, c9, c10, c11, c12, c13, hs⟩, hw1, hw2, hw3, hw4, hw5⟩ := h4k
        replace c0 := (hB.cell (p := ⟨bl, off + k * 14, none⟩) hbl).trans c0
        replace c1 := (hB.cell (p := ⟨bl, off + k * 14 + 1, none⟩) hbl).trans c1
        replace c2 := (hB.cell (p := ⟨bl, off + k * 14 + 2, none⟩) hbl).trans c2
        replace c3 := (hB.cell (p := ⟨bl, off + k * 14 + 3, none⟩) hbl).trans c3
        replace c4 := (hB.cell (p := ⟨bl, off + k * 14 + 4, none⟩) hbl).trans c4
        replace c5 := (hB.cell (p := ⟨bl, off + k * 14 + 5, none⟩) hbl).trans c5
        replace c6 := (hB.cell (p := ⟨bl, off + k * 14 + 6, none⟩) hbl).trans c6
        replace c7 := (hB.cell (p := ⟨bl, off + k * 14 + 7, none⟩) hbl).trans c7
        replace c8 := (hB.cell (p := ⟨bl, off + k * 14 + 8, none⟩) hbl).trans c8
        replace c9 := (hB.cell (p := ⟨bl, off + k * 14 + 9, none⟩) hbl).trans c9
        replace c10 := (hB.cell (p := ⟨bl, off + k * 14 + 10, none⟩) hbl).trans c10
        replace c11 := (hB.cell (p := ⟨bl, off + k * 14 + 11, none⟩) hbl).trans c11
        replace c12 := (hB.cell (p := ⟨bl, off + k * 14 + 12, none⟩) hbl).trans c12
        replace c13 := (hB.cell (p := ⟨bl, off + k * 14 + 13, none⟩) hbl).trans c13
        have HXS := Lib.hid hs
        obtain ⟨oa, ocap, rfl, ho1, ho2, -⟩ := hs
        obtain ⟨om, hom⟩ : ∃ om, o.xs.length = om := ⟨_, rfl⟩
        rw [hom] at c8 HXS
        obtain ⟨g, cap, rfl, hc1, hc2, hg, hcell⟩ := hfam.get h1L
        obtain ⟨kk, hkl, hkk, hr1, hr2⟩ := who_of o.who h1L
        have hck := hcell kk hkl
        have hki : (kk : Int) < (L : Int) := by omega
        have h1Li : (1 : Int) ≤ (L : Int) := by omega
        have h4Li : (L : Int) ≤ 4 := by omega
        have HFAM := Lib.hid hfam
        have HBr := Lib.hid hB
        clear hfam hB hcell
        obtain ⟨W5, hW5⟩ : ∃ W5, wr.alloc (.cells #[.int .i64 o.kind, .int .i64 o.who, .int .i64 o.page, .int .i64 o.n, .bool o.wb, .bool o.sh, .int .u32 (o.addr : Int), .int .u32 o.word, .slice oa om ocap, .int .i64 o.x.f, .bool o.x.w, .bool o.x.s, .bool o.x.c, .bool o.x.d] 49) = W5 := ⟨_, rfl⟩
        have hx0 := Blk.new wr #[.int .i64 o.kind, .int .i64 o.who, .int .i64 o.page, .int .i64 o.n, .bool o.wb, .bool o.sh, .int .u32 (o.addr : Int), .int .u32 o.word, .slice oa om ocap, .int .i64 o.x.f, .bool o.x.w, .bool o.x.s, .bool o.x.c, .bool o.x.d] 49
        have hba : Below wr.heap.size wr W5 := by rw [← hW5]; exact (Below.refl _ _).alloc (Nat.le_refl _) _
        rw [hW5] at hx0
        have HX := Lib.hid hx0
        have HF5 := Lib.hid (HFAM.out.below hba)
        have HB5 := Lib.hid (HBr.out.trans (hba.mono HBr.out.size))
        have HWF := Lib.hid (And.intro hw2 (And.intro hw3 (And.intro hw4 hw5)))
        have hck5 := (hba.cell (p := ⟨g, kk, none⟩) hg).trans hck
        have hgx : Hid (∀ W, Blk W wr.heap.size #[.int .i64 o.kind, .int .i64 o.who, .int .i64 o.page, .int .i64 o.n, .bool o.wb, .bool o.sh, .int .u32 (o.addr : Int), .int .u32 o.word, .slice oa om ocap, .int .i64 o.x.f, .bool o.x.w, .bool o.x.s, .bool o.x.c, .bool o.x.d] 49 → W.cell? ⟨wr.heap.size, 2, none⟩ = some (.int .i64 o.page) ∧ W.cell? ⟨wr.heap.size, 3, none⟩ = some (.int .i64 o.n) ∧ W.cell? ⟨wr.heap.size, 4, none⟩ = some (.bool o.wb) ∧ W.cell? ⟨wr.heap.size, 5, none⟩ = some (.bool o.sh) ∧ W.cell? ⟨wr.heap.size, 6, none⟩ = some (.int .u32 (o.addr : Int)) ∧ W.cell? ⟨wr.heap.size, 8, none⟩ = some (.slice oa om ocap)) := Lib.hid (fun W h => ⟨h.cell 2, h.cell 3, h.cell 4, h.cell 5, h.cell 6, h.cell 8⟩)
        have HROW : Hid (∀ W, Fam w.heap.size W p b n (.slice (some ⟨g, 0, none⟩) L cap) L L qs → W.cell? ⟨g, kk, none⟩ = some (.pointer (some ⟨qs kk, 0, none⟩))) := Lib.hid (fun W h => by
          obtain ⟨g', cap', e, _, _, _, hc⟩ := h.get h1L
          cases e
          exact hc kk hkl)
        clear hba hx0 hw1 hw2 hw3 hw4 hw5
        by_cases e0 : o.kind = 0
        · as_aux_lemma =>
            have HOPC := Lib.hid (fMap (HF5.out.below (Below.refl W5.heap.size W5).drew) HB5.out.drew.size hkl o.page o.n HWF.out.1 HWF.out.2.1 o.wb o.sh)
            obtain ⟨k2, k3, k4, k5, _, _⟩ := hgx.out _ HX.out
            have x0 := HX.out.cell 0
            have x1 : W5.cell? ⟨wr.heap.size, 1, none⟩ = some (.int .i64 o.who) := HX.out.cell 1
            replace x0 : W5.cell? ⟨wr.heap.size, 0, none⟩ = some (.int .i64 0) := by rw [← e0]; exact x0
            rw [e0] at c0 hW5
            go_wp2
            go_region_held (fun W' => W'.cell? ⟨g, kk, none⟩ = some (.pointer (some ⟨qs kk, 0, none⟩)) ∧ W'.cell? ⟨wr.heap.size, 2, none⟩ = some (.int .i64 o.page) ∧ W'.cell? ⟨wr.heap.size, 3, none⟩ = some (.int .i64 o.n) ∧ W'.cell? ⟨wr.heap.size, 4, none⟩ = some (.bool o.wb) ∧ W'.cell? ⟨wr.heap.size, 5, none⟩ = some (.bool o.sh)) (first | exact ⟨hck5, k2, k3, k4, k5⟩ | exact K6.out) (first | (go_at_call 11; (with_reducible refine HOPC.out.mono ?_); rintro e w6 ⟨⟨u, rfl⟩, hf6, hb6, hx6⟩; have HB6 := Lib.hid (HB5.out.drew.trans hb6); have H6 := Lib.hid hf6; have K6 := Lib.hid (by have hk := hgx.out _ (hx6 _ _ _ (by decide) (by decide) (Blk.below HX.out (Below.refl _ _).drew)); exact And.intro (HROW.out _ hf6) (And.intro hk.1 (And.intro hk.2.1 (And.intro hk.2.2.1 hk.2.2.2.1)))); clear hf6 hb6 hx6))
            have HCN := Lib.hid (fCounts H6.out (by omega) (by omega))
            go_wp2_with (first | (go_at_call 20; (with_reducible refine HCN.out.mono ?_); rintro e w7 ⟨rfl, hb7⟩; have H7 := Lib.hid (H6.out.below hb7); have HB7 := Lib.hid (HB6.out.trans (hb7.mono HB6.out.size)); clear hb7))
            go_roundw
            case rel => exact ⟨k + 1, L, qs, by omega, by go_num, by omega, by omega, H7.out, HB7.out⟩
            case measure => simp [intOf]; omega
        by_cases e1 : o.kind = 1
        · as_aux_lemma =>
            have HOPC := Lib.hid (fUnmap (HF5.out.below (Below.refl W5.heap.size W5).drew) HB5.out.drew.size hkl o.page o.n HWF.out.1 HWF.out.2.1)
            obtain ⟨k2, k3, k4, k5, _, _⟩ := hgx.out _ HX.out
            have x0 := HX.out.cell 0
            have x1 : W5.cell? ⟨wr.heap.size, 1, none⟩ = some (.int .i64 o.who) := HX.out.cell 1
            replace x0 : W5.cell? ⟨wr.heap.size, 0, none⟩ = some (.int .i64 1) := by rw [← e1]; exact x0
            rw [e1] at c0 hW5
            go_wp2
            go_region_held (fun W' => W'.cell? ⟨g, kk, none⟩ = some (.pointer (some ⟨qs kk, 0, none⟩)) ∧ W'.cell? ⟨wr.heap.size, 2, none⟩ = some (.int .i64 o.page) ∧ W'.cell? ⟨wr.heap.size, 3, none⟩ = some (.int .i64 o.n)) (first | exact ⟨hck5, k2, k3⟩ | exact K6.out) (first | (go_at_call 9; (with_reducible refine HOPC.out.mono ?_); rintro e w6 ⟨⟨u, rfl⟩, hf6, hb6, hx6⟩; have HB6 := Lib.hid (HB5.out.drew.trans hb6); have H6 := Lib.hid hf6; have K6 := Lib.hid (by have hk := hgx.out _ (hx6 _ _ _ (by decide) (by decide) (Blk.below HX.out (Below.refl _ _).drew)); exact And.intro (HROW.out _ hf6) (And.intro hk.1 hk.2.1)); clear hf6 hb6 hx6))
            have HCN := Lib.hid (fCounts H6.out (by omega) (by omega))
            go_wp2_with (first | (go_at_call 20; (with_reducible refine HCN.out.mono ?_); rintro e w7 ⟨rfl, hb7⟩; have H7 := Lib.hid (H6.out.below hb7); have HB7 := Lib.hid (HB6.out.trans (hb7.mono HB6.out.size)); clear hb7))
            go_roundw
            case rel => exact ⟨k + 1, L, qs, by omega, by go_num, by omega, by omega, H7.out, HB7.out⟩
            case measure => simp [intOf]; omega
        by_cases e2 : o.kind = 2
        · as_aux_lemma =>
            have HOPC := Lib.hid (fWrite (HF5.out.below (Below.refl W5.heap.size W5).drew) HB5.out.drew.size hkl o.addr HWF.out.2.2.1 (.slice oa om ocap) o.xs (fun S hS => src_of HXS.out HB5.out.drew hS) HWF.out.2.2.2 hx300)
            obtain ⟨_, _, _, _, k6, k8⟩ := hgx.out _ HX.out
            have x0 := HX.out.cell 0
            have x1 : W5.cell? ⟨wr.heap.size, 1, none⟩ = some (.int .i64 o.who) := HX.out.cell 1
            replace x0 : W5.cell? ⟨wr.heap.size, 0, none⟩ = some (.int .i64 2) := by rw [← e2]; exact x0
            rw [e2] at c0 hW5
            go_wp2
            go_region_held (fun W' => W'.cell? ⟨g, kk, none⟩ = some (.pointer (some ⟨qs kk, 0, none⟩)) ∧ W'.cell? ⟨wr.heap.size, 6, none⟩ = some (.int .u32 (o.addr : Int)) ∧ W'.cell? ⟨wr.heap.size, 8, none⟩ = some (.slice oa om ocap)) (first | exact ⟨hck5, k6, k8⟩ | exact K6.out) (first | (go_at_call 12; (with_reducible refine HOPC.out.mono ?_); rintro e w6 ⟨⟨u, rfl⟩, hf6, hb6, hx6⟩; have HB6 := Lib.hid (HB5.out.drew.trans hb6); have H6 := Lib.hid hf6; have K6 := Lib.hid (by have hk := hgx.out _ (hx6 _ _ _ (by decide) (by decide) (Blk.below HX.out (Below.refl _ _).drew)); exact And.intro (HROW.out _ hf6) (And.intro hk.2.2.2.2.1 hk.2.2.2.2.2)); clear hf6 hb6 hx6))
            have HCN := Lib.hid (fCounts H6.out (by omega) (by omega))
            go_wp2_with (first | (go_at_call 20; (with_reducible refine HCN.out.mono ?_); rintro e w7 ⟨rfl, hb7⟩; have H7 := Lib.hid (H6.out.below hb7); have HB7 := Lib.hid (HB6.out.trans (hb7.mono HB6.out.size)); clear hb7))
            go_roundw
            case rel => exact ⟨k + 1, L, qs, by omega, by go_num, by omega, by omega, H7.out, HB7.out⟩
            case measure => simp [intOf]; omega
        by_cases e5 : o.kind = 5
        · by_cases hL4 : L < 4
          · as_aux_lemma =>
              have HOPC := Lib.hid (fClone HF5.out HB5.out.size (Nat.le_refl L) (by omega) hkl)
              have dl : decide ((L : Int) < 4) = true := decide_eq_true (by omega)
              have x0 := HX.out.cell 0
              have x1 : W5.cell? ⟨wr.heap.size, 1, none⟩ = some (.int .i64 o.who) := HX.out.cell 1
              replace x0 : W5.cell? ⟨wr.heap.size, 0, none⟩ = some (.int .i64 5) := by rw [← e5]; exact x0
              rw [e5] at c0 hW5
              go_wp2_with (first | (go_at_call 14; (with_reducible refine HOPC.out.mono ?_); rintro e w6 ⟨q', rfl, hf6, hb6⟩; refine Hid.out ?_))
              refine Lib.hid ?_
              have HB6 := Lib.hid (HB5.out.trans hb6)
              obtain ⟨v', w8, hrun, hf8, hb8⟩ := fAppend hf6 HB6.out.size (by omega)
              rw [up_same] at hrun
              obtain ⟨g8, cap8, rfl, _⟩ := hf8.get (by omega)
              have H8 := Lib.hid hf8
              have HB8 := Lib.hid (HB6.out.trans hb8)
              clear hf6 hb6 hf8 hb8 HB6
              have HCN := Lib.hid (fCounts H8.out (by omega) (by omega))
              go_wp2_with (first | (go_at_call 20; (with_reducible refine HCN.out.mono ?_); rintro e w7 ⟨rfl, hb7⟩; have H7 := Lib.hid (H8.out.below hb7); have HB7 := Lib.hid (HB8.out.trans (hb7.mono HB8.out.size)); clear hb7))
              go_roundw
              case rel => exact ⟨k + 1, L + 1, _, by omega, by go_num, by omega, by omega, H7.out, HB7.out⟩
              case measure => simp [intOf]; omega
          · as_aux_lemma =>
              have hLe : L = 4 := by omega
              subst hLe
              have x0 := HX.out.cell 0
              have x1 : W5.cell? ⟨wr.heap.size, 1, none⟩ = some (.int .i64 o.who) := HX.out.cell 1
              replace x0 : W5.cell? ⟨wr.heap.size, 0, none⟩ = some (.int .i64 5) := by rw [← e5]; exact x0
              rw [e5] at c0 hW5
              have HCN := Lib.hid (fCounts HF5.out (by omega) (by omega))
              go_wp2_with (first | (go_at_call 20; (with_reducible refine HCN.out.mono ?_); rintro e w7 ⟨rfl, hb7⟩; have H7 := Lib.hid (HF5.out.below hb7); have HB7 := Lib.hid (HB5.out.trans (hb7.mono HB5.out.size)); clear hb7))
              go_roundw
              case rel => exact ⟨k + 1, 4, qs, by omega, by go_num, by omega, by omega, H7.out, HB7.out⟩
              case measure => simp [intOf]; omega
        by_cases e6 : o.kind = 6
        · as_aux_lemma =>
            have HOPC := Lib.hid (fDrop HF5.out HB5.out.size hkl)
            have x0 := HX.out.cell 0
            have x1 : W5.cell? ⟨wr.heap.size, 1, none⟩ = some (.int .i64 o.who) := HX.out.cell 1
            replace x0 : W5.cell? ⟨wr.heap.size, 0, none⟩ = some (.int .i64 6) := by rw [← e6]; exact x0
            rw [e6] at c0 hW5
            go_wp2_with (first | (go_at_call 19; (with_reducible refine HOPC.out.mono ?_); rintro e w6 ⟨⟨u, rfl⟩, hf6, hb6, hx6⟩; have HB6 := Lib.hid (HB5.out.trans hb6); have H6 := Lib.hid hf6; refine Hid.out ?_))
            refine Lib.hid ?_
            clear hf6 hb6 hx6
            have HCN := Lib.hid (fCounts H6.out (by omega) (by omega))
            go_wp2_with (first | (go_at_call 20; (with_reducible refine HCN.out.mono ?_); rintro e w7 ⟨rfl, hb7⟩; have H7 := Lib.hid (H6.out.below hb7); have HB7 := Lib.hid (HB6.out.trans (hb7.mono HB6.out.size)); clear hb7))
            go_roundw
            case rel => exact ⟨k + 1, L, qs, by omega, by go_num, by omega, by omega, H7.out, HB7.out⟩
            case measure => simp [intOf]; omega
        have x0 : W5.cell? ⟨wr.heap.size, 0, none⟩ = some (.int .i64 o.kind) := HX.out.cell 0
        have x1 : W5.cell? ⟨wr.heap.size, 1, none⟩ = some (.int .i64 o.who) := HX.out.cell 1
        have n0 : decide (o.kind = 0) = false := decide_eq_false e0
        have n1 : decide (o.kind = 1) = false := decide_eq_false e1
        have n2 : decide (o.kind = 2) = false := decide_eq_false e2
        have n5 : decide (o.kind = 5) = false := decide_eq_false e5
        have n6 : decide (o.kind = 6) = false := decide_eq_false e6
        have HCN := Lib.hid (fCounts HF5.out (by omega) (by omega))
        go_wp2_with (first | (go_at_call 20; (with_reducible refine HCN.out.mono ?_); rintro e w7 ⟨rfl, hb7⟩; have H7 := Lib.hid (HF5.out.below hb7); have HB7 := Lib.hid (HB5.out.trans (hb7.mono HB5.out.size)); clear hb7))
        go_roundw
        case rel => exact ⟨k + 1, L, qs, by omega, by go_num, by omega, by omega, H7.out, HB7.out⟩
        case measure => simp [intOf]; omega
    · obtain rfl : k = l.length := by omega
      obtain ⟨w0, rfl⟩ : ∃ w0, w0 = wr := ⟨_, rfl⟩
      obtain ⟨R, B, ts, Ls, hLs, hS, hrow, hNb, hNt⟩ := hfam
      obtain ⟨g, cap, rfl, hc1, hc2, hg, csp, hbp, hcp⟩ := own_cells hrow h1L
      obtain ⟨kk, hkl, hkk, hr1, hr2⟩ := who_of who h1L
      have hki : (kk : Int) < (L : Int) := by omega
      have h1Li : (1 : Int) ≤ (L : Int) := by omega
      have h4Li : (L : Int) ≤ 4 := by omega
      have HC : Hid (∀ W, Blk W g csp 23 → ∀ i, i < L → W.cell? ⟨g, i, none⟩ = some (.pointer (some ⟨qs i, 0, none⟩))) := Lib.hid (fun W hb i hi => (hb.cell i).trans ((hcp i (by omega)).trans (ptrs_at qs hi)))
      have HS := Lib.hid hS
      have HBP := Lib.hid hbp
      have HLs := Lib.hid hLs
      have HNB := Lib.hid (And.intro hNb hNt)
      have HB0 := Lib.hid hB
      clear hLs hS hrow hNb hNt hcp hbp hB
      go_wp2
      go_loopw [19, 20] (fun z c wr => ∃ (i : Nat) (v : Value), i ≤ L ∧ c = .int .i64 (i : Int) ∧ v = z ∧ wr.ownsRow w0.heap.size 52 64 v i (wl B (Ls.take i)) ∧ Below w0.heap.size w0 wr) (fun _ c _ => L - (intOf c).toNat)
      case atStart => exact ⟨0, _, Nat.zero_le _, rfl, rfl, World.ownsRow_nil w0 w0.heap.size 52 64, Below.refl _ _⟩
      case round =>
        obtain ⟨i, v, hi, rfl, rfl, hrow, hB⟩ := hrel
        by_cases hil : i < L
        · have hil2 : i < Ls.length := by rw [HLs.out]; exact hil
          have hpg := sPages (HS.out.below hB) hil2
          obtain ⟨F, hF⟩ : ∃ F, ∀ h : i < Ls.length, pgP B Ls[i] 64 = F := ⟨pgP B Ls[i] 64, fun _ => rfl⟩
          rw [hF hil2] at hpg
          have hFs : F.size = 64 := by rw [← hF hil2]; exact pgP_size _ _ _
          have HPG := Lib.hid hpg
          have HF := Lib.hid hF
          have HFS := Lib.hid hFs
          have hck := HC.out wr (Blk.below HBP.out hB) i hil
          have hili : (i : Int) < (L : Int) := by omega
          have HBr := Lib.hid hB
          have HROW := Lib.hid hrow
          clear hpg hF hFs hB hrow hil2
          go_wp2_with (first | (go_at_call 21; (with_reducible refine HPG.out.mono ?_); rintro e w5 ⟨rfl, hb5⟩; refine Hid.out ?_))
          refine Lib.hid ?_
          have hil2 : i < Ls.length := by rw [HLs.out]; exact hil
          obtain ⟨v', w6, hrun, hrow6, hb6⟩ := wAppend (Fa.own_below HROW.out hb5) hil2 (by omega) (Nat.le_trans HBr.out.size hb5.size) F (HF.out hil2)
          have hbs := run_bsP w5 F HFS.out
          have HR6 := Lib.hid hrow6
          have HB6 := Lib.hid ((HBr.out.trans (hb5.mono HBr.out.size)).trans hb6)
          clear hb5 hb6 hrow6 hil2 HPG HF HFS HBr HROW
          go_wp2
          go_roundw
          case rel => exact ⟨i + 1, _, by omega, by go_num, rfl, HR6.out, HB6.out⟩
          case measure => simp [intOf]; omega
        · obtain rfl : L = i := by omega
          have hrow' : wr.ownsRow w0.heap.size 52 64 v L (wl B Ls) := by
            have e : Ls.take L = Ls := by rw [← HLs.out]; exact List.take_length
            rw [e] at hrow
            exact hrow
          obtain ⟨gw, capw, rfl, hw1, hw2, hgw, csw, hbw, hcw⟩ := own_cells hrow' h1L
          have hkl2 : kk < Ls.length := by rw [HLs.out]; exact hkl
          have hSr := HS.out.below hB
          have hB1 := HB0.out.trans (hB.mono HB0.out.size)
          have HWR := Lib.hid (sWrite hSr hkl2 a HWH.out.2.1 (.slice av m bcap) xs (src_of HSRC.out hB1 (fun j hj => by rcases hj with rfl | rfl; exact HNB.out.1; exact HNB.out.2 kk hkl)) HWH.out.2.2 (by rw [HM.out]; omega))
          have hck := HC.out wr (Blk.below HBP.out hB) kk hkl
          have HB1 := Lib.hid hB1
          have HBr := Lib.hid hB
          have HBW := Lib.hid hbw
          have HCW : Hid (∀ W, Blk W gw csw 52 → ∀ i, (h : i < Ls.length) → ∀ q, q < 64 → W.cell? ⟨gw, i * 64 + q, none⟩ = some (.string (pgS B Ls[i] q))) := Lib.hid (fun W hb i hi q hq => (hb.cell _).trans ((hcw (i * 64 + q) (by have := HLs.out; omega)).trans (wl_at B Ls i q hi hq)))
          clear hrow hrow' hB hbw hcw hSr hB1
          go_wp2_with (first | (go_at_call 12; (with_reducible refine HWR.out.mono ?_); rintro e w10 ⟨code, s', rfl, hkp, hS10, hc⟩; refine Hid.out ?_))
          refine Lib.hid ?_
          have hSr := HS.out.below HBr.out
          have HB10 := Lib.hid (HB1.out.trans (below_of (N := w.heap.size) hkp HB1.out.size (fun j hj => by rcases hj with rfl | rfl; exact HNB.out.1; exact HNB.out.2 kk hkl)))
          have HBP10 := Lib.hid ((Blk.below HBP.out HBr.out).kept hkp (row_far (by decide) (by decide) hSr hkl2 g csp (Blk.below HBP.out HBr.out)))
          have HBW10 := Lib.hid (HBW.out.kept hkp (row_far (by decide) (by decide) hSr hkl2 gw csw HBW.out))
          have HS10 := Lib.hid hS10
          have hll' : (Ls.set kk s'.T).length = L := by rw [List.length_set]; exact HLs.out
          have hk' : kk < (Ls.set kk s'.T).length := by rw [hll']; exact hkl
          have HNO : Hid (code ≠ 0 → ∀ i (hi : i < Ls.length) (hi' : i < (Ls.set kk s'.T).length) q, pgS s'.B (Ls.set kk s'.T)[i] q = pgS B Ls[i] q) := Lib.hid (fun hne i hi hi' q => by
            rcases hc with ⟨h0, _⟩ | ⟨_, rfl⟩
            · exact absurd h0 hne
            · by_cases e : i = kk
              · subst e
                rw [get_set]
              · rw [List.getElem_set, if_neg (fun h => e h.symm)])
          have HYES := Lib.hid (fun (h0 : code = 0) => by
            rcases hc with ⟨_, hMb, hR, hs⟩ | ⟨h1, _⟩
            · exact wrote HS.out.inv hkl2 a xs hMb hR hs
            · rcases h1 with h1 | h1 <;> (rw [h0] at h1; cases h1))
          have hrd := sRead hS10 hk' a m HWH.out.2.1 (by omega)
          rw [get_set] at hrd
          have HRD := Lib.hid hrd
          have hck := HC.out w10 HBP10.out kk hkl
          have HSYS := Lib.hid (And.intro hll' hk')
          clear hkp hS10 hc hSr hrd hll' hk' HBr HBW HBP HB1 HWR HB0
          go_wp2_with (first | (go_at_call 8; (with_reducible refine HRD.out.mono ?_); rintro e w11 ⟨hb11, rv, rln, rcap, rc, rfl, hread⟩; refine Hid.out ?_))
          refine Lib.hid ?_
          have HB11 := Lib.hid hb11
          have HBP11 := Lib.hid (Blk.below HBP10.out hb11)
          have HCN := Lib.hid (counts_any w11 (HS10.out.below hb11) L HSYS.out.1 h4L g cap hc1 hc2 HBP11.out.lt (fun i hi => HC.out w11 HBP11.out i hi))
          have hsb := HSRC.out.below (HB10.out.trans (hb11.mono HB10.out.size))
          have HSB := Lib.hid hsb
          have HREAD := Lib.hid hread
          clear hb11 hread hsb HRD
          go_upto_region 33 with fail
          go_cut [212] from 189 to 212 (fun s wx => s = .bool false ∧ Below w11.heap.size w11 wx)
          case first =>
            as_aux_lemma =>
              by_cases hcz : code = 0
              · have hy := HYES.out hcz
                subst hcz
                by_cases hmz : 0 < m
                · have hmi : (0 : Int) < (m : Int) := by omega
                  rw [HM.out] at hy
                  obtain ⟨rfl, hsl⟩ := HREAD.out hy.1.1
                  rw [hy.1.2] at hsl
                  obtain ⟨S, hS⟩ : ∃ S, bstr xs = S := ⟨_, rfl⟩
                  have hcv1 := slc_string hsl
                  have hcv2 := slc_string HSB.out
                  rw [hS] at hcv1 hcv2
                  clear hy hsl hS hmi
                  go_wp2_with (first | (go_at_call 20; (with_reducible refine HCN.out.mono ?_); rintro e w12 ⟨rfl, hb12⟩; have HB12 := Lib.hid hb12; clear hb12))
                  go_meet
                  exact ⟨rfl, HB12.out⟩
                · obtain rfl : m = 0 := by omega
                  clear hy hmz
                  go_wp2_with (first | (go_at_call 20; (with_reducible refine HCN.out.mono ?_); rintro e w12 ⟨rfl, hb12⟩; have HB12 := Lib.hid hb12; clear hb12))
                  go_meet
                  exact ⟨rfl, HB12.out⟩
              · have dcz : decide (code = 0) = false := decide_eq_false hcz
                go_wp2_with (first | (go_at_call 20; (with_reducible refine HCN.out.mono ?_); rintro e w12 ⟨rfl, hb12⟩; have HB12 := Lib.hid hb12; clear hb12))
                go_meet
                exact ⟨rfl, HB12.out⟩
          case rest =>
            as_aux_lemma =>
              obtain ⟨rfl, hb12⟩ := hcut
              have HS12 := Lib.hid ((HS10.out.below HB11.out).below hb12)
              have HBP12 := Lib.hid (Blk.below HBP11.out hb12)
              have HBW12 := Lib.hid (Blk.below (Blk.below HBW10.out HB11.out) hb12)
              have hb112 := HB10.out.trans (HB11.out.mono HB10.out.size)
              have HB12 := Lib.hid (hb112.trans (hb12.mono hb112.size))
              have hai : (a : Int) < 4294967296 := by have := HWH.out.2.1; omega
              have hz := run_zeroS
              obtain ⟨was, now, fr, sh, hfin, hwas⟩ := fin_of (B := B) (a := a) (m := m) (code := code) HS12.out HLs.out HSYS.out.1 HSYS.out.2 (get_set _ _ _ HSYS.out.2) HNO.out (fun h0 => by have hy := (HYES.out h0).2; rw [HM.out] at hy; exact hy)
              have HFIN := Lib.hid hfin
              have HCW2 : Hid (∀ W, Blk W gw csw 52 → ∀ i, i < L → ∀ q, q < 64 → W.cell? ⟨gw, i * 64 + q, none⟩ = some (.string (was i q))) := Lib.hid (fun W hb i hi q hq => (HCW.out W hb i (by rw [HLs.out]; exact hi) q hq).trans (by rw [hwas i _ q]))
              clear hfin hwas HCW HNO HYES HS12 HSYS HLs HS
              clear hb12 hb112 HCN HREAD HSB HB11 HBP11 HB10 HBP10 HBW10 HS10
              go_wp2
              go_loopw [24] (fun c wr => ∃ i : Nat, i ≤ L ∧ c = .int .i64 (i : Int) ∧ Below wc.heap.size wc wr) (fun c _ => L - (intOf c).toNat)
              case atStart => exact ⟨0, Nat.zero_le _, rfl, Below.refl _ _⟩
              case round =>
                obtain ⟨i, hi, rfl, hB⟩ := hrel
                by_cases hil : i < L
                · have HPG := Lib.hid (HFIN.out.pages wr hB i hil)
                  have hck := HC.out wr (Blk.below HBP12.out hB) i hil
                  have hili : (i : Int) < (L : Int) := by omega
                  have HBo := Lib.hid hB
                  clear hB
                  go_wp2_with (first | (go_at_call 21; (with_reducible refine HPG.out.mono ?_); rintro e w13 ⟨F, rfl, hb13, hFs, hFq⟩; refine Hid.out ?_))
                  refine Lib.hid ?_
                  obtain ⟨W14, hst, hbk, hb14⟩ := Ws.stored w13 F hFs
                  have hb134 := hb13.trans (hb14.mono hb13.size)
                  have HFQ : Hid (∀ W, Below W14.heap.size W14 W → ∀ q, q < 64 → W.cell? ⟨w13.heap.size, q, none⟩ = some (.string (now i q))) := Lib.hid (fun W hb q hq => ((Blk.below hbk hb).cell q).trans (hFq q hq))
                  have HB14 := Lib.hid (HBo.out.trans (hb134.mono HBo.out.size))
                  clear hb13 hb14 hb134 hbk HPG HBo hFs hFq
                  go_wp2
                  go_loopw [26] (fun c wr => ∃ q : Nat, q ≤ 64 ∧ c = .int .i64 (q : Int) ∧ Below W14.heap.size W14 wr) (fun c _ => 64 - (intOf c).toNat)
                  case atStart => exact ⟨0, Nat.zero_le _, rfl, Below.refl _ _⟩
                  case round =>
                    obtain ⟨q, hq, rfl, hB⟩ := hrel
                    by_cases hq64 : q < 64
                    · have hB4 := HB14.out.trans (hB.mono HB14.out.size)
                      obtain ⟨sn, hsn⟩ : ∃ x, now i q = x := ⟨_, rfl⟩
                      obtain ⟨sw, hsw⟩ : ∃ x, was i q = x := ⟨_, rfl⟩
                      obtain ⟨sp, hsp⟩ : ∃ x, now kk q = x := ⟨_, rfl⟩
                      obtain ⟨mine, hmine⟩ : ∃ x, fr kk q = x := ⟨_, rfl⟩
                      obtain ⟨shd, hshd⟩ : ∃ x, sh kk q = x := ⟨_, rfl⟩
                      obtain ⟨other, hother⟩ : ∃ x, fr i q = x := ⟨_, rfl⟩
                      obtain ⟨osh, hosh⟩ : ∃ x, sh i q = x := ⟨_, rfl⟩
                      have hsa := HFIN.out.same i q hil
                      rw [hsn, hsw, hshd, hother, hmine] at hsa
                      have htn := HFIN.out.turn i q hil
                      rw [hsn, hsp, hshd, hother, hmine] at htn
                      have HSA := Lib.hid hsa
                      have HTN := Lib.hid htn
                      have HFK := Lib.hid (HFIN.out.frame wr hB4 kk hkl q hq64 mine shd hmine hshd)
                      have HFI0 := Lib.hid (fun W (hb : Below wr.heap.size wr W) => HFIN.out.frame W (hB4.trans (hb.mono hB4.size)) i hil q hq64 other osh hother hosh)
                      have HPG0 := Lib.hid (fun W (hb : Below wr.heap.size wr W) => HFIN.out.page W (hB4.trans (hb.mono hB4.size)) q sp hsp)
                      have hbp4 := Blk.below HBP12.out hB4
                      have hbw4 := Blk.below HBW12.out hB4
                      have HROW : Hid ((∀ W, Below wr.heap.size wr W → W.cell? ⟨g, kk, none⟩ = some (.pointer (some ⟨qs kk, 0, none⟩))) ∧ (∀ W, Below wr.heap.size wr W → W.cell? ⟨g, i, none⟩ = some (.pointer (some ⟨qs i, 0, none⟩)))) := Lib.hid ⟨fun W hb => HC.out W (Blk.below hbp4 hb) kk hkl, fun W hb => HC.out W (Blk.below hbp4 hb) i hil⟩
                      have HNOW : Hid (∀ W, Below wr.heap.size wr W → W.cell? ⟨w13.heap.size, q, none⟩ = some (.string sn)) := Lib.hid (fun W hb => by
                        have := HFQ.out W (hB.trans (hb.mono hB.size)) q hq64
                        rw [hsn] at this
                        exact this)
                      have HWAS : Hid (∀ W, Below wr.heap.size wr W → W.cell? ⟨gw, i * 64 + q, none⟩ = some (.string sw)) := Lib.hid (fun W hb => by
                        have := HCW2.out W (Blk.below hbw4 hb) i hil q hq64
                        rw [hsw] at this
                        exact this)
                      have hck := HROW.out.1 wr (Below.refl _ _)
                      have HBq := Lib.hid hB
                      have hqi : (q : Int) < 64 := by omega
                      clear hsa htn hbp4 hbw4 hB hB4 hsn hsw hsp hmine hshd hother hosh HFIN HFQ HCW2
                      by_cases hcz : code = 0
                      · subst hcz
                        by_cases hin1 : (a : Int) < (q : Int) * 64 + 64
                        · have d1 : decide ((a : Int) < (q : Int) * 64 + 64) = true := decide_eq_true hin1
                          by_cases hin2 : (q : Int) * 64 < (a : Int) + (m : Int)
                          · have d2 : decide ((q : Int) * 64 < (a : Int) + (m : Int)) = true := decide_eq_true hin2
                            by_cases hik : i = kk
                            · as_aux_lemma =>
                                have hs := HTN.out (.inl hik)
                                subst hik
                                obtain rfl : sn = sp := hs
                                clear hin1 hin2
                                go_wp2_with (first | (go_at_call 10; first | ((with_reducible refine HFI.out.mono ?_); rintro e w16 ⟨rfl, hb16⟩; have HB16 := Lib.hid (HB15.out.trans (hb16.mono HB15.out.size)); clear hb16; refine Hid.out ?_) | ((with_reducible refine HFK.out.mono ?_); rintro e w15 ⟨rfl, hb15⟩; have HB15 := Lib.hid hb15; have HFI := Lib.hid (HFI0.out w15 hb15); have hck := HROW.out.1 w15 hb15; have hci := HROW.out.2 w15 hb15; clear hb15)))
                                refine Lib.hid ?_
                                have hnow := HNOW.out w16 HB16.out
                                have hckk := HROW.out.1 w16 HB16.out
                                have HPAG := Lib.hid (HPG0.out w16.drew HB16.out.drew)
                                go_wp2
                                --REGION i
                                refine wp_region_held_drew (S := fun W' => W'.cell? ⟨w13.heap.size, q, none⟩ = some (.string sn) ∧ W'.cell? ⟨g, i, none⟩ = some (.pointer (some ⟨qs i, 0, none⟩))) (by kernel_rfl) ⟨HNOW.out _ HB16.out.drew, HROW.out.1 _ HB16.out.drew⟩ (fun hHeld => ?_)
                                refine wpAnyH_take (i := 0) (v := ?_) rfl (by kernel_rfl) (by kernel_rfl) (by kernel_rfl) (fun _ _ _ h => h) (Or.inl ⟨by kernel_rfl, ?_⟩) (by assumption) ?_
                                rotate_left 1
                                · intro wz hSw
                                  try dsimp only at hSw
                                  go_simp <;> with_reducible rfl
                                simp only [Act.put, List.setIfInBounds_toArray, List.set_cons_zero, List.set_cons_succ, List.getElem_toArray, List.getElem_cons_zero]
                                refine wpAnyH_take (i := 1) (v := ?_) rfl (by kernel_rfl) (by kernel_rfl) (by kernel_rfl) (fun _ _ _ h => h) (Or.inl ⟨by kernel_rfl, ?_⟩) (by assumption) ?_
                                rotate_left 1
                                · intro wz hSw
                                  try dsimp only at hSw
                                  go_simp <;> with_reducible rfl
                                simp only [Act.put, List.setIfInBounds_toArray, List.set_cons_zero, List.set_cons_succ, List.getElem_toArray, List.getElem_cons_zero, List.getElem_cons_succ]
                                refine wpAnyH_take (i := 2) (v := ?_) rfl (by kernel_rfl) (by kernel_rfl) (by kernel_rfl) (fun _ _ _ h => h) (Or.inl ⟨by kernel_rfl, ?_⟩) (by assumption) ?_
                                rotate_left 1
                                · intro wz hSw
                                  try dsimp only at hSw
                                  go_simp <;> with_reducible rfl
                                simp only [Act.put, List.setIfInBounds_toArray, List.set_cons_zero, List.set_cons_succ, List.getElem_toArray, List.getElem_cons_zero, List.getElem_cons_succ]
                                refine wpAnyH_take (i := 3) (v := undef) rfl (by kernel_rfl) (by kernel_rfl) (by kernel_rfl) (fun _ _ _ h => h) (Or.inr ⟨by kernel_rfl, rfl⟩) (by assumption) ?_
                                simp only [Act.put, List.setIfInBounds_toArray, List.set_cons_zero, List.set_cons_succ, List.getElem_toArray, List.getElem_cons_zero, List.getElem_cons_succ]
                                refine wpAnyH_take (i := 4) (v := undef) rfl (by kernel_rfl) (by kernel_rfl) (by kernel_rfl) (fun _ _ _ h => h) (Or.inr ⟨by kernel_rfl, rfl⟩) (by assumption) ?_
                                simp only [Act.put, List.setIfInBounds_toArray, List.set_cons_zero, List.set_cons_succ, List.getElem_toArray, List.getElem_cons_zero, List.getElem_cons_succ]
                                refine wpAnyH_take (i := 5) (v := undef) rfl (by kernel_rfl) (by kernel_rfl) (by kernel_rfl) (fun _ _ _ h => h) (Or.inr ⟨by kernel_rfl, rfl⟩) (by assumption) ?_
                                simp only [Act.put, List.setIfInBounds_toArray, List.set_cons_zero, List.set_cons_succ, List.getElem_toArray, List.getElem_cons_zero, List.getElem_cons_succ]
                                refine wpAnyH_take (i := 6) (v := undef) rfl (by kernel_rfl) (by kernel_rfl) (by kernel_rfl) (fun _ _ _ h => h) (Or.inr ⟨by kernel_rfl, rfl⟩) (by assumption) ?_
                                simp only [Act.put, List.setIfInBounds_toArray, List.set_cons_zero, List.set_cons_succ, List.getElem_toArray, List.getElem_cons_zero, List.getElem_cons_succ]
                                refine wpAnyH_take (i := 7) (v := undef) rfl (by kernel_rfl) (by kernel_rfl) (by kernel_rfl) (fun _ _ _ h => h) (Or.inr ⟨by kernel_rfl, rfl⟩) (by assumption) ?_
                                simp only [Act.put, List.setIfInBounds_toArray, List.set_cons_zero, List.set_cons_succ, List.getElem_toArray, List.getElem_cons_zero, List.getElem_cons_succ]
                                refine wpAnyH_take (i := 8) (v := undef) rfl (by kernel_rfl) (by kernel_rfl) (by kernel_rfl) (fun _ _ _ h => h) (Or.inr ⟨by kernel_rfl, rfl⟩) (by assumption) ?_
                                simp only [Act.put, List.setIfInBounds_toArray, List.set_cons_zero, List.set_cons_succ, List.getElem_toArray, List.getElem_cons_zero, List.getElem_cons_succ]
                                refine wpAnyH_take (i := 9) (v := undef) rfl (by kernel_rfl) (by kernel_rfl) (by kernel_rfl) (fun _ _ _ h => h) (Or.inr ⟨by kernel_rfl, rfl⟩) (by assumption) ?_
                                simp only [Act.put, List.setIfInBounds_toArray, List.set_cons_zero, List.set_cons_succ, List.getElem_toArray, List.getElem_cons_zero, List.getElem_cons_succ]
                                refine wpAnyH_take (i := 10) (v := undef) rfl (by kernel_rfl) (by kernel_rfl) (by kernel_rfl) (fun _ _ _ h => h) (Or.inr ⟨by kernel_rfl, rfl⟩) (by assumption) ?_
                                simp only [Act.put, List.setIfInBounds_toArray, List.set_cons_zero, List.set_cons_succ, List.getElem_toArray, List.getElem_cons_zero, List.getElem_cons_succ]
                                refine wpAnyH_take (i := 11) (v := undef) rfl (by kernel_rfl) (by kernel_rfl) (by kernel_rfl) (fun _ _ _ h => h) (Or.inr ⟨by kernel_rfl, rfl⟩) (by assumption) ?_
                                simp only [Act.put, List.setIfInBounds_toArray, List.set_cons_zero, List.set_cons_succ, List.getElem_toArray, List.getElem_cons_zero, List.getElem_cons_succ]
                                refine wpAnyH_take (i := 12) (v := undef) rfl (by kernel_rfl) (by kernel_rfl) (by kernel_rfl) (fun _ _ _ h => h) (Or.inr ⟨by kernel_rfl, rfl⟩) (by assumption) ?_
                                simp only [Act.put, List.setIfInBounds_toArray, List.set_cons_zero, List.set_cons_succ, List.getElem_toArray, List.getElem_cons_zero, List.getElem_cons_succ]
                                refine wpAnyH_take (i := 13) (v := ?_) rfl (by kernel_rfl) (by kernel_rfl) (by kernel_rfl) (fun _ _ _ h => h) (Or.inl ⟨by kernel_rfl, ?_⟩) (by assumption) ?_
                                rotate_left 1
                                · intro wz hSw
                                  try dsimp only at hSw
                                  go_simp <;> with_reducible rfl
                                simp only [Act.put, List.setIfInBounds_toArray, List.set_cons_zero, List.set_cons_succ, List.getElem_toArray, List.getElem_cons_zero, List.getElem_cons_succ]
                                refine wpAnyH_take (i := 14) (v := ?_) rfl (by kernel_rfl) (by kernel_rfl) (by kernel_rfl) (fun _ _ _ h => h) (Or.inl ⟨by kernel_rfl, ?_⟩) (by assumption) ?_
                                rotate_left 1
                                · intro wz hSw
                                  try dsimp only at hSw
                                  go_simp <;> with_reducible rfl
                                simp only [Act.put, List.setIfInBounds_toArray, List.set_cons_zero, List.set_cons_succ, List.getElem_toArray, List.getElem_cons_zero, List.getElem_cons_succ]
                                refine wpAnyH_take (i := 15) (v := ?_) rfl (by kernel_rfl) (by kernel_rfl) (by kernel_rfl) (fun _ _ _ h => h) (Or.inl ⟨by kernel_rfl, ?_⟩) (by assumption) ?_
                                rotate_left 1
                                · intro wz hSw
                                  try dsimp only at hSw
                                  go_simp <;> with_reducible rfl
                                simp only [Act.put, List.setIfInBounds_toArray, List.set_cons_zero, List.set_cons_succ, List.getElem_toArray, List.getElem_cons_zero, List.getElem_cons_succ]
                                refine wpAnyH_take (i := 16) (v := ?_) rfl (by kernel_rfl) (by kernel_rfl) (by kernel_rfl) (fun _ _ _ h => h) (Or.inl ⟨by kernel_rfl, ?_⟩) (by assumption) ?_
                                rotate_left 1
                                · intro wz hSw
                                  try dsimp only at hSw
                                  go_simp <;> with_reducible rfl
                                simp only [Act.put, List.setIfInBounds_toArray, List.set_cons_zero, List.set_cons_succ, List.getElem_toArray, List.getElem_cons_zero, List.getElem_cons_succ]
                                refine wpAnyH_take (i := 17) (v := ?_) rfl (by kernel_rfl) (by kernel_rfl) (by kernel_rfl) (fun _ _ _ h => h) (Or.inl ⟨by kernel_rfl, ?_⟩) (by assumption) ?_
                                rotate_left 1
                                · intro wz hSw
                                  try dsimp only at hSw
                                  go_simp <;> with_reducible rfl
                                simp only [Act.put, List.setIfInBounds_toArray, List.set_cons_zero, List.set_cons_succ, List.getElem_toArray, List.getElem_cons_zero, List.getElem_cons_succ]
                                refine wpAnyH_take (i := 18) (v := ?_) rfl (by kernel_rfl) (by kernel_rfl) (by kernel_rfl) (fun _ _ _ h => h) (Or.inl ⟨by kernel_rfl, ?_⟩) (by assumption) ?_
                                rotate_left 1
                                · intro wz hSw
                                  try dsimp only at hSw
                                  go_simp <;> with_reducible rfl
                                simp only [Act.put, List.setIfInBounds_toArray, List.set_cons_zero, List.set_cons_succ, List.getElem_toArray, List.getElem_cons_zero, List.getElem_cons_succ]
                                refine wpAnyH_take (i := 19) (v := ?_) rfl (by kernel_rfl) (by kernel_rfl) (by kernel_rfl) (fun _ _ _ h => h) (Or.inl ⟨by kernel_rfl, ?_⟩) (by assumption) ?_
                                rotate_left 1
                                · intro wz hSw
                                  try dsimp only at hSw
                                  go_simp <;> with_reducible rfl
                                simp only [Act.put, List.setIfInBounds_toArray, List.set_cons_zero, List.set_cons_succ, List.getElem_toArray, List.getElem_cons_zero, List.getElem_cons_succ]
                                refine wpAnyH_take (i := 20) (v := ?_) rfl (by kernel_rfl) (by kernel_rfl) (by kernel_rfl) (fun _ _ _ h => h) (Or.inl ⟨by kernel_rfl, ?_⟩) (by assumption) ?_
                                rotate_left 1
                                · intro wz hSw
                                  try dsimp only at hSw
                                  go_simp <;> with_reducible rfl
                                simp only [Act.put, List.setIfInBounds_toArray, List.set_cons_zero, List.set_cons_succ, List.getElem_toArray, List.getElem_cons_zero, List.getElem_cons_succ]
                                refine wpAnyH_take (i := 21) (v := ?_) rfl (by kernel_rfl) (by kernel_rfl) (by kernel_rfl) (fun _ _ _ h => h) (Or.inl ⟨by kernel_rfl, ?_⟩) (by assumption) ?_
                                rotate_left 1
                                · intro wz hSw
                                  try dsimp only at hSw
                                  go_simp <;> with_reducible rfl
                                simp only [Act.put, List.setIfInBounds_toArray, List.set_cons_zero, List.set_cons_succ, List.getElem_toArray, List.getElem_cons_zero, List.getElem_cons_succ]
                                refine wpAnyH_take (i := 22) (v := ?_) rfl (by kernel_rfl) (by kernel_rfl) (by kernel_rfl) (fun _ _ _ h => h) (Or.inl ⟨by kernel_rfl, ?_⟩) (by assumption) ?_
                                rotate_left 1
                                · intro wz hSw
                                  try dsimp only at hSw
                                  go_simp <;> with_reducible rfl
                                simp only [Act.put, List.setIfInBounds_toArray, List.set_cons_zero, List.set_cons_succ, List.getElem_toArray, List.getElem_cons_zero, List.getElem_cons_succ]
                                refine wpAnyH_take (i := 23) (v := ?_) rfl (by kernel_rfl) (by kernel_rfl) (by kernel_rfl) (fun _ _ _ h => h) (Or.inl ⟨by kernel_rfl, ?_⟩) (by assumption) ?_
                                rotate_left 1
                                · intro wz hSw
                                  try dsimp only at hSw
                                  go_simp <;> with_reducible rfl
                                simp only [Act.put, List.setIfInBounds_toArray, List.set_cons_zero, List.set_cons_succ, List.getElem_toArray, List.getElem_cons_zero, List.getElem_cons_succ]
                                refine wpAnyH_take (i := 24) (v := ?_) rfl (by kernel_rfl) (by kernel_rfl) (by kernel_rfl) (fun _ _ _ h => h) (Or.inl ⟨by kernel_rfl, ?_⟩) (by assumption) ?_
                                rotate_left 1
                                · intro wz hSw
                                  try dsimp only at hSw
                                  go_simp <;> with_reducible rfl
                                simp only [Act.put, List.setIfInBounds_toArray, List.set_cons_zero, List.set_cons_succ, List.getElem_toArray, List.getElem_cons_zero, List.getElem_cons_succ]
                                refine wpAnyH_ready (rs := [25]) (by kernel_rfl) (by simp) ?_
                                refine AllReadyH.cons rfl (fun K hK => ?_) (AllReadyH.nil)
                                go_simp
                                go_wp2_with ((go_at_call 22; (with_reducible refine HPAG.out.mono ?_); rintro e w17 ⟨pa, pn, pc, rfl, hb17, hcv⟩; have HB17 := Lib.hid (HB16.out.drew.trans (hb17.mono HB16.out.drew.size)); clear hb17))
                                refine hK.out _ _ ⟨HNOW.out w17 HB17.out, HROW.out.1 w17 HB17.out⟩ (fun hHeld2 => ?_)
                                clear hK K hHeld
                                refine wpAnyH_ready (rs := [26]) (by kernel_rfl) (by simp) ?_
                                refine AllReadyH.cons rfl (fun K hK => ?_) (AllReadyH.nil)
                                go_simp
                                refine hK.out _ _ hHeld2 (fun hHeld3 => ?_)
                                clear hK K hHeld2
                                refine wpAnyH_take (i := 27) (v := ?_) rfl (by kernel_rfl) (by kernel_rfl) (by kernel_rfl) (fun _ _ _ h => h) (Or.inl ⟨by kernel_rfl, ?_⟩) (by assumption) ?_
                                rotate_left 1
                                · intro wz hSw
                                  try dsimp only at hSw
                                  go_simp <;> with_reducible rfl
                                simp only [Act.put, List.setIfInBounds_toArray, List.set_cons_zero, List.set_cons_succ, List.getElem_toArray, List.getElem_cons_zero, List.getElem_cons_succ]
                                refine wpAnyH_take (i := 28) (v := ?_) rfl (by kernel_rfl) (by kernel_rfl) (by kernel_rfl) (fun _ _ _ h => h) (Or.inl ⟨by kernel_rfl, ?_⟩) (by assumption) ?_
                                rotate_left 1
                                · intro wz hSw
                                  try dsimp only at hSw
                                  go_simp <;> with_reducible rfl
                                simp only [Act.put, List.setIfInBounds_toArray, List.set_cons_zero, List.set_cons_succ, List.getElem_toArray, List.getElem_cons_zero, List.getElem_cons_succ]
                                refine wpAnyH_take (i := 29) (v := ?_) rfl (by kernel_rfl) (by kernel_rfl) (by kernel_rfl) (fun _ _ _ h => h) (Or.inl ⟨by kernel_rfl, ?_⟩) (by assumption) ?_
                                rotate_left 1
                                · intro wz hSw
                                  try dsimp only at hSw
                                  go_simp <;> with_reducible rfl
                                simp only [Act.put, List.setIfInBounds_toArray, List.set_cons_zero, List.set_cons_succ, List.getElem_toArray, List.getElem_cons_zero, List.getElem_cons_succ]
                                refine wpAnyH_done (by kernel_rfl) ?_ _
                                --END
                                go_wp2
                                go_roundw
                                case rel => exact ⟨q + 1, by omega, by go_num, HBq.out.trans (HB17.out.mono HBq.out.size)⟩
                                case measure => simp [intOf]; omega
                            · have d3 : decide ((i : Int) = (kk : Int)) = false := decide_eq_false (by omega)
                              have d3a : ((i : Int) == (kk : Int)) = false := by rw [beq_eq_false_iff_ne]; omega
                              have d3b : (i == kk) = false := by rw [beq_eq_false_iff_ne]; exact hik
                              have d3c : decide (i = kk) = false := decide_eq_false hik
                              cases shd with
                              | false =>
                                as_aux_lemma =>
                                  obtain rfl : sn = sw := HSA.out (.inr (.inr ⟨hik, fun h => by cases h.1⟩))
                                  clear hin1 hin2 hik
                                  go_wp2_with (first | (go_at_call 10; first | ((with_reducible refine HFI.out.mono ?_); rintro e w16 ⟨rfl, hb16⟩; have HB16 := Lib.hid (HB15.out.trans (hb16.mono HB15.out.size)); clear hb16; refine Hid.out ?_) | ((with_reducible refine HFK.out.mono ?_); rintro e w15 ⟨rfl, hb15⟩; have HB15 := Lib.hid hb15; have HFI := Lib.hid (HFI0.out w15 hb15); have hck := HROW.out.1 w15 hb15; have hci := HROW.out.2 w15 hb15; clear hb15)))
                                  refine Lib.hid ?_
                                  have hnow := HNOW.out w16 HB16.out
                                  have hwas := HWAS.out w16 HB16.out
                                  go_wp2
                                  go_quiet (fail)
                                  have HB17 := Lib.hid (Ws.bel_drewN HB16.out nq)
                                  go_wp2
                                  go_roundw
                                  case rel => exact ⟨q + 1, by omega, by go_num, HBq.out.trans (HB17.out.mono HBq.out.size)⟩
                                  case measure => simp [intOf]; omega
                              | true =>
                                by_cases hom : other = mine
                                · as_aux_lemma =>
                                    obtain rfl : sn = sp := HTN.out (.inr ⟨rfl, hom⟩)
                                    subst hom
                                    clear hin1 hin2 hik
                                    go_wp2_with (first | (go_at_call 10; first | ((with_reducible refine HFI.out.mono ?_); rintro e w16 ⟨rfl, hb16⟩; have HB16 := Lib.hid (HB15.out.trans (hb16.mono HB15.out.size)); clear hb16; refine Hid.out ?_) | ((with_reducible refine HFK.out.mono ?_); rintro e w15 ⟨rfl, hb15⟩; have HB15 := Lib.hid hb15; have HFI := Lib.hid (HFI0.out w15 hb15); have hck := HROW.out.1 w15 hb15; have hci := HROW.out.2 w15 hb15; clear hb15)))
                                    refine Lib.hid ?_
                                    have hnow := HNOW.out w16 HB16.out
                                    have hckk := HROW.out.1 w16 HB16.out
                                    have HPAG := Lib.hid (HPG0.out w16.drew HB16.out.drew)
                                    go_wp2
                                    --REGION kk
                                    refine wp_region_held_drew (S := fun W' => W'.cell? ⟨w13.heap.size, q, none⟩ = some (.string sn) ∧ W'.cell? ⟨g, kk, none⟩ = some (.pointer (some ⟨qs kk, 0, none⟩))) (by kernel_rfl) ⟨HNOW.out _ HB16.out.drew, HROW.out.1 _ HB16.out.drew⟩ (fun hHeld => ?_)
                                    refine wpAnyH_take (i := 0) (v := ?_) rfl (by kernel_rfl) (by kernel_rfl) (by kernel_rfl) (fun _ _ _ h => h) (Or.inl ⟨by kernel_rfl, ?_⟩) (by assumption) ?_
                                    rotate_left 1
                                    · intro wz hSw
                                      try dsimp only at hSw
                                      go_simp <;> with_reducible rfl
                                    simp only [Act.put, List.setIfInBounds_toArray, List.set_cons_zero, List.set_cons_succ, List.getElem_toArray, List.getElem_cons_zero]
                                    refine wpAnyH_take (i := 1) (v := ?_) rfl (by kernel_rfl) (by kernel_rfl) (by kernel_rfl) (fun _ _ _ h => h) (Or.inl ⟨by kernel_rfl, ?_⟩) (by assumption) ?_
                                    rotate_left 1
                                    · intro wz hSw
                                      try dsimp only at hSw
                                      go_simp <;> with_reducible rfl
                                    simp only [Act.put, List.setIfInBounds_toArray, List.set_cons_zero, List.set_cons_succ, List.getElem_toArray, List.getElem_cons_zero, List.getElem_cons_succ]
                                    refine wpAnyH_take (i := 2) (v := ?_) rfl (by kernel_rfl) (by kernel_rfl) (by kernel_rfl) (fun _ _ _ h => h) (Or.inl ⟨by kernel_rfl, ?_⟩) (by assumption) ?_
                                    rotate_left 1
                                    · intro wz hSw
                                      try dsimp only at hSw
                                      go_simp <;> with_reducible rfl
                                    simp only [Act.put, List.setIfInBounds_toArray, List.set_cons_zero, List.set_cons_succ, List.getElem_toArray, List.getElem_cons_zero, List.getElem_cons_succ]
                                    refine wpAnyH_take (i := 3) (v := undef) rfl (by kernel_rfl) (by kernel_rfl) (by kernel_rfl) (fun _ _ _ h => h) (Or.inr ⟨by kernel_rfl, rfl⟩) (by assumption) ?_
                                    simp only [Act.put, List.setIfInBounds_toArray, List.set_cons_zero, List.set_cons_succ, List.getElem_toArray, List.getElem_cons_zero, List.getElem_cons_succ]
                                    refine wpAnyH_take (i := 4) (v := undef) rfl (by kernel_rfl) (by kernel_rfl) (by kernel_rfl) (fun _ _ _ h => h) (Or.inr ⟨by kernel_rfl, rfl⟩) (by assumption) ?_
                                    simp only [Act.put, List.setIfInBounds_toArray, List.set_cons_zero, List.set_cons_succ, List.getElem_toArray, List.getElem_cons_zero, List.getElem_cons_succ]
                                    refine wpAnyH_take (i := 5) (v := undef) rfl (by kernel_rfl) (by kernel_rfl) (by kernel_rfl) (fun _ _ _ h => h) (Or.inr ⟨by kernel_rfl, rfl⟩) (by assumption) ?_
                                    simp only [Act.put, List.setIfInBounds_toArray, List.set_cons_zero, List.set_cons_succ, List.getElem_toArray, List.getElem_cons_zero, List.getElem_cons_succ]
                                    refine wpAnyH_take (i := 6) (v := undef) rfl (by kernel_rfl) (by kernel_rfl) (by kernel_rfl) (fun _ _ _ h => h) (Or.inr ⟨by kernel_rfl, rfl⟩) (by assumption) ?_
                                    simp only [Act.put, List.setIfInBounds_toArray, List.set_cons_zero, List.set_cons_succ, List.getElem_toArray, List.getElem_cons_zero, List.getElem_cons_succ]
                                    refine wpAnyH_take (i := 7) (v := undef) rfl (by kernel_rfl) (by kernel_rfl) (by kernel_rfl) (fun _ _ _ h => h) (Or.inr ⟨by kernel_rfl, rfl⟩) (by assumption) ?_
                                    simp only [Act.put, List.setIfInBounds_toArray, List.set_cons_zero, List.set_cons_succ, List.getElem_toArray, List.getElem_cons_zero, List.getElem_cons_succ]
                                    refine wpAnyH_take (i := 8) (v := undef) rfl (by kernel_rfl) (by kernel_rfl) (by kernel_rfl) (fun _ _ _ h => h) (Or.inr ⟨by kernel_rfl, rfl⟩) (by assumption) ?_
                                    simp only [Act.put, List.setIfInBounds_toArray, List.set_cons_zero, List.set_cons_succ, List.getElem_toArray, List.getElem_cons_zero, List.getElem_cons_succ]
                                    refine wpAnyH_take (i := 9) (v := undef) rfl (by kernel_rfl) (by kernel_rfl) (by kernel_rfl) (fun _ _ _ h => h) (Or.inr ⟨by kernel_rfl, rfl⟩) (by assumption) ?_
                                    simp only [Act.put, List.setIfInBounds_toArray, List.set_cons_zero, List.set_cons_succ, List.getElem_toArray, List.getElem_cons_zero, List.getElem_cons_succ]
                                    refine wpAnyH_take (i := 10) (v := undef) rfl (by kernel_rfl) (by kernel_rfl) (by kernel_rfl) (fun _ _ _ h => h) (Or.inr ⟨by kernel_rfl, rfl⟩) (by assumption) ?_
                                    simp only [Act.put, List.setIfInBounds_toArray, List.set_cons_zero, List.set_cons_succ, List.getElem_toArray, List.getElem_cons_zero, List.getElem_cons_succ]
                                    refine wpAnyH_take (i := 11) (v := undef) rfl (by kernel_rfl) (by kernel_rfl) (by kernel_rfl) (fun _ _ _ h => h) (Or.inr ⟨by kernel_rfl, rfl⟩) (by assumption) ?_
                                    simp only [Act.put, List.setIfInBounds_toArray, List.set_cons_zero, List.set_cons_succ, List.getElem_toArray, List.getElem_cons_zero, List.getElem_cons_succ]
                                    refine wpAnyH_take (i := 12) (v := undef) rfl (by kernel_rfl) (by kernel_rfl) (by kernel_rfl) (fun _ _ _ h => h) (Or.inr ⟨by kernel_rfl, rfl⟩) (by assumption) ?_
                                    simp only [Act.put, List.setIfInBounds_toArray, List.set_cons_zero, List.set_cons_succ, List.getElem_toArray, List.getElem_cons_zero, List.getElem_cons_succ]
                                    refine wpAnyH_take (i := 13) (v := ?_) rfl (by kernel_rfl) (by kernel_rfl) (by kernel_rfl) (fun _ _ _ h => h) (Or.inl ⟨by kernel_rfl, ?_⟩) (by assumption) ?_
                                    rotate_left 1
                                    · intro wz hSw
                                      try dsimp only at hSw
                                      go_simp <;> with_reducible rfl
                                    simp only [Act.put, List.setIfInBounds_toArray, List.set_cons_zero, List.set_cons_succ, List.getElem_toArray, List.getElem_cons_zero, List.getElem_cons_succ]
                                    refine wpAnyH_take (i := 14) (v := ?_) rfl (by kernel_rfl) (by kernel_rfl) (by kernel_rfl) (fun _ _ _ h => h) (Or.inl ⟨by kernel_rfl, ?_⟩) (by assumption) ?_
                                    rotate_left 1
                                    · intro wz hSw
                                      try dsimp only at hSw
                                      go_simp <;> with_reducible rfl
                                    simp only [Act.put, List.setIfInBounds_toArray, List.set_cons_zero, List.set_cons_succ, List.getElem_toArray, List.getElem_cons_zero, List.getElem_cons_succ]
                                    refine wpAnyH_take (i := 15) (v := ?_) rfl (by kernel_rfl) (by kernel_rfl) (by kernel_rfl) (fun _ _ _ h => h) (Or.inl ⟨by kernel_rfl, ?_⟩) (by assumption) ?_
                                    rotate_left 1
                                    · intro wz hSw
                                      try dsimp only at hSw
                                      go_simp <;> with_reducible rfl
                                    simp only [Act.put, List.setIfInBounds_toArray, List.set_cons_zero, List.set_cons_succ, List.getElem_toArray, List.getElem_cons_zero, List.getElem_cons_succ]
                                    refine wpAnyH_take (i := 16) (v := ?_) rfl (by kernel_rfl) (by kernel_rfl) (by kernel_rfl) (fun _ _ _ h => h) (Or.inl ⟨by kernel_rfl, ?_⟩) (by assumption) ?_
                                    rotate_left 1
                                    · intro wz hSw
                                      try dsimp only at hSw
                                      go_simp <;> with_reducible rfl
                                    simp only [Act.put, List.setIfInBounds_toArray, List.set_cons_zero, List.set_cons_succ, List.getElem_toArray, List.getElem_cons_zero, List.getElem_cons_succ]
                                    refine wpAnyH_take (i := 17) (v := ?_) rfl (by kernel_rfl) (by kernel_rfl) (by kernel_rfl) (fun _ _ _ h => h) (Or.inl ⟨by kernel_rfl, ?_⟩) (by assumption) ?_
                                    rotate_left 1
                                    · intro wz hSw
                                      try dsimp only at hSw
                                      go_simp <;> with_reducible rfl
                                    simp only [Act.put, List.setIfInBounds_toArray, List.set_cons_zero, List.set_cons_succ, List.getElem_toArray, List.getElem_cons_zero, List.getElem_cons_succ]
                                    refine wpAnyH_take (i := 18) (v := ?_) rfl (by kernel_rfl) (by kernel_rfl) (by kernel_rfl) (fun _ _ _ h => h) (Or.inl ⟨by kernel_rfl, ?_⟩) (by assumption) ?_
                                    rotate_left 1
                                    · intro wz hSw
                                      try dsimp only at hSw
                                      go_simp <;> with_reducible rfl
                                    simp only [Act.put, List.setIfInBounds_toArray, List.set_cons_zero, List.set_cons_succ, List.getElem_toArray, List.getElem_cons_zero, List.getElem_cons_succ]
                                    refine wpAnyH_take (i := 19) (v := ?_) rfl (by kernel_rfl) (by kernel_rfl) (by kernel_rfl) (fun _ _ _ h => h) (Or.inl ⟨by kernel_rfl, ?_⟩) (by assumption) ?_
                                    rotate_left 1
                                    · intro wz hSw
                                      try dsimp only at hSw
                                      go_simp <;> with_reducible rfl
                                    simp only [Act.put, List.setIfInBounds_toArray, List.set_cons_zero, List.set_cons_succ, List.getElem_toArray, List.getElem_cons_zero, List.getElem_cons_succ]
                                    refine wpAnyH_take (i := 20) (v := ?_) rfl (by kernel_rfl) (by kernel_rfl) (by kernel_rfl) (fun _ _ _ h => h) (Or.inl ⟨by kernel_rfl, ?_⟩) (by assumption) ?_
                                    rotate_left 1
                                    · intro wz hSw
                                      try dsimp only at hSw
                                      go_simp <;> with_reducible rfl
                                    simp only [Act.put, List.setIfInBounds_toArray, List.set_cons_zero, List.set_cons_succ, List.getElem_toArray, List.getElem_cons_zero, List.getElem_cons_succ]
                                    refine wpAnyH_take (i := 21) (v := ?_) rfl (by kernel_rfl) (by kernel_rfl) (by kernel_rfl) (fun _ _ _ h => h) (Or.inl ⟨by kernel_rfl, ?_⟩) (by assumption) ?_
                                    rotate_left 1
                                    · intro wz hSw
                                      try dsimp only at hSw
                                      go_simp <;> with_reducible rfl
                                    simp only [Act.put, List.setIfInBounds_toArray, List.set_cons_zero, List.set_cons_succ, List.getElem_toArray, List.getElem_cons_zero, List.getElem_cons_succ]
                                    refine wpAnyH_take (i := 22) (v := ?_) rfl (by kernel_rfl) (by kernel_rfl) (by kernel_rfl) (fun _ _ _ h => h) (Or.inl ⟨by kernel_rfl, ?_⟩) (by assumption) ?_
                                    rotate_left 1
                                    · intro wz hSw
                                      try dsimp only at hSw
                                      go_simp <;> with_reducible rfl
                                    simp only [Act.put, List.setIfInBounds_toArray, List.set_cons_zero, List.set_cons_succ, List.getElem_toArray, List.getElem_cons_zero, List.getElem_cons_succ]
                                    refine wpAnyH_take (i := 23) (v := ?_) rfl (by kernel_rfl) (by kernel_rfl) (by kernel_rfl) (fun _ _ _ h => h) (Or.inl ⟨by kernel_rfl, ?_⟩) (by assumption) ?_
                                    rotate_left 1
                                    · intro wz hSw
                                      try dsimp only at hSw
                                      go_simp <;> with_reducible rfl
                                    simp only [Act.put, List.setIfInBounds_toArray, List.set_cons_zero, List.set_cons_succ, List.getElem_toArray, List.getElem_cons_zero, List.getElem_cons_succ]
                                    refine wpAnyH_take (i := 24) (v := ?_) rfl (by kernel_rfl) (by kernel_rfl) (by kernel_rfl) (fun _ _ _ h => h) (Or.inl ⟨by kernel_rfl, ?_⟩) (by assumption) ?_
                                    rotate_left 1
                                    · intro wz hSw
                                      try dsimp only at hSw
                                      go_simp <;> with_reducible rfl
                                    simp only [Act.put, List.setIfInBounds_toArray, List.set_cons_zero, List.set_cons_succ, List.getElem_toArray, List.getElem_cons_zero, List.getElem_cons_succ]
                                    refine wpAnyH_ready (rs := [25]) (by kernel_rfl) (by simp) ?_
                                    refine AllReadyH.cons rfl (fun K hK => ?_) (AllReadyH.nil)
                                    go_simp
                                    go_wp2_with ((go_at_call 22; (with_reducible refine HPAG.out.mono ?_); rintro e w17 ⟨pa, pn, pc, rfl, hb17, hcv⟩; have HB17 := Lib.hid (HB16.out.drew.trans (hb17.mono HB16.out.drew.size)); clear hb17))
                                    refine hK.out _ _ ⟨HNOW.out w17 HB17.out, HROW.out.1 w17 HB17.out⟩ (fun hHeld2 => ?_)
                                    clear hK K hHeld
                                    refine wpAnyH_ready (rs := [26]) (by kernel_rfl) (by simp) ?_
                                    refine AllReadyH.cons rfl (fun K hK => ?_) (AllReadyH.nil)
                                    go_simp
                                    refine hK.out _ _ hHeld2 (fun hHeld3 => ?_)
                                    clear hK K hHeld2
                                    refine wpAnyH_take (i := 27) (v := ?_) rfl (by kernel_rfl) (by kernel_rfl) (by kernel_rfl) (fun _ _ _ h => h) (Or.inl ⟨by kernel_rfl, ?_⟩) (by assumption) ?_
                                    rotate_left 1
                                    · intro wz hSw
                                      try dsimp only at hSw
                                      go_simp <;> with_reducible rfl
                                    simp only [Act.put, List.setIfInBounds_toArray, List.set_cons_zero, List.set_cons_succ, List.getElem_toArray, List.getElem_cons_zero, List.getElem_cons_succ]
                                    refine wpAnyH_take (i := 28) (v := ?_) rfl (by kernel_rfl) (by kernel_rfl) (by kernel_rfl) (fun _ _ _ h => h) (Or.inl ⟨by kernel_rfl, ?_⟩) (by assumption) ?_
                                    rotate_left 1
                                    · intro wz hSw
                                      try dsimp only at hSw
                                      go_simp <;> with_reducible rfl
                                    simp only [Act.put, List.setIfInBounds_toArray, List.set_cons_zero, List.set_cons_succ, List.getElem_toArray, List.getElem_cons_zero, List.getElem_cons_succ]
                                    refine wpAnyH_take (i := 29) (v := ?_) rfl (by kernel_rfl) (by kernel_rfl) (by kernel_rfl) (fun _ _ _ h => h) (Or.inl ⟨by kernel_rfl, ?_⟩) (by assumption) ?_
                                    rotate_left 1
                                    · intro wz hSw
                                      try dsimp only at hSw
                                      go_simp <;> with_reducible rfl
                                    simp only [Act.put, List.setIfInBounds_toArray, List.set_cons_zero, List.set_cons_succ, List.getElem_toArray, List.getElem_cons_zero, List.getElem_cons_succ]
                                    refine wpAnyH_done (by kernel_rfl) ?_ _
                                    --END
                                    go_wp2
                                    go_roundw
                                    case rel => exact ⟨q + 1, by omega, by go_num, HBq.out.trans (HB17.out.mono HBq.out.size)⟩
                                    case measure => simp [intOf]; omega
                                · as_aux_lemma =>
                                    obtain rfl : sn = sw := HSA.out (.inr (.inr ⟨hik, fun h => hom h.2⟩))
                                    have d4 : decide (other = mine) = false := decide_eq_false hom
                                    have d4a : (other == mine) = false := by rw [beq_eq_false_iff_ne]; exact hom
                                    clear hin1 hin2 hik
                                    go_wp2_with (first | (go_at_call 10; first | ((with_reducible refine HFI.out.mono ?_); rintro e w16 ⟨rfl, hb16⟩; have HB16 := Lib.hid (HB15.out.trans (hb16.mono HB15.out.size)); clear hb16; refine Hid.out ?_) | ((with_reducible refine HFK.out.mono ?_); rintro e w15 ⟨rfl, hb15⟩; have HB15 := Lib.hid hb15; have HFI := Lib.hid (HFI0.out w15 hb15); have hck := HROW.out.1 w15 hb15; have hci := HROW.out.2 w15 hb15; clear hb15)))
                                    refine Lib.hid ?_
                                    have hnow := HNOW.out w16 HB16.out
                                    have hwas := HWAS.out w16 HB16.out
                                    go_wp2
                                    go_quiet (fail)
                                    have HB17 := Lib.hid (Ws.bel_drewN HB16.out nq)
                                    go_wp2
                                    go_roundw
                                    case rel => exact ⟨q + 1, by omega, by go_num, HBq.out.trans (HB17.out.mono HBq.out.size)⟩
                                    case measure => simp [intOf]; omega
                          · as_aux_lemma =>
                              obtain rfl : sn = sw := HSA.out (.inr (.inl (fun h => hin2 h.2)))
                              have d2 : decide ((q : Int) * 64 < (a : Int) + (m : Int)) = false := decide_eq_false hin2
                              clear hin1 hin2
                              go_wp2_with (first | (go_at_call 10; first | ((with_reducible refine HFI.out.mono ?_); rintro e w16 ⟨rfl, hb16⟩; have HB16 := Lib.hid (HB15.out.trans (hb16.mono HB15.out.size)); clear hb16; refine Hid.out ?_) | ((with_reducible refine HFK.out.mono ?_); rintro e w15 ⟨rfl, hb15⟩; have HB15 := Lib.hid hb15; have HFI := Lib.hid (HFI0.out w15 hb15); have hck := HROW.out.1 w15 hb15; have hci := HROW.out.2 w15 hb15; clear hb15)))
                              refine Lib.hid ?_
                              have hnow := HNOW.out w16 HB16.out
                              have hwas := HWAS.out w16 HB16.out
                              go_wp2
                              go_quiet (fail)
                              have HB17 := Lib.hid (Ws.bel_drewN HB16.out nq)
                              go_wp2
                              go_roundw
                              case rel => exact ⟨q + 1, by omega, by go_num, HBq.out.trans (HB17.out.mono HBq.out.size)⟩
                              case measure => simp [intOf]; omega
                        · as_aux_lemma =>
                            obtain rfl : sn = sw := HSA.out (.inr (.inl (fun h => hin1 h.1)))
                            have d1 : decide ((a : Int) < (q : Int) * 64 + 64) = false := decide_eq_false hin1
                            clear hin1
                            go_wp2_with (first | (go_at_call 10; first | ((with_reducible refine HFI.out.mono ?_); rintro e w16 ⟨rfl, hb16⟩; have HB16 := Lib.hid (HB15.out.trans (hb16.mono HB15.out.size)); clear hb16; refine Hid.out ?_) | ((with_reducible refine HFK.out.mono ?_); rintro e w15 ⟨rfl, hb15⟩; have HB15 := Lib.hid hb15; have HFI := Lib.hid (HFI0.out w15 hb15); have hck := HROW.out.1 w15 hb15; have hci := HROW.out.2 w15 hb15; clear hb15)))
                            refine Lib.hid ?_
                            have hnow := HNOW.out w16 HB16.out
                            have hwas := HWAS.out w16 HB16.out
                            go_wp2
                            go_quiet (fail)
                            have HB17 := Lib.hid (Ws.bel_drewN HB16.out nq)
                            go_wp2
                            go_roundw
                            case rel => exact ⟨q + 1, by omega, by go_num, HBq.out.trans (HB17.out.mono HBq.out.size)⟩
                            case measure => simp [intOf]; omega
                      · as_aux_lemma =>
                          obtain rfl : sn = sw := HSA.out (.inl hcz)
                          have dcz : decide (code = 0) = false := decide_eq_false hcz
                          go_wp2_with (first | (go_at_call 10; first | ((with_reducible refine HFI.out.mono ?_); rintro e w16 ⟨rfl, hb16⟩; have HB16 := Lib.hid (HB15.out.trans (hb16.mono HB15.out.size)); clear hb16; refine Hid.out ?_) | ((with_reducible refine HFK.out.mono ?_); rintro e w15 ⟨rfl, hb15⟩; have HB15 := Lib.hid hb15; have HFI := Lib.hid (HFI0.out w15 hb15); have hck := HROW.out.1 w15 hb15; have hci := HROW.out.2 w15 hb15; clear hb15)))
                          refine Lib.hid ?_
                          have hnow := HNOW.out w16 HB16.out
                          have hwas := HWAS.out w16 HB16.out
                          go_wp2
                          go_quiet (fail)
                          have HB17 := Lib.hid (Ws.bel_drewN HB16.out nq)
                          go_wp2
                          go_roundw
                          case rel => exact ⟨q + 1, by omega, by go_num, HBq.out.trans (HB17.out.mono HBq.out.size)⟩
                          case measure => simp [intOf]; omega
                    · obtain rfl : q = 64 := by omega
                      have hb5 := HB14.out.trans (hB.mono HB14.out.size)
                      have HB5 := Lib.hid hb5
                      clear hB hb5
                      go_wp2
                      go_roundw
                      case rel => exact ⟨i + 1, by omega, by go_num, HB5.out⟩
                      case measure => simp [intOf]; omega
                · obtain rfl : i = L := by omega
                  have HBz := Lib.hid (HB12.out.trans (hB.mono HB12.out.size))
                  clear hB
                  go_wp2
                  go_ret
                  exact ⟨rfl, HBz.out⟩
end Go.Proofs.Ytclpokkjbkbkgaa.Wx

namespace Go.Proofs.Ytclpokkjbkbkgaa.Walk
open Go Go.RowKit
theorem spaceWrites (many : Int) (vl : Value) (l : List Oq.Opr) (who a : Int) (vb : Value) (xs : List Nat) (W : World) (_ : (Lit.int .i64 many).wf = true) (hl : Oq.OpsAt W vl l) (hwho : (Lit.int .i64 who).wf = true) (ha : (Lit.int .u32 a).wf = true) (hs : Kit.Slc .u8 W vb xs) (h8 : ∀ x ∈ xs, x < 256) :
    Calls Try.prog 4 #[.int .i64 many, vl, .int .i64 who, .int .u32 a, vb] W fun e W' => e = .returned (.bool true) ∧ Below W.heap.size W W' := by
  obtain ⟨n, rfl, hn⟩ := Kit.u32_nat ha
  exact Wx.writes_law vl l many who n vb xs W hl hwho hn hs h8
end Go.Proofs.Ytclpokkjbkbkgaa.Walk
