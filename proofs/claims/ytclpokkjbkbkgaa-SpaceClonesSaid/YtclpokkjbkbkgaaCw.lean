/-
  A clone reads what was there, whatever is written into the other one: SpaceClones.
-/
import Derived.Test.YtclpokkjbkbkgaaTg
import Derived.BigQuiet
import Derived.Deep.RegionHeld
import Derived.Deep.MidRow
namespace Go.Proofs.Ytclpokkjbkbkgaa.Cw
open Go Go.RowKit Go.Shelf Kit Bk
open Fm hiding Mem made_any len_any
open Fo Fr Fw Fx Fu Fq
open Tm hiding Mem
open Ts Tc Ti Sp Sa Pz To My Pv Mp Mq Dr Cl Iv Iw Ix Wr Sy Al Pg So Oq Sn Tg
set_option linter.unusedVariables false
attribute [local go_sem ↓] ldp_wrap stp_wrap eqp_wrap nep_wrap

set_option maxRecDepth 100000 in
set_option maxHeartbeats 2000000 in
theorem clones_no (vl vm : Value) (l m : List Opr) (many : Int) (w : World) (hl : OpsAt w vl l) (hm : OpsAt w vm m) (hno : ¬ (Fine 20 l ∧ Fine 20 m ∧ 1 ≤ many ∧ many ≤ 40)) :
    Calls Try.prog 5 #[.int .i64 many, vl, vm] w fun e w' => e = .returned (.bool true) ∧ Below w.heap.size w w' := by
  have HN := Lib.hid (new_some many)
  by_cases hfl : Fine 20 l
  case neg =>
    have HGl : Hid (∀ W, Below w.heap.size w W → Calls Try.prog 18 #[vl, .int .i64 20] W fun e w' => e = .returned (.int .i64 1) ∧ W = w') := Lib.hid (fun W hb => great_any vl l W 20 (by decide) (OpsAt.below hl hb) hfl)
    clear hno hfl
    go_enter Try.func5, Try.ntmps5
    go_wp2_with (first | (go_at_call 13; (with_reducible refine (alive_any _).mono ?_); rintro e w1 ⟨rfl, hb⟩; have HB := Lib.hid hb; clear hb) | (go_at_call 17; (with_reducible refine (HN.out _).mono ?_); rintro e w2 ⟨pv, c, rfl, hb⟩; have HB2 := Lib.hid (HB.out.trans (hb.mono HB.out.size)); clear hb) | (go_at_call 18; (with_reducible refine (HGl.out _ HB2.out).mono ?_); rintro e w3 ⟨rfl, rfl⟩))
    go_ret
    exact ⟨rfl, HB2.out⟩
  have HGl : Hid (∀ W, Below w.heap.size w W → Calls Try.prog 18 #[vl, .int .i64 20] W fun e w' => e = .returned (.int .i64 0) ∧ W = w') := Lib.hid (fun W hb => great_fine vl l W 20 (by decide) (OpsAt.below hl hb) hfl)
  by_cases hfm : Fine 20 m
  case neg =>
    have HGm : Hid (∀ W, Below w.heap.size w W → Calls Try.prog 18 #[vm, .int .i64 20] W fun e w' => e = .returned (.int .i64 1) ∧ W = w') := Lib.hid (fun W hb => great_any vm m W 20 (by decide) (OpsAt.below hm hb) hfm)
    clear hno hfl hfm
    go_enter Try.func5, Try.ntmps5
    go_wp2_with (first | (go_at_call 13; (with_reducible refine (alive_any _).mono ?_); rintro e w1 ⟨rfl, hb⟩; have HB := Lib.hid hb; clear hb) | (go_at_call 17; (with_reducible refine (HN.out _).mono ?_); rintro e w2 ⟨pv, c, rfl, hb⟩; have HB2 := Lib.hid (HB.out.trans (hb.mono HB.out.size)); clear hb) | (go_at_call 18; first | ((with_reducible refine (HGl.out _ HB2.out).mono ?_); rintro e w3 ⟨rfl, rfl⟩) | ((with_reducible refine (HGm.out _ HB2.out).mono ?_); rintro e w3 ⟨rfl, rfl⟩)))
    go_ret
    exact ⟨rfl, HB2.out⟩
  have HGm : Hid (∀ W, Below w.heap.size w W → Calls Try.prog 18 #[vm, .int .i64 20] W fun e w' => e = .returned (.int .i64 0) ∧ W = w') := Lib.hid (fun W hb => great_fine vm m W 20 (by decide) (OpsAt.below hm hb) hfm)
  by_cases h40 : 40 < many
  case pos =>
    have d : decide ((40 : Int) < many) = true := decide_eq_true h40
    clear hno hfl hfm h40
    go_enter Try.func5, Try.ntmps5
    go_wp2_with (first | (go_at_call 13; (with_reducible refine (alive_any _).mono ?_); rintro e w1 ⟨rfl, hb⟩; have HB := Lib.hid hb; clear hb) | (go_at_call 17; (with_reducible refine (HN.out _).mono ?_); rintro e w2 ⟨pv, c, rfl, hb⟩; have HB2 := Lib.hid (HB.out.trans (hb.mono HB.out.size)); clear hb) | (go_at_call 18; first | ((with_reducible refine (HGl.out _ HB2.out).mono ?_); rintro e w3 ⟨rfl, rfl⟩) | ((with_reducible refine (HGm.out _ HB2.out).mono ?_); rintro e w3 ⟨rfl, rfl⟩)))
    go_ret
    exact ⟨rfl, HB2.out⟩
  case neg =>
    have d : decide ((40 : Int) < many) = false := decide_eq_false h40
    have HN2 : Hid (∀ W, _) := Lib.hid (fun W => new_arg W many (fun h => hno ⟨hfl, hfm, h.1, by omega⟩))
    clear hno hfl hfm h40 HN
    go_enter Try.func5, Try.ntmps5
    go_wp2_with (first | (go_at_call 13; (with_reducible refine (alive_any _).mono ?_); rintro e w1 ⟨rfl, hb⟩; have HB2 := Lib.hid hb; clear hb) | (go_at_call 17; (with_reducible refine (HN2.out _).mono ?_); rintro e w2 ⟨rfl, rfl⟩) | (go_at_call 18; first | ((with_reducible refine (HGl.out _ HB2.out).mono ?_); rintro e w3 ⟨rfl, rfl⟩) | ((with_reducible refine (HGm.out _ HB2.out).mono ?_); rintro e w3 ⟨rfl, rfl⟩)))
    go_ret
    exact ⟨rfl, HB2.out⟩

theorem tri_lt {w : World} {p b n : Nat} {qs ts : Nat → Nat} {Tc : Tab} {F X Y : Array Value} (h : Tri w p b n qs ts Tc F X Y) : b < w.heap.size ∧ ts 0 < w.heap.size ∧ ts 1 < w.heap.size ∧ ts 2 < w.heap.size := by
  obtain ⟨R, B, Ta, Tb, h1, _⟩ := h
  exact ⟨h1.fm.lt.2, (h1.tm 0 (by decide : 0 < 3)).lt, (h1.tm 1 (by decide : 1 < 3)).lt, (h1.tm 2 (by decide : 2 < 3)).lt⟩
theorem eq_pg {X : Array Value} (h : ∃ B T, X = pgP B T 64) : X.size = 64 ∧ X.all (·.oneCell') = true := by
  obtain ⟨B, T, rfl⟩ := h
  exact ⟨pgP_size _ _ _, pgP_one _ _ _⟩
theorem range_of {w : World} {g : Nat} {F : Array Value} (h : Blk w g F 52) : w.rangeAt g 0 F.toList := fun j v hj => by
  rw [h.cell, Nat.zero_add, ← hj, Array.getElem?_toList]
theorem stored (w8 : World) (F : Array Value) (h : F.size = 64 ∧ F.all (·.oneCell') = true) : ∃ W9, (stP (.pointer (some ⟨w8.heap.size, 0, none⟩)) (.agg F)).run Try.prog (w8.alloc (.cells zS 52)) = .ok () W9 ∧ Blk W9 w8.heap.size F 52 ∧ Below w8.heap.size w8 W9 := by
  have hzs : zS.size = 64 := by simp [zS]
  have hBA : Below w8.heap.size w8 (w8.alloc (.cells zS 52)) := (Below.refl _ _).alloc (Nat.le_refl _) _
  exact ⟨_, run_stP (w8.alloc (.cells zS 52)) w8.heap.size zS F _ (Blk.new _ _ _) hzs h.1 h.2, Tc.Blk.setAll (Blk.new w8 zS 52) (ds := F) (by rw [h.1, hzs]), hBA.trans ((Kp.sets (S := fun j => j = w8.heap.size) w8.heap.size rfl F.toList 0 (w8.alloc (.cells zS 52))).below hBA.size (fun j hj => by rw [hj]; exact Nat.le_refl _))⟩
set_option maxRecDepth 100000 in
set_option maxHeartbeats 4000000 in
theorem clones_law (vl vm : Value) (l m : List Opr) (many : Int) (w : World) (hl : OpsAt w vl l) (hm : OpsAt w vm m) :
    Calls Try.prog 5 #[.int .i64 many, vl, vm] w fun e w' => e = .returned (.bool true) ∧ Below w.heap.size w w' := by
  by_cases hyes : Fine 20 l ∧ Fine 20 m ∧ 1 ≤ many ∧ many ≤ 40
  case neg => exact clones_no vl vm l m many w hl hm hyes
  obtain ⟨hfl, hfm, hm1, hm2⟩ := hyes
  obtain ⟨n, rfl⟩ := Int.eq_ofNat_of_zero_le (show 0 ≤ many by omega)
  have d : decide ((40 : Int) < (n : Int)) = false := decide_eq_false (by omega)
  have HGl : Hid (∀ W, Below w.heap.size w W → Calls Try.prog 18 #[vl, .int .i64 20] W fun e w' => e = .returned (.int .i64 0) ∧ W = w') := Lib.hid (fun W hb => great_fine vl l W 20 (by decide) (OpsAt.below hl hb) hfl)
  have HGm : Hid (∀ W, Below w.heap.size w W → Calls Try.prog 18 #[vm, .int .i64 20] W fun e w' => e = .returned (.int .i64 0) ∧ W = w') := Lib.hid (fun W hb => great_fine vm m W 20 (by decide) (OpsAt.below hm hb) hfm)
  have HN2 : Hid (∀ W, _) := Lib.hid (fun W => new_ok W n (by omega))
  obtain ⟨al, cl, rfl, hl1, hl2, hl3⟩ := hl
  obtain ⟨am, cm, rfl, hm3, hm4, hm5⟩ := hm
  have HFl := Lib.hid hfl
  have HFm := Lib.hid hfm
  have hll : (l.length : Int) ≤ 20 := by have := hfl.1; omega
  have hml : (m.length : Int) ≤ 20 := by have := hfm.1; omega
  have hn40 : (n : Int) ≤ 40 := hm2
  have HL3 := Lib.hid hl3
  have HM5 := Lib.hid hm5
  clear hfl hfm hl3 hm5 hm1 hm2
  go_enter Try.func5, Try.ntmps5
  go_wp2_with (first | (go_at_call 13; (with_reducible refine (alive_any _).mono ?_); rintro e w1 ⟨rfl, hb⟩; have HB1 := Lib.hid hb; clear hb) | (go_at_call 17; (with_reducible refine (HN2.out _).mono ?_); rintro e w2 ⟨hb2, p, b, rfl, hp, hb, hM⟩; have HB := Lib.hid (HB1.out.trans (hb2.mono HB1.out.size)); have HPB := Lib.hid (And.intro (Nat.le_trans HB1.out.size hp) (Nat.le_trans HB1.out.size hb)); have HSN := Lib.hid (sNew w2 p b n hM); clear hb2 hp hb hM) | (go_at_call 18; first | ((with_reducible refine (HGl.out _ HB.out).mono ?_); rintro e w3 ⟨rfl, rfl⟩) | ((with_reducible refine (HGm.out _ HB.out).mono ?_); rintro e w3 ⟨rfl, rfl⟩)) | (go_at_call 15; (with_reducible refine HSN.out.mono ?_); rintro e w4 ⟨q, t, rfl, ht, hb4, hS⟩; refine Hid.out ?_))
  refine Lib.hid ?_
  have HT : Hid (w.heap.size ≤ t) := Lib.hid (Nat.le_trans HB.out.size ht)
  have HON : Hid (On w.heap.size w4 p b n q t) := Lib.hid ⟨_, _, _, hS, ns_none⟩
  have HB4 := Lib.hid (HB.out.trans (hb4.mono HB.out.size))
  clear ht hb4 hS HSN HB HB1 HGl HGm HN2
  go_wp2
  go_loopw [11] (fun i wr => ∃ k : Nat, k ≤ l.length ∧ i = .int .i64 (k : Int) ∧ On w.heap.size wr p b n q t ∧ Below w.heap.size w wr) (fun i _ => l.length - (intOf i).toNat)
  case atStart => exact ⟨0, Nat.zero_le _, rfl, HON.out, HB4.out⟩
  case round =>
    obtain ⟨k, hk, rfl, hon, hB⟩ := hrel
    by_cases hlt : k < l.length
    · rcases HL3.out with h0 | ⟨bl, off, rfl, hbl, h4⟩
      · exact absurd hlt (by rw [h0]; exact Nat.not_lt_zero _)
      · have hx300 := HFl.out.2 _ (List.getElem_mem hlt)
        have h4k := h4 k hlt
        clear h4
        generalize l[k] = o at *
        obtain ⟨⟨bv, c0, c1, c2, c3, c4, c5, c6, c7, c8, c9, c10, c11, c12, c13, hs⟩, hw1, hw2, hw3, hw4, hw5⟩ := h4k
        have HK : Hid (∀ W, Below w.heap.size w W → W.cell? ⟨bl, off + k * 14 + 2, none⟩ = some (.int .i64 o.page) ∧ W.cell? ⟨bl, off + k * 14 + 3, none⟩ = some (.int .i64 o.n) ∧ W.cell? ⟨bl, off + k * 14 + 4, none⟩ = some (.bool o.wb) ∧ W.cell? ⟨bl, off + k * 14 + 6, none⟩ = some (.int .u32 (o.addr : Int)) ∧ W.cell? ⟨bl, off + k * 14 + 8, none⟩ = some bv) := Lib.hid (fun W hb => ⟨(hb.cell (p := ⟨bl, off + k * 14 + 2, none⟩) hbl).trans c2, (hb.cell (p := ⟨bl, off + k * 14 + 3, none⟩) hbl).trans c3, (hb.cell (p := ⟨bl, off + k * 14 + 4, none⟩) hbl).trans c4, (hb.cell (p := ⟨bl, off + k * 14 + 6, none⟩) hbl).trans c6, (hb.cell (p := ⟨bl, off + k * 14 + 8, none⟩) hbl).trans c8⟩)
        obtain ⟨k2, k3, k4, _, _⟩ := HK.out _ hB
        have HMAP := Lib.hid (oMap (N := w.heap.size) (On.below hon ((Below.refl wr.heap.size wr).drew)) hB.size HPB.out.2 HT.out o.page o.n hw2 hw3 o.wb)
        have HWRI := Lib.hid (fun W (hon : On w.heap.size W p b n q t) (hb : Below w.heap.size w W) => oWrite (N := w.heap.size) hon hb.size HPB.out.2 HT.out o.addr hw4 bv o.xs (src_of (S := fun j => j = b ∨ j = t) hs hb (fun j hj => by rcases hj with rfl | rfl; exact HPB.out.2; exact HT.out)) hw5 hx300)
        have HBr := Lib.hid hB
        clear c0 c1 c2 c3 c4 c5 c6 c7 c8 c9 c10 c11 c12 c13 hs hw1 hw2 hw3 hw4 hw5 hx300 hon hB
        go_wp2
        go_region_held (fun W' => W'.cell? ⟨bl, off + k * 14 + 2, none⟩ = some (.int .i64 o.page) ∧ W'.cell? ⟨bl, off + k * 14 + 3, none⟩ = some (.int .i64 o.n) ∧ W'.cell? ⟨bl, off + k * 14 + 4, none⟩ = some (.bool o.wb)) (first | exact ⟨k2, k3, k4⟩ | exact K5.out) (first | (go_at_call 11; (with_reducible refine HMAP.out.mono ?_); rintro e w5 ⟨⟨v, rfl⟩, hon5, hb5⟩; have HB5 := Lib.hid (HBr.out.drew.trans hb5); have K5 := Lib.hid (And.intro (HK.out _ HB5.out).1 (And.intro (HK.out _ HB5.out).2.1 (HK.out _ HB5.out).2.2.1)); have H5 := Lib.hid hon5; clear hon5 hb5))
        obtain ⟨_, _, _, k6, k8⟩ := HK.out _ HB5.out
        have HWR2 := Lib.hid (HWRI.out _ (On.below H5.out ((Below.refl w5.heap.size w5).drew)) HB5.out.drew)
        try go_wp2
        go_region_held (fun W' => W'.cell? ⟨bl, off + k * 14 + 6, none⟩ = some (.int .u32 (o.addr : Int)) ∧ W'.cell? ⟨bl, off + k * 14 + 8, none⟩ = some bv) (first | exact ⟨k6, k8⟩ | exact K6.out) (first | (go_at_call 12; (with_reducible refine HWR2.out.mono ?_); rintro e w6 ⟨⟨v, rfl⟩, hon6, hb6⟩; have HB6 := Lib.hid (HB5.out.drew.trans hb6); have K6 := Lib.hid (HK.out _ HB6.out).2.2.2; have H6 := Lib.hid hon6; clear hon6 hb6))
        go_wp2
        go_roundw
        case rel => exact ⟨k + 1, by omega, by go_num, H6.out, HB6.out⟩
        case measure => simp [intOf]; omega
    · obtain rfl : k = l.length := by omega
      obtain ⟨fv, Tc, F, hfn, hfv, hFp, hfree, hcl⟩ := tri_of hon
      have HFR := Lib.hid hfree
      have HCL := Lib.hid hcl
      have HB := Lib.hid hB
      have HFp := Lib.hid hFp
      have HFV := Lib.hid hfv
      have hfn2 : (fv : Int) ≤ 40 := by omega
      have hFs : F.size = 64 := by obtain ⟨B, T, rfl⟩ := hFp; exact pgP_size _ _ _
      have hF1 : F.all (·.oneCell') = true := by obtain ⟨B, T, rfl⟩ := hFp; exact pgP_one _ _ _
      have HST := Lib.hid (fun W b cs T h hs => run_stP W b cs F T h hs hFs hF1)
      have HSZ := Lib.hid hFs
      have hne := neP_self F hFp
      have hz := run_zeroS
      have hzs : zS.size = 64 := by simp [zS]
      have HZS := Lib.hid hzs
      clear hfree hcl hB hFp hfv hFs hF1 hon hzs
      go_wp2_with (first | (go_at_call 23; (with_reducible refine HFR.out.mono ?_); rintro e w5 ⟨rfl, hb5⟩; have HC1 := Lib.hid (HCL.out _ hb5); have HB5 := Lib.hid (HB.out.trans (hb5.mono HB.out.size)); clear hb5) | (go_at_call 14; first | ((with_reducible refine HC2.out.mono ?_); rintro e w7 ⟨q2, t2, rfl, ht2, hk2, qs, ts, rfl, rfl, rfl, rfl, rfl, rfl, hTR, hF7⟩; refine Hid.out ?_) | ((with_reducible refine HC1.out.mono ?_); rintro e w6 ⟨q1, t1, rfl, ht1, hk1, hc2⟩; have HC2 := Lib.hid hc2; have HB6 := Lib.hid (HB5.out.trans (below_of (N := w.heap.size) hk1 HB5.out.size (fun j hj => by rcases hj with rfl | rfl; exact HPB.out.2; exact HT.out))); have HT1 := Lib.hid (Nat.le_trans HB5.out.size ht1); clear ht1 hk1 hc2)))
      refine Lib.hid ?_
      have HTS : Hid (w.heap.size ≤ b ∧ w.heap.size ≤ ts 0 ∧ w.heap.size ≤ ts 1 ∧ w.heap.size ≤ ts 2) := Lib.hid ⟨HPB.out.2, HT.out, HT1.out, Nat.le_trans HB6.out.size ht2⟩
      have HB7 := Lib.hid (HB6.out.trans (below_of (N := w.heap.size) hk2 HB6.out.size (fun j hj => by rcases hj with rfl | rfl; exact HPB.out.2; exact HT.out)))
      have HTR := Lib.hid hTR
      have HPA := Lib.hid (tPagesA hTR)
      have HF7 := Lib.hid hF7
      clear ht2 hk2 hTR hF7 HT HT1 HB6 HB5 HB HC1 HC2 HCL HFR
      go_wp2_with (first | (go_at_call 21; (with_reducible refine HPA.out.mono ?_); rintro e w8 ⟨rfl, hb8⟩; refine Hid.out ?_))
      refine Lib.hid ?_
      obtain ⟨W9, hst, hbk, hb9⟩ := stored w8 F (eq_pg HFp.out)
      have hb79 := hb8.trans (hb9.mono hb8.size)
      have hlt7 := tri_lt HTR.out
      have hs8 := hb8.size
      have HG : Hid (w8.heap.size ≠ b ∧ w8.heap.size ≠ ts 0 ∧ w8.heap.size ≠ ts 1 ∧ w8.heap.size ≠ ts 2) := Lib.hid (by omega)
      have HTR9 := Lib.hid (HTR.out.below hb79)
      have HB9 := Lib.hid (HB7.out.trans (hb79.mono HB7.out.size))
      have HF9 := Lib.hid (fun W (hb : Below W9.heap.size W9 W) => HF7.out W (hb79.trans (hb.mono hb79.size)))
      have HBK := Lib.hid hbk
      have HLD := Lib.hid (fun W (hb : Below W9.heap.size W9 W) => range_of (Blk.below hbk hb))
      have hld9 := HLD.out W9 (Below.refl _ _)
      have HPB2 := Lib.hid (tPagesB (HTR9.out.below ((Below.refl W9.heap.size W9).drew)))
      have hne2 : ∀ w, (neP (.agg F) (.agg F.toList.toArray)).run Try.prog w = .ok (.bool false) w := by rw [Array.toArray_toList]; exact hne
      clear hb8 hb9 hb79 hlt7 hs8 hbk HTR HF7 HB7 HPA
      go_wp2
      have hu52 := Try.underlying52
      have hi52 : (Try.prog.info? 52).map (·.size) = some F.toList.length := by rw [infoS2, Array.length_toList, HSZ.out]
      go_region_held (fun W' => W'.rangeAt w8.heap.size 0 F.toList) (first | exact hld9 | exact K11.out | exact K10.out) (first | (go_at_call 21; (with_reducible refine HPB2.out.mono ?_); rintro e w10 ⟨rfl, hb10⟩; have HB10 : Hid (Below W9.heap.size W9 w10) := Lib.hid ((Below.refl _ _).drew.trans (hb10.mono (Nat.le_refl _))); have K10 := Lib.hid (HLD.out _ HB10.out); clear hb10) | (go_at_call 23; (with_reducible refine (HF9.out _ (by first | exact HB10.out | exact HB10.out.drew)).mono ?_); rintro e w11 ⟨rfl, hb11⟩; have HB11 : Hid (Below W9.heap.size W9 w11) := Lib.hid (by first | exact HB10.out.trans (hb11.mono HB10.out.size) | exact HB10.out.drew.trans (hb11.mono HB10.out.size)); have K11 := Lib.hid (HLD.out _ HB11.out); clear hb11))
      have HT11 := Lib.hid (HTR9.out.below HB11.out)
      have HB12 := Lib.hid (HB9.out.trans (HB11.out.mono HB9.out.size))
      have HBK11 := Lib.hid (Blk.below HBK.out HB11.out)
      clear hst hld9 hu52 hi52
      go_wp2
      go_loopw [16] (fun i wr => ∃ k : Nat, k ≤ m.length ∧ i = .int .i64 (k : Int) ∧ (∃ X Y, Tri wr p b n qs ts Tc F X Y) ∧ Blk wr w8.heap.size F 52 ∧ Below w.heap.size w wr) (fun i _ => m.length - (intOf i).toNat)
      case atStart => exact ⟨0, Nat.zero_le _, rfl, ⟨_, _, HT11.out⟩, HBK11.out, HB12.out⟩
      case round =>
        clear HPB2 HLD HF9 HBK HB9 HTR9 HB10 HB11 K10 K11 HT11 HB12 HBK11
        obtain ⟨k, hk, rfl, ⟨X, Y, htri⟩, hbk, hB⟩ := hrel
        by_cases hlt : k < m.length
        · rcases HM5.out with h0 | ⟨bl, off, rfl, hbl, h4⟩
          · exact absurd hlt (by rw [h0]; exact Nat.not_lt_zero _)
          · have hx300 := HFm.out.2 _ (List.getElem_mem hlt)
            have h4k := h4 k hlt
            clear h4
            generalize m[k] = o at *
            obtain ⟨⟨bv, c0, c1, c2, c3, c4, c5, c6, c7, c8, c9, c10, c11, c12, c13, hs⟩, hw1, hw2, hw3, hw4, hw5⟩ := h4k
            have HK : Hid (∀ W, Below w.heap.size w W → W.cell? ⟨bl, off + k * 14 + 1, none⟩ = some (.int .i64 o.who) ∧ W.cell? ⟨bl, off + k * 14 + 6, none⟩ = some (.int .u32 (o.addr : Int)) ∧ W.cell? ⟨bl, off + k * 14 + 8, none⟩ = some bv) := Lib.hid (fun W hb => ⟨(hb.cell (p := ⟨bl, off + k * 14 + 1, none⟩) hbl).trans c1, (hb.cell (p := ⟨bl, off + k * 14 + 6, none⟩) hbl).trans c6, (hb.cell (p := ⟨bl, off + k * 14 + 8, none⟩) hbl).trans c8⟩)
            obtain ⟨hF0, hX0, hY0⟩ := htri.eqF
            have hneX := neP_self X hX0
            have hneY := neP_self Y hY0
            have HXp := Lib.hid (eq_pg hX0)
            have HYp := Lib.hid (eq_pg hY0)
            have HPA := Lib.hid (tPagesA htri)
            have HTR := Lib.hid htri
            have HBK := Lib.hid hbk
            have HB := Lib.hid hB
            have HSR0 := Lib.hid (fun W (hb : Below w.heap.size w W) => src_of (S := fun j => j = b ∨ j = ts 0) hs hb (fun j hj => by rcases hj with rfl | rfl; exact HTS.out.1; exact HTS.out.2.1))
            have HSR1 := Lib.hid (fun W (hb : Below w.heap.size w W) => src_of (S := fun j => j = b ∨ j = ts 1) hs hb (fun j hj => by rcases hj with rfl | rfl; exact HTS.out.1; exact HTS.out.2.2.1))
            have HW := Lib.hid (And.intro hw4 (And.intro hw5 hx300))
            clear c0 c1 c2 c3 c4 c5 c6 c7 c8 c9 c10 c11 c12 c13 hs hw1 hw2 hw3 hw4 hw5 hx300 htri hbk hB hF0 hX0 hY0
            go_wp2_with (first | (go_at_call 21; (with_reducible refine HPA.out.mono ?_); rintro e u1 ⟨rfl, hb1⟩; refine Hid.out ?_))
            refine Lib.hid ?_
            obtain ⟨U1, hst1, hbx, hbU1⟩ := stored u1 X HXp.out
            have hbx1 := hb1.trans (hbU1.mono hb1.size)
            have hlt1 := tri_lt HTR.out
            have hgl := HBK.out.lt
            have hs1 := hb1.size
            have HG1 : Hid (u1.heap.size ≠ b ∧ u1.heap.size ≠ ts 0 ∧ u1.heap.size ≠ ts 1 ∧ u1.heap.size ≠ w8.heap.size) := Lib.hid (by omega)
            replace HTR := Lib.hid (HTR.out.below hbx1)
            replace HBK := Lib.hid (Blk.below HBK.out hbx1)
            replace HB := Lib.hid (HB.out.trans (hbx1.mono HB.out.size))
            have HBX := Lib.hid hbx
            have HPB := Lib.hid (tPagesB HTR.out)
            clear hb1 hbU1 hbx1 hlt1 hgl hs1 hbx HPA
            go_wp2_with (first | (go_at_call 21; (with_reducible refine HPB.out.mono ?_); rintro e u2 ⟨rfl, hb2⟩; refine Hid.out ?_))
            refine Lib.hid ?_
            obtain ⟨U2, hst2, hby, hbU2⟩ := stored u2 Y HYp.out
            have hbx2 := hb2.trans (hbU2.mono hb2.size)
            have hlt1 := tri_lt HTR.out
            have hgl := HBX.out.lt
            have hs1 := hb2.size
            have HG2 : Hid (u2.heap.size ≠ b ∧ u2.heap.size ≠ ts 0 ∧ u2.heap.size ≠ ts 1 ∧ u2.heap.size ≠ u1.heap.size) := Lib.hid (by omega)
            replace HTR := Lib.hid (HTR.out.below hbx2)
            replace HBK := Lib.hid (Blk.below HBK.out hbx2)
            replace HBX := Lib.hid (Blk.below HBX.out hbx2)
            replace HB := Lib.hid (HB.out.trans (hbx2.mono HB.out.size))
            have HBY := Lib.hid hby
            obtain ⟨k1, k6, k8⟩ := HK.out _ HB.out
            clear hb2 hbU2 hbx2 hlt1 hgl hs1 hby HPB hst1
            go_wp2
            · have HWA := Lib.hid (tWriteA (HTR.out.below ((Below.refl U2.heap.size U2).drew)) o.addr HW.out.1 bv o.xs (HSR0.out _ HB.out.drew) HW.out.2.1 HW.out.2.2)
              have hne3 : ∀ w, (neP (.agg Y) (.agg Y.toList.toArray)).run Try.prog w = .ok (.bool false) w := by rw [Array.toArray_toList]; exact hneY
              go_region_held (fun W' => W'.cell? ⟨bl, off + k * 14 + 6, none⟩ = some (.int .u32 (o.addr : Int)) ∧ W'.cell? ⟨bl, off + k * 14 + 8, none⟩ = some bv) (first | exact ⟨k6, k8⟩ | exact K6.out) (first | (go_at_call 12; (with_reducible refine HWA.out.mono ?_); rintro e v3 ⟨v, X', rfl, htr3, hk3⟩; have HT3 := Lib.hid htr3; have hk3' : Kp (fun j => j = b ∨ j = ts 0) U2 v3 := (Kp.refl (fun j => j = b ∨ j = ts 0) U2).drew.trans hk3 (fun _ h => .inl h); have HB3 := Lib.hid (HB.out.trans (below_of (N := w.heap.size) hk3' HB.out.size (fun j hj => by rcases hj with rfl | rfl; exact HTS.out.1; exact HTS.out.2.1))); have HBK3 := Lib.hid (Blk.kept HBK.out hk3' (fun e => e.elim HG.out.1 HG.out.2.1)); have HBV3 := Lib.hid (Blk.kept HBY.out hk3' (fun e => e.elim HG2.out.1 HG2.out.2.1)); have K6 := Lib.hid (HK.out _ HB3.out).2; clear htr3 hk3 hk3'))
              have HP4 := Lib.hid (tPagesB (HT3.out.below ((Below.refl v3.heap.size v3).drew)))
              have hld3 := range_of HBV3.out
              clear k1 k6 k8 HWA
              try go_wp2
              have hu52 := Try.underlying52
              have hi52 : (Try.prog.info? 52).map (·.size) = some Y.toList.length := by rw [infoS2, Array.length_toList, HYp.out.1]
              go_region_held (fun W' => W'.rangeAt u2.heap.size 0 Y.toList) (first | exact hld3 | exact K4.out) (first | (go_at_call 21; (with_reducible refine HP4.out.mono ?_); rintro e v4 ⟨rfl, hb4⟩; have HV4 : Hid (Below v3.heap.size v3 v4) := Lib.hid ((Below.refl _ _).drew.trans (hb4.mono (Nat.le_refl _))); have K4 := Lib.hid (range_of (Blk.below HBV3.out HV4.out)); clear hb4))
              have HP5 := Lib.hid (tPagesC (HT3.out.below HV4.out.drew))
              have hld4 := range_of (Blk.below HBK3.out HV4.out)
              clear hu52 hi52 hld3
              go_wp2
              have hu52 := Try.underlying52
              have hi52 : (Try.prog.info? 52).map (·.size) = some F.toList.length := by rw [infoS2, Array.length_toList, HSZ.out]
              go_region_held (fun W' => W'.rangeAt w8.heap.size 0 F.toList) (first | exact hld4 | exact K5.out) (first | (go_at_call 21; (with_reducible refine HP5.out.mono ?_); rintro e v5 ⟨rfl, hb5⟩; have HV5 : Hid (Below v4.heap.size v4 v5) := Lib.hid ((Below.refl _ _).drew.trans (hb5.mono (Nat.le_refl _))); have K5 := Lib.hid (range_of (Blk.below (Blk.below HBK3.out HV4.out) HV5.out)); clear hb5))
              clear hu52 hi52 hld4
              have HV35 := Lib.hid (HV4.out.trans (HV5.out.mono HV4.out.size))
              go_wp2
              go_roundw
              case rel => exact ⟨k + 1, by omega, by go_num, ⟨_, _, HT3.out.below HV35.out⟩, Blk.below HBK3.out HV35.out, HB3.out.trans (HV35.out.mono HB3.out.size)⟩
              case measure => simp [intOf]; omega
            · have HWA := Lib.hid (tWriteB (HTR.out.below ((Below.refl U2.heap.size U2).drew)) o.addr HW.out.1 bv o.xs (HSR1.out _ HB.out.drew) HW.out.2.1 HW.out.2.2)
              have hne3 : ∀ w, (neP (.agg X) (.agg X.toList.toArray)).run Try.prog w = .ok (.bool false) w := by rw [Array.toArray_toList]; exact hneX
              go_region_held (fun W' => W'.cell? ⟨bl, off + k * 14 + 6, none⟩ = some (.int .u32 (o.addr : Int)) ∧ W'.cell? ⟨bl, off + k * 14 + 8, none⟩ = some bv) (first | exact ⟨k6, k8⟩ | exact K6.out) (first | (go_at_call 12; (with_reducible refine HWA.out.mono ?_); rintro e v3 ⟨v, X', rfl, htr3, hk3⟩; have HT3 := Lib.hid htr3; have hk3' : Kp (fun j => j = b ∨ j = ts 1) U2 v3 := (Kp.refl (fun j => j = b ∨ j = ts 1) U2).drew.trans hk3 (fun _ h => .inl h); have HB3 := Lib.hid (HB.out.trans (below_of (N := w.heap.size) hk3' HB.out.size (fun j hj => by rcases hj with rfl | rfl; exact HTS.out.1; exact HTS.out.2.2.1))); have HBK3 := Lib.hid (Blk.kept HBK.out hk3' (fun e => e.elim HG.out.1 HG.out.2.2.1)); have HBV3 := Lib.hid (Blk.kept HBX.out hk3' (fun e => e.elim HG1.out.1 HG1.out.2.2.1)); have K6 := Lib.hid (HK.out _ HB3.out).2; clear htr3 hk3 hk3'))
              have HP4 := Lib.hid (tPagesA (HT3.out.below ((Below.refl v3.heap.size v3).drew)))
              have hld3 := range_of HBV3.out
              clear k1 k6 k8 HWA
              try go_wp2
              have hu52 := Try.underlying52
              have hi52 : (Try.prog.info? 52).map (·.size) = some X.toList.length := by rw [infoS2, Array.length_toList, HXp.out.1]
              go_region_held (fun W' => W'.rangeAt u1.heap.size 0 X.toList) (first | exact hld3 | exact K4.out) (first | (go_at_call 21; (with_reducible refine HP4.out.mono ?_); rintro e v4 ⟨rfl, hb4⟩; have HV4 : Hid (Below v3.heap.size v3 v4) := Lib.hid ((Below.refl _ _).drew.trans (hb4.mono (Nat.le_refl _))); have K4 := Lib.hid (range_of (Blk.below HBV3.out HV4.out)); clear hb4))
              have HP5 := Lib.hid (tPagesC (HT3.out.below HV4.out.drew))
              have hld4 := range_of (Blk.below HBK3.out HV4.out)
              clear hu52 hi52 hld3
              go_wp2
              have hu52 := Try.underlying52
              have hi52 : (Try.prog.info? 52).map (·.size) = some F.toList.length := by rw [infoS2, Array.length_toList, HSZ.out]
              go_region_held (fun W' => W'.rangeAt w8.heap.size 0 F.toList) (first | exact hld4 | exact K5.out) (first | (go_at_call 21; (with_reducible refine HP5.out.mono ?_); rintro e v5 ⟨rfl, hb5⟩; have HV5 : Hid (Below v4.heap.size v4 v5) := Lib.hid ((Below.refl _ _).drew.trans (hb5.mono (Nat.le_refl _))); have K5 := Lib.hid (range_of (Blk.below (Blk.below HBK3.out HV4.out) HV5.out)); clear hb5))
              clear hu52 hi52 hld4
              have HV35 := Lib.hid (HV4.out.trans (HV5.out.mono HV4.out.size))
              go_wp2
              go_roundw
              case rel => exact ⟨k + 1, by omega, by go_num, ⟨_, _, HT3.out.below HV35.out⟩, Blk.below HBK3.out HV35.out, HB3.out.trans (HV35.out.mono HB3.out.size)⟩
              case measure => simp [intOf]; omega
        · obtain rfl : k = m.length := by omega
          have HTR := Lib.hid htri
          have HBK := Lib.hid hbk
          have HB := Lib.hid hB
          have HDA := Lib.hid (tDropA htri)
          clear htri hbk hB
          go_wp2_with (first | (go_at_call 19; first | ((with_reducible refine HDB.out.mono ?_); rintro e x2 ⟨v, rfl, hE, hk2⟩; refine Hid.out ?_) | ((with_reducible refine HDA.out.mono ?_); rintro e x1 ⟨v, rfl, hD, hk1⟩; have HDB := Lib.hid (tDropB hD); have HK1 := Lib.hid hk1; clear hD hk1)))
          refine Lib.hid ?_
          have HBK2 := Lib.hid (Blk.kept (Blk.kept HBK.out HK1.out (fun e => e.elim HG.out.1 HG.out.2.1)) hk2 (fun e => e.elim HG.out.1 HG.out.2.2.1))
          have hb1 := HB.out.trans (below_of (N := w.heap.size) HK1.out HB.out.size (fun j hj => by rcases hj with rfl | rfl; exact HTS.out.1; exact HTS.out.2.1))
          have HB2 := Lib.hid (hb1.trans (below_of (N := w.heap.size) hk2 hb1.size (fun j hj => by rcases hj with rfl | rfl; exact HTS.out.1; exact HTS.out.2.2.1)))
          have HEE := Lib.hid hE
          have HPE := Lib.hid (ePages (hE.below ((Below.refl x2.heap.size x2).drew)))
          have HFE : Hid (∀ W, Below x2.heap.size x2 W → Calls Try.prog 23 #[.pointer (some ⟨p, 0, none⟩)] W fun e w' => e = .returned (.int .i64 (fv : Int)) ∧ Below W.heap.size W w') := Lib.hid (fun W hb => by
            have := eFree (HEE.out.below hb)
            rw [← HFV.out] at this
            exact this)
          have hld2 := range_of HBK2.out
          clear hk2 hE hb1 HDA HDB HK1 HTR
          go_wp2
          have hu52 := Try.underlying52
          have hi52 : (Try.prog.info? 52).map (·.size) = some F.toList.length := by rw [infoS2, Array.length_toList, HSZ.out]
          go_region_held (fun W' => W'.rangeAt w8.heap.size 0 F.toList) (first | exact hld2 | exact K4.out | exact K3.out) (first | (go_at_call 21; (with_reducible refine HPE.out.mono ?_); rintro e x3 ⟨rfl, hb3⟩; have HX3 : Hid (Below x2.heap.size x2 x3) := Lib.hid ((Below.refl _ _).drew.trans (hb3.mono (Nat.le_refl _))); have K3 := Lib.hid (range_of (Blk.below HBK2.out HX3.out)); clear hb3) | (go_at_call 23; (with_reducible refine (HFE.out _ (by first | exact HX3.out | exact HX3.out.drew)).mono ?_); rintro e x4 ⟨rfl, hb4⟩; have HX4 : Hid (Below x2.heap.size x2 x4) := Lib.hid (by first | exact HX3.out.trans (hb4.mono HX3.out.size) | exact HX3.out.drew.trans (hb4.mono HX3.out.size)); have K4 := Lib.hid (range_of (Blk.below HBK2.out HX4.out)); clear hb4))
          have HDC := Lib.hid (tDropC (HEE.out.below HX4.out))
          have HB4z := Lib.hid (HB2.out.trans (HX4.out.mono HB2.out.size))
          clear hu52 hi52 hld2 HFE HPE K3 K4
          go_wp2_with (first | (go_at_call 19; (with_reducible refine HDC.out.mono ?_); rintro e x5 ⟨v, rfl, hZ, hk5⟩; have HZ := Lib.hid hZ; have HB5z := Lib.hid (HB4z.out.trans (below_of (N := w.heap.size) hk5 HB4z.out.size (fun j hj => by rcases hj with rfl | rfl; exact HTS.out.1; exact HTS.out.2.2.2))); clear hZ hk5) | (go_at_call 23; (with_reducible refine (zFree HZ.out).mono ?_); rintro e x6 ⟨rfl, hb6⟩; have HZ6 := Lib.hid (HZ.out.below hb6); have HB6z := Lib.hid (HB5z.out.trans (hb6.mono HB5z.out.size)); clear hb6) | (go_at_call 24; (with_reducible refine (zLen HZ6.out).mono ?_); rintro e x7 ⟨rfl, rfl⟩) | (go_at_call 25; (with_reducible refine (zList HZ6.out).mono ?_); rintro e x8 ⟨la, lc, rfl, hb8⟩; have HB8z := Lib.hid (HB6z.out.trans (hb8.mono HB6z.out.size)); clear hb8))
          go_ret
          exact ⟨rfl, HB8z.out⟩
end Go.Proofs.Ytclpokkjbkbkgaa.Cw
namespace Go.Proofs.Ytclpokkjbkbkgaa.Walk
open Go Go.RowKit
theorem spaceClones (many : Int) (vl : Value) (l : List Oq.Opr) (vm : Value) (m : List Oq.Opr) (W : World) (_ : (Lit.int .i64 many).wf = true) (hl : Oq.OpsAt W vl l) (hm : Oq.OpsAt W vm m) :
    Calls Try.prog 5 #[.int .i64 many, vl, vm] W fun e W' => e = .returned (.bool true) ∧ Below W.heap.size W W' :=
  Cw.clones_law vl vm l m many W hl hm
end Go.Proofs.Ytclpokkjbkbkgaa.Walk
