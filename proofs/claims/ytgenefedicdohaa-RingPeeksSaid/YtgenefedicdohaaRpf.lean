/-
  RingPeeks: the walk of calls that the law goes through.
-/
import Derived.Test.YtgenefedicdohaaRpk
import Derived.Deep.DeepCutAuto
namespace Go.Proofs.Ytgenefedicdohaa.Rpf
open Go Go.RowKit Go.Shelf Kit Bk Rgm Rgt Rgw Rgp Rgn Rst Ral Rop Rac Rsl Rpk
set_option linter.unusedVariables false
attribute [local go_sem ↓] min_wrap sl_wrap

set_option maxRecDepth 100000 in
set_option maxHeartbeats 8000000 in
theorem peeks_fine (ct : Nat) (v1 : Value) (l : List Opr) (kind : Int) (ys : List Nat) (N : Nat) (bv : Value) (w : World) (h1 : OpsAt w v1 l) (hs : Slc .u8 w bv ys) (hf : Fine l) (hy : ys.length ≤ 300) (hN : N ≤ 300) (hct : ct < 256) :
    Calls Try.prog 7 #[.int .u8 (ct : Int), v1, .agg #[.int .i64 kind, bv, .int .i64 (N : Int)]] w fun e w' => e = .returned (.bool true) ∧ Below w.heap.size w w' := by
  have HS0 := Lib.hid hs
  have HO := Lib.hid h1
  obtain ⟨a1, cap1, rfl, l1, m1, D1⟩ := h1
  obtain ⟨a, cap, rfl, l2, m2, -⟩ := hs
  unfold maxLen at m1 m2
  obtain ⟨wb, hwb⟩ : ∃ wb, w.alloc (.cells #[.int .i64 kind, .slice a ys.length cap, .int .i64 (N : Int)] 33) = wb := ⟨_, rfl⟩
  have hb : Below w.heap.size w wb := by rw [← hwb]; exact (Below.refl _ _).alloc (Nat.le_refl _) _
  have hx : Blk wb w.heap.size #[.int .i64 kind, .slice a ys.length cap, .int .i64 (N : Int)] 33 := by rw [← hwb]; exact Blk.new _ _ _
  have HB := Lib.hid hb
  have HX := Lib.hid hx
  have HD1 := Lib.hid D1
  have HF := Lib.hid hf
  have HY := Lib.hid (And.intro hy hN)
  have b1l : (l.length : Int) ≤ 200 := by have := hf.1; omega
  have d1 : decide ((300 : Int) < (ys.length : Int)) = false := decide_eq_false (by omega)
  have d2 : decide ((N : Int) < 0) = false := decide_eq_false (by omega)
  have d3 : decide ((300 : Int) < (N : Int)) = false := decide_eq_false (by omega)
  have d4 : decide (300 < N) = false := decide_eq_false (by omega)
  have d5 : decide (300 < ys.length) = false := decide_eq_false (by omega)
  have hNI : (N : Int) ≤ 300 := by omega
  have hyI : (ys.length : Int) ≤ 300 := by omega
  obtain ⟨c, hc⟩ : ∃ c, ct % 64 = c := ⟨_, rfl⟩
  have hc64 : c < 64 := by rw [← hc]; exact Nat.mod_lt _ (by omega)
  have hrem : (ct : Int).tmod 64 = (c : Int) := by rw [← hc]; rfl
  have hcI : (c : Int) ≤ 63 := by omega
  have hctI : (ct : Int) ≤ 255 := by omega
  have HC64 := Lib.hid hc64
  clear D1 hf hb hx l1 l2 hc hc64 hct hy hN
  go_enter Try.func7, Try.ntmps7
  go_wp2_with (first | (go_at_call 23; (with_reducible refine (alive_any _).mono ?_); rintro e w1 ⟨rfl, b1⟩; have hbx := HX.out.below b1; have x1 := hbx.cell 1; have x2 := hbx.cell 2; have HX1 := Lib.hid hbx; replace b1 := Lib.hid (And.intro b1 (HB.out.trans (b1.mono HB.out.size))); clear hbx) | (go_at_call 8; (with_reducible refine (great_fine _ l _ (OpsAt.below HO.out b1.out.2) HF.out).mono ?_); rintro e w2 ⟨rfl, rfl⟩) | (go_at_call 22; (with_reducible refine (new_lit _ (1 + c) (1 + (c : Int)) (by omega) ⟨by omega, by have := HC64.out; omega⟩).mono ?_); rintro e w3 ⟨rfl, b3, r3⟩; refine Hid.out ?_))
  refine Lib.hid ?_
  clear x1 x2 d1 d2 d3 d4 d5
  have hS : St w w3 w.heap.size w1.heap.size (1 + c) kind (N : Int) (.slice a ys.length cap) [] := ⟨b1.out.2.trans (b3.mono b1.out.2.size), r3, HX1.out.below b3, b1.out.2.size⟩
  obtain ⟨r, hr⟩ : ∃ r, w1.heap.size = r := ⟨_, rfl⟩
  rw [hr] at hS
  have HS := Lib.hid hS
  clear b3 r3 hS
  go_wp2
  clear hr
  go_loopw [55] (fun i wr => ∃ (k : Nat) (xs : List Nat), k ≤ l.length ∧ i = .int .i64 (k : Int) ∧ St w wr w.heap.size r (1 + c) kind (N : Int) (.slice a ys.length cap) xs) (fun i _ => l.length - (intOf i).toNat)
  case atStart => exact ⟨0, _, Nat.zero_le _, rfl, HS.out⟩
  case round =>
    obtain ⟨k, xs, hk, rfl, hT⟩ := hrel
    by_cases hlt : k < l.length
    · rcases HD1.out with h0 | ⟨b, off, rfl, hb, h4⟩
      · subst h0; simp at hlt
      · have hkl : (k : Int) < (l.length : Int) := by omega
        obtain ⟨c0, ⟨bv, c1, hs⟩, c2, -⟩ := h4 k hlt
        generalize l[k] = o at *
        have y0 := (hT.bel.cell (p := ⟨b, off + k * 3, none⟩) hb).trans c0
        have y1 := (hT.bel.cell (p := ⟨b, off + k * 3 + 1, none⟩) hb).trans c1
        have y2 := (hT.bel.cell (p := ⟨b, off + k * 3 + 2, none⟩) hb).trans c2
        have HA := Lib.hid (act_any wr r (1 + c) xs o bv hT.ring (src_of hs hT.bel hT.lr))
        have HT := Lib.hid hT
        clear h4 c0 c1 c2 hs hT
        go_wp2_with (go_at_call 24; (with_reducible refine HA.out.mono ?_); rintro e w4 ⟨rfl, hk4, hr4⟩; have HE := Lib.hid (HT.out.kr hk4 hr4); clear hk4 hr4)
        go_roundw
        case rel => exact ⟨k + 1, _, by omega, by go_num, HE.out⟩
        case measure => simp [intOf]; omega
    · obtain rfl : k = l.length := by omega
      have HT := Lib.hid hT
      clear hT hk hlt
      go_wp2
      have HA := Lib.hid (all_any (some ⟨r, 0, none⟩) xs wr.drew (tells_ring HT.out.ring))
      have HRm : Hid (∀ W, Below wr.drew.heap.size wr.drew W → _) := Lib.hid (fun W hb => room_any W r (1 + c) xs (Rg.below (w := wr.drew) HT.out.ring hb))
      go_cut [11, 12] (fun s t wx => s = .string (bstr xs) ∧ t = .int .i64 (((1 + c) - xs.length : Nat) : Int) ∧ Below wr.heap.size wr wx)
      case first =>
        go_region_held (fun _ => True) (trivial) (first | (go_at_call 18; (with_reducible refine HA.out.mono ?_); rintro e w6 ⟨b6, rv6, rfl, ho6⟩; have cv6 := slc_string (own_slc ho6); replace ho6 := Lib.hid ho6) | (go_at_call 20; (with_reducible refine (HRm.out _ b6).mono ?_); rintro e w7 ⟨rfl, rfl⟩))
        all_goals go_wp2_with fail
        all_goals go_meet
        all_goals exact ⟨rfl, rfl, (Below.refl wr.heap.size wr).drew.trans b6⟩
      case rest =>
      obtain ⟨rfl, rfl, hbn⟩ := hcut
      have hT := HT.out.below hbn
      have hcl := hT.ring.cap_le
      obtain ⟨R, hR⟩ : ∃ R, (1 + c) - xs.length = R := ⟨_, rfl⟩
      obtain ⟨M, hM⟩ : ∃ M, min ys.length R = M := ⟨_, rfl⟩
      have hw := write_any wc r (1 + c) xs _ ys hT.ring (src_of HS0.out hT.bel hT.lr)
      rw [hR, hM] at hw
      have htk : ys.take R = ys.take M := by
        rcases Nat.lt_or_ge R ys.length with h | h
        · rw [show M = R by omega]
        · rw [List.take_of_length_le h, List.take_of_length_le (by omega)]
      rw [htk] at hw
      obtain ⟨V, hV, hSV⟩ := to_any HS0.out M (by omega)
      have hap := bstr_append xs (ys.take M)
      have hszo : ¬ 9223372036854775807 < (bstr xs).size + (bstr (ys.take M)).size := by
        rw [bstr_size, bstr_size, List.length_take]
        have := HY.out.1
        omega
      obtain ⟨xs2, hx2⟩ : ∃ xs2, xs ++ ys.take M = xs2 := ⟨_, rfl⟩
      have hl2 : xs2.length ≤ 1 + c := by
        rw [← hx2, List.length_append, List.length_take]
        omega
      rw [hx2] at hw hap
      have hmn := fun wx => run_min wx (R : Int) (ys.length : Int) (M : Int) (by omega)
      have hRI : (R : Int) ≤ 64 := by have := HC64.out; omega
      have hMI : (M : Int) ≤ 64 := by have := HC64.out; omega
      have hMy : (M : Int) ≤ (ys.length : Int) := by omega
      have HV : Hid (∀ W, Below w.heap.size w W → (convert 22 9 V).run Try.prog W = .ok (.string (bstr (ys.take M))) W) := Lib.hid (fun W hb => slc_string (hSV.below hb))
      have HL2 := Lib.hid hl2
      have HW := Lib.hid hw
      have HTc := Lib.hid hT
      have y1 := hT.x1
      try rw [hR]
      clear hcl hR hM htk hSV hx2 hl2 hT hw hbn HA HRm
      generalize ys.take M = zs at *
      go_wp2_with (first | (go_at_call 11; (with_reducible refine HW.out.mono ?_); rintro e w5 ⟨rfl, k5, r5⟩; refine Hid.out ?_))
      refine Lib.hid ?_
      clear y1
      have HT5 := Lib.hid (HTc.out.kr k5 r5)
      have HT5d : Hid (St w w5.drew w.heap.size r (1 + c) kind (N : Int) (.slice a ys.length cap) xs2) := Lib.hid (HT5.out.below (Below.refl _ _).drew)
      have HA5 := Lib.hid (all_any (some ⟨r, 0, none⟩) xs2 w5.drew (tells_ring HT5d.out.ring))
      have KS : Hid (∀ W, St w W w.heap.size r (1 + c) kind (N : Int) (.slice a ys.length cap) xs2 → W.cell? ⟨w.heap.size, 1, none⟩ = some (.slice a ys.length cap) ∧ (convert 22 9 V).run Try.prog W = .ok (.string (bstr zs)) W) := Lib.hid (fun W h => ⟨h.x1, HV.out _ h.bel⟩)
      clear k5 r5 HW
      go_wp2
      go_region_held (fun W => W.cell? ⟨w.heap.size, 1, none⟩ = some (.slice a ys.length cap) ∧ (convert 22 9 V).run Try.prog W = .ok (.string (bstr zs)) W) (first | exact KS.out _ HT6.out | exact KS.out _ HT5d.out) (first | (go_at_call 18; (with_reducible refine HA5.out.mono ?_); rintro e w6 ⟨b6, rv6, rfl, ho6⟩; have cv6 := slc_string (own_slc ho6); have HT6 := Lib.hid (HT5d.out.below b6); replace ho6 := Lib.hid ho6))
      clear cv6 hap hszo hmn hMy HV KS
      have HA7 := Lib.hid (all_any (some ⟨r, 0, none⟩) xs2 w6 (tells_ring HT6.out.ring))
      go_wp2_with (first | (go_at_call 18; (with_reducible refine HA7.out.mono ?_); rintro e w7 ⟨b7, rv7, rfl, ho7⟩; have cv7 := slc_string (own_slc ho7); have HT7 := Lib.hid (HT6.out.below b7); clear ho7 b7; have HCp := Lib.hid (copy_any w7 r (1 + c) xs2 HT7.out.ring (by omega))) | (go_at_call 17; (with_reducible refine HCp.out.mono ?_); rintro e w8 ⟨rfl, b8, q8⟩; refine Hid.out ?_))
      refine Lib.hid ?_
      clear cv7 HCp HA7 HA5 HT5d HT5 HTc
      obtain ⟨q, hq⟩ : ∃ q, w7.heap.size = q := ⟨_, rfl⟩
      rw [hq] at q8
      have HNq : Hid (q ≠ r ∧ w.heap.size < q) := Lib.hid ⟨by have := HT7.out.ring.lt; omega, by have := HT7.out.box.lt; omega⟩
      have HT8 := Lib.hid (HT7.out.below b8)
      have HQ8 := Lib.hid q8
      have HP8 := Lib.hid (peek_any (some ⟨r, 0, none⟩) xs2 (N : Int) w8 (tells_ring HT8.out.ring))
      rw [Int.toNat_natCast] at HP8
      have y2 := HT8.out.x2
      obtain ⟨m, hm⟩ : ∃ m, min xs2.length N = m := ⟨_, rfl⟩
      have htm : xs2.take m = xs2.take N := by
        rcases Nat.lt_or_ge N xs2.length with h | h
        · rw [show m = N by omega]
        · rw [List.take_of_length_le h, List.take_of_length_le (by omega)]
      have hmn := fun wx => run_min wx ((bstr xs2).size : Int) (N : Int) (m : Int) (by rw [bstr_size]; omega)
      have hhd := fun wx => run_head wx xs2 m (by omega) (by have := HL2.out; have := HC64.out; omega)
      rw [htm] at hhd
      clear b8 q8 hm htm
      go_wp2_with (first | (go_at_call 15; (with_reducible refine HP8.out.mono ?_); rintro e w9 ⟨b9, rv9, rfl, ho9⟩; have cv9 := slc_string (own_slc ho9); have HT9 := Lib.hid (HT8.out.below b9); have HQ9 := Lib.hid (HQ8.out.below b9); clear ho9 b9 y2; have HA9 := Lib.hid (all_any (some ⟨r, 0, none⟩) xs2 w9 (tells_ring HT9.out.ring))) | (go_at_call 18; (with_reducible refine HA9.out.mono ?_); rintro e wa ⟨ba, rva, rfl, hoa⟩; have cva := slc_string (own_slc hoa); have HTa := Lib.hid (HT9.out.below ba); have HQa := Lib.hid (HQ9.out.below ba); clear hoa ba cv9; have y3 := HTa.out.x2))
      clear cva hmn hhd y3 HA9 HP8 HT9 HQ9 HT8 HQ8 HT7 HT6
      obtain ⟨h, hh⟩ : ∃ h, N / 2 = h := ⟨_, rfl⟩
      have hquo : (N : Int).tdiv 2 = (h : Int) := by rw [← hh]; rfl
      have hhN : (h : Int) ≤ (N : Int) := by omega
      have hwrp : IntKind.i64.wrap (h : Int) = (h : Int) := by rw [IntKind.wrap_i64]; omega
      obtain ⟨N2, hN2⟩ : ∃ N2, N - h = N2 := ⟨_, rfl⟩
      have hsub : (N : Int) - (h : Int) = (N2 : Int) := by omega
      have hwrp2 : IntKind.i64.wrap (N2 : Int) = (N2 : Int) := by rw [IntKind.wrap_i64]; omega
      have hr1 := read_any wa.drew r (1 + c) xs2 (h : Int) (Rg.below (w := wa) HTa.out.ring (Below.refl _ _).drew)
      rw [Int.toNat_natCast] at hr1
      have hr2 := fun W (hr : Rg W r (1 + c) (xs2.drop h)) => read_any W r (1 + c) (xs2.drop h) (N2 : Int) hr
      simp only [Int.toNat_natCast] at hr2
      have htk : xs2.take h ++ (xs2.drop h).take N2 = xs2.take N := by rw [← List.take_add, show h + N2 = N by omega]
      have hdr : (xs2.drop h).drop N2 = xs2.drop N := by rw [List.drop_drop, show h + N2 = N by omega]
      rw [hdr] at hr2
      have hap2 := bstr_append (xs2.take h) ((xs2.drop h).take N2)
      rw [htk] at hap2
      have hszo2 : ¬ 9223372036854775807 < (bstr (xs2.take h)).size + (bstr ((xs2.drop h).take N2)).size := by
        rw [bstr_size, bstr_size, List.length_take, List.length_take]
        have := HL2.out
        have := HC64.out
        omega
      have HR1 := Lib.hid hr1
      have HR2 := Lib.hid hr2
      have HTd : Hid (St w wa.drew w.heap.size r (1 + c) kind (N : Int) (.slice a ys.length cap) xs2) := Lib.hid (HTa.out.below (Below.refl _ _).drew)
      have HQd : Hid (Rg wa.drew q (1 + c) xs2) := Lib.hid (HQa.out.below (Below.refl _ _).drew)
      clear hr1 hr2 htk hdr hh hN2
      go_wp2
      go_cut [17] (fun s wx => s = .string (bstr (xs2.take N)) ∧ St w wx w.heap.size r (1 + c) kind (N : Int) (.slice a ys.length cap) (xs2.drop N) ∧ Rg wx q (1 + c) xs2)
      case first =>
        generalize xs2.take h = za at *
        generalize (xs2.drop h).take N2 = zb at *
        go_region_held (fun W => W.cell? ⟨w.heap.size, 2, none⟩ = some (.int .i64 (N : Int))) (first | exact HTg.out.x2 | exact HTf.out.x2 | exact HTd.out.x2) (first | (go_at_call 13; (with_reducible refine HR1.out.mono ?_); rintro e wf ⟨kf, rf, rvf, rfl, hof⟩; have cvf := slc_string (own_slc hof); have HTf := Lib.hid (HTd.out.kr kf rf); have HQf := Lib.hid (Rg.kept (S := fun j => j = r) HQd.out kf HNq.out.1)) | (go_at_call 13; (with_reducible refine (HR2.out _ HTf.out.ring).mono ?_); rintro e wg ⟨kg, rg, rvg, rfl, hog⟩; have cvg := slc_string (own_slc hog); have cvh := slc_string (own_slc (own_kp hof kg (fun j e => by have := HTd.out.ring.lt; omega))); have HTg := Lib.hid (HTf.out.kr kg rg); have HQg := Lib.hid (Rg.kept (S := fun j => j = r) HQf.out kg HNq.out.1)))
        all_goals go_wp2_with fail
        all_goals go_meet
        all_goals exact ⟨rfl, HTg.out, HQg.out⟩
      case rest =>
      obtain ⟨rfl, hTe, hQe⟩ := hcut
      clear HR1 HR2 HTd HQd hap2 hszo2 hsub hquo hwrp hwrp2 hhN
      have HTe := Lib.hid hTe
      have HTk : Hid (St w wc.drew w.heap.size r (1 + c) kind (N : Int) (.slice a ys.length cap) (xs2.drop N)) := Lib.hid (hTe.below (Below.refl _ _).drew)
      have hqr := read_any wc.drew q (1 + c) xs2 (N : Int) (Rg.below (w := wc) hQe (Below.refl _ _).drew)
      rw [Int.toNat_natCast] at hqr
      have hapq := bstr_append (xs2.take N) (xs2.drop N)
      rw [List.take_append_drop] at hapq
      have hszoq : ¬ 9223372036854775807 < (bstr (xs2.take N)).size + (bstr (xs2.drop N)).size := by
        rw [bstr_size, bstr_size, List.length_take, List.length_drop]
        have := HL2.out
        have := HC64.out
        omega
      have HQR := Lib.hid hqr
      have HAq : Hid (∀ W, Rg W q (1 + c) (xs2.drop N) → _) := Lib.hid (fun W h => all_any (some ⟨q, 0, none⟩) (xs2.drop N) W (tells_ring h))
      have HAr : Hid (∀ W, St w W w.heap.size r (1 + c) kind (N : Int) (.slice a ys.length cap) (xs2.drop N) → _) := Lib.hid (fun W h => all_any (some ⟨r, 0, none⟩) (xs2.drop N) W (tells_ring h.ring))
      have HKq : Hid (∀ W W' : World, St w W w.heap.size r (1 + c) kind (N : Int) (.slice a ys.length cap) (xs2.drop N) → Kp (fun j => j = q) W W' → Rg W' q (1 + c) (xs2.drop N) → St w W' w.heap.size r (1 + c) kind (N : Int) (.slice a ys.length cap) (xs2.drop N)) := Lib.hid (fun W W' h k g => ⟨h.bel.trans (k.below h.bel.size (fun j e => by have := HNq.out.2; omega)), h.ring.kept k (fun e => HNq.out.1 e.symm), h.box.kept k (fun e => by have := HNq.out.2; omega), h.lr⟩)
      clear hqr hTe hQe
      go_wp2
      go_region_held (fun W => W.cell? ⟨w.heap.size, 2, none⟩ = some (.int .i64 (N : Int))) (first | exact HTo.out.x2 | exact HTn.out.x2 | exact HTm.out.x2 | exact HTl.out.x2 | exact HTk.out.x2) (first | (go_at_call 13; (with_reducible refine HQR.out.mono ?_); rintro e wl ⟨kl, rl, rvl, rfl, hol⟩; have cvl := slc_string (own_slc hol); have HTl := Lib.hid (HKq.out _ _ HTk.out kl rl); replace rl := Lib.hid rl; clear hol kl) | (go_at_call 18; (with_reducible refine (HAq.out _ rl.out).mono ?_); rintro e wm ⟨bm, rvm, rfl, hom⟩; have cvm := slc_string (own_slc hom); have HTm := Lib.hid (HTl.out.below bm)) | (go_at_call 18; (with_reducible refine (HAr.out _ HTn.out).mono ?_); rintro e wo ⟨bo, rvo, rfl, hoo⟩; have cvo := slc_string (own_slc hoo); have HTo := Lib.hid (HTn.out.below bo)) | (go_at_call 18; (with_reducible refine (HAr.out _ HTm.out).mono ?_); rintro e wn ⟨bn, rvn, rfl, hon⟩; have cvn := slc_string (own_slc hon); have cvm' := slc_string (own_slc (own_below hom bn)); have HTn := Lib.hid (HTm.out.below bn)))
      all_goals
        go_wp2
        go_ret
        exact ⟨rfl, HTo.out.bel⟩
end Go.Proofs.Ytgenefedicdohaa.Rpf
namespace Go.Proofs.Ytgenefedicdohaa.Walk
open Go Go.RowKit Kit Rop Rpk Rpf
theorem ringPeeks (ct : Int) (v1 : Value) (l : List Opr) (o : Opr) (bv : Value) (W : World) (hc : (Lit.int .u8 ct).wf = true) (h1 : OpsAt W v1 l) (hs : Slc .u8 W bv o.xs) (hn : (Lit.int .i64 o.n).wf = true) :
    Calls Try.prog 7 #[.int .u8 ct, v1, .agg #[.int .i64 o.kind, bv, .int .i64 o.n]] W fun e w' => e = .returned (.bool true) ∧ Below W.heap.size W w' := by
  obtain ⟨c, rfl, h256⟩ := u8_nat hc
  by_cases hf : Far l o
  · exact peeks_far c v1 l o bv W h1 hs hf
  · unfold Far at hf
    simp only [not_or, Classical.not_not] at hf
    obtain ⟨g1, g2, g3, g4⟩ := hf
    obtain ⟨kind, ys, n⟩ := o
    dsimp only at *
    obtain ⟨N, rfl⟩ := Int.eq_ofNat_of_zero_le (show 0 ≤ n by omega)
    exact peeks_fine c v1 l kind ys N bv W h1 hs g1 (by omega) (by omega) h256
end Go.Proofs.Ytgenefedicdohaa.Walk
