/-
  FilesFds: the walk.
-/
import Derived.Test.YtmdldehdlggpkaaJf
namespace Go.Proofs.Ytmdldehdlggpkaa.Jfd
open Go Go.RowKit Kit Bk Jp Jm Ji Jo Ju Jd Je Jr Jq Js Jb Jx Jy Jz Jt Jf
set_option linter.unusedVariables false

theorem gD_pos {D : Nat → Nat} {k : Nat} (hk : k < 8) (h : D k ≠ 0) : decide (0 ≤ gD D (k : Int)) = true := decide_eq_true (by rw [gD_nat hk]; omega)
theorem gD_not {D : Nat → Nat} {k : Nat} (hk : k < 8) (h : D k = 0) : decide (0 ≤ gD D (k : Int)) = false := decide_eq_false (by rw [gD_nat hk]; omega)
theorem gD_up {D : Nat → Nat} {k m v : Nat} (hk : k < 8) (h : k ≠ m) : gD (up D m v) (k : Int) = gD D (k : Int) := by rw [gD_nat hk, gD_nat hk, up_other _ _ _ _ h]
theorem law_long (va : Value) (ops : List Opr) (w : World) (h : OpsAt w va ops) (hl : ¬ ops.length ≤ 200) (x y : Value) :
    Calls Try.prog 9 #[va, x, y] w fun e w' => e = .returned (.bool true) ∧ Below w.heap.size w w' := by
  obtain ⟨ad, cap, rfl, h1, h2, h3⟩ := h
  have dl : decide ((200 : Int) < (ops.length : Int)) = true := decide_eq_true (by omega)
  clear h3 hl
  go_enter Try.func9, Try.ntmps9
  go_wp2_with (go_at_call 29; (with_reducible refine (Jw.alive_any _).mono ?_); rintro e w1 ⟨rfl, b1⟩; have B1 := Lib.hid b1; clear b1)
  go_ret
  exact ⟨rfl, B1.out⟩

set_option maxRecDepth 100000 in
set_option maxHeartbeats 16000000 in
theorem fds_fine (va : Value) (ops : List Opr) (w : World) (h : OpsAt w va ops) (hl : ops.length ≤ 200) (a b : Nat) (ha : a < 256) (hb : b < 256) :
    Calls Try.prog 9 #[va, .int .u8 (a : Int), .int .u8 (b : Int)] w fun e w' => e = .returned (.bool true) ∧ Below w.heap.size w w' := by
  obtain ⟨ad, cap, rfl, h1, h2, -⟩ := id h
  have HO := Lib.hid h
  have HL := Lib.hid hl
  have dl : decide ((200 : Int) < (ops.length : Int)) = false := decide_eq_false (by omega)
  have hwa : wrap64 (a : Int) = (a : Int) := IntWalk.wrap64_in _ (by omega)
  have hwb : wrap64 (b : Int) = (b : Int) := IntWalk.wrap64_in _ (by omega)
  obtain ⟨m, hm⟩ : ∃ m, a % 8 = m := ⟨_, rfl⟩
  obtain ⟨n, hn⟩ : ∃ n, b % 65 = n := ⟨_, rfl⟩
  have hra : (a : Int).tmod 8 = (m : Int) := by rw [← hm]; rfl
  have hrb : (b : Int).tmod 65 = (n : Int) := by rw [← hn]; rfl
  have hm8 : m < 8 := by omega
  have hn65 : n < 65 := by omega
  have hm8i : (m : Int) < 8 := by omega
  have hn65i : (n : Int) < 65 := by omega
  clear h hl ha hb hm hn
  go_enter Try.func9, Try.ntmps9
  go_wp2_with (first
    | (go_at_call 29; (with_reducible refine (Jw.alive_any _).mono ?_); rintro e w1 ⟨rfl, b1⟩; have B1 := Lib.hid b1; clear b1)
    | (go_at_call 33; (with_reducible refine (grown_any _ _ ops (OpsAt.below HO.out B1.out) HL.out).mono ?_); rintro e w2 ⟨p, rfl, f, d, q, v, S, D, hbo, hg⟩; refine Hid.out ?_))
  refine Lib.hid ?_
  have p1 : w2.cell? ⟨p, 1, none⟩ = some (.pointer (some ⟨d, 0, none⟩)) := hbo.blk.cell 1
  have HC := Lib.hid (fcopy_any w2 d D hbo.ds)
  have HBo := Lib.hid hbo
  clear hbo hg HO HL
  go_wp2_with (first | (go_at_call 32; (with_reducible refine HC.out.mono ?_); rintro e w3 ⟨rfl, b3, hc3⟩; refine Hid.out ?_))
  refine Lib.hid ?_
  obtain ⟨c, hc⟩ : ∃ c, w2.heap.size = c := ⟨_, rfl⟩
  have hcd : c ≠ d := by have := HBo.out.ds.lt; omega
  have hb3 := HBo.out.below b3
  have p13 : w3.cell? ⟨p, 1, none⟩ = some (.pointer (some ⟨d, 0, none⟩)) := hb3.blk.cell 1
  rw [hc] at hc3 ⊢
  have HGc := Lib.hid (fget_any w3 c D hc3 (m : Int))
  have HB3 := Lib.hid hb3
  have HC3 := Lib.hid hc3
  clear b3 hb3 hc3 HC p1 hc
  generalize hw : gD D (m : Int) = was at HGc
  by_cases hn64 : n = 64
  · subst hn64
    by_cases hz : D m = 0
    · have HCall := Lib.hid (close_any w3 d D HB3.out.ds (m : Int))
      have hwv : was = -1 := by rw [← hw]; exact (gD_free hm8).2 hz
      have HCall : Hid (Calls Try.prog 25 #[.pointer (some ⟨d, 0, none⟩), .int .i64 (m : Int)] w3 fun e w' => e = .returned (.tuple #[.int .i64 0, .int .i64 103]) ∧ Kp (fun j => j = d) w3 w' ∧ Ds w' d D) := Lib.hid (by
        have := HCall.out
        unfold cN cE cD at this
        rw [hw, hwv, if_pos rfl, if_pos rfl, if_pos rfl] at this
        exact this)
      obtain ⟨D', hD'⟩ : ∃ D', D = D' := ⟨_, rfl⟩
      have HOth : Hid (∀ i : Nat, i < 8 → i ≠ m → gD D' (i : Int) = gD D (i : Int)) := Lib.hid (fun _ _ _ => by rw [hD'])
      have HNow : Hid (gD D' (m : Int) = -1) := Lib.hid (by rw [← hD', hw, hwv])
      replace HCall : Hid (Calls Try.prog 25 #[.pointer (some ⟨d, 0, none⟩), .int .i64 (m : Int)] w3 fun e w' => e = .returned (.tuple #[.int .i64 0, .int .i64 103]) ∧ Kp (fun j => j = d) w3 w' ∧ Ds w' d D') := Lib.hid (by rw [← hD']; exact HCall.out)
      clear hw hz hD'
      subst hwv
      go_wp2_with (first | (go_at_call 20; (with_reducible refine HGc.out.mono ?_); rintro e w3b ⟨rfl, rfl⟩) | (go_at_call 25; (with_reducible refine HCall.out.mono ?_); rintro e w4 ⟨rfl, k4, g4⟩; refine Hid.out ?_))
      refine Lib.hid ?_
      have HC4 := Lib.hid (HC3.out.kept k4 hcd)
      have HD4 := Lib.hid (HB3.out.onD k4 g4)
      clear k4 g4 HCall
      have p14 : w4.cell? ⟨p, 1, none⟩ = some (.pointer (some ⟨d, 0, none⟩)) := HD4.out.blk.cell 1
      have HLi := Lib.hid (flist_row w4 d D' HD4.out.ds)
      clear HGc HC3 HB3 p13
      go_wp2_with (first | (go_at_call 14; (with_reducible refine HLi.out.mono ?_); rintro e w5 ⟨b5, rfl, hrow⟩; refine Hid.out ?_))
      refine Lib.hid ?_
      have hb5 := HD4.out.below b5
      have hc5 := HC4.out.below b5
      have p15 : w5.cell? ⟨p, 1, none⟩ = some (.pointer (some ⟨d, 0, none⟩)) := hb5.blk.cell 1
      have HG5 := Lib.hid (fun i : Int => fget_any w5 d D' hb5.ds i)
      have HGc5 := Lib.hid (fun i : Int => fget_any w5 c D hc5 i)
      have HLe := Lib.hid (flen_any w5 d D' hb5.ds)
      have HRow := Lib.hid hrow
      have HE := Lib.hid (B1.out.trans (hb5.bel.mono B1.out.size))
      generalize w4.heap.size = g at *
      clear hrow b5 hb5 hc5 HLi p14 HD4 HC4 HBo
      go_wp2
      go_loop [18, 19] (fun s i => ∃ k : Nat, k ≤ 8 ∧ s = .int .i64 ((usd D' k).length : Int) ∧ i = .int .i64 (k : Int)) (fun _ i => 8 - (intOf i).toNat)
      case atStart => exact ⟨0, Nat.zero_le _, rfl, rfl⟩
      case round =>
        obtain ⟨k, hk, rfl, rfl⟩ := hrel
        have hul := usd_len D' k
        by_cases hlt : k < 8
        · have hk8 : (k : Int) < 8 := by omega
          have c0 := HRow.out k hlt
          have hGk := HG5.out (k : Int)
          have hGck := HGc5.out (k : Int)
          have hoth := fun e => HOth.out k hlt e
          by_cases hkm : k = m
          · subst hkm
            rw [HNow.out] at c0 hGk
            have hgp := gD_pos (D := D') hlt
            have hgn := gD_not (D := D') hlt
            rw [HNow.out] at hgp hgn
            have HGk := Lib.hid hGk
            have HGck := Lib.hid hGck
            generalize gD D (k : Int) = G0 at *
            clear hoth hGk hGck HRow HG5 HGc5
            by_cases hz : D' k = 0
            · have d0 := hgn hz
              have hu := usd_no hz
              clear hgp hgn hz HOth HNow
              first
                | (simp at d0; done)
                | (go_wp2_with (go_at_call 20; first | ((with_reducible refine HGck.out.mono ?_); rintro e w9 ⟨rfl, rfl⟩) | ((with_reducible refine HGk.out.mono ?_); rintro e w9 ⟨rfl, rfl⟩))
                   go_round
                   case rel => exact ⟨k + 1, by omega, by rw [hu], by go_num⟩
                   case measure => simp [intOf]; omega)
            · have d0 := hgp hz
              have hu : Hid ((usd D' (k + 1)).length = (usd D' k).length + 1) := Lib.hid (by rw [usd_yes hz, List.length_append]; rfl)
              clear hgp hgn hz HOth HNow
              generalize (usd D' k).length = L at *
              have hLi : (L : Int) ≤ 8 := by omega
              first
                | (simp at d0; done)
                | (go_wp2_with (go_at_call 20; first | ((with_reducible refine HGck.out.mono ?_); rintro e w9 ⟨rfl, rfl⟩) | ((with_reducible refine HGk.out.mono ?_); rintro e w9 ⟨rfl, rfl⟩))
                   go_round
                   case rel => exact ⟨k + 1, by omega, by rw [hu.out]; go_num, by go_num⟩
                   case measure => simp [intOf]; omega)
          · rw [← hoth hkm] at hGck
            have hne : ((k : Int) == (m : Int)) = false := by simp; omega
            have hgp := gD_pos (D := D') hlt
            have hgn := gD_not (D := D') hlt
            have HGk := Lib.hid hGk
            have HGck := Lib.hid hGck
            clear hoth hGk hGck HRow HG5 HGc5
            generalize gD D' (k : Int) = G at *
            by_cases hz : D' k = 0
            · have d0 := hgn hz
              have hu := usd_no hz
              clear hgp hgn hz HOth HNow hkm
              go_wp2_with (go_at_call 20; first | ((with_reducible refine HGck.out.mono ?_); rintro e w9 ⟨rfl, rfl⟩) | ((with_reducible refine HGk.out.mono ?_); rintro e w9 ⟨rfl, rfl⟩))
              go_round
              case rel => exact ⟨k + 1, by omega, by rw [hu], by go_num⟩
              case measure => simp [intOf]; omega
            · have d0 := hgp hz
              have hu : Hid ((usd D' (k + 1)).length = (usd D' k).length + 1) := Lib.hid (by rw [usd_yes hz, List.length_append]; rfl)
              clear hgp hgn hz HOth HNow hkm
              generalize (usd D' k).length = L at *
              have hLi : (L : Int) ≤ 8 := by omega
              go_wp2_with (go_at_call 20; first | ((with_reducible refine HGck.out.mono ?_); rintro e w9 ⟨rfl, rfl⟩) | ((with_reducible refine HGk.out.mono ?_); rintro e w9 ⟨rfl, rfl⟩))
              go_round
              case rel => exact ⟨k + 1, by omega, by rw [hu.out]; go_num, by go_num⟩
              case measure => simp [intOf]; omega
        · obtain rfl : k = 8 := by omega
          clear HRow HG5 HGc5
          generalize (usd D' 8).length = L at *
          go_wp2_with (go_at_call 19; (with_reducible refine HLe.out.mono ?_); rintro e w6 ⟨rfl, b6⟩; have B6 := Lib.hid b6; clear b6)
          go_ret
          exact ⟨rfl, HE.out.trans (B6.out.mono HE.out.size)⟩
    · have HCall := Lib.hid (close_any w3 d D HB3.out.ds (m : Int))
      have hwv : was ≠ -1 := fun e => hz ((gD_free hm8).1 (by rw [hw, e]))
      have hwl : decide (was < 0) = false := decide_eq_false (by rw [← hw, gD_nat hm8]; omega)
      replace HCall : Hid (Calls Try.prog 25 #[.pointer (some ⟨d, 0, none⟩), .int .i64 (m : Int)] w3 fun e w' => e = .returned (.tuple #[.int .i64 was, .int .i64 0]) ∧ Kp (fun j => j = d) w3 w' ∧ Ds w' d (up D m 0)) := Lib.hid (by
        have := HCall.out
        unfold cN cE cD at this
        rw [hw, if_neg hwv, if_neg hwv, if_neg hwv] at this
        exact this)
      have HOth : Hid (∀ i : Nat, i < 8 → i ≠ m → gD (up D m 0) (i : Int) = gD D (i : Int)) := Lib.hid (fun i hi hne => gD_up hi hne)
      have HNow : Hid (gD (up D m 0) (m : Int) = -1) := Lib.hid (by rw [gD_nat hm8, up_same]; rfl)
      generalize up D m 0 = D' at *
      clear hw hz hwv
      go_wp2_with (first | (go_at_call 20; (with_reducible refine HGc.out.mono ?_); rintro e w3b ⟨rfl, rfl⟩) | (go_at_call 25; (with_reducible refine HCall.out.mono ?_); rintro e w4 ⟨rfl, k4, g4⟩; refine Hid.out ?_))
      refine Lib.hid ?_
      have HC4 := Lib.hid (HC3.out.kept k4 hcd)
      have HD4 := Lib.hid (HB3.out.onD k4 g4)
      clear k4 g4 HCall
      have p14 : w4.cell? ⟨p, 1, none⟩ = some (.pointer (some ⟨d, 0, none⟩)) := HD4.out.blk.cell 1
      have HLi := Lib.hid (flist_row w4 d D' HD4.out.ds)
      clear HGc HC3 HB3 p13
      go_wp2_with (first | (go_at_call 14; (with_reducible refine HLi.out.mono ?_); rintro e w5 ⟨b5, rfl, hrow⟩; refine Hid.out ?_))
      refine Lib.hid ?_
      have hb5 := HD4.out.below b5
      have hc5 := HC4.out.below b5
      have p15 : w5.cell? ⟨p, 1, none⟩ = some (.pointer (some ⟨d, 0, none⟩)) := hb5.blk.cell 1
      have HG5 := Lib.hid (fun i : Int => fget_any w5 d D' hb5.ds i)
      have HGc5 := Lib.hid (fun i : Int => fget_any w5 c D hc5 i)
      have HLe := Lib.hid (flen_any w5 d D' hb5.ds)
      have HRow := Lib.hid hrow
      have HE := Lib.hid (B1.out.trans (hb5.bel.mono B1.out.size))
      generalize w4.heap.size = g at *
      clear hrow b5 hb5 hc5 HLi p14 HD4 HC4 HBo
      go_wp2
      go_loop [18, 19] (fun s i => ∃ k : Nat, k ≤ 8 ∧ s = .int .i64 ((usd D' k).length : Int) ∧ i = .int .i64 (k : Int)) (fun _ i => 8 - (intOf i).toNat)
      case atStart => exact ⟨0, Nat.zero_le _, rfl, rfl⟩
      case round =>
        obtain ⟨k, hk, rfl, rfl⟩ := hrel
        have hul := usd_len D' k
        by_cases hlt : k < 8
        · have hk8 : (k : Int) < 8 := by omega
          have c0 := HRow.out k hlt
          have hGk := HG5.out (k : Int)
          have hGck := HGc5.out (k : Int)
          have hoth := fun e => HOth.out k hlt e
          by_cases hkm : k = m
          · subst hkm
            rw [HNow.out] at c0 hGk
            have hgp := gD_pos (D := D') hlt
            have hgn := gD_not (D := D') hlt
            rw [HNow.out] at hgp hgn
            have HGk := Lib.hid hGk
            have HGck := Lib.hid hGck
            generalize gD D (k : Int) = G0 at *
            clear hoth hGk hGck HRow HG5 HGc5
            by_cases hz : D' k = 0
            · have d0 := hgn hz
              have hu := usd_no hz
              clear hgp hgn hz HOth HNow
              first
                | (simp at d0; done)
                | (go_wp2_with (go_at_call 20; first | ((with_reducible refine HGck.out.mono ?_); rintro e w9 ⟨rfl, rfl⟩) | ((with_reducible refine HGk.out.mono ?_); rintro e w9 ⟨rfl, rfl⟩))
                   go_round
                   case rel => exact ⟨k + 1, by omega, by rw [hu], by go_num⟩
                   case measure => simp [intOf]; omega)
            · have d0 := hgp hz
              have hu : Hid ((usd D' (k + 1)).length = (usd D' k).length + 1) := Lib.hid (by rw [usd_yes hz, List.length_append]; rfl)
              clear hgp hgn hz HOth HNow
              generalize (usd D' k).length = L at *
              have hLi : (L : Int) ≤ 8 := by omega
              first
                | (simp at d0; done)
                | (go_wp2_with (go_at_call 20; first | ((with_reducible refine HGck.out.mono ?_); rintro e w9 ⟨rfl, rfl⟩) | ((with_reducible refine HGk.out.mono ?_); rintro e w9 ⟨rfl, rfl⟩))
                   go_round
                   case rel => exact ⟨k + 1, by omega, by rw [hu.out]; go_num, by go_num⟩
                   case measure => simp [intOf]; omega)
          · rw [← hoth hkm] at hGck
            have hne : ((k : Int) == (m : Int)) = false := by simp; omega
            have hgp := gD_pos (D := D') hlt
            have hgn := gD_not (D := D') hlt
            have HGk := Lib.hid hGk
            have HGck := Lib.hid hGck
            clear hoth hGk hGck HRow HG5 HGc5
            generalize gD D' (k : Int) = G at *
            by_cases hz : D' k = 0
            · have d0 := hgn hz
              have hu := usd_no hz
              clear hgp hgn hz HOth HNow hkm
              go_wp2_with (go_at_call 20; first | ((with_reducible refine HGck.out.mono ?_); rintro e w9 ⟨rfl, rfl⟩) | ((with_reducible refine HGk.out.mono ?_); rintro e w9 ⟨rfl, rfl⟩))
              go_round
              case rel => exact ⟨k + 1, by omega, by rw [hu], by go_num⟩
              case measure => simp [intOf]; omega
            · have d0 := hgp hz
              have hu : Hid ((usd D' (k + 1)).length = (usd D' k).length + 1) := Lib.hid (by rw [usd_yes hz, List.length_append]; rfl)
              clear hgp hgn hz HOth HNow hkm
              generalize (usd D' k).length = L at *
              have hLi : (L : Int) ≤ 8 := by omega
              go_wp2_with (go_at_call 20; first | ((with_reducible refine HGck.out.mono ?_); rintro e w9 ⟨rfl, rfl⟩) | ((with_reducible refine HGk.out.mono ?_); rintro e w9 ⟨rfl, rfl⟩))
              go_round
              case rel => exact ⟨k + 1, by omega, by rw [hu.out]; go_num, by go_num⟩
              case measure => simp [intOf]; omega
        · obtain rfl : k = 8 := by omega
          clear HRow HG5 HGc5
          generalize (usd D' 8).length = L at *
          go_wp2_with (go_at_call 19; (with_reducible refine HLe.out.mono ?_); rintro e w6 ⟨rfl, b6⟩; have B6 := Lib.hid b6; clear b6)
          go_ret
          exact ⟨rfl, HE.out.trans (B6.out.mono HE.out.size)⟩
  · by_cases hz : D m = 0
    · have HCall := Lib.hid (fset_any w3 d D HB3.out.ds (m : Int) (n : Int))
      have hwv : was = -1 := by rw [← hw]; exact (gD_free hm8).2 hz
      have hmn : mayN (n : Int) := ⟨by omega, by omega⟩
      replace HCall : Hid (Calls Try.prog 28 #[.pointer (some ⟨d, 0, none⟩), .int .i64 (m : Int), .int .i64 (n : Int)] w3 fun e w' => e = .returned (.int .i64 0) ∧ Kp (fun j => j = d) w3 w' ∧ Ds w' d (up D m (n + 1))) := Lib.hid (by
        have := HCall.out
        unfold tE tD at this
        rw [if_pos hmn, if_pos ⟨⟨by omega, by omega⟩, by rw [hw, hwv]⟩, if_pos ⟨hmn, ⟨by omega, by omega⟩, by rw [hw, hwv]⟩] at this
        exact this)
      have HOth : Hid (∀ i : Nat, i < 8 → i ≠ m → gD (up D m (n + 1)) (i : Int) = gD D (i : Int)) := Lib.hid (fun i hi hne => gD_up hi hne)
      have HNow : Hid (gD (up D m (n + 1)) (m : Int) = (n : Int)) := Lib.hid (by rw [gD_nat hm8, up_same]; omega)
      generalize up D m (n + 1) = D' at *
      have hne64 : ((n : Int) == 64) = false := by simp; omega
      clear hw hz hmn hn64
      subst hwv
      go_wp2_with (first | (go_at_call 20; (with_reducible refine HGc.out.mono ?_); rintro e w3b ⟨rfl, rfl⟩) | (go_at_call 28; (with_reducible refine HCall.out.mono ?_); rintro e w4 ⟨rfl, k4, g4⟩; refine Hid.out ?_))
      refine Lib.hid ?_
      have HC4 := Lib.hid (HC3.out.kept k4 hcd)
      have HD4 := Lib.hid (HB3.out.onD k4 g4)
      clear k4 g4 HCall
      have p14 : w4.cell? ⟨p, 1, none⟩ = some (.pointer (some ⟨d, 0, none⟩)) := HD4.out.blk.cell 1
      have HLi := Lib.hid (flist_row w4 d D' HD4.out.ds)
      clear HGc HC3 HB3 p13
      go_wp2_with (first | (go_at_call 14; (with_reducible refine HLi.out.mono ?_); rintro e w5 ⟨b5, rfl, hrow⟩; refine Hid.out ?_))
      refine Lib.hid ?_
      have hb5 := HD4.out.below b5
      have hc5 := HC4.out.below b5
      have p15 : w5.cell? ⟨p, 1, none⟩ = some (.pointer (some ⟨d, 0, none⟩)) := hb5.blk.cell 1
      have HG5 := Lib.hid (fun i : Int => fget_any w5 d D' hb5.ds i)
      have HGc5 := Lib.hid (fun i : Int => fget_any w5 c D hc5 i)
      have HLe := Lib.hid (flen_any w5 d D' hb5.ds)
      have HRow := Lib.hid hrow
      have HE := Lib.hid (B1.out.trans (hb5.bel.mono B1.out.size))
      generalize w4.heap.size = g at *
      clear hrow b5 hb5 hc5 HLi p14 HD4 HC4 HBo
      go_wp2
      go_loop [18, 19] (fun s i => ∃ k : Nat, k ≤ 8 ∧ s = .int .i64 ((usd D' k).length : Int) ∧ i = .int .i64 (k : Int)) (fun _ i => 8 - (intOf i).toNat)
      case atStart => exact ⟨0, Nat.zero_le _, rfl, rfl⟩
      case round =>
        obtain ⟨k, hk, rfl, rfl⟩ := hrel
        have hul := usd_len D' k
        by_cases hlt : k < 8
        · have hk8 : (k : Int) < 8 := by omega
          have c0 := HRow.out k hlt
          have hGk := HG5.out (k : Int)
          have hGck := HGc5.out (k : Int)
          have hoth := fun e => HOth.out k hlt e
          by_cases hkm : k = m
          · subst hkm
            rw [HNow.out] at c0 hGk
            have hgp := gD_pos (D := D') hlt
            have hgn := gD_not (D := D') hlt
            rw [HNow.out] at hgp hgn
            have HGk := Lib.hid hGk
            have HGck := Lib.hid hGck
            generalize gD D (k : Int) = G0 at *
            clear hoth hGk hGck HRow HG5 HGc5
            by_cases hz : D' k = 0
            · have d0 := hgn hz
              have hu := usd_no hz
              clear hgp hgn hz HOth HNow
              first
                | (simp at d0; done)
                | (go_wp2_with (go_at_call 20; first | ((with_reducible refine HGck.out.mono ?_); rintro e w9 ⟨rfl, rfl⟩) | ((with_reducible refine HGk.out.mono ?_); rintro e w9 ⟨rfl, rfl⟩))
                   go_round
                   case rel => exact ⟨k + 1, by omega, by rw [hu], by go_num⟩
                   case measure => simp [intOf]; omega)
            · have d0 := hgp hz
              have hu : Hid ((usd D' (k + 1)).length = (usd D' k).length + 1) := Lib.hid (by rw [usd_yes hz, List.length_append]; rfl)
              clear hgp hgn hz HOth HNow
              generalize (usd D' k).length = L at *
              have hLi : (L : Int) ≤ 8 := by omega
              first
                | (simp at d0; done)
                | (go_wp2_with (go_at_call 20; first | ((with_reducible refine HGck.out.mono ?_); rintro e w9 ⟨rfl, rfl⟩) | ((with_reducible refine HGk.out.mono ?_); rintro e w9 ⟨rfl, rfl⟩))
                   go_round
                   case rel => exact ⟨k + 1, by omega, by rw [hu.out]; go_num, by go_num⟩
                   case measure => simp [intOf]; omega)
          · rw [← hoth hkm] at hGck
            have hne : ((k : Int) == (m : Int)) = false := by simp; omega
            have hgp := gD_pos (D := D') hlt
            have hgn := gD_not (D := D') hlt
            have HGk := Lib.hid hGk
            have HGck := Lib.hid hGck
            clear hoth hGk hGck HRow HG5 HGc5
            generalize gD D' (k : Int) = G at *
            by_cases hz : D' k = 0
            · have d0 := hgn hz
              have hu := usd_no hz
              clear hgp hgn hz HOth HNow hkm
              go_wp2_with (go_at_call 20; first | ((with_reducible refine HGck.out.mono ?_); rintro e w9 ⟨rfl, rfl⟩) | ((with_reducible refine HGk.out.mono ?_); rintro e w9 ⟨rfl, rfl⟩))
              go_round
              case rel => exact ⟨k + 1, by omega, by rw [hu], by go_num⟩
              case measure => simp [intOf]; omega
            · have d0 := hgp hz
              have hu : Hid ((usd D' (k + 1)).length = (usd D' k).length + 1) := Lib.hid (by rw [usd_yes hz, List.length_append]; rfl)
              clear hgp hgn hz HOth HNow hkm
              generalize (usd D' k).length = L at *
              have hLi : (L : Int) ≤ 8 := by omega
              go_wp2_with (go_at_call 20; first | ((with_reducible refine HGck.out.mono ?_); rintro e w9 ⟨rfl, rfl⟩) | ((with_reducible refine HGk.out.mono ?_); rintro e w9 ⟨rfl, rfl⟩))
              go_round
              case rel => exact ⟨k + 1, by omega, by rw [hu.out]; go_num, by go_num⟩
              case measure => simp [intOf]; omega
        · obtain rfl : k = 8 := by omega
          clear HRow HG5 HGc5
          generalize (usd D' 8).length = L at *
          go_wp2_with (go_at_call 19; (with_reducible refine HLe.out.mono ?_); rintro e w6 ⟨rfl, b6⟩; have B6 := Lib.hid b6; clear b6)
          go_ret
          exact ⟨rfl, HE.out.trans (B6.out.mono HE.out.size)⟩
    · have HCall := Lib.hid (fset_any w3 d D HB3.out.ds (m : Int) (n : Int))
      have hwv : was ≠ -1 := fun e => hz ((gD_free hm8).1 (by rw [hw, e]))
      have hwl : decide (was < 0) = false := decide_eq_false (by rw [← hw, gD_nat hm8]; omega)
      have hmn : mayN (n : Int) := ⟨by omega, by omega⟩
      obtain ⟨D', hD'⟩ : ∃ D', D = D' := ⟨_, rfl⟩
      replace HCall : Hid (Calls Try.prog 28 #[.pointer (some ⟨d, 0, none⟩), .int .i64 (m : Int), .int .i64 (n : Int)] w3 fun e w' => e = .returned (.int .i64 103) ∧ Kp (fun j => j = d) w3 w' ∧ Ds w' d D') := Lib.hid (by
        have := HCall.out
        unfold tE tD at this
        rw [if_pos hmn, if_neg (fun e => hwv (by rw [← hw]; exact e.2)), if_neg (fun e => hwv (by rw [← hw]; exact e.2.2))] at this
        rw [← hD']
        exact this)
      have HOth : Hid (∀ i : Nat, i < 8 → i ≠ m → gD D' (i : Int) = gD D (i : Int)) := Lib.hid (fun _ _ _ => by rw [hD'])
      have HNow : Hid (gD D' (m : Int) = was) := Lib.hid (by rw [← hD', hw])
      have hne64 : ((n : Int) == 64) = false := by simp; omega
      clear hw hz hmn hn64 hD' hwv
      go_wp2_with (first | (go_at_call 20; (with_reducible refine HGc.out.mono ?_); rintro e w3b ⟨rfl, rfl⟩) | (go_at_call 28; (with_reducible refine HCall.out.mono ?_); rintro e w4 ⟨rfl, k4, g4⟩; refine Hid.out ?_))
      refine Lib.hid ?_
      have HC4 := Lib.hid (HC3.out.kept k4 hcd)
      have HD4 := Lib.hid (HB3.out.onD k4 g4)
      clear k4 g4 HCall
      have p14 : w4.cell? ⟨p, 1, none⟩ = some (.pointer (some ⟨d, 0, none⟩)) := HD4.out.blk.cell 1
      have HLi := Lib.hid (flist_row w4 d D' HD4.out.ds)
      clear HGc HC3 HB3 p13
      go_wp2_with (first | (go_at_call 14; (with_reducible refine HLi.out.mono ?_); rintro e w5 ⟨b5, rfl, hrow⟩; refine Hid.out ?_))
      refine Lib.hid ?_
      have hb5 := HD4.out.below b5
      have hc5 := HC4.out.below b5
      have p15 : w5.cell? ⟨p, 1, none⟩ = some (.pointer (some ⟨d, 0, none⟩)) := hb5.blk.cell 1
      have HG5 := Lib.hid (fun i : Int => fget_any w5 d D' hb5.ds i)
      have HGc5 := Lib.hid (fun i : Int => fget_any w5 c D hc5 i)
      have HLe := Lib.hid (flen_any w5 d D' hb5.ds)
      have HRow := Lib.hid hrow
      have HE := Lib.hid (B1.out.trans (hb5.bel.mono B1.out.size))
      generalize w4.heap.size = g at *
      clear hrow b5 hb5 hc5 HLi p14 HD4 HC4 HBo
      go_wp2
      go_loop [18, 19] (fun s i => ∃ k : Nat, k ≤ 8 ∧ s = .int .i64 ((usd D' k).length : Int) ∧ i = .int .i64 (k : Int)) (fun _ i => 8 - (intOf i).toNat)
      case atStart => exact ⟨0, Nat.zero_le _, rfl, rfl⟩
      case round =>
        obtain ⟨k, hk, rfl, rfl⟩ := hrel
        have hul := usd_len D' k
        by_cases hlt : k < 8
        · have hk8 : (k : Int) < 8 := by omega
          have c0 := HRow.out k hlt
          have hGk := HG5.out (k : Int)
          have hGck := HGc5.out (k : Int)
          have hoth := fun e => HOth.out k hlt e
          by_cases hkm : k = m
          · subst hkm
            rw [HNow.out] at c0 hGk
            have hgp := gD_pos (D := D') hlt
            have hgn := gD_not (D := D') hlt
            rw [HNow.out] at hgp hgn
            have HGk := Lib.hid hGk
            have HGck := Lib.hid hGck
            generalize gD D (k : Int) = G0 at *
            clear hoth hGk hGck HRow HG5 HGc5
            by_cases hz : D' k = 0
            · have d0 := hgn hz
              have hu := usd_no hz
              clear hgp hgn hz HOth HNow
              first
                | (simp at d0; done)
                | (go_wp2_with (go_at_call 20; first | ((with_reducible refine HGck.out.mono ?_); rintro e w9 ⟨rfl, rfl⟩) | ((with_reducible refine HGk.out.mono ?_); rintro e w9 ⟨rfl, rfl⟩))
                   go_round
                   case rel => exact ⟨k + 1, by omega, by rw [hu], by go_num⟩
                   case measure => simp [intOf]; omega)
            · have d0 := hgp hz
              have hu : Hid ((usd D' (k + 1)).length = (usd D' k).length + 1) := Lib.hid (by rw [usd_yes hz, List.length_append]; rfl)
              clear hgp hgn hz HOth HNow
              generalize (usd D' k).length = L at *
              have hLi : (L : Int) ≤ 8 := by omega
              first
                | (simp at d0; done)
                | (go_wp2_with (go_at_call 20; first | ((with_reducible refine HGck.out.mono ?_); rintro e w9 ⟨rfl, rfl⟩) | ((with_reducible refine HGk.out.mono ?_); rintro e w9 ⟨rfl, rfl⟩))
                   go_round
                   case rel => exact ⟨k + 1, by omega, by rw [hu.out]; go_num, by go_num⟩
                   case measure => simp [intOf]; omega)
          · rw [← hoth hkm] at hGck
            have hne : ((k : Int) == (m : Int)) = false := by simp; omega
            have hgp := gD_pos (D := D') hlt
            have hgn := gD_not (D := D') hlt
            have HGk := Lib.hid hGk
            have HGck := Lib.hid hGck
            clear hoth hGk hGck HRow HG5 HGc5
            generalize gD D' (k : Int) = G at *
            by_cases hz : D' k = 0
            · have d0 := hgn hz
              have hu := usd_no hz
              clear hgp hgn hz HOth HNow hkm
              go_wp2_with (go_at_call 20; first | ((with_reducible refine HGck.out.mono ?_); rintro e w9 ⟨rfl, rfl⟩) | ((with_reducible refine HGk.out.mono ?_); rintro e w9 ⟨rfl, rfl⟩))
              go_round
              case rel => exact ⟨k + 1, by omega, by rw [hu], by go_num⟩
              case measure => simp [intOf]; omega
            · have d0 := hgp hz
              have hu : Hid ((usd D' (k + 1)).length = (usd D' k).length + 1) := Lib.hid (by rw [usd_yes hz, List.length_append]; rfl)
              clear hgp hgn hz HOth HNow hkm
              generalize (usd D' k).length = L at *
              have hLi : (L : Int) ≤ 8 := by omega
              go_wp2_with (go_at_call 20; first | ((with_reducible refine HGck.out.mono ?_); rintro e w9 ⟨rfl, rfl⟩) | ((with_reducible refine HGk.out.mono ?_); rintro e w9 ⟨rfl, rfl⟩))
              go_round
              case rel => exact ⟨k + 1, by omega, by rw [hu.out]; go_num, by go_num⟩
              case measure => simp [intOf]; omega
        · obtain rfl : k = 8 := by omega
          clear HRow HG5 HGc5
          generalize (usd D' 8).length = L at *
          go_wp2_with (go_at_call 19; (with_reducible refine HLe.out.mono ?_); rintro e w6 ⟨rfl, b6⟩; have B6 := Lib.hid b6; clear b6)
          go_ret
          exact ⟨rfl, HE.out.trans (B6.out.mono HE.out.size)⟩
end Go.Proofs.Ytmdldehdlggpkaa.Jfd
namespace Go.Proofs.Ytmdldehdlggpkaa.Walk
open Go Go.RowKit Kit Jfd Jb Jt
theorem filesFds (va : Value) (ops : List Opr) (a b : Int) (W : World) (h : OpsAt W va ops) (wa : (Lit.int .u8 a).wf = true) (wb : (Lit.int .u8 b).wf = true) :
    Calls Try.prog 9 #[va, .int .u8 a, .int .u8 b] W fun e w' => e = .returned (.bool true) ∧ Below W.heap.size W w' := by
  obtain ⟨n, rfl, hn⟩ := u8_nat wa
  obtain ⟨k, rfl, hk⟩ := u8_nat wb
  by_cases hl : ops.length ≤ 200
  · exact fds_fine va ops W h hl n k hn hk
  · exact law_long va ops W h hl _ _
end Go.Proofs.Ytmdldehdlggpkaa.Walk

