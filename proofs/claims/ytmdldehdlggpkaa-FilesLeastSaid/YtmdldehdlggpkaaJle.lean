/-
  FilesLeast: the walk.
-/
import Derived.Test.YtmdldehdlggpkaaJf
namespace Go.Proofs.Ytmdldehdlggpkaa.Jle
open Go Go.RowKit Kit Bk Jp Jm Ji Jo Ju Jd Je Jr Jq Js Jb Jx Jy Jz Jt Jf
set_option linter.unusedVariables false
attribute [local go_sem ↓] stf_wrap

theorem law_long (va : Value) (ops : List Opr) (w : World) (h : OpsAt w va ops) (hl : ¬ ops.length ≤ 200) :
    Calls Try.prog 7 #[va] w fun e w' => e = .returned (.bool true) ∧ Below w.heap.size w w' := by
  obtain ⟨ad, cap, rfl, h1, h2, h3⟩ := h
  have dl : decide ((200 : Int) < (ops.length : Int)) = true := decide_eq_true (by omega)
  clear h3 hl
  go_enter Try.func7, Try.ntmps7
  go_wp2_with (go_at_call 29; (with_reducible refine (Jw.alive_any _).mono ?_); rintro e w1 ⟨rfl, b1⟩; have B1 := Lib.hid b1; clear b1)
  go_ret
  exact ⟨rfl, B1.out⟩
theorem p0 : mayP 0 := ⟨by decide, by decide⟩
theorem m0 : mayN 0 := ⟨by decide, by decide⟩
/-- The least free one is opened. -/
theorem open_at (w : World) (f : Nat) (S : Sf) (h : Fl w f S) (k : Nat) (hk : k < 64) (hz : S.R k = 0) (hlow : ∀ j, j < k → S.R j ≠ 0) (P : Int) (hP : mayP P) (V : Bool) :
    Calls Try.prog 27 #[.pointer (some ⟨f, 0, none⟩), .agg #[.int .i64 P, .bool V]] w fun e w' => e = .returned (.tuple #[.int .i64 (k : Int), .int .i64 0]) ∧ Kp (fun j => j = f) w w' ∧ Fl w' f (S.put k P V 1) := by
  have := open_any w f S h P V
  have hl : lst S.R 64 = k := lst_is _ 64 k (by omega) hlow (fun _ => hz)
  unfold oN oE oS at this
  rw [hl, if_pos ⟨hP, by omega⟩, if_pos hP, if_neg (by omega), if_pos ⟨hP, by omega⟩] at this
  exact this
theorem open_full (w : World) (f : Nat) (S : Sf) (h : Fl w f S) (hl : lst S.R 64 = 64) (P : Int) (hP : mayP P) (V : Bool) :
    Calls Try.prog 27 #[.pointer (some ⟨f, 0, none⟩), .agg #[.int .i64 P, .bool V]] w fun e w' => e = .returned (.tuple #[.int .i64 0, .int .i64 100]) ∧ Kp (fun j => j = f) w w' ∧ Fl w' f S := by
  have := open_any w f S h P V
  unfold oN oE oS at this
  rw [if_neg (fun e => e.2 hl), if_pos hP, if_pos hl, if_neg (fun e => e.2 hl)] at this
  exact this
theorem put_at (w : World) (d : Nat) (D : Nat → Nat) (h : Ds w d D) (k : Nat) (hk : k < 8) (hz : D k = 0) (hlow : ∀ j, j < k → D j ≠ 0) (n : Int) (hn : mayN n) :
    Calls Try.prog 23 #[.pointer (some ⟨d, 0, none⟩), .int .i64 n] w fun e w' => e = .returned (.tuple #[.int .i64 (k : Int), .int .i64 0]) ∧ Kp (fun j => j = d) w w' ∧ Ds w' d (up D k (n.toNat + 1)) := by
  have := put_any w d D h n
  have hl : lst D 8 = k := lst_is _ 8 k (by omega) hlow (fun _ => hz)
  unfold pN pE pD at this
  rw [hl, if_pos ⟨hn, by omega⟩, if_pos hn, if_neg (by omega), if_pos ⟨hn, by omega⟩] at this
  exact this
theorem put_full (w : World) (d : Nat) (D : Nat → Nat) (h : Ds w d D) (hl : lst D 8 = 8) (n : Int) (hn : mayN n) :
    Calls Try.prog 23 #[.pointer (some ⟨d, 0, none⟩), .int .i64 n] w fun e w' => e = .returned (.tuple #[.int .i64 0, .int .i64 102]) ∧ Kp (fun j => j = d) w w' ∧ Ds w' d D := by
  have := put_any w d D h n
  unfold pN pE pD at this
  rw [if_neg (fun e => e.2 hl), if_pos hn, if_pos hl, if_neg (fun e => e.2 hl)] at this
  exact this
theorem dup_full (w : World) (d : Nat) (D : Nat → Nat) (h : Ds w d D) (hl : lst D 8 = 8) :
    Calls Try.prog 24 #[.pointer (some ⟨d, 0, none⟩), .int .i64 0] w fun e w' => e = .returned (.tuple #[.int .i64 0, .int .i64 102]) ∧ Kp (fun j => j = d) w w' ∧ Ds w' d D := by
  have := dup_any w d D h 0
  have h0 := lst_low D 8 0 (by omega)
  have hn := h.2 0
  have hgv := gD_nat (D := D) (k := 0) (by omega)
  rw [Int.natCast_zero] at hgv
  have hg : ¬ gD D 0 = -1 := by rw [hgv]; omega
  have hmy : mayN (gD D 0) := by rw [hgv]; exact ⟨by omega, by omega⟩
  unfold uN uE uD pN pE pD at this
  rw [if_neg hg, if_neg hg, if_neg hg, if_neg (fun e => e.2 hl), if_pos hmy, if_pos hl, if_neg (fun e => e.2 hl)] at this
  exact this

set_option maxRecDepth 100000 in
set_option maxHeartbeats 16000000 in
theorem least_fine (va : Value) (ops : List Opr) (w : World) (h : OpsAt w va ops) (hl : ops.length ≤ 200) :
    Calls Try.prog 7 #[va] w fun e w' => e = .returned (.bool true) ∧ Below w.heap.size w w' := by
  obtain ⟨ad, cap, rfl, h1, h2, -⟩ := id h
  have HO := Lib.hid h
  have HL := Lib.hid hl
  have dl : decide ((200 : Int) < (ops.length : Int)) = false := decide_eq_false (by omega)
  clear h hl
  go_enter Try.func7, Try.ntmps7
  go_wp2_with (first
    | (go_at_call 29; (with_reducible refine (Jw.alive_any _).mono ?_); rintro e w1 ⟨rfl, b1⟩; have B1 := Lib.hid b1; clear b1)
    | (go_at_call 33; (with_reducible refine (grown_any _ _ ops (OpsAt.below HO.out B1.out) HL.out).mono ?_); rintro e w2 ⟨p, rfl, f, d, q, v, S, D, hbo, hg⟩; have HBo := Lib.hid hbo; clear hbo hg))
  clear HO HL
  go_loopw [5] (fun i wr => ∃ k : Nat, k ≤ 64 ∧ i = .int .i64 (k : Int) ∧ ∃ S1, Bo w1 wr p f d q v S1 S D D ∧ ∀ j, j < k → S1.R j ≠ 0) (fun i _ => 64 - (intOf i).toNat)
  case atStart => exact ⟨0, Nat.zero_le _, rfl, _, HBo.out, fun j hj => absurd hj (Nat.not_lt_zero _)⟩
  case round =>
    obtain ⟨k, hk, rfl, S1, hbo, hlow⟩ := hrel
    clear HBo
    by_cases hlt : k < 64
    · have hk64 : (k : Int) < 64 := by omega
      have hrem : (k : Int).tmod 16 = ((k % 16 : Nat) : Int) := rfl
      have hP : mayP ((k % 16 : Nat) : Int) := ⟨by omega, by omega⟩
      have cp := hbo.blk.cell 0
      have HG := Lib.hid (get_any wr f S1 hbo.fl (k : Int))
      rw [rf_nat hlt] at HG
      have HBo := Lib.hid hbo
      have HLow := Lib.hid hlow
      generalize k % 16 = x at *
      generalize gP S1 (k : Int) = a1 at *
      generalize gV S1 (k : Int) = a2 at *
      clear hbo hlow
      by_cases hz : S1.R k = 0
      · rw [decide_eq_false (fun e => e hz)] at HG
        have HOp := Lib.hid (fun W (hh : Fl W f S1) => open_at W f S1 hh k hlt hz HLow.out (x : Int) hP false)
        have HRf := Lib.hid (fun W (hh : Fl W f (S1.put k (x : Int) false 1)) => refs_any W f _ hh (k : Int))
        rw [rf_nat hlt, show (S1.put k (x : Int) false 1).R k = 1 from up_same _ _ _] at HRf
        have HLow2 : Hid (∀ j, j < k + 1 → (S1.put k (x : Int) false 1).R j ≠ 0) := Lib.hid (fun j hj => by
          by_cases e : j = k
          · subst e; rw [show (S1.put j (x : Int) false 1).R j = 1 from up_same _ _ _]; decide
          · rw [show (S1.put k (x : Int) false 1).R j = S1.R j from up_other _ _ _ _ e]; exact HLow.out j (by omega))
        generalize S1.put k (x : Int) false 1 = S2 at *
        clear hz hP HLow
        go_wp2_with (first
          | (go_at_call 12; (with_reducible refine HG.out.mono ?_); rintro e w4 ⟨rfl, b4⟩; obtain ⟨W5, hst5, -, b5⟩ := new_st w4 a1 a2; have HB5 := Lib.hid ((HBo.out.below b4).below b5); have cp5 := HB5.out.blk.cell 0; clear b4 b5)
          | (go_at_call 27; (with_reducible refine (HOp.out _ HB5.out.fl).mono ?_); rintro e w6 ⟨rfl, k6, g6⟩; have HB6 := Lib.hid (HB5.out.onF k6 g6); have cp6 := HB6.out.blk.cell 0; clear k6 g6)
          | (go_at_call 22; (with_reducible refine (HRf.out _ HB6.out.fl).mono ?_); rintro e w7 ⟨rfl, rfl⟩))
        go_roundw
        case rel => exact ⟨k + 1, by omega, by go_num, _, HB6.out, HLow2.out⟩
        case measure => simp [intOf]; omega
      · rw [decide_eq_true hz] at HG
        have HLow2 : Hid (∀ j, j < k + 1 → S1.R j ≠ 0) := Lib.hid (fun j hj => by
          by_cases e : j = k
          · subst e; exact hz
          · exact HLow.out j (by omega))
        clear hz hP HLow
        go_wp2_with (first
          | (go_at_call 12; (with_reducible refine HG.out.mono ?_); rintro e w4 ⟨rfl, b4⟩; obtain ⟨W5, hst5, -, b5⟩ := new_st w4 a1 a2; have HB5 := Lib.hid ((HBo.out.below b4).below b5); clear b4 b5))
        go_roundw
        case rel => exact ⟨k + 1, by omega, by go_num, _, HB5.out, HLow2.out⟩
        case measure => simp [intOf]; omega
    · have hk64 : k = 64 := by omega
      have hl64 : lst S1.R 64 = 64 := lst_is _ 64 64 (Nat.le_refl _) (fun j hj => hlow j (by omega)) (fun e => by omega)
      have HBo := Lib.hid hbo
      have HL64 := Lib.hid hl64
      have hkd : decide ((k : Int) < 64) = false := decide_eq_false (by omega)
      generalize (k : Int) = kz at *
      clear hbo hlow hl64 hk64 hlt hk
      go_wp2
      go_loopw [10] (fun i wx => ∃ k : Nat, k ≤ 8 ∧ i = .int .i64 (k : Int) ∧ ∃ D1, Bo w1 wx p f d q v S1 S D1 D ∧ ∀ j, j < k → D1 j ≠ 0) (fun i _ => 8 - (intOf i).toNat)
      case atStart => exact ⟨0, Nat.zero_le _, rfl, _, HBo.out, fun j hj => absurd hj (Nat.not_lt_zero _)⟩
      case round =>
        obtain ⟨k, hk, rfl, D1, hbo, hlow⟩ := hrel
        clear HBo
        by_cases hlt : k < 8
        · have hk8 : (k : Int) < 8 := by omega
          have hn : mayN (k : Int) := ⟨by omega, by omega⟩
          have cp := hbo.blk.cell 1
          have HG := Lib.hid (fget_any _ d D1 hbo.ds (k : Int))
          have HBo := Lib.hid hbo
          have HLow := Lib.hid hlow
          clear hbo hlow
          by_cases hz : D1 k = 0
          · rw [(gD_free hlt).2 hz] at HG
            have HPt := Lib.hid (fun W (hh : Ds W d D1) => put_at W d D1 hh k hlt hz HLow.out (k : Int) hn)
            have HG2 := Lib.hid (fun W (hh : Ds W d (up D1 k (Int.toNat (k : Int) + 1))) => fget_any W d _ hh (k : Int))
            have hgv : gD (up D1 k (Int.toNat (k : Int) + 1)) (k : Int) = (k : Int) := by rw [gD_nat hlt, up_same]; omega
            rw [hgv] at HG2
            have HLow2 : Hid (∀ j, j < k + 1 → up D1 k (Int.toNat (k : Int) + 1) j ≠ 0) := Lib.hid (fun j hj => by
              by_cases e : j = k
              · subst e; rw [up_same]; omega
              · rw [up_other _ _ _ _ e]; exact HLow.out j (by omega))
            generalize up D1 k (Int.toNat (k : Int) + 1) = D2 at *
            clear hz hn HLow hgv
            go_wp2_with (first
              | (go_at_call 20; first | ((with_reducible refine HG.out.mono ?_); rintro e w4 ⟨rfl, rfl⟩) | ((with_reducible refine (HG2.out _ HB5.out.ds).mono ?_); rintro e w4 ⟨rfl, rfl⟩))
              | (go_at_call 23; (with_reducible refine (HPt.out _ HBo.out.ds).mono ?_); rintro e w5 ⟨rfl, k5, g5⟩; have HB5 := Lib.hid (HBo.out.onD k5 g5); have cp5 := HB5.out.blk.cell 1; clear k5 g5))
            go_roundw
            case rel => exact ⟨k + 1, by omega, by go_num, _, HB5.out, HLow2.out⟩
            case measure => simp [intOf]; omega
          · have hgv := gD_nat (D := D1) hlt
            rw [hgv] at HG
            have d0 : decide (0 ≤ (D1 k : Int) - 1) = true := decide_eq_true (by omega)
            have HLow2 : Hid (∀ j, j < k + 1 → D1 j ≠ 0) := Lib.hid (fun j hj => by
              by_cases e : j = k
              · subst e; exact hz
              · exact HLow.out j (by omega))
            generalize (D1 k : Int) - 1 = G at *
            clear hz hn HLow hgv
            go_wp2_with (go_at_call 20; (with_reducible refine HG.out.mono ?_); rintro e w4 ⟨rfl, rfl⟩)
            go_roundw
            case rel => exact ⟨k + 1, by omega, by go_num, _, HBo.out, HLow2.out⟩
            case measure => simp [intOf]; omega
        · obtain rfl : k = 8 := by omega
          have hl8 : lst D1 8 = 8 := lst_is _ 8 8 (Nat.le_refl _) hlow (fun e => by omega)
          have cp := hbo.blk.cell 0
          have HOp := Lib.hid (open_full _ f S1 hbo.fl HL64.out 0 p0 false)
          have HPt := Lib.hid (fun W (hh : Ds W d D1) => put_full W d D1 hh hl8 0 m0)
          have HDp := Lib.hid (fun W (hh : Ds W d D1) => dup_full W d D1 hh hl8)
          have HFr := Lib.hid (fun W (hh : Fl W f S1) => free_any W f S1 hh)
          rw [usd_lst HL64.out] at HFr
          have HLn := Lib.hid (fun W (hh : Ds W d D1) => flen_any W d D1 hh)
          rw [usd_lst hl8] at HLn
          have HBo := Lib.hid hbo
          clear hbo hlow hl8
          go_wp2_with (first
            | (go_at_call 27; (with_reducible refine HOp.out.mono ?_); rintro e w4 ⟨rfl, k4, g4⟩; have HB4 := Lib.hid (HBo.out.onF k4 g4); have cp4 := HB4.out.blk.cell 1; clear k4 g4)
            | (go_at_call 23; (with_reducible refine (HPt.out _ HB4.out.ds).mono ?_); rintro e w5 ⟨rfl, k5, g5⟩; have HB5 := Lib.hid (HB4.out.onD k5 g5); have cp5 := HB5.out.blk.cell 1; clear k5 g5)
            | (go_at_call 24; (with_reducible refine (HDp.out _ HB5.out.ds).mono ?_); rintro e w6 ⟨rfl, k6, g6⟩; have HB6 := Lib.hid (HB5.out.onD k6 g6); have cp6 := HB6.out.blk.cell 0; clear k6 g6)
            | (go_at_call 18; (with_reducible refine (HFr.out _ HB6.out.fl).mono ?_); rintro e w7 ⟨rfl, b7⟩; have HB7 := Lib.hid (HB6.out.below b7); have cp7 := HB7.out.blk.cell 1; clear b7)
            | (go_at_call 19; (with_reducible refine (HLn.out _ HB7.out.ds).mono ?_); rintro e w8 ⟨rfl, b8⟩; have HB8 := Lib.hid (HB7.out.below b8); clear b8))
          go_ret
          exact ⟨rfl, B1.out.trans (HB8.out.bel.mono B1.out.size)⟩
end Go.Proofs.Ytmdldehdlggpkaa.Jle
namespace Go.Proofs.Ytmdldehdlggpkaa.Walk
open Go Go.RowKit Kit Jle Jb Jt
theorem filesLeast (va : Value) (ops : List Opr) (W : World) (h : OpsAt W va ops) :
    Calls Try.prog 7 #[va] W fun e w' => e = .returned (.bool true) ∧ Below W.heap.size W w' := by
  by_cases hl : ops.length ≤ 200
  · exact least_fine va ops W h hl
  · exact law_long va ops W h hl
end Go.Proofs.Ytmdldehdlggpkaa.Walk
