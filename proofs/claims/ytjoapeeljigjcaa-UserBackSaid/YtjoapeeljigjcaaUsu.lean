/-
  UserBack's walk.
-/
import Derived.Test.YtjoapeeljigjcaaUst
namespace Go.Proofs.Ytjoapeeljigjcaa.Walk
open Go Go.RowKit Go.Shelf Kit Bk
open Usa Usb Usc Usd Use Usf Usg Ush Usi Usl Usm Usn Usp Ust
open BackNums (bstr)
open Bytes (allB bs)
open Words (wd u32s)
set_option linter.unusedVariables false

set_option maxRecDepth 100000 in
set_option maxHeartbeats 8000000 in
theorem back_any (v : Value) (xs : List Nat) (s : ByteArray) (a pg : Nat) (w : World) (hx : Slc .u32 w v xs) (hb : ∀ x ∈ xs, x < 4294967296) (hsm : s.size ≤ maxLen) (ha2 : a < 65536) (hp2 : pg < 65536) :
    Calls Try.prog 3 #[v, .string s, .int .u16 (a : Int), .int .u16 (pg : Int)] w fun e w' => e = .returned (.bool true) ∧ Below w.heap.size w w' := by
  have HAL := Lib.hid (alive_any w)
  have HX := Lib.hid (And.intro hx hb)
  obtain ⟨av, cap, rfl, hc1, hc2, -⟩ := hx
  obtain ⟨L, hL⟩ : ∃ L, xs.length = L := ⟨_, rfl⟩
  obtain ⟨Z, hZ⟩ : ∃ Z, s.size = Z := ⟨_, rfl⟩
  rw [hL] at hc1 HX ⊢
  rw [hZ] at hsm
  have hmax : (cap : Int) ≤ 9223372036854775807 := by unfold maxLen at hc2; omega
  unfold maxLen at hsm
  by_cases hlen : L ≤ 64
  case neg =>
    have d1 : decide ((64 : Int) < (L : Int)) = true := decide_eq_true (by omega)
    have d2 : decide (64 < L) = true := decide_eq_true (by omega)
    clear hb
    go_enter Try.func3, Try.ntmps3
    go_wp2_with (first
      | (go_at_call 6; (with_reducible refine HAL.out.mono ?_); rintro e w1 ⟨rfl, hb⟩; have HB := Lib.hid hb; clear hb))
    go_ret
    exact ⟨rfl, HB.out⟩
  have d1 : decide ((64 : Int) < (L : Int)) = false := decide_eq_false (by omega)
  have d2 : decide (64 < L) = false := decide_eq_false (by omega)
  by_cases hzl : Z ≤ 255
  case neg =>
    have d3 : decide ((255 : Int) < (Z : Int)) = true := decide_eq_true (by omega)
    have d4 : decide (255 < Z) = true := decide_eq_true (by omega)
    clear hb
    go_enter Try.func3, Try.ntmps3
    go_wp2_with (first
      | (go_at_call 6; (with_reducible refine HAL.out.mono ?_); rintro e w1 ⟨rfl, hb⟩; have HB := Lib.hid hb; clear hb))
    go_ret
    exact ⟨rfl, HB.out⟩
  have d3 : decide ((255 : Int) < (Z : Int)) = false := decide_eq_false (by omega)
  have d4 : decide (255 < Z) = false := decide_eq_false (by omega)
  obtain ⟨at_, hat⟩ : ∃ at_ : Nat, a % 1100 = at_ := ⟨_, rfl⟩
  have hat2 : at_ < 1100 := by omega
  have hr1 : (a : Int).tmod 1100 = (at_ : Int) := by rw [← hat]; rfl
  have hr2 : (a : Int) % 1100 = (at_ : Int) := by omega
  have hLz : (L : Int) ≤ 64 := by omega
  have hZz : (Z : Int) ≤ 255 := by omega
  have hat3 : (at_ : Int) < 1100 := by omega
  have HN := Lib.hid (fun W => Fx.new_ok W 16 (by decide))
  rw [show ((16 : Nat) : Int) = 16 from rfl] at HN
  have HK := Lib.hid (And.intro hL hZ)
  clear hat hb hL
  go_enter Try.func3, Try.ntmps3
  go_wp2_with (first
    | (go_at_call 6; (with_reducible refine HAL.out.mono ?_); rintro e w0 ⟨rfl, hb⟩; have H0 := Lib.hid hb; clear hb)
    | (go_at_call 7; (with_reducible refine (HN.out _).mono ?_); rintro e w1 ⟨hb, p, b, rfl, hp, hbb, hF⟩; have H1 := Lib.hid (And.intro (H0.out.trans (hb.mono H0.out.size)) (And.intro (Nat.le_trans H0.out.size hbb) hF)); clear hb hp hbb hF)
    | (go_at_call 8; (with_reducible refine (fNew _ p b 16 H1.out.2.2).mono ?_); rintro e w2 ⟨q, t, rfl, hq, ht, hb, hFl⟩; have H2 := Lib.hid (And.intro (H1.out.1.trans (hb.mono H1.out.1.size)) (And.intro (Nat.le_trans H1.out.1.size ht) hFl)); clear hb hq ht hFl))
  go_loopw [13] (fun i wr => ∃ j : Nat, j ≤ 16 ∧ i = .int .i64 (j : Int) ∧ Below w.heap.size w wr ∧ ∃ M, Flat wr p b 16 q t M ∧ ∀ k, M k = true → k < j) (fun i _ => 16 - (intOf i).toNat)
  case atStart => exact ⟨0, Nat.zero_le _, rfl, H2.out.1, _, H2.out.2.2, fun k h => by cases h⟩
  case round =>
    obtain ⟨j, hj, rfl, hB, M, hF, hM⟩ := hrel
    by_cases hlt : j < 16
    · have hlt' : (j : Int) < 16 := by omega
      have hj0 : decide ((j : Int) < 0) = false := decide_eq_false (by omega)
      have HM := Lib.hid (fMap hF hM (by omega) j (by omega) (by cases e : M j with | false => rfl | true => exact absurd (hM j e) (Nat.lt_irrefl _)))
      have HB := Lib.hid hB
      have HF := Lib.hid (And.intro hF hM)
      clear hB hF hM
      cases hz : (bits BinOp.and IntKind.u16 ((pg : Int) / 2 ^ j) 1 == 1) with
      | false =>
        go_wp2
        go_roundw
        case rel => exact ⟨j + 1, by omega, by go_num, HB.out, M, HF.out.1, fun k hk => Nat.lt_succ_of_lt (HF.out.2 k hk)⟩
        case measure => simp [intOf]; omega
      | true =>
        go_wp2_with (first | (go_at_call 9; (with_reducible refine HM.out.mono ?_); rintro e w5 ⟨rfl, hk5, hF5⟩; have H5 := Lib.hid (And.intro (HB.out.trans (hk5.below HB.out.size (fun j hj => by rcases hj with rfl | rfl; exact H1.out.2.1; exact H2.out.2.1))) hF5); clear hk5 hF5))
        go_roundw
        case rel => exact ⟨j + 1, by omega, by go_num, H5.out.1, _, H5.out.2, fun k hk => by
          unfold up at hk
          split at hk
          · omega
          · exact Nat.lt_succ_of_lt (HF.out.2 k hk)⟩
        case measure => simp [intOf]; omega
    · obtain rfl : j = 16 := by omega
      have HC := Lib.hid (Two.clone0 hF)
      have HB := Lib.hid hB
      have HS : Hid (∀ W, Kp (fun j => j = b ∨ j = t) W W → ∀ W', Below w.heap.size w W → Kp (fun j => j = b ∨ j = t) W W' → Below w.heap.size w W') := Lib.hid (fun W _ W' hb hk => hb.trans (hk.below hb.size (fun j hj => by rcases hj with rfl | rfl; exact H1.out.2.1; exact H2.out.2.1)))
      clear hB hF hM
      go_wp2_with (first
        | (go_at_call 10; (with_reducible refine HC.out.mono ?_); rintro e w3 ⟨q', rfl, hk, hT⟩; have H3 := Lib.hid (And.intro (HS.out _ (Kp.refl _ _) _ HB.out hk) hT); clear hk hT HC; refine Hid.out ?_)
        | fail)
      refine Lib.hid ?_
      have HP := Lib.hid (H3.out.2.put at_ (by omega) _ xs (HX.out.1.below H3.out.1) HX.out.2 (by rw [HK.out.1]; omega))
      go_wp2_with (first
        | (go_at_call 11; (with_reducible refine HP.out.mono ?_); rintro e w4 ⟨code, U, rfl, hk, hT, hc⟩; have H4 := Lib.hid (And.intro (HS.out _ (Kp.refl _ _) _ H3.out.1 hk) (And.intro hT hc)); clear hk hT hc HP; refine Hid.out ?_)
        | fail)
      have HSA : Hid (∀ W va vb, Slc .u32 W va xs → Slc .u32 W vb xs → Calls Try.prog 14 #[va, vb] W fun e w' => e = .returned (.bool true) ∧ Below W.heap.size W w') := Lib.hid (fun W va vb h1 h2 => (Same.same_any va vb xs W h1 h2).mono fun e w' ⟨a, k, b⟩ => ⟨a, by rw [b]; exact below_drewN (Below.refl _ _) k⟩)
      have hcode : code = 0 ∨ code ≠ 0 := by omega
      rcases hcode with rfl | hne
      case' inl =>
        have HW : Hid (Calls Try.prog 13 #[.pointer (some ⟨q, 0, none⟩), .int .u32 (at_ : Int), .int .i64 (L : Int)] w4 fun e w' => ∃ r, e = .returned (.tuple #[r, .int .i64 0]) ∧ Slc .u32 w' r xs ∧ Below w4.heap.size w4 w') := Lib.hid (by
          rcases H4.out.2.2 with ⟨_, h2, h3⟩ | ⟨h1, _⟩
          · rw [HK.out.1] at h2
            refine H4.out.2.1.words at_ (by omega) L hlen h2 xs ?_ HK.out.1
            rw [h3]
            have := rdv_wrv (fun _ => 0) at_ (allB xs)
            rw [Bytes.allB_length, HK.out.1] at this
            exact this
          · exact absurd rfl h1)
        refine Lib.hid ?_
        go_wp2_with (first
          | (go_at_call 13; (with_reducible refine HW.out.mono ?_); rintro e w5 ⟨r, rfl, hs5, hb⟩; have H5 := Lib.hid (And.intro (H4.out.1.trans (hb.mono H4.out.1.size)) (And.intro (H4.out.2.1.below hb) hs5)); clear hs5 hb)
          | (go_at_call 14; (with_reducible refine (HSA.out _ _ _ H5.out.2.2 (HX.out.1.below H5.out.1)).mono ?_); rintro e w6 ⟨rfl, hb⟩; have H6 := Lib.hid (And.intro (H5.out.1.trans (hb.mono H5.out.1.size)) (H5.out.2.1.below hb)); clear hb)
          | (go_at_call 10; (with_reducible refine H6.out.2.clone.mono ?_); rintro e w7 ⟨q2, rfl, hk, hT⟩; have H7 := Lib.hid (And.intro (HS.out _ (Kp.refl _ _) _ H6.out.1 hk) hT); clear hk hT; refine Hid.out ?_)
          | fail)
      case' inr =>
        have hz : (code != 0) = true := by simpa using hne
        have HA := Lib.hid (H4.out.2.1.alike (by
          rcases H4.out.2.2 with ⟨h1, _⟩ | ⟨_, h2⟩
          · exact absurd h1 hne
          · exact h2))
        refine Lib.hid ?_
        go_wp2_with (first
          | (go_at_call 12; (with_reducible refine HA.out.mono ?_); rintro e w6 ⟨rfl, hb⟩; have H6 := Lib.hid (And.intro (H4.out.1.trans (hb.mono H4.out.1.size)) (H4.out.2.1.below hb)); clear hb)
          | (go_at_call 10; (with_reducible refine H6.out.2.clone.mono ?_); rintro e w7 ⟨q2, rfl, hk, hT⟩; have H7 := Lib.hid (And.intro (HS.out _ (Kp.refl _ _) _ H6.out.1 hk) hT); clear hk hT; refine Hid.out ?_)
          | fail)
      all_goals
        have HPT := Lib.hid (H7.out.2.putText at_ (by omega) s (by rw [HK.out.2]; omega))
        refine Lib.hid ?_
        go_wp2_with (first
          | (go_at_call 15; (with_reducible refine HPT.out.mono ?_); rintro e w8 ⟨code, U2, rfl, hk, hT, hc⟩; have H8 := Lib.hid (And.intro (HS.out _ (Kp.refl _ _) _ H7.out.1 hk) (And.intro hT hc)); clear hk hT hc HPT; refine Hid.out ?_)
          | fail)
        have hcode : code = 0 ∨ code ≠ 0 := by omega
        rcases hcode with rfl | hne
        case inr =>
          have hz : (code != 0) = true := by simpa using hne
          have HA := Lib.hid (H8.out.2.1.alike (by
            rcases H8.out.2.2 with ⟨h1, _⟩ | ⟨_, h2⟩
            · exact absurd h1 hne
            · exact h2))
          refine Lib.hid ?_
          go_wp2_with (first
            | (go_at_call 12; (with_reducible refine HA.out.mono ?_); rintro e w9 ⟨rfl, hb⟩; have H9 := Lib.hid (H8.out.1.trans (hb.mono H8.out.1.size)); clear hb))
          go_ret
          exact ⟨rfl, H9.out⟩
        case inl =>
          have HT : Hid (Calls Try.prog 16 #[.pointer (some ⟨q, 0, none⟩), .int .u32 (at_ : Int), .int .i64 ((Z : Int) + 1)] w8 fun e w' => e = .returned (.tuple #[.string s, .int .i64 0]) ∧ Below w8.heap.size w8 w') := Lib.hid (by
            rcases H8.out.2.2 with ⟨_, h2, h3, h4⟩ | ⟨h1, _⟩
            · have hlz : (nats s).length = Z := by rw [nats_len, HK.out.2]
              have hli : Lies M U2 at_ (nats s) := by rw [h4]; exact lies_put (by rw [hlz]; omega) h3 h2
              have := H8.out.2.1.text at_ (Z + 1) (by omega) (by omega) (nats s) hli (by rw [hlz]; omega)
              rw [bstr_nats] at this
              exact this
            · exact absurd rfl h1)
          have HV : Hid (∀ j, ¬ (at_ ≤ j ∧ j ≤ at_ + Z) → byt M U2 j = byt M U j) := Lib.hid (by
            rcases H8.out.2.2 with ⟨_, h2, h3, h4⟩ | ⟨h1, _⟩
            · intro j hj
              have hlz : (nats s ++ [0]).length = Z + 1 := by rw [List.length_append, nats_len, HK.out.2]; rfl
              unfold byt
              rw [h4, wrv_out (by rw [hlz]; omega)]
            · exact absurd rfl h1)
          refine Lib.hid ?_
          go_wp2_with (first
            | (go_at_call 16; (with_reducible refine HT.out.mono ?_); rintro e w9 ⟨rfl, hb⟩; have H9 := Lib.hid (And.intro (H8.out.1.trans (hb.mono H8.out.1.size)) (H8.out.2.1.below hb)); clear hb HT))
          go_loopw [22] (fun i wr => ∃ j : Nat, j ≤ 1400 ∧ i = .int .u32 (j : Int) ∧ Below w9.heap.size w9 wr) (fun i _ => 1400 - (intOf i).toNat)
          case atStart => exact ⟨0, Nat.zero_le _, rfl, Below.refl _ _⟩
          case round =>
            obtain ⟨j, hj, rfl, hB⟩ := hrel
            by_cases hlt : j < 1400
            · have hlt' : (j : Int) < 1400 := by omega
              have HB9 := Lib.hid (And.intro hB (H9.out.2.below hB))
              clear hB
              have HY1 := Lib.hid (HB9.out.2.byte j (by omega))
              have hv := HV.out j
              have hjz : (j : Int) < 4294967296 := by omega
              obtain ⟨mm, hmm⟩ : ∃ mm, M (j / 64) = mm := ⟨_, rfl⟩
              rw [hmm] at HY1
              obtain ⟨ya, hya⟩ : ∃ ya, byt M U2 j = ya := ⟨_, rfl⟩
              obtain ⟨yb, hyb⟩ : ∃ yb, byt M U j = yb := ⟨_, rfl⟩
              have HY2 : Hid (∀ W, Two W p b q q2 t M U2 U 3 → Calls Try.prog 17 #[.pointer (some ⟨q2, 0, none⟩), .int .u32 (j : Int)] W fun e w' => e = .returned (.tuple #[.int .u8 (yb : Int), .bool mm]) ∧ Below W.heap.size W w') := Lib.hid (fun W hT => by
                have := hT.byte' j (by omega)
                rw [hmm, hyb] at this
                exact this)
              rw [hya] at HY1
              rw [hya, hyb] at hv
              clear hmm hya hyb
              by_cases hin : at_ ≤ j ∧ j ≤ at_ + Z
              case pos =>
                have e1 : decide ((j : Int) < (at_ : Int)) = false := decide_eq_false (by omega)
                have e2 : decide (j < at_) = false := decide_eq_false (by omega)
                have e3 : decide ((at_ : Int) + (Z : Int) < (j : Int)) = false := decide_eq_false (by omega)
                have e4 : decide (at_ + Z < j) = false := decide_eq_false (by omega)
                clear hin hv
                go_wp2_with (first
                  | (go_at_call 17; (with_reducible refine HY1.out.mono ?_); rintro e w11 ⟨rfl, hb⟩; have H11 := Lib.hid (And.intro (HB9.out.1.trans (hb.mono HB9.out.1.size)) (HB9.out.2.below hb)); clear hb)
                  | (go_at_call 17; (with_reducible refine (HY2.out _ H11.out.2).mono ?_); rintro e w12 ⟨rfl, hb⟩; have H12 := Lib.hid (H11.out.1.trans (hb.mono H11.out.1.size)); clear hb))
                go_roundw
                case rel => exact ⟨j + 1, by omega, by go_num, H12.out⟩
                case measure => simp [intOf]; omega
              case neg =>
                obtain rfl := hv hin
                have hor : decide ((j : Int) < (at_ : Int)) = true ∧ decide (j < at_) = true ∨ (decide ((j : Int) < (at_ : Int)) = false ∧ decide (j < at_) = false) ∧ decide ((at_ : Int) + (Z : Int) < (j : Int)) = true ∧ decide (at_ + Z < j) = true := by
                  by_cases h : j < at_
                  · exact .inl ⟨decide_eq_true (by omega), decide_eq_true (by omega)⟩
                  · exact .inr ⟨⟨decide_eq_false (by omega), decide_eq_false (by omega)⟩, decide_eq_true (by omega), decide_eq_true (by omega)⟩
                clear hin hv
                rcases hor with ⟨e1, e2⟩ | ⟨⟨e1, e2⟩, e3, e4⟩
                all_goals
                  go_wp2_with (first
                    | (go_at_call 17; (with_reducible refine HY1.out.mono ?_); rintro e w11 ⟨rfl, hb⟩; have H11 := Lib.hid (And.intro (HB9.out.1.trans (hb.mono HB9.out.1.size)) (HB9.out.2.below hb)); clear hb)
                    | (go_at_call 17; (with_reducible refine (HY2.out _ H11.out.2).mono ?_); rintro e w12 ⟨rfl, hb⟩; have H12 := Lib.hid (H11.out.1.trans (hb.mono H11.out.1.size)); clear hb))
                  go_roundw
                  case rel => exact ⟨j + 1, by omega, by go_num, H12.out⟩
                  case measure => simp [intOf]; omega
            · obtain rfl : j = 1400 := by omega
              go_wp2
              go_ret
              exact ⟨rfl, H9.out.1.trans (hB.mono H9.out.1.size)⟩
theorem userBack (av : Option Addr) (len cap : Nat) (zs : List Int) (s : ByteArray) (a pg : Int) (w : World) (hz : IsRow .u32 w av len cap zs) (hs : s.size ≤ maxLen) (ha : (Lit.int .u16 a).wf = true) (hp : (Lit.int .u16 pg).wf = true) :
    Calls Try.prog 3 #[.slice av len cap, .string s, .int .u16 a, .int .u16 pg] w fun e w' => e = .returned (.bool true) ∧ Below w.heap.size w w' := by
  obtain ⟨a, rfl, ha2⟩ := u16_nat ha
  obtain ⟨pg, rfl, hp2⟩ := u16_nat hp
  obtain ⟨xs, _, hx, hwf⟩ := hz.slc nn_w32
  exact back_any _ xs s a pg w hx (BackNums.u32_lt hwf) hs ha2 hp2
end Go.Proofs.Ytjoapeeljigjcaa.Walk
