/-
  Map: refused, it changes nothing; else pages have frames of their own.
-/
import Derived.Test.YtjoapeeljigjcaaDoorMp
namespace Go.Proofs.YtjoapeeljigjcaaDoor.Mq
open Go Go.RowKit Go.Shelf Kit Bk
open Fm hiding Mem made_any len_any
open Fo Fr Fw Fx Fu Fq
open Tm hiding Mem
open Ts Tc Ti Sp Sa To Mp
set_option linter.unusedVariables false

def map1 (n : Nat) (s : Sx) (k : Nat) (wb sh : Bool) : Sx := ⟨up s.R (lf n s.R) 1, s.B, up s.T k (some ⟨(lf n s.R : Int), wb, sh, false, true⟩)⟩
def maps (n : Nat) (s : Sx) (k : Nat) (wb sh : Bool) : Nat → Sx
  | 0 => s
  | i + 1 => map1 n (maps n s k wb sh i) (k + i) wb sh
theorem maps_fre (n : Nat) (s : Sx) (k : Nat) (wb sh : Bool) (m : Nat) (h : m ≤ fre n s.R) : ∀ i, i ≤ m → fre n (maps n s k wb sh i).R = fre n s.R - i
  | 0, _ => rfl
  | i + 1, hi => by
    have ih := maps_fre n s k wb sh m h i (by omega)
    show fre n (up (maps n s k wb sh i).R (lf n (maps n s k wb sh i).R) 1) = _
    obtain ⟨h1, h2, _⟩ := lf_spec (fre_pos (show 0 < fre n (maps n s k wb sh i).R by omega))
    rw [fre_take h1 h2 (by decide), ih]
    omega
theorem map_no (w : World) (q p t : Nat) (T : Nat → Option En) (h : Sp w q p t) (hT : Tm.Mem w t T) (page n : Int) (hp : (Lit.int .i64 page).wf = true) (hn : (Lit.int .i64 n).wf = true) (wb sh : Bool)
    (hno : okR page n = false ∨ ∃ k m : Nat, page = (k : Int) ∧ n = (m : Int) ∧ 1 ≤ m ∧ k + m ≤ 64 ∧ allI T k m false = false) :
    Calls Tryd.prog 17 #[.pointer (some ⟨q, 0, none⟩), .int .i64 page, .int .i64 n, .bool wb, .bool sh] w fun e w' => e = .returned (.int .i64 22) ∧ Below w.heap.size w w' := by
  have HM := Lib.hid (made_any w q p t h)
  have HA : Hid (Calls Tryd.prog 32 #[.pointer (some ⟨q, 0, none⟩), .int .i64 page, .int .i64 n, .bool false] w fun e w' => e = .returned (.bool false) ∧ Below w.heap.size w w') := Lib.hid (by
    rcases hno with hb | ⟨k, m, rfl, rfl, h1, h2, h3⟩
    · refine (areAll_bad w _ page n false hp hn hb).mono ?_
      rintro e w' ⟨rfl, rfl⟩
      exact ⟨rfl, Below.refl _ _⟩
    · have := areAll_in w q p t T h hT k m h1 h2 false
      rw [h3] at this
      exact this)
  clear h hT hno hp hn
  go_enter Tryd.func17, Tryd.ntmps17
  go_wp2_with (first | (go_at_call 31; (with_reducible refine HM.out.mono ?_); rintro e w1 ⟨rfl, rfl⟩) | (go_at_call 32; (with_reducible refine HA.out.mono ?_); rintro e w2 ⟨rfl, hb2⟩; have HB2 := Lib.hid hb2; clear hb2))
  go_ret
  exact ⟨rfl, HB2.out⟩
theorem map_nil (w : World) (page n : Int) (wb sh : Bool) :
    Calls Tryd.prog 17 #[.pointer none, .int .i64 page, .int .i64 n, .bool wb, .bool sh] w fun e w' => e = .returned (.int .i64 14) ∧ w = w' := by
  have HM := Lib.hid (made_nil w)
  go_enter Tryd.func17, Tryd.ntmps17
  go_wp2_with (first | (go_at_call 31; (with_reducible refine HM.out.mono ?_); rintro e w1 ⟨rfl, rfl⟩))
  go_ret
  exact ⟨rfl, rfl⟩
theorem map_full (w : World) (q p t b nf : Nat) (T : Nat → Option En) (R : Nat → Nat) (B : Nat → Nat → Nat) (h : Sp w q p t) (hF : Fm.Mem w p b nf R B) (hT : Tm.Mem w t T) (k m : Nat) (h1 : 1 ≤ m) (h2 : k + m ≤ 64) (h3 : allI T k m false = true) (h4 : fre nf R < m) (wb sh : Bool) :
    Calls Tryd.prog 17 #[.pointer (some ⟨q, 0, none⟩), .int .i64 (k : Int), .int .i64 (m : Int), .bool wb, .bool sh] w fun e w' => e = .returned (.int .i64 12) ∧ Below w.heap.size w w' := by
  have HM := Lib.hid (made_any w q p t h)
  have ha := areAll_in w q p t T h hT k m h1 h2 false
  rw [h3] at ha
  have HA := Lib.hid ha
  have HF := Lib.hid (fun W (hb : Below w.heap.size w W) => free_is W p b nf R B (hF.below hb))
  have HC := Lib.hid (fun W (hb : Below w.heap.size w W) => (Blk.below h hb).cell 0)
  have hd : decide ((fre nf R : Int) < (m : Int)) = true := decide_eq_true (by omega)
  have hd2 : decide (fre nf R < m) = true := decide_eq_true h4
  clear h hT h1 h2 h3 h4 hF ha
  go_enter Tryd.func17, Tryd.ntmps17
  go_wp2_with (first | (go_at_call 31; (with_reducible refine HM.out.mono ?_); rintro e w1 ⟨rfl, rfl⟩) | (go_at_call 32; (with_reducible refine HA.out.mono ?_); rintro e w2 ⟨rfl, hb2⟩; have HB2 := Lib.hid hb2; have c0 := HC.out _ hb2; clear hb2) | (go_at_call 33; (with_reducible refine (HF.out _ HB2.out).mono ?_); rintro e w3 ⟨rfl, hb3⟩; have HB3 := Lib.hid (HB2.out.trans (hb3.mono HB2.out.size)); clear hb3))
  go_ret
  exact ⟨rfl, HB3.out⟩
set_option maxRecDepth 100000 in
set_option maxHeartbeats 2000000 in
theorem map_ok (w : World) (q p t b nf : Nat) (T : Nat → Option En) (R : Nat → Nat) (B : Nat → Nat → Nat) (h : Sp w q p t) (hF : Fm.Mem w p b nf R B) (hT : Tm.Mem w t T) (k m : Nat) (h1 : 1 ≤ m) (h2 : k + m ≤ 64) (h3 : allI T k m false = true) (h4 : m ≤ fre nf R) (wb sh : Bool) :
    Calls Tryd.prog 17 #[.pointer (some ⟨q, 0, none⟩), .int .i64 (k : Int), .int .i64 (m : Int), .bool wb, .bool sh] w fun e w' => e = .returned (.int .i64 0) ∧ Fm.Mem w' p b nf (maps nf ⟨R, B, T⟩ k wb sh m).R (maps nf ⟨R, B, T⟩ k wb sh m).B ∧ Tm.Mem w' t (maps nf ⟨R, B, T⟩ k wb sh m).T ∧ Kp (fun j => j = b ∨ j = t) w w' := by
  have HNE := Lib.hid (apart h hF hT)
  have hn256 := hF.pos.2
  have HM := Lib.hid (made_any w q p t h)
  have ha := areAll_in w q p t T h hT k m h1 h2 false
  rw [h3] at ha
  have HA := Lib.hid ha
  have HF := Lib.hid (fun W (hb : Below w.heap.size w W) => free_is W p b nf R B (hF.below hb))
  have HC := Lib.hid (fun W (hb : Below w.heap.size w W) => (Blk.below h hb).cell 0)
  have hd : decide ((fre nf R : Int) < (m : Int)) = false := decide_eq_false (by omega)
  have hd2 : decide (fre nf R < m) = false := decide_eq_false (by omega)
  have H := Lib.hid (And.intro h (And.intro hF hT))
  have hmf := Lib.hid (maps_fre nf ⟨R, B, T⟩ k wb sh m h4)
  clear h hT h1 h3 hF ha
  go_enter Tryd.func17, Tryd.ntmps17
  go_wp2_with (first | (go_at_call 31; (with_reducible refine HM.out.mono ?_); rintro e w1 ⟨rfl, rfl⟩) | (go_at_call 32; (with_reducible refine HA.out.mono ?_); rintro e w2 ⟨rfl, hb2⟩; have HB2 := Lib.hid hb2; have c0 := HC.out _ hb2; clear hb2) | (go_at_call 33; (with_reducible refine (HF.out _ HB2.out).mono ?_); rintro e w3 ⟨rfl, hb3⟩; have HB3 := Lib.hid (HB2.out.trans (hb3.mono HB2.out.size)); clear hb3))
  have hk3 : Kp (fun j => j = b ∨ j = t) w w3 := Kp.of_below HB3.out
  have hF3 := H.out.2.1.below HB3.out
  have hT3 := H.out.2.2.below HB3.out
  clear HB2 HB3 HA HM HF HC c0 hd
  go_loopw [33] (fun i wv => ∃ j : Nat, j ≤ m ∧ i = .int .i64 (j : Int) ∧ Fm.Mem wv p b nf (maps nf ⟨R, B, T⟩ k wb sh j).R (maps nf ⟨R, B, T⟩ k wb sh j).B ∧ Tm.Mem wv t (maps nf ⟨R, B, T⟩ k wb sh j).T ∧ Kp (fun j => j = b ∨ j = t) w wv) (fun i _ => m - (intOf i).toNat)
  case atStart => exact ⟨0, Nat.zero_le _, rfl, hF3, hT3, hk3⟩
  case round =>
    obtain ⟨j, hj, rfl, hFr, hTr, hkp⟩ := hrel
    by_cases hlt : j < m
    · have hsp := Sp.kept H.out.1 hkp (fun e => e.elim HNE.out.2.2.1 HNE.out.2.2.2.1)
      have hfp : 0 < fre nf (maps nf ⟨R, B, T⟩ k wb sh j).R := by rw [hmf.out j hj]; show 0 < fre nf R - j; omega
      have HTK := Lib.hid (take_is _ p b nf _ _ hFr hfp)
      obtain ⟨hl1, hl2, hl3⟩ := lf_spec (fre_pos hfp)
      have hst : maps nf ⟨R, B, T⟩ k wb sh (j + 1) = map1 nf (maps nf ⟨R, B, T⟩ k wb sh j) (k + j) wb sh := rfl
      obtain ⟨s', hs'⟩ : ∃ s', maps nf ⟨R, B, T⟩ k wb sh (j + 1) = s' := ⟨_, rfl⟩
      rw [hs'] at hst
      obtain ⟨s0, hs0⟩ : ∃ s0, maps nf ⟨R, B, T⟩ k wb sh j = s0 := ⟨_, rfl⟩
      rw [hs0] at hFr hTr hst HTK hl1
      have HS := Lib.hid (And.intro hs' hst)
      obtain ⟨m0, hm0⟩ : ∃ m0, lf nf s0.R = m0 := ⟨_, rfl⟩
      have HL := Lib.hid hm0
      rw [hm0] at HTK hl1
      have c0 := Blk.cell hsp 0
      have hjm : (j : Int) < (m : Int) := by omega
      have hk1 : (k : Int) + (j : Int) < 64 := by omega
      have HSE := Lib.hid (fun W (hk : Kp (fun j => j = b) _ W) => set_in W t s0.T (hTr.kept hk (fun e => HNE.out.2.2.2.2 e.symm)) (k + j) ⟨(m0 : Int), wb, sh, false, true⟩ (by omega) (by simp [may]; omega))
      rw [show ((k + j : Nat) : Int) = (k : Int) + (j : Int) by omega] at HSE
      have H0 := Lib.hid (And.intro hsp (And.intro hkp hl1))
      clear hs' hst hs0 hsp hFr hTr hkp hm0 hl1 hl2 hl3 hfp
      go_wp2_with (first | (go_at_call 34; (with_reducible refine HTK.out.mono ?_); rintro e w5 ⟨rfl, hF5, hk5⟩; have c1 := Blk.cell (Sp.kept H0.out.1 hk5 HNE.out.2.2.1) 1; have H5 := Lib.hid (And.intro hF5 hk5); clear hF5 hk5) | (go_at_call 35; (with_reducible refine (HSE.out _ H5.out.2).mono ?_); rintro e w6 ⟨rfl, hk6, hT6⟩; have H6 := Lib.hid (And.intro hk6 hT6); clear hk6 hT6))
      go_roundw
      case rel => exact ⟨j + 1, by omega, by go_num, by rw [HS.out.1, HS.out.2]; unfold map1; rw [HL.out]; exact H5.out.1.kept H6.out.1 HNE.out.2.1 HNE.out.2.2.2.2, by rw [HS.out.1, HS.out.2]; unfold map1; rw [HL.out]; exact H6.out.2, (H0.out.2.1.trans H5.out.2 (fun j hj => .inl (.inl hj))).trans H6.out.1 (fun j hj => .inl (.inr hj))⟩
      case measure => simp [intOf]; omega
    · obtain rfl : j = m := by omega
      have HO := Lib.hid (And.intro hFr (And.intro hTr hkp))
      clear hFr hTr hkp
      go_wp2
      go_ret
      exact ⟨rfl, HO.out⟩
end Go.Proofs.YtjoapeeljigjcaaDoor.Mq
