/-
  UserParts' walk.
-/
import Derived.Test.YtjoapeeljigjcaaUsp
namespace Go.Proofs.Ytjoapeeljigjcaa.Walk
open Go Go.RowKit Go.Shelf Kit Bk
open Usa Usb Usc Usd Use Usf Usg Ush Usi Usl Usm Usn Usp Usq
open Bytes (allB bs)
open Words (wd u32s)
set_option linter.unusedVariables false
attribute [local go_sem ↓] Usp.sl_wrap Tl.app_wrap

set_option maxRecDepth 100000 in
set_option maxHeartbeats 8000000 in
theorem parts_any (v : Value) (xs : List Nat) (a pg : Nat) (w : World) (hx : Slc .u32 w v xs) (hb : ∀ x ∈ xs, x < 4294967296) (ha2 : a < 65536) (hp2 : pg < 65536) :
    Calls Try.prog 4 #[v, .int .u16 (a : Int), .int .u16 (pg : Int)] w fun e w' => e = .returned (.bool true) ∧ Below w.heap.size w w' := by
  have HAL := Lib.hid (alive_any w)
  have HX := Lib.hid (And.intro hx hb)
  obtain ⟨av, cap, rfl, hc1, hc2, -⟩ := hx
  obtain ⟨L, hL⟩ : ∃ L, xs.length = L := ⟨_, rfl⟩
  rw [hL] at hc1 HX ⊢
  have hmax : (cap : Int) ≤ 9223372036854775807 := by unfold maxLen at hc2; omega
  by_cases hlen : L ≤ 64
  case neg =>
    have d1 : decide ((64 : Int) < (L : Int)) = true := decide_eq_true (by omega)
    have d2 : decide (64 < L) = true := decide_eq_true (by omega)
    clear hb
    go_enter Try.func4, Try.ntmps4
    go_wp2_with (first
      | (go_at_call 6; (with_reducible refine HAL.out.mono ?_); rintro e w1 ⟨rfl, hb⟩; have HB := Lib.hid hb; clear hb))
    go_ret
    exact ⟨rfl, HB.out⟩
  have d1 : decide ((64 : Int) < (L : Int)) = false := decide_eq_false (by omega)
  have d2 : decide (64 < L) = false := decide_eq_false (by omega)
  obtain ⟨at_, hat⟩ : ∃ at_ : Nat, a % 1100 = at_ := ⟨_, rfl⟩
  have hat2 : at_ < 1100 := by omega
  have hr1 : (a : Int).tmod 1100 = (at_ : Int) := by rw [← hat]; rfl
  have hr2 : (a : Int) % 1100 = (at_ : Int) := by omega
  obtain ⟨k, hk⟩ : ∃ k : Nat, a % (L + 1) = k := ⟨_, rfl⟩
  have hkL : k ≤ L := by have := Nat.mod_lt a (show 0 < L + 1 by omega); omega
  have hr3 : (a : Int).tmod ((L : Int) + 1) = (k : Int) := by rw [← hk]; rfl
  have hr4 : (a : Int) % ((L : Int) + 1) = (k : Int) := by rw [← hk]; rfl
  have hLz : (L : Int) ≤ 64 := by omega
  have hkz : (k : Int) ≤ (L : Int) := by omega
  have hat3 : (at_ : Int) < 1100 := by omega
  have ha3 : (a : Int) < 65536 := by omega
  have hn0 : ((L : Int) + 1 == 0) = false := by simp; omega
  have hn1 : ((L : Int) + 1) ≠ 0 := by omega
  have ew1 : IntKind.u32.wrap (k : Int) = (k : Int) := by simp [IntKind.wrap, IntKind.bits, IntKind.signed]; omega
  have ew2 : IntKind.u32.wrap (4 * (k : Int)) = 4 * (k : Int) := by simp [IntKind.wrap, IntKind.bits, IntKind.signed]; omega
  have ew3 : IntKind.u32.wrap ((at_ : Int) + 4 * (k : Int)) = (at_ : Int) + 4 * (k : Int) := by simp [IntKind.wrap, IntKind.bits, IntKind.signed]; omega
  obtain ⟨V1, hV1, hs1⟩ := to_any HX.out.1 k (by omega)
  obtain ⟨V2, hV2, hs2⟩ := from_any HX.out.1 k (by omega)
  have HS := Lib.hid (And.intro hs1 (And.intro hs2 (And.intro (show (xs.take k).length = k by rw [List.length_take]; omega) (show (xs.drop k).length = L - k by rw [List.length_drop]; omega))))
  have HK := Lib.hid (And.intro hL hkL)
  have HMP := fun W => Lib.hid (mapped_any W pg hp2)
  clear hs1 hs2 hk hat hb hL
  go_enter Try.func4, Try.ntmps4
  go_wp2_with (first
    | (go_at_call 6; (with_reducible refine HAL.out.mono ?_); rintro e w1 ⟨rfl, hb⟩; have HB := Lib.hid hb; clear hb)
    | (go_at_call 18; (with_reducible refine (HMP _).out.mono ?_); rintro e w2 ⟨p, b, q, t, M, rfl, hb, hbb, ht, hF, hM⟩; have H2 := Lib.hid (And.intro (HB.out.trans (hb.mono HB.out.size)) (And.intro (Nat.le_trans HB.out.size hbb) (Nat.le_trans HB.out.size ht))); have HC := Lib.hid (Par.clone hF hM); clear hb hbb ht hF hM)
    | (go_at_call 10; (with_reducible refine HC.out.mono ?_); rintro e w3 ⟨q', t', rfl, ht, hk, hP⟩; have H3 := Lib.hid (And.intro (H2.out.1.trans (hk.below H2.out.1.size (fun j hj => by rcases hj with rfl | rfl; exact H2.out.2.1; exact H2.out.2.2))) (And.intro (Nat.le_trans H2.out.1.size ht) hP)); clear hk hP ht HC; refine Hid.out ?_)
    | fail)
  refine Lib.hid ?_
  have hxx := HX.out.1.below H3.out.1
  by_cases hM : mpd M at_ (4 * L)
  case pos =>
    have hM' : mpd M at_ (4 * k) ∧ mpd M (at_ + 4 * k) (4 * (L - k)) := by
      rw [← mpd_add, show 4 * k + 4 * (L - k) = 4 * L by omega]
      exact hM
    have HP := Lib.hid (H3.out.2.2.yes0 at_ (by omega) _ xs hxx HX.out.2 (by rw [HK.out.1]; omega) (by rw [HK.out.1]; exact hM))
    clear hxx
    go_wp2_with (first
      | (go_at_call 11; (with_reducible refine HP.out.mono ?_); rintro e w4 ⟨rfl, hk4, hP4⟩; have H4 := Lib.hid (And.intro (H3.out.1.trans (hk4.below H3.out.1.size (fun j hj => by rcases hj with rfl | rfl; exact H2.out.2.1; exact H2.out.2.2))) hP4); clear hk4 hP4 HP; refine Hid.out ?_)
      | fail)
    refine Lib.hid ?_
    have hZ : wrv (wrv (fun _ => 0) at_ (allB (xs.take k))) (at_ + 4 * k) (allB (xs.drop k)) = wrv (fun _ => 0) at_ (allB xs) := by
      have := wrv_app (fun _ => 0) at_ (allB (xs.take k)) (allB (xs.drop k))
      rw [Bytes.allB_length, HS.out.2.2.1, allB_parts] at this
      exact this
    have HD : Hid (∀ W, Below w4.heap.size w4 W → Calls Try.prog 11 #[.pointer (some ⟨q', 0, none⟩), .int .u32 (at_ : Int), V1] W fun e w' => e = .returned (.int .i64 0) ∧ Kp (fun j => j = b ∨ j = t') W w' ∧ Par w' p b q q' t t' M (wrv (fun _ => 0) at_ (allB xs)) (wrv (fun _ => 0) at_ (allB (xs.take k)))) := Lib.hid (fun W hb =>
      (H4.out.2.below hb).yes1 at_ (by omega) V1 (xs.take k) (HS.out.1.below (H4.out.1.trans (hb.mono H4.out.1.size))) (fun x hx => HX.out.2 x (List.mem_of_mem_take hx)) (by rw [HS.out.2.2.1]; omega) (by rw [HS.out.2.2.1]; exact hM'.1))
    have HE : Hid (∀ W, Below w.heap.size w W → Par W p b q q' t t' M (wrv (fun _ => 0) at_ (allB xs)) (wrv (fun _ => 0) at_ (allB (xs.take k))) → Calls Try.prog 11 #[.pointer (some ⟨q', 0, none⟩), .int .u32 ((at_ : Int) + 4 * (k : Int)), V2] W fun e w' => e = .returned (.int .i64 0) ∧ Kp (fun j => j = b ∨ j = t') W w' ∧ Par w' p b q q' t t' M (wrv (fun _ => 0) at_ (allB xs)) (wrv (fun _ => 0) at_ (allB xs))) := Lib.hid (fun W hb hP => by
      have := hP.yes1 (at_ + 4 * k) (by omega) V2 (xs.drop k) (HS.out.2.1.below hb) (fun x hx => HX.out.2 x (List.mem_of_mem_drop hx)) (by rw [HS.out.2.2.2]; omega) (by rw [HS.out.2.2.2]; exact hM'.2)
      rw [hZ, show ((at_ + 4 * k : Nat) : Int) = (at_ : Int) + 4 * (k : Int) by omega] at this
      exact this)
    have HM := Lib.hid (And.intro hM hM')
    clear hM hM' hZ
    go_wp2
    go_region_held (fun _ => True) (trivial) (first
      | (go_at_call 11; (with_reducible refine (HD.out _ (Below.refl _ _).drew).mono ?_); rintro e w5 ⟨rfl, hk5, hP5⟩; have H5 := Lib.hid (And.intro (H4.out.1.trans ((Kp.of_below (Below.refl w4.heap.size w4).drew).trans hk5 (fun _ h => .inl h) |>.below H4.out.1.size (fun j hj => by rcases hj with rfl | rfl; exact H2.out.2.1; exact H3.out.2.1))) hP5); clear hk5 hP5)
      | (go_at_call 11; (with_reducible refine (HE.out _ H5.out.1 H5.out.2).mono ?_); rintro e w6 ⟨rfl, hk6, hP6⟩; have H6 := Lib.hid (And.intro (H5.out.1.trans (hk6.below H5.out.1.size (fun j hj => by rcases hj with rfl | rfl; exact H2.out.2.1; exact H3.out.2.1))) hP6); clear hk6 hP6))
    have HAK := Lib.hid (H6.out.2.alike rfl)
    have hrd : ∀ l l2 : List Nat, True := fun _ _ => trivial
    have r1 : rdv (wrv (fun _ => 0) at_ (allB xs)) at_ (4 * L) = allB xs := by
      have := rdv_wrv (fun _ => 0) at_ (allB xs)
      rw [Bytes.allB_length, HK.out.1] at this
      exact this
    have r2 : rdv (wrv (fun _ => 0) at_ (allB xs)) at_ (4 * k) = allB (xs.take k) ∧ rdv (wrv (fun _ => 0) at_ (allB xs)) (at_ + 4 * k) (4 * (L - k)) = allB (xs.drop k) := by
      have := rdv_add (wrv (fun _ => 0) at_ (allB xs)) at_ (4 * k) (4 * (L - k))
      rw [show 4 * k + 4 * (L - k) = 4 * L by omega, r1, ← allB_parts xs k] at this
      have h2 := List.append_inj this (by rw [Bytes.allB_length, HS.out.2.2.1, rdv_len])
      rw [allB_parts] at h2
      exact ⟨h2.1.symm, h2.2.symm⟩
    have HW1 : Hid (∀ W, Par W p b q q' t t' M (wrv (fun _ => 0) at_ (allB xs)) (wrv (fun _ => 0) at_ (allB xs)) → Calls Try.prog 13 #[.pointer (some ⟨q, 0, none⟩), .int .u32 (at_ : Int), .int .i64 (L : Int)] W fun e w' => ∃ r, e = .returned (.tuple #[r, .int .i64 0]) ∧ w'.ownsRow W.heap.size 32 1 r xs.length (u32s xs) ∧ Below W.heap.size W w') := Lib.hid (fun W hP => hP.words at_ (by omega) L hlen HM.out.1 xs r1 HK.out.1)
    have HW2 : Hid (∀ W, Par W p b q q' t t' M (wrv (fun _ => 0) at_ (allB xs)) (wrv (fun _ => 0) at_ (allB xs)) → Calls Try.prog 13 #[.pointer (some ⟨q, 0, none⟩), .int .u32 (at_ : Int), .int .i64 (k : Int)] W fun e w' => ∃ r, e = .returned (.tuple #[r, .int .i64 0]) ∧ w'.ownsRow W.heap.size 32 1 r (xs.take k).length (u32s (xs.take k)) ∧ Below W.heap.size W w') := Lib.hid (fun W hP => hP.words at_ (by omega) k (by omega) HM.out.2.1 _ r2.1 HS.out.2.2.1)
    have HW3 : Hid (∀ W, Par W p b q q' t t' M (wrv (fun _ => 0) at_ (allB xs)) (wrv (fun _ => 0) at_ (allB xs)) → Calls Try.prog 13 #[.pointer (some ⟨q, 0, none⟩), .int .u32 ((at_ : Int) + 4 * (k : Int)), .int .i64 ((L : Int) - (k : Int))] W fun e w' => ∃ r, e = .returned (.tuple #[r, .int .i64 0]) ∧ w'.ownsRow W.heap.size 32 1 r (xs.drop k).length (u32s (xs.drop k)) ∧ Below W.heap.size W w') := Lib.hid (fun W hP => by
      have := hP.words (at_ + 4 * k) (by omega) (L - k) (by omega) HM.out.2.2 _ r2.2 HS.out.2.2.2
      rw [show ((at_ + 4 * k : Nat) : Int) = (at_ : Int) + 4 * (k : Int) by omega, show ((L - k : Nat) : Int) = (L : Int) - (k : Int) by omega] at this
      exact this)
    clear r1 r2 hrd
    go_wp2_with (first
      | (go_at_call 12; (with_reducible refine HAK.out.mono ?_); rintro e w7 ⟨rfl, hb⟩; have H7 := Lib.hid (And.intro (H6.out.1.trans (hb.mono H6.out.1.size)) (H6.out.2.below hb)); clear hb; refine Hid.out ?_)
      | fail)
    refine Lib.hid ?_
    go_wp2_with (first
      | (go_at_call 13; (with_reducible refine (HW1.out _ H7.out.2).mono ?_); rintro e w8 ⟨r1, rfl, ho1, hb⟩; have H8 := Lib.hid (And.intro (H7.out.1.trans (hb.mono H7.out.1.size)) (And.intro (H7.out.2.below hb) ho1)); clear hb ho1; refine Hid.out ?_)
      | fail)
    refine Lib.hid ?_
    go_wp2_with (first
      | (go_at_call 13; (with_reducible refine (HW2.out _ H8.out.2.1).mono ?_); rintro e w9 ⟨r2, rfl, ho2, hb⟩; have H9 := Lib.hid (And.intro (H8.out.1.trans (hb.mono H8.out.1.size)) (And.intro (H8.out.2.1.below hb) (And.intro ho2 hb))); clear hb ho2; refine Hid.out ?_)
      | fail)
    refine Lib.hid ?_
    go_wp2_with (first
      | (go_at_call 13; (with_reducible refine (HW3.out _ H9.out.2.1).mono ?_); rintro e w10 ⟨r3, rfl, ho3, hb⟩; have H10 := Lib.hid (And.intro (H9.out.1.trans (hb.mono H9.out.1.size)) (And.intro ho3 hb)); clear hb ho3; refine Hid.out ?_)
      | fail)
    refine Lib.hid ?_
    obtain ⟨V3, w11, hrun, hs3, hb11⟩ := app_rows (B := w8.heap.size) (own_blw H9.out.2.2.1 H10.out.2.2) (BackNums.own_slc32 H10.out.2.1) (by rw [HS.out.2.2.1, HS.out.2.2.2]; omega) (Nat.le_trans H9.out.2.2.2.size H10.out.2.2.size)
    rw [List.take_append_drop] at hs3
    have hb810 : Below w8.heap.size w8 w11 := (H9.out.2.2.2.trans (H10.out.2.2.mono H9.out.2.2.2.size)).trans hb11
    have HSM := Lib.hid (And.intro (Same.same_any V3 r1 xs w11 hs3 ((BackNums.own_slc32 H8.out.2.2).below hb810)) (H8.out.1.trans (hb810.mono H8.out.1.size)))
    clear hs3 hb11 hb810
    go_wp2_with (first
      | (go_at_call 14; (with_reducible refine HSM.out.1.mono ?_); rintro e w12 ⟨rfl, kq, rfl⟩)
      | fail)
    go_ret
    exact ⟨rfl, below_drewN HSM.out.2 _⟩
  case neg =>
    have HP := Lib.hid (H3.out.2.2.no0 at_ (by omega) _ xs hxx HX.out.2 (by rw [HK.out.1]; omega) (by rw [HK.out.1]; exact hM))
    clear hxx
    go_wp2_with (first
      | (go_at_call 11; (with_reducible refine HP.out.mono ?_); rintro e w4 ⟨rfl, hk4, hP4⟩; have H4 := Lib.hid (And.intro (H3.out.1.trans (hk4.below H3.out.1.size (fun j hj => by rcases hj with rfl | rfl; exact H2.out.2.1; exact H2.out.2.2))) hP4); clear hk4 hP4 HP; refine Hid.out ?_)
      | fail)
    refine Lib.hid ?_
    obtain ⟨dc, hdc⟩ : ∃ dc : Int, (dc = 0 ∧ mpd M at_ (4 * k)) ∨ (dc = 14 ∧ ¬ mpd M at_ (4 * k)) := by
      by_cases h : mpd M at_ (4 * k)
      · exact ⟨0, .inl ⟨rfl, h⟩⟩
      · exact ⟨14, .inr ⟨rfl, h⟩⟩
    obtain ⟨ec, hec⟩ : ∃ ec : Int, (ec = 0 ∧ mpd M (at_ + 4 * k) (4 * (L - k))) ∨ (ec = 14 ∧ ¬ mpd M (at_ + 4 * k) (4 * (L - k))) := by
      by_cases h : mpd M (at_ + 4 * k) (4 * (L - k))
      · exact ⟨0, .inl ⟨rfl, h⟩⟩
      · exact ⟨14, .inr ⟨rfl, h⟩⟩
    have hcodes : (dc = 0 ∧ ec = 14) ∨ (dc = 14 ∧ ec = 0) ∨ (dc = 14 ∧ ec = 14) := by
      rcases hdc with ⟨rfl, h1⟩ | ⟨rfl, h1⟩ <;> rcases hec with ⟨rfl, h2⟩ | ⟨rfl, h2⟩
      · exfalso
        apply hM
        rw [show 4 * L = 4 * k + 4 * (L - k) by omega, mpd_add]
        exact ⟨h1, h2⟩
      · exact .inl ⟨rfl, rfl⟩
      · exact .inr (.inl ⟨rfl, rfl⟩)
      · exact .inr (.inr ⟨rfl, rfl⟩)
    have HD : Hid (∀ W, Below w4.heap.size w4 W → Calls Try.prog 11 #[.pointer (some ⟨q', 0, none⟩), .int .u32 (at_ : Int), V1] W fun e w' => e = .returned (.int .i64 dc) ∧ Kp (fun j => j = b ∨ j = t') W w' ∧ ∃ U, Par w' p b q q' t t' M (fun _ => 0) U) := Lib.hid (fun W hb => by
      have g1 := HS.out.1.below (H4.out.1.trans (hb.mono H4.out.1.size))
      have g2 : ∀ x ∈ xs.take k, x < 4294967296 := fun x hx => HX.out.2 x (List.mem_of_mem_take hx)
      have g3 : (xs.take k).length ≤ 64 := by rw [HS.out.2.2.1]; omega
      rcases hdc with ⟨rfl, h1⟩ | ⟨rfl, h1⟩
      · exact ((H4.out.2.below hb).yes1 at_ (by omega) V1 (xs.take k) g1 g2 g3 (by rw [HS.out.2.2.1]; exact h1)).mono fun e w' ⟨a1, a2, a3⟩ => ⟨a1, a2, _, a3⟩
      · exact ((H4.out.2.below hb).no1 at_ (by omega) V1 (xs.take k) g1 g2 g3 (by rw [HS.out.2.2.1]; exact h1)).mono fun e w' ⟨a1, a2, a3⟩ => ⟨a1, a2, _, a3⟩)
    have HE : Hid (∀ W U, Below w.heap.size w W → Par W p b q q' t t' M (fun _ => 0) U → Calls Try.prog 11 #[.pointer (some ⟨q', 0, none⟩), .int .u32 ((at_ : Int) + 4 * (k : Int)), V2] W fun e w' => e = .returned (.int .i64 ec) ∧ Kp (fun j => j = b ∨ j = t') W w' ∧ ∃ U, Par w' p b q q' t t' M (fun _ => 0) U) := Lib.hid (fun W U hb hP => by
      have g1 := HS.out.2.1.below hb
      have g2 : ∀ x ∈ xs.drop k, x < 4294967296 := fun x hx => HX.out.2 x (List.mem_of_mem_drop hx)
      have g3 : (xs.drop k).length ≤ 64 := by rw [HS.out.2.2.2]; omega
      rw [show (at_ : Int) + 4 * (k : Int) = ((at_ + 4 * k : Nat) : Int) by omega]
      rcases hec with ⟨rfl, h1⟩ | ⟨rfl, h1⟩
      · exact (hP.yes1 (at_ + 4 * k) (by omega) V2 (xs.drop k) g1 g2 g3 (by rw [HS.out.2.2.2]; exact h1)).mono fun e w' ⟨a1, a2, a3⟩ => ⟨a1, a2, _, a3⟩
      · exact (hP.no1 (at_ + 4 * k) (by omega) V2 (xs.drop k) g1 g2 g3 (by rw [HS.out.2.2.2]; exact h1)).mono fun e w' ⟨a1, a2, a3⟩ => ⟨a1, a2, _, a3⟩)
    have HWm : Hid (∀ W U, Par W p b q q' t t' M (fun _ => 0) U → Calls Try.prog 13 #[.pointer (some ⟨q, 0, none⟩), .int .u32 (at_ : Int), .int .i64 (L : Int)] W fun e w' => e = .returned (.tuple #[.slice none 0 0, .int .i64 14]) ∧ Below W.heap.size W w') := Lib.hid (fun W U hP => hP.wordsNo at_ (by omega) L hlen hM)
    have HWp : Hid (∀ W U, Par W p b q q' t t' M (fun _ => 0) U → Calls Try.prog 13 #[.pointer (some ⟨q, 0, none⟩), .int .u32 (at_ : Int), .int .i64 (k : Int)] W fun e w' => ∃ r, e = .returned (.tuple #[r, .int .i64 dc]) ∧ Below W.heap.size W w') := Lib.hid (fun W U hP => by
      rcases hdc with ⟨rfl, h1⟩ | ⟨rfl, h1⟩
      · exact hP.wordsYes at_ (by omega) k (by omega) h1
      · exact (hP.wordsNo at_ (by omega) k (by omega) h1).mono fun e w' ⟨a1, a2⟩ => ⟨_, a1, a2⟩)
    have HWq : Hid (∀ W U, Par W p b q q' t t' M (fun _ => 0) U → Calls Try.prog 13 #[.pointer (some ⟨q, 0, none⟩), .int .u32 ((at_ : Int) + 4 * (k : Int)), .int .i64 ((L : Int) - (k : Int))] W fun e w' => ∃ r, e = .returned (.tuple #[r, .int .i64 ec]) ∧ Below W.heap.size W w') := Lib.hid (fun W U hP => by
      rw [show (at_ : Int) + 4 * (k : Int) = ((at_ + 4 * k : Nat) : Int) by omega, show (L : Int) - (k : Int) = ((L - k : Nat) : Int) by omega]
      rcases hec with ⟨rfl, h1⟩ | ⟨rfl, h1⟩
      · exact hP.wordsYes (at_ + 4 * k) (by omega) (L - k) (by omega) h1
      · exact (hP.wordsNo (at_ + 4 * k) (by omega) (L - k) (by omega) h1).mono fun e w' ⟨a1, a2⟩ => ⟨_, a1, a2⟩)
    clear hdc hec hM
    rcases hcodes with ⟨rfl, rfl⟩ | ⟨rfl, rfl⟩ | ⟨rfl, rfl⟩
    all_goals
      go_wp2
      go_region_held (fun _ => True) (trivial) (first
        | (go_at_call 11; (with_reducible refine (HD.out _ (Below.refl _ _).drew).mono ?_); rintro e w5 ⟨rfl, hk5, U, hP5⟩; have H5 := Lib.hid (And.intro (H4.out.1.trans ((Kp.of_below (Below.refl w4.heap.size w4).drew).trans hk5 (fun _ h => .inl h) |>.below H4.out.1.size (fun j hj => by rcases hj with rfl | rfl; exact H2.out.2.1; exact H3.out.2.1))) hP5); clear hk5 hP5)
        | (go_at_call 11; (with_reducible refine (HE.out _ _ H5.out.1 H5.out.2).mono ?_); rintro e w6 ⟨rfl, hk6, U', hP6⟩; have H6 := Lib.hid (And.intro (H5.out.1.trans (hk6.below H5.out.1.size (fun j hj => by rcases hj with rfl | rfl; exact H2.out.2.1; exact H3.out.2.1))) hP6); clear hk6 hP6))
      go_wp2_with (first
        | (go_at_call 13; (with_reducible refine (HWm.out _ _ H6.out.2).mono ?_); rintro e w8 ⟨rfl, hb⟩; have H8 := Lib.hid (And.intro (H6.out.1.trans (hb.mono H6.out.1.size)) (H6.out.2.below hb)); clear hb; refine Hid.out ?_)
        | fail)
      refine Lib.hid ?_
      go_wp2_with (first
        | (go_at_call 13; (with_reducible refine (HWp.out _ _ H8.out.2).mono ?_); rintro e w9 ⟨r2, rfl, hb⟩; have H9 := Lib.hid (And.intro (H8.out.1.trans (hb.mono H8.out.1.size)) (H8.out.2.below hb)); clear hb; refine Hid.out ?_)
        | fail)
      refine Lib.hid ?_
      go_wp2_with (first
        | (go_at_call 13; (with_reducible refine (HWq.out _ _ H9.out.2).mono ?_); rintro e w10 ⟨r3, rfl, hb⟩; have H10 := Lib.hid (H9.out.1.trans (hb.mono H9.out.1.size)); clear hb; refine Hid.out ?_)
        | fail)
      refine Lib.hid ?_
      go_wp2
      go_ret
      exact ⟨rfl, H10.out⟩
theorem userParts (av : Option Addr) (len cap : Nat) (zs : List Int) (a pg : Int) (w : World) (hz : IsRow .u32 w av len cap zs) (ha : (Lit.int .u16 a).wf = true) (hp : (Lit.int .u16 pg).wf = true) :
    Calls Try.prog 4 #[.slice av len cap, .int .u16 a, .int .u16 pg] w fun e w' => e = .returned (.bool true) ∧ Below w.heap.size w w' := by
  obtain ⟨a, rfl, ha2⟩ := u16_nat ha
  obtain ⟨pg, rfl, hp2⟩ := u16_nat hp
  obtain ⟨xs, _, hx, hwf⟩ := hz.slc nn_w32
  exact parts_any _ xs a pg w hx (BackNums.u32_lt hwf) ha2 hp2
end Go.Proofs.Ytjoapeeljigjcaa.Walk
