/-
  UserEnds' walk.
-/
import Derived.Test.YtjoapeeljigjcaaUsl
namespace Go.Proofs.Ytjoapeeljigjcaa.Walk
open Go Go.RowKit Go.Shelf Kit Bk
open Usa Usb Usc Usd Use Usf Usg Ush Usi Usl Usm Usn
open BackNums (bstr)
set_option linter.unusedVariables false

theorem drop_extract (s : ByteArray) (j : Nat) : bstr ((nats s).drop j) = s.extract j s.size := by
  have : nats (s.extract j s.size) = (nats s).drop j := by
    unfold nats
    rw [← List.map_drop]
    congr 1
    rw [ByteArray.data_extract, Array.toList_extract]
    simp [List.extract]
    rw [List.take_of_length_le]
    rw [List.length_drop, Array.length_toList]
    exact Nat.le_refl _
  rw [← this, bstr_nats]
set_option maxRecDepth 100000 in
set_option maxHeartbeats 4000000 in
theorem userEnds (s : ByteArray) (a pg : Int) (w : World) (hs : s.size ≤ maxLen) (ha : (Lit.int .u16 a).wf = true) (hp : (Lit.int .u16 pg).wf = true) :
    Calls Try.prog 5 #[.string s, .int .u16 a, .int .u16 pg] w fun e w' => e = .returned (.bool true) ∧ Below w.heap.size w w' := by
  obtain ⟨a, rfl, ha2⟩ := u16_nat ha
  obtain ⟨pg, rfl, hp2⟩ := u16_nat hp
  have HAL := Lib.hid (alive_any w)
  clear ha hp hs
  by_cases hlen : s.size ≤ 255
  case neg =>
    have d1 : decide ((255 : Int) < (s.size : Int)) = true := decide_eq_true (by omega)
    have d2 : decide (255 < s.size) = true := decide_eq_true (by omega)
    go_enter Try.func5, Try.ntmps5
    go_wp2_with (first
    | (go_at_call 6; (with_reducible refine HAL.out.mono ?_); rintro e w1 ⟨rfl, hb⟩; have HB := Lib.hid hb; clear hb))
    go_ret
    exact ⟨rfl, HB.out⟩
  have d1 : decide ((255 : Int) < (s.size : Int)) = false := decide_eq_false (by omega)
  have d2 : decide (255 < s.size) = false := decide_eq_false (by omega)
  obtain ⟨at_, hat⟩ : ∃ at_ : Nat, a % 1100 = at_ := ⟨_, rfl⟩
  have hat2 : at_ < 1100 := by omega
  have hr1 : (a : Int).tmod 1100 = (at_ : Int) := by rw [← hat]; rfl
  have hr2 : (a : Int) % 1100 = (at_ : Int) := by omega
  have HMP := fun W => Lib.hid (mapped_any W pg hp2)
  by_cases h0 : 0 ∈ nats s
  case pos =>
    have HPT := fun W sp (x : Int) => Lib.hid (text_zero W sp x s (by omega) h0)
    clear hat
    go_enter Try.func5, Try.ntmps5
    go_wp2_with (first
    | (go_at_call 6; (with_reducible refine HAL.out.mono ?_); rintro e w1 ⟨rfl, hb⟩; have HB := Lib.hid hb; clear hb)
    | (go_at_call 18; (with_reducible refine (HMP _).out.mono ?_); rintro e w2 ⟨p, b, q, t, M, rfl, hb, hbb, ht, hF, hM⟩; have HB2 := Lib.hid (HB.out.trans (hb.mono HB.out.size)); clear hb)
    | (go_at_call 15; (with_reducible refine (HPT _ _ _).out.mono ?_); rintro e w3 ⟨rfl, rfl⟩))
    go_ret
    exact ⟨rfl, HB2.out⟩
  obtain ⟨L, hL⟩ : ∃ L, s.size = L := ⟨_, rfl⟩
  rw [hL] at hlen d1 d2
  go_enter Try.func5, Try.ntmps5
  go_wp2_with (first
    | (go_at_call 6; (with_reducible refine HAL.out.mono ?_); rintro e w1 ⟨rfl, hb⟩; have HB := Lib.hid hb; clear hb)
    | (go_at_call 18; (with_reducible refine (HMP _).out.mono ?_); rintro e w2 ⟨p, b, q, t, M, rfl, hb, hbb, ht, hF, hM⟩; have H2 := Lib.hid (And.intro (HB.out.trans (hb.mono HB.out.size)) (And.intro (Nat.le_trans HB.out.size hbb) (And.intro (Nat.le_trans HB.out.size ht) (And.intro hF.on hM)))); clear hb hbb ht hF hM; have HPT := Lib.hid (oPutText H2.out.2.2.2.1 (i := 0) (by decide) at_ (by omega) s (by rw [hL]; omega) h0); refine Hid.out ?_)
    | fail)
  refine Lib.hid ?_
  go_wp2_with (first
    | (go_at_call 15; (with_reducible refine HPT.out.mono ?_); rintro e w3 ⟨code, Vs', rfl, hk, hO, hp⟩; have H3 := Lib.hid (And.intro (H2.out.1.trans (hk.below H2.out.1.size (fun j hj => by rcases hj with rfl | rfl; exact H2.out.2.1; exact H2.out.2.2.1))) (And.intro hO hp)); clear hk hO hp HPT; refine Hid.out ?_)
    | fail)
  have hcode : code = 0 ∨ code ≠ 0 := by omega
  rcases hcode with rfl | hne
  case inr =>
    have hz : (code != 0) = true := by simpa using hne
    have H3' := H3
    refine Lib.hid ?_
    go_wp2
    go_ret
    exact ⟨rfl, H3.out.1⟩
  refine Lib.hid ?_
  have HLI : Hid (Usl.Lies M (Vs' 0) at_ (nats s)) := Lib.hid (by
    rcases H3.out.2.2 with ⟨_, h2, rfl⟩ | ⟨h1, _⟩ | ⟨h1, _⟩
    · rw [up_same]
      exact lies_put (by rw [nats_len, hL]; omega) h2 h0
    · cases h1
    · cases h1)
  go_wp2
  go_loopw [10] (fun i wr => ∃ j : Nat, j ≤ L + 1 ∧ i = .int .i64 (j : Int) ∧ Below w3.heap.size w3 wr) (fun i _ => L + 1 - (intOf i).toNat)
  case atStart => exact ⟨0, Nat.zero_le _, rfl, Below.refl _ _⟩
  case round =>
    obtain ⟨j, hj, rfl, hB⟩ := hrel
    by_cases hlt : j ≤ L
    · have hle : decide ((j : Int) ≤ (L : Int)) = true := decide_eq_true (by omega)
      have hle2 : decide (j ≤ L) = true := decide_eq_true hlt
      have hjz : (j : Int) ≤ 255 := by omega
      have hsz : (L : Int) ≤ 255 := by omega
      have hat3 : (at_ : Int) < 1100 := by omega
      have hjL : (j : Int) ≤ (L : Int) := by omega
      have HO := Lib.hid (H3.out.2.1.below hB)
      have HLF := Lib.hid (Usl.Lies.from_ HLI.out (k := j) (by rw [nats_len, hL]; omega))
      have hdl : ((nats s).drop j).length = L - j := by rw [List.length_drop, nats_len, hL]
      obtain ⟨tt, htt⟩ : ∃ tt, bstr ((nats s).drop j) = tt := ⟨_, rfl⟩
      have hex : tt.toList = (s.extract j L).toList := by rw [← htt, drop_extract, hL]
      have HT1 : Hid (∀ W, On W p b 64 (fun _ => q) (fun _ => t) M Vs' 1 → Calls Try.prog 16 #[.pointer (some ⟨q, 0, none⟩), .int .u32 ((at_ : Int) + (j : Int)), .int .i64 ((L : Int) - (j : Int) + 1)] W fun e w' => e = .returned (.tuple #[.string tt, .int .i64 0]) ∧ Below W.heap.size W w') := Lib.hid (fun W hO => by
        have := oText hO (i := 0) (by decide) (at_ + j) (L - j + 1) (by omega) (by omega)
        rw [show ((at_ + j : Nat) : Int) = (at_ : Int) + (j : Int) by omega, show ((L - j + 1 : Nat) : Int) = (L : Int) - (j : Int) + 1 by omega] at this
        refine this.mono fun e w' h => ?_
        obtain ⟨h1, h2⟩ := HLF.out.text h
        rw [hdl, if_pos (by omega), htt] at h2
        exact ⟨h2, h1⟩)
      have HT2 : Hid (∀ W, On W p b 64 (fun _ => q) (fun _ => t) M Vs' 1 → Calls Try.prog 16 #[.pointer (some ⟨q, 0, none⟩), .int .u32 ((at_ : Int) + (j : Int)), .int .i64 4096] W fun e w' => e = .returned (.tuple #[.string tt, .int .i64 0]) ∧ Below W.heap.size W w') := Lib.hid (fun W hO => by
        have := oText hO (i := 0) (by decide) (at_ + j) 4096 (by omega) (by omega)
        rw [show ((at_ + j : Nat) : Int) = (at_ : Int) + (j : Int) by omega, show ((4096 : Nat) : Int) = 4096 from rfl] at this
        refine this.mono fun e w' h => ?_
        obtain ⟨h1, h2⟩ := HLF.out.text h
        rw [hdl, if_pos (by omega), htt] at h2
        exact ⟨h2, h1⟩)
      have HT3 : Hid (∀ W, On W p b 64 (fun _ => q) (fun _ => t) M Vs' 1 → Calls Try.prog 16 #[.pointer (some ⟨q, 0, none⟩), .int .u32 ((at_ : Int) + (j : Int)), .int .i64 ((L : Int) - (j : Int))] W fun e w' => e = .returned (.tuple #[.string ⟨#[]⟩, .int .i64 22]) ∧ Below W.heap.size W w') := Lib.hid (fun W hO => by
        by_cases h1 : L - j = 0
        · refine (text_arg W _ _ _ (by omega)).mono fun e w' h => ⟨h.1, ?_⟩
          rw [← h.2]
          exact Below.refl _ _
        · have := oText hO (i := 0) (by decide) (at_ + j) (L - j) (by omega) (by omega)
          rw [show ((at_ + j : Nat) : Int) = (at_ : Int) + (j : Int) by omega, show ((L - j : Nat) : Int) = (L : Int) - (j : Int) by omega] at this
          refine this.mono fun e w' h => ?_
          obtain ⟨h1, h2⟩ := HLF.out.text h
          rw [hdl, if_neg (by omega)] at h2
          exact ⟨h2, h1⟩)
      have HB := Lib.hid hB
      clear hB hdl
      go_wp2_with (first
        | (go_at_call 16; (with_reducible refine (HT1.out _ HO.out).mono ?_); rintro e w4 ⟨rfl, hb⟩; have H4 := Lib.hid (And.intro (HB.out.trans (hb.mono HB.out.size)) (HO.out.below hb)); clear hb; refine Hid.out ?_)
        | fail)
      refine Lib.hid ?_
      go_wp2_with (first
        | (go_at_call 16; (with_reducible refine (HT2.out _ H4.out.2).mono ?_); rintro e w5 ⟨rfl, hb⟩; have H5 := Lib.hid (And.intro (H4.out.1.trans (hb.mono H4.out.1.size)) (H4.out.2.below hb)); clear hb; refine Hid.out ?_)
        | fail)
      refine Lib.hid ?_
      go_wp2_with (first
        | (go_at_call 16; (with_reducible refine (HT3.out _ H5.out.2).mono ?_); rintro e w6 ⟨rfl, hb⟩; have H6 := Lib.hid (And.intro (H5.out.1.trans (hb.mono H5.out.1.size)) (H5.out.2.below hb)); clear hb; refine Hid.out ?_)
        | fail)
      refine Lib.hid ?_
      go_wp2
      go_roundw
      case rel => exact ⟨j + 1, by omega, by go_num, H6.out.1⟩
      case measure => simp [intOf]; omega
    · have hle : decide ((j : Int) ≤ (L : Int)) = false := decide_eq_false (by omega)
      have hle2 : decide (j ≤ L) = false := decide_eq_false hlt
      go_wp2
      go_ret
      exact ⟨rfl, H3.out.1.trans (hB.mono H3.out.1.size)⟩
end Go.Proofs.Ytjoapeeljigjcaa.Walk
