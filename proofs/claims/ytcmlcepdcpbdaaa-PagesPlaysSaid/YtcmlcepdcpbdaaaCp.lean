/-
  A copy goes on by itself, and as its table would have: PagesCopies.
-/
import Derived.Test.YtcmlcepdcpbdaaaSm
import Derived.Test.YtcmlcepdcpbdaaaOn
namespace Go.Proofs.Ytcmlcepdcpbdaaa.Cp
open Go Go.RowKit Kit Bk Tm Ts Tc Ti Tl Th Td Tq Tr Tn En Ov Gd Ho Pt Sm On
set_option linter.unusedVariables false

theorem copy_mem (W : World) (p : Nat) (T : Nat → Option En) (hM : Mem W p T) : Calls Try.prog 16 #[.pointer (some ⟨p, 0, none⟩)] W fun e w' => ∃ pc, e = .returned (.pointer (some ⟨pc, 0, none⟩)) ∧ W.heap.size ≤ pc ∧ Below W.heap.size W w' ∧ Mem w' pc T :=
  (copy_any W p T hM).mono fun e w' ⟨h1, h2, h3⟩ => ⟨_, h1, Nat.le_refl _, h2, h3⟩
theorem same_two (va vb : Value) (L : List (Nat × En)) (W : World) (hL : L.length ≤ 64) (ha : Rd W 59 va 6 L.length (mcells L)) (hb : Rd W 59 vb 6 L.length (mcells L)) :
    Calls Try.prog 29 #[va, vb] W fun e w' => e = .returned (.bool true) ∧ Below W.heap.size W w' := same_any va vb L W (by omega) ha hb
set_option maxRecDepth 100000 in
set_option maxHeartbeats 4000000 in
theorem copies_law (v v2 : Value) (ops ops2 : List Opr) (w : World) (h : OpsAt w v ops) (h2 : OpsAt w v2 ops2) :
    Calls Try.prog 9 #[v, v2] w fun e w' => e = .returned (.bool true) ∧ Below w.heap.size w w' := by
  have hva := list_long v ops w h
  have hvb := list_long v2 ops2 w h2
  by_cases hlen : ops.length ≤ 150
  case neg =>
    obtain ⟨a, cap, rfl⟩ := hva
    obtain ⟨a2, cap2, rfl⟩ := hvb
    have d : decide ((150 : Int) < (ops.length : Int)) = true := decide_eq_true (by omega)
    clear h h2 hlen
    go_enter Try.func9, Try.ntmps9
    go_wp2_with (first | (go_at_call 23; (with_reducible refine (alive_any _).mono ?_); rintro e w1 ⟨rfl, hb⟩))
    go_ret
    exact ⟨rfl, hb⟩
  case pos =>
    by_cases hlen2 : ops2.length ≤ 150
    case neg =>
      obtain ⟨a, cap, rfl⟩ := hva
      obtain ⟨a2, cap2, rfl⟩ := hvb
      have d : decide ((150 : Int) < (ops.length : Int)) = false := decide_eq_false (by omega)
      have d2 : decide ((150 : Int) < (ops2.length : Int)) = true := decide_eq_true (by omega)
      clear h h2 hlen hlen2
      go_enter Try.func9, Try.ntmps9
      go_wp2_with (first | (go_at_call 23; (with_reducible refine (alive_any _).mono ?_); rintro e w1 ⟨rfl, hb⟩))
      go_ret
      exact ⟨rfl, hb⟩
    case pos =>
      have HG : Hid (∀ w1, Below w.heap.size w w1 → _) := Lib.hid (fun w1 hb => grown_at v ops w w1 h hlen hb)
      obtain ⟨T, hT⟩ : ∃ T, acts (fun _ => none) ops = T := ⟨_, rfl⟩
      rw [hT] at HG
      have HOn : Hid (∀ W p T, Gs w W p T → _) := Lib.hid (fun W p T hs => on_any v2 ops2 w W p T h2 hlen2 hs)
      obtain ⟨a, cap, rfl⟩ := hva
      obtain ⟨a2, cap2, rfl⟩ := hvb
      have d : decide ((150 : Int) < (ops.length : Int)) = false := decide_eq_false (by omega)
      have d2 : decide ((150 : Int) < (ops2.length : Int)) = false := decide_eq_false (by omega)
      obtain ⟨T2, hT2⟩ : ∃ T2, acts T ops2 = T2 := ⟨_, rfl⟩
      have HT2 := Lib.hid hT2
      have HLe := Lib.hid (ents_len T 64)
      have HLe2 := Lib.hid (ents_len T2 64)
      clear h h2 hlen hlen2 hT hT2
      go_enter Try.func9, Try.ntmps9
      go_wp2_with (first | (go_at_call 23; (with_reducible refine (alive_any _).mono ?_); rintro e w1 ⟨rfl, hb⟩; have HB := Lib.hid hb; clear hb) | (go_at_call 28; (with_reducible refine (HG.out _ HB.out).mono ?_); rintro e w2 ⟨p, rfl, hlo, hb, hm⟩; replace HB := Lib.hid hb; have HM := Lib.hid hm; have HLo := Lib.hid hlo; clear hb hm hlo) | (go_at_call 25; (with_reducible refine (list_mem _ p T HM.out).mono ?_); rintro e w3 ⟨hb, r, rfl, hr⟩; replace HM := Lib.hid (Mem.below HM.out hb); replace HB := Lib.hid (HB.out.trans (hb.mono HB.out.size)); have HR := Lib.hid hr; clear hb hr) | (go_at_call 16; (with_reducible refine (copy_mem _ p T HM.out).mono ?_); rintro e w4 ⟨pc, rfl, hpc, hb, hm⟩; have HNe : Hid (p ≠ pc ∧ w.heap.size ≤ pc) := Lib.hid ⟨by have := HM.out.lt; omega, by have := HB.out.size; omega⟩; replace HM := Lib.hid (Mem.below HM.out hb); replace HR := Lib.hid (Rd.below HR.out hb); replace HB := Lib.hid (HB.out.trans (hb.mono HB.out.size)); have HC := Lib.hid hm; clear hb hm hpc) | (go_at_call 30; (with_reducible refine (HOn.out _ pc T ⟨HB.out, HNe.out.2, HC.out⟩).mono ?_); rintro e w5 ⟨⟨k5, rfl⟩, hg⟩; refine Hid.out ?_))
      refine Lib.hid ?_
      replace HM := Lib.hid (Mem.kept HM.out hg.kp HNe.out.1)
      replace HR := Lib.hid (Rd.beside HR.out HC.out hg.kp (by decide))
      replace HB := Lib.hid hg.st.bel
      replace HC := Lib.hid hg.st.mem
      rw [HT2.out] at HC
      clear hg
      go_wp2_with (first | (go_at_call 25; (with_reducible refine (list_mem _ p T HM.out).mono ?_); rintro e w6 ⟨hb, r2, rfl, hr⟩; replace HM := Lib.hid (Mem.below HM.out hb); replace HC := Lib.hid (Mem.below HC.out hb); replace HB := Lib.hid (HB.out.trans (hb.mono HB.out.size)); replace HR := Lib.hid (Rd.below HR.out hb); have HR2 := Lib.hid hr; clear hb hr) | (go_at_call 29; (with_reducible refine (same_two _ _ (ents T 64) _ HLe.out HR2.out HR.out).mono ?_); rintro e w7 ⟨rfl, hb⟩; replace HM := Lib.hid (Mem.below HM.out hb); replace HC := Lib.hid (Mem.below HC.out hb); replace HB := Lib.hid (HB.out.trans (hb.mono HB.out.size)); clear hb) | (go_at_call 30; (with_reducible refine (HOn.out _ p T ⟨HB.out, HLo.out, HM.out⟩).mono ?_); rintro e w8 ⟨⟨k8, rfl⟩, hg⟩; refine Hid.out ?_))
      refine Lib.hid ?_
      replace HC := Lib.hid (Mem.kept HC.out hg.kp (Ne.symm HNe.out.1))
      replace HB := Lib.hid hg.st.bel
      replace HM := Lib.hid hg.st.mem
      rw [HT2.out] at HM
      clear hg HR HR2
      go_wp2_with (first | (go_at_call 25; first | ((with_reducible refine (list_mem _ p T2 HM.out).mono ?_); rintro e w9 ⟨hb, r3, rfl, hr⟩; replace HM := Lib.hid (Mem.below HM.out hb); replace HC := Lib.hid (Mem.below HC.out hb); replace HB := Lib.hid (HB.out.trans (hb.mono HB.out.size)); have HR3 := Lib.hid hr; clear hb hr) | ((with_reducible refine (list_mem _ pc T2 HC.out).mono ?_); rintro e w9 ⟨hb, r4, rfl, hr⟩; replace HM := Lib.hid (Mem.below HM.out hb); replace HC := Lib.hid (Mem.below HC.out hb); replace HB := Lib.hid (HB.out.trans (hb.mono HB.out.size)); replace HR3 := Lib.hid (Rd.below HR3.out hb); have HR4 := Lib.hid hr; clear hb hr)) | (go_at_call 29; (with_reducible refine (same_two _ _ (ents T2 64) _ HLe2.out HR3.out HR4.out).mono ?_); rintro e w10 ⟨rfl, hb⟩; replace HM := Lib.hid (Mem.below HM.out hb); replace HC := Lib.hid (Mem.below HC.out hb); replace HB := Lib.hid (HB.out.trans (hb.mono HB.out.size)); clear hb) | (go_at_call 24; first | ((with_reducible refine (parts_mem _ p T2 HM.out).mono ?_); rintro e w11 ⟨rfl, hb⟩; replace HM := Lib.hid (Mem.below HM.out hb); replace HC := Lib.hid (Mem.below HC.out hb); replace HB := Lib.hid (HB.out.trans (hb.mono HB.out.size)); clear hb) | ((with_reducible refine (parts_mem _ pc T2 HC.out).mono ?_); rintro e w11 ⟨rfl, hb⟩; replace HM := Lib.hid (Mem.below HM.out hb); replace HC := Lib.hid (Mem.below HC.out hb); replace HB := Lib.hid (HB.out.trans (hb.mono HB.out.size)); clear hb)))
      go_ret
      exact ⟨rfl, HB.out⟩
end Go.Proofs.Ytcmlcepdcpbdaaa.Cp
namespace Go.Proofs.Ytcmlcepdcpbdaaa.Walk
open Go Go.RowKit Ov
theorem pagesCopies (v : Value) (ops : List Opr) (v2 : Value) (ops2 : List Opr) (w : World) (h : OpsAt w v ops) (h2 : OpsAt w v2 ops2) :
    Calls Try.prog 9 #[v, v2] w fun e w' => e = .returned (.bool true) ∧ Below w.heap.size w w' := Cp.copies_law v v2 ops ops2 w h h2
end Go.Proofs.Ytcmlcepdcpbdaaa.Walk
