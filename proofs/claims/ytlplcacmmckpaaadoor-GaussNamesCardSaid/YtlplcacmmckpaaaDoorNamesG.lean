/-
  The walk of GaussNames: the chapter's examples, and what is no number.
-/
import Derived.Test.YtlplcacmmckpaaaDoorBackG
namespace Go.Proofs.YtlplcacmmckpaaaDoor.Walk
open Go Go.RowKit Kit Fl Whole Gleaf Gparts Gwhole Gnums Gg AliveG Tabs TextG LastG TxtNums ReadG WordsG
set_option linter.unusedVariables false

theorem bd_of {p q : Int} {l : List UInt8} {s : ByteArray} (hs : s.data.toList = l ++ [105]) (h : s = txt p q) : bd p q = l := by
  rw [h, txt_eq] at hs
  exact List.append_cancel_right hs
/-- What ends otherwise is no text. -/
theorem no_suffix {s : ByteArray} (h : Lib.hasSuffix s.data.toList [105] = false) : ∀ p q, InR p → InR q → s ≠ txt p q := fun p q hp hq e => by
  rw [e, txt_eq] at h
  have h' : Lib.hasSuffix (bd p q ++ [105]) [105] = false := h
  rw [suf_bd] at h'
  cases h'
/-- A text's real part has one form. -/
theorem no_real {s : ByteArray} {l : List UInt8} {n : Nat} {v : Int} (hs : s.data.toList = l ++ [105]) (hn : lx l l.length = n) (hp : Lib.parseIntB 64 (l.take n) = .ok v) (hv : Lib.itoa v ≠ l.take n ∨ ¬ InR v) : ∀ p q, InR p → InR q → s ≠ txt p q := fun p q hp' hq' e => by
  have hb := bd_of hs e
  have h1 := lx_bd p q
  rw [hb, hn] at h1
  have h2 : n = (Lib.itoa p).length := by omega
  have h3 := bd_take p q
  rw [hb, ← h2] at h3
  rw [h3, parse_itoa hp'] at hp
  have h4 := Lib.NumEnd.ok.inj hp
  subst h4
  rcases hv with h | h
  · exact h h3.symm
  · exact h hp'

theorem parse_no (s : ByteArray) (hs : s.size ≤ 1000) (hno : ∀ p q, InR p → InR q → s ≠ txt p q) (w : World) (hT : Tabs w) :
    Calls Tryd.prog 10 #[.string s] w fun e w' => e = .returned (.tuple #[.complex .f64 0 0, .int .i64 20]) ∧ Below w.heap.size w w' :=
  (parse_any s hs w hT).mono fun e w' ⟨hr, hb⟩ => ⟨by
    rcases hr with ⟨p, q, hp, hq, e1, he⟩ | ⟨_, he⟩
    · exact absurd e1 (hno p q hp hq)
    · exact he, hb⟩

theorem none_half : isN 4602678819172646912 0 = false := by kernel_rfl
theorem none_beyond : isN 4692750811720056832 0 = false := by kernel_rfl
theorem t27 : txt (wr (gm (-2) (-7)).1) (wr (gm (-2) (-7)).2) = ⟨#[45, 50, 45, 55, 105]⟩ := by kernel_rfl
theorem add_half (w : World) : Calls Tryd.prog 19 #[.complex .f64 4602678819172646912 0, zv (gm 1 1)] w fun e w' => e = .returned (zv (gm 1 1)) ∧ Below w.heap.size w w' :=
  (add_any _ _ _ _ w).mono fun e w' ⟨he, hb⟩ => ⟨by
    have e1 : re 4602678819172646912 0 = 0 := by unfold re; rw [none_half]; rfl
    have e2 : im 4602678819172646912 0 = 0 := by unfold im; rw [none_half]; rfl
    rw [he, e1, e2, re_wr, im_wr]
    rfl, hb⟩

set_option maxRecDepth 100000 in
set_option maxHeartbeats 4000000 in
theorem gaussNames_of (w : World) (hT : Tabs w) :
    Calls Tryd.prog 4 #[] w fun e w' => e = .returned (.bool true) ∧ Below w.heap.size w w' := by
  have f1 : wd (gre (gm (-1) 2)) = 4294967295 := by decide
  have f2 : wd (gim (gm (-1) 2)) = 2 := by decide
  have g3 := geq_refl (gm (-2) (-7))
  have g4 := geq_refl (gm 1 1)
  have P1 := Lib.hid (fun wx h => parse_no ⟨#[53]⟩ (by decide) (no_suffix (by decide)) wx h)
  have P2 := Lib.hid (fun wx h => parse_no ⟨#[43, 53, 43, 49, 105]⟩ (by decide) (no_real (l := [43, 53, 43, 49]) (n := 2) (v := 5) rfl (by decide) (by decide) (.inl (by rw [show Lib.itoa 5 = [53] from by kernel_rfl]; decide))) wx h)
  have P3 := Lib.hid (fun wx h => parse_no ⟨#[48, 53, 43, 49, 105]⟩ (by decide) (no_real (l := [48, 53, 43, 49]) (n := 2) (v := 5) rfl (by decide) (by decide) (.inl (by rw [show Lib.itoa 5 = [53] from by kernel_rfl]; decide))) wx h)
  have P4 := Lib.hid (fun wx h => parse_no ⟨#[53, 50, 52, 50, 56, 56, 43, 48, 105]⟩ (by decide) (no_real (l := [53, 50, 52, 50, 56, 56, 43, 48]) (n := 6) (v := 524288) rfl (by decide) (by decide) (.inr (by unfold InR; omega))) wx h)
  have hP5 := fun wx h => parse_txt (gm (-2) (-7)) wx h
  have hT5 := fun wx h => text_g (gm (-2) (-7)) wx h
  rw [t27] at hP5 hT5
  have P5 := Lib.hid hP5
  have T5 := Lib.hid hT5
  have hM1 := fun wx => may_any 4602678819172646912 0 wx
  have hM2 := fun wx => may_any 4692750811720056832 0 wx
  have hTH := fun wx h => text_any 4602678819172646912 0 wx h
  have eS : textS 4602678819172646912 0 = ⟨#[]⟩ := by unfold textS; rw [none_half]; rfl
  rw [none_half] at hM1
  rw [none_beyond] at hM2
  rw [eS] at hTH
  have M1 := Lib.hid hM1
  have M2 := Lib.hid hM2
  have TH := Lib.hid hTH
  have AH := Lib.hid add_half
  clear hP5 hT5 hM1 hM2 hTH eS
  have heq := fun t x y wx => run_eql_zv t x y wx
  have hgd := fun t o o' x y => eqGuard_zv t o o' x y
  have HB := Below.refl w.heap.size w
  go_enter Tryd.func4, Tryd.ntmps4
  go_wp2_with (first
    | (go_at_call 17; refine (alive_any _).mono ?_; rintro e w1 ⟨rfl, hb⟩; replace HB := bel' HB hb; replace hT := hT.below hb; clear hb)
    | (go_at_call 16; refine (make_g _ _ _).mono ?_; rintro e w1 ⟨rfl, rfl⟩)
    | (go_at_call 8; refine (words_g _ _).mono ?_; rintro e w1 ⟨rfl, hb⟩; replace HB := bel' HB hb; replace hT := hT.below hb; clear hb)
    | (go_at_call 10; ((with_reducible refine (P1.out _ hT).mono ?_); rintro e w1 ⟨rfl, hb⟩; replace HB := bel' HB hb; replace hT := hT.below hb; clear hb))
    | (go_at_call 10; ((with_reducible refine (P2.out _ hT).mono ?_); rintro e w1 ⟨rfl, hb⟩; replace HB := bel' HB hb; replace hT := hT.below hb; clear hb))
    | (go_at_call 10; ((with_reducible refine (P3.out _ hT).mono ?_); rintro e w1 ⟨rfl, hb⟩; replace HB := bel' HB hb; replace hT := hT.below hb; clear hb))
    | (go_at_call 10; ((with_reducible refine (P4.out _ hT).mono ?_); rintro e w1 ⟨rfl, hb⟩; replace HB := bel' HB hb; replace hT := hT.below hb; clear hb))
    | (go_at_call 10; ((with_reducible refine (P5.out _ hT).mono ?_); rintro e w1 ⟨rfl, hb⟩; replace HB := bel' HB hb; replace hT := hT.below hb; clear hb))
    | (go_at_call 14; ((with_reducible refine (T5.out _ hT).mono ?_); rintro e w1 ⟨rfl, hb⟩; replace HB := bel' HB hb; replace hT := hT.below hb; clear hb))
    | (go_at_call 14; ((with_reducible refine (TH.out _ hT).mono ?_); rintro e w1 ⟨rfl, hb⟩; replace HB := bel' HB hb; replace hT := hT.below hb; clear hb))
    | (go_at_call 18; ((with_reducible refine (M1.out _).mono ?_); rintro e w1 ⟨rfl, hb⟩; replace HB := bel' HB hb; replace hT := hT.below hb; clear hb))
    | (go_at_call 18; ((with_reducible refine (M2.out _).mono ?_); rintro e w1 ⟨rfl, hb⟩; replace HB := bel' HB hb; replace hT := hT.below hb; clear hb))
    | (go_at_call 18; ((with_reducible refine (may_g _ _).mono ?_); rintro e w1 ⟨rfl, hb⟩; replace HB := bel' HB hb; replace hT := hT.below hb; clear hb))
    | (go_at_call 19; ((with_reducible refine (AH.out _).mono ?_); rintro e w1 ⟨rfl, hb⟩; replace HB := bel' HB hb; replace hT := hT.below hb; clear hb)))
  go_ret
  exact ⟨rfl, HB⟩

theorem gaussNames (w : World) (hL : laidMetH Tryd.prog Rows.gaussNamesRow.laid w) :
    Calls Tryd.prog 4 #[] w fun e w' => e = .returned (.bool true) ∧ Below w.heap.size w w' := gaussNames_of w (tabs_of_laid hL)
end Go.Proofs.YtlplcacmmckpaaaDoor.Walk
