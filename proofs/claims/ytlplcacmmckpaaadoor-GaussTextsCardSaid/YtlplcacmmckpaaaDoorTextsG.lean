/-
  The walk of GaussTexts: Words, FromWords, Text and Parse beside the document's answers, for any complex128, words, and text.
-/
import Derived.Test.YtlplcacmmckpaaaDoorBackG
import Derived.Test.YtlplcacmmckpaaaDoorRparse2
namespace Go.Proofs.YtlplcacmmckpaaaDoor.Walk
open Go Go.RowKit Kit Fl Whole Gleaf Gparts Gwhole Gnums Gref Gg Tabs TextG TxtNums ReadG WordsG RtextG Rparse
set_option linter.unusedVariables false

theorem pr_yes {ok no : Value} {s : ByteArray} {e : Ending} {p q : Int} (hp : InR p) (hq : InR q) (hs : s = txt p q) (h : ParseR ok no s e) : e = .returned (.tuple #[zv (gm p q), ok]) := by
  rcases h with ⟨p', q', hp', hq', e1, he⟩ | ⟨hno, _⟩
  · obtain ⟨e2, e3⟩ := txt_inj hp hq hp' hq' (hs.symm.trans e1)
    rw [he, e2, e3]
  · exact absurd hs (hno p q hp hq)
theorem pr_none {ok no : Value} {s : ByteArray} {e : Ending} (hs : ∀ p q, InR p → InR q → s ≠ txt p q) (h : ParseR ok no s e) : e = .returned (.tuple #[.complex .f64 0 0, no]) := by
  rcases h with ⟨p', q', hp', hq', e1, he⟩ | ⟨_, he⟩
  · exact absurd e1 (hs p' q' hp' hq')
  · exact he

set_option maxRecDepth 100000 in
set_option maxHeartbeats 4000000 in
theorem gaussTexts_of (a b : Nat) (x y : Int) (s : ByteArray) (w : World) (hx : 0 ≤ x ∧ x < 4294967296) (hy : 0 ≤ y ∧ y < 4294967296) (hs : s.size ≤ 60) (hT : Tabs w) (U : Value) (E : Int)
    (hP : ∀ wx, Tabs wx → Calls Tryd.prog 10 #[.string s] wx fun e w' => e = .returned (.tuple #[U, .int .i64 E]) ∧ Below wx.heap.size wx w')
    (hR : ∀ wx, Calls Tryd.prog 11 #[.string s] wx fun e w' => e = .returned (.tuple #[U, .int .i64 E]) ∧ Below wx.heap.size wx w')
    (hU : ∀ t wx, (binOp .eql t U U).run Tryd.prog wx = .ok (.bool true) wx) (hG : ∀ t o o', eqGuard .eql t o o' U U = pure ()) (hE : E = 0 ∨ E = 20) :
    Calls Tryd.prog 3 #[.float .f64 a, .float .f64 b, .int .u32 x, .int .u32 y, .string s] w fun e w' => e = .returned (.bool true) ∧ Below w.heap.size w w' := by
  obtain ⟨T, hTT⟩ : ∃ T, textS a b = T := ⟨_, rfl⟩
  have hTX := fun wx h => text_any a b wx h
  have hRX := fun wx => rtext_any a b wx
  rw [hTT] at hTX hRX
  have HTX := Lib.hid hTX
  have HRX := Lib.hid hRX
  have hse : (T.toList == T.toList) = true := by simp
  have F1 := Lib.hid (fun wx => from_any x y hx hy wx)
  have F2 := Lib.hid (fun wx => rfrom_any x y hx hy wx)
  have HP := Lib.hid hP
  have HR := Lib.hid hR
  have g1 := geq_refl (gm (sx x) (sx y))
  obtain ⟨e1, e2⟩ : -9223372036854775808 ≤ E ∧ E ≤ 9223372036854775807 := by omega
  clear hTX hRX hTT hP hR hx hy hE
  have heq := fun t x y wx => run_eql_zv t x y wx
  have hgd := fun t o o' x y => eqGuard_zv t o o' x y
  have HB := Below.refl w.heap.size w
  go_enter Tryd.func3, Tryd.ntmps3
  go_wp2_with (first
    | (go_at_call 8; refine (words_any _ _ _).mono ?_; rintro e w1 ⟨rfl, hb⟩; replace HB := bel' HB hb; replace hT := hT.below hb; clear hb)
    | (go_at_call 9; refine (rwords_any _ _ _).mono ?_; rintro e w1 ⟨rfl, rfl⟩)
    | (go_at_call 10; ((with_reducible refine (HP.out _ hT).mono ?_); rintro e w1 ⟨rfl, hb⟩; replace HB := bel' HB hb; replace hT := hT.below hb; clear hb))
    | (go_at_call 11; ((with_reducible refine (HR.out _).mono ?_); rintro e w1 ⟨rfl, hb⟩; replace HB := bel' HB hb; replace hT := hT.below hb; clear hb))
    | (go_at_call 12; ((with_reducible refine (F1.out _).mono ?_); rintro e w1 ⟨rfl, rfl⟩))
    | (go_at_call 13; ((with_reducible refine (F2.out _).mono ?_); rintro e w1 ⟨rfl, rfl⟩))
    | (go_at_call 14; ((with_reducible refine (HTX.out _ hT).mono ?_); rintro e w1 ⟨rfl, hb⟩; replace HB := bel' HB hb; replace hT := hT.below hb; clear hb))
    | (go_at_call 15; ((with_reducible refine (HRX.out _).mono ?_); rintro e w1 ⟨rfl, hb⟩; replace HB := bel' HB hb; replace hT := hT.below hb; clear hb)))
  go_ret
  exact ⟨rfl, HB⟩

theorem gaussTexts (a b : Nat) (x y : Int) (s : ByteArray) (w : World) (w0 : (Lit.float .f64 a).wf = true) (w1 : (Lit.float .f64 b).wf = true) (w2 : (Lit.int .u32 x).wf = true) (w3 : (Lit.int .u32 y).wf = true) (w4 : s.size ≤ maxLen) (hL : laidMetH Tryd.prog Rows.gaussTextsRow.laid w) :
    Calls Tryd.prog 3 #[.float .f64 a, .float .f64 b, .int .u32 x, .int .u32 y, .string s] w fun e w' => e = .returned (.bool true) ∧ Below w.heap.size w w' := by
  have hT : Tabs w := tabs_of_laid hL
  by_cases hs : s.size ≤ 60
  · by_cases hex : ∃ p q, InR p ∧ InR q ∧ s = txt p q
    · obtain ⟨p, q, hp, hq, e⟩ := hex
      refine gaussTexts_of a b x y s w (u32_bd w2) (u32_bd w3) hs hT (zv (gm p q)) 0
        (fun wx h => (parse_any s (by omega) wx h).mono fun _ _ ⟨hr, hb⟩ => ⟨pr_yes hp hq e hr, hb⟩)
        (fun wx => (rparse_any s (by omega) wx).mono fun _ _ ⟨hr, hb⟩ => ⟨pr_yes hp hq e hr, hb⟩)
        (fun t wx => by rw [run_eql_zv, geq_refl]) (fun t o o' => rfl) (.inl rfl)
    · have hno : ∀ p q, InR p → InR q → s ≠ txt p q := fun p q hp hq e => hex ⟨p, q, hp, hq, e⟩
      refine gaussTexts_of a b x y s w (u32_bd w2) (u32_bd w3) hs hT (.complex .f64 0 0) 20
        (fun wx h => (parse_any s (by omega) wx h).mono fun _ _ ⟨hr, hb⟩ => ⟨pr_none hno hr, hb⟩)
        (fun wx => (rparse_any s (by omega) wx).mono fun _ _ ⟨hr, hb⟩ => ⟨pr_none hno hr, hb⟩)
        (fun t wx => by rw [run_eql_complex]; rfl) (fun t o o' => rfl) (.inr rfl)
  · have hs2 : 60 < s.size := by omega
    unfold maxLen at w4
    clear w0 w1 w2 w3 hs hL
    go_enter Tryd.func3, Tryd.ntmps3
    go_wp2
    go_ret
    exact ⟨rfl, Below.refl _ _⟩
#print axioms gaussTexts
end Go.Proofs.YtlplcacmmckpaaaDoor.Walk
