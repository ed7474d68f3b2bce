/-
  QueueNames: the walk.
-/
import Derived.Test.YtkjmpkoogjbjnaaQun
namespace Go.Proofs.Ytkjmpkoogjbjnaa.Quo
open Go Go.RowKit Go.Shelf Kit Bk Qua Qub Quc Qud Que Quf Qug Quh Qui Quj Quk Qul Qum Qun
set_option linter.unusedVariables false

variable {F : Nat → Prop} {N : Nat} {w0 w w' : World} {q c : Nat} {l : Ls}
theorem move_lit (h : St F N w0 w q c l) (hN : N ≤ 90000) (hc : 1 ≤ c) (p : Int) (m : Nat) (mv : Int) (hv : (m : Int) = mv) (hm : m < 4294967296) (R E : Int) (L : Ls) (hR : mvR c l p m = R) (hE : mvE c l p m = E) (hL : mvL c l p m = L) : Calls Try.prog 11 #[pv q, .int .i64 p, .int .u32 mv] w fun e w' => e = .returned (.tuple #[.int .i64 R, .int .i64 E]) ∧ St F (N + 1) w0 w' q c L ∧ Kp (fun j => ¬ F j) w w' := by
  rw [← hR, ← hE, ← hL, ← hv]
  exact move_st h hN hc p m hm
theorem rotate_lit (h : St F N w0 w q c l) (hN : N ≤ 90000) (z : Int) (B : Bool) (L : Ls) (hB : rtB c l z = B) (hL : rtL c l z = L) : Calls Try.prog 15 #[pv q, .int .i64 z] w fun e w' => e = .returned (.bool B) ∧ St F N w0 w' q c L ∧ Kp (fun j => ¬ F j) w w' := by
  rw [← hB, ← hL]
  exact rotate_st h hN z
/-- The queues, and a list that was answered. -/
def Nl (N : Nat) (w0 w : World) (q : Nat) (l : Ls) (u : Value) : Prop := ∃ F G, St F N w0 w q 3 l ∧ Rw w u G [8, 7] ∧ ∀ g, G = some g → F g
theorem Nl.bel {u : Value} (h : Nl N w0 w q l u) : Below w0.heap.size w0 w := by obtain ⟨F, G, h, _⟩ := h; exact h.bel
theorem Nl.below {u : Value} (h : Nl N w0 w q l u) (hb : Below w.heap.size w w') : Nl N w0 w' q l u := by
  obtain ⟨F, G, h1, h2, h3⟩ := h
  exact ⟨F, G, h1.below hb, h2.below hb, h3⟩
theorem Nl.place {u : Value} (h : Nl N w0 w q l u) (hN : N ≤ 90000) (p z : Int) (m : Nat) (mv : Int) (hv : (m : Int) = mv) (hm : m < 4294967296) (R E : Int) (L : Ls) (hR : plR 3 l p z m = R) (hE : plE 3 l p m = E) (hL : plL 3 l p z m = L) : Calls Try.prog 9 #[pv q, .int .i64 p, .int .i64 z, .int .u32 mv] w fun e w' => e = .returned (.tuple #[.int .i64 R, .int .i64 E]) ∧ Nl (N + 1) w0 w' q L u := by
  obtain ⟨F, G, h1, h2, h3⟩ := h
  refine (place_lit h1 hN (by decide) p z m mv hv hm R E L hR hE hL).mono ?_
  rintro e w' ⟨rfl, g1, g2⟩
  exact ⟨rfl, F, G, g1, h2.kept g2 (fun g e e2 => e2 (h3 g e)), h3⟩
theorem Nl.move {u : Value} (h : Nl N w0 w q l u) (hN : N ≤ 90000) (p : Int) (m : Nat) (mv : Int) (hv : (m : Int) = mv) (hm : m < 4294967296) (R E : Int) (L : Ls) (hR : mvR 3 l p m = R) (hE : mvE 3 l p m = E) (hL : mvL 3 l p m = L) : Calls Try.prog 11 #[pv q, .int .i64 p, .int .u32 mv] w fun e w' => e = .returned (.tuple #[.int .i64 R, .int .i64 E]) ∧ Nl (N + 1) w0 w' q L u := by
  obtain ⟨F, G, h1, h2, h3⟩ := h
  refine (move_lit h1 hN (by decide) p m mv hv hm R E L hR hE hL).mono ?_
  rintro e w' ⟨rfl, g1, g2⟩
  exact ⟨rfl, F, G, g1, h2.kept g2 (fun g e e2 => e2 (h3 g e)), h3⟩
theorem Nl.list (h : St (fun _ => False) N w0 w q 3 l) (hN : N ≤ 90000) (hl : lst 3 l 2 = [8, 7]) : Calls Try.prog 24 #[pv q, .int .i64 2] w fun e w' => ∃ a cc, e = .returned (.slice a 2 cc) ∧ Nl N w0 w' q l (.slice a 2 cc) := by
  refine (list_st h hN 2).mono ?_
  rintro e w' ⟨hb, u, G, rfl, hr, hg⟩
  rw [hl] at hr
  obtain ⟨a, cc, rfl, _⟩ := hr.form
  exact ⟨a, cc, rfl, _, G, h.adopt hb, hr, fun g e => .inr ⟨hg g e, hr.lt g e⟩⟩
theorem lit_row (w : World) (x y : Int) : Rw (w.alloc (.cells #[.int .i64 x, .int .i64 y] 3)) (.slice (some ⟨w.heap.size, 0, none⟩) 2 2) (some w.heap.size) [x, y] :=
  .inr ⟨w.heap.size, 0, 2, _, rfl, rfl, Blk.new w _ _, Nat.le_refl 2, by decide, Nat.le_refl 2, fun i hi => by
    have hi2 : i < 2 := hi
    have : i = 0 ∨ i = 1 := by omega
    rcases this with rfl | rfl <;> rfl⟩
theorem Nl.same {u : Value} (h : Nl N w0 w q l u) : Calls Try.prog 21 #[u, .slice (some ⟨w.heap.size, 0, none⟩) 2 2] (w.alloc (.cells #[.int .i64 8, .int .i64 7] 3)) fun e w' => e = .returned (.bool true) ∧ Nl N w0 w' q l u := by
  have hb := (Below.refl w.heap.size w).alloc (Nat.le_refl _) (.cells #[.int .i64 8, .int .i64 7] 3)
  obtain ⟨F, G, h1, h2, h3⟩ := id h
  refine (same_any _ _ _ _ _ _ _ (h2.below hb) (lit_row w 8 7)).mono ?_
  rintro e w' ⟨rfl, hb2⟩
  exact ⟨rfl, (h.below hb).below hb2⟩
def b4 : Ls := plL 3 a3 8 2 7
def b5 : Ls := rtL 3 b4 2
def b6 : Ls := mvL 3 b5 7 3
def b7 : Ls := plL 3 b6 0 0 7
def b8 : Ls := plL 3 b7 9 0 8
def b9 : Ls := mvL 3 b8 99 7
theorem none_place (w : World) : Calls Try.prog 9 #[.pointer none, .int .i64 1, .int .i64 0, .int .u32 1] w fun e w' => e = .returned (.tuple #[.int .i64 0, .int .i64 1]) ∧ w = w' := place_none w none 1 0 1 (cs_nil _ _)
theorem zero_place (w : World) (z : Nat) (cs : Array Value) (h : Blk w z cs 52) (h0 : cs[0]? = some (.int .i64 0)) : Calls Try.prog 9 #[pv z, .int .i64 1, .int .i64 0, .int .u32 1] w fun e w' => e = .returned (.tuple #[.int .i64 0, .int .i64 1]) ∧ w = w' :=
  place_none w _ 1 0 1 (cs_blk (c := 0) ((h.cell 0).trans h0) h.lt)
theorem none_may (w : World) : Calls Try.prog 19 #[.pointer none, .int .u32 1] w fun e w' => e = .returned (.bool false) ∧ Below w.heap.size w w' := by
  have := may_any none 0 1 (by decide) (by decide) (fun _ => 0) w (cs_nil _ _) (lens_nil _ _ _)
  rw [show may 0 1 = false from rfl, show ((1 : Nat) : Int) = 1 from rfl] at this
  exact this
theorem nine (w : World) : Calls Try.prog 8 #[.int .i64 9] w fun e w' => e = .returned (.tuple #[.pointer none, .int .i64 2]) ∧ w = w' := new_bad w 9 (.inr (by decide))
theorem three (w : World) : Calls Try.prog 8 #[.int .i64 3] w fun e w' => e = .returned (.tuple #[pv w.heap.size, .int .i64 0]) ∧ St (fun _ => False) 0 w w' w.heap.size 3 NoL := by
  have := new_st w 3 (by decide) (by decide)
  rw [show ((3 : Nat) : Int) = 3 from rfl] at this
  exact this
set_option maxHeartbeats 4000000 in
set_option maxRecDepth 100000 in
theorem names (w : World) : Calls Try.prog 4 #[] w fun e w' => e = .returned (.bool true) ∧ Below w.heap.size w w' := by
  have HN := Lib.hid (three w)
  go_enter Try.func4, Try.ntmps4
  go_wp2_with (first
    | (go_at_call 8; first
      | ((with_reducible refine HN.out.mono ?_); rintro e w1 ⟨rfl, h1⟩; have P1 := Lib.hid (place_lit h1 (by decide) (by decide) 5 0 7 7 rfl (by decide) 0 0 a1 (by kernel_rfl) (by kernel_rfl) rfl); clear h1)
      | ((with_reducible refine (nine _).mono ?_); rintro e w1 ⟨rfl, rfl⟩))
    | (go_at_call 9; first
      | ((with_reducible refine P1.out.mono ?_); rintro e w2 ⟨rfl, h2, -⟩; have P2 := Lib.hid (place_lit h2 (by decide) (by decide) 6 0 6 6 rfl (by decide) 1 0 a2 (by kernel_rfl) (by kernel_rfl) rfl); clear h2)
      | ((with_reducible refine P2.out.mono ?_); rintro e w3 ⟨rfl, h3, -⟩; have P3 := Lib.hid (place_lit h3 (by decide) (by decide) 7 0 6 6 rfl (by decide) 2 0 a3 (by kernel_rfl) (by kernel_rfl) rfl); clear h3)
      | ((with_reducible refine P3.out.mono ?_); rintro e w4 ⟨rfl, h4, -⟩; have P4 := Lib.hid (place_lit h4 (by decide) (by decide) 8 2 7 7 rfl (by decide) 2 0 b4 (by kernel_rfl) (by kernel_rfl) rfl); clear h4)
      | ((with_reducible refine P4.out.mono ?_); rintro e w5 ⟨rfl, h5, -⟩; have P5 := Lib.hid (rotate_lit h5 (by decide) 2 true b5 (by kernel_rfl) rfl); clear h5)
      | ((with_reducible refine P8.out.mono ?_); rintro e w9 ⟨rfl, h9⟩; have P9 := Lib.hid (h9.place (by decide) 9 0 8 8 rfl (by decide) 0 130 b8 (by kernel_rfl) (by kernel_rfl) rfl); clear h9)
      | ((with_reducible refine P9.out.mono ?_); rintro e w10 ⟨rfl, h10⟩; have P10 := Lib.hid (h10.move (by decide) 99 7 7 rfl (by decide) 0 130 b9 (by kernel_rfl) (by kernel_rfl) rfl); clear h10)
      | ((with_reducible refine (none_place _).mono ?_); rintro e wn ⟨rfl, rfl⟩)
      | ((with_reducible refine (zero_place _ _ _ HZ.out rfl).mono ?_); rintro e wn ⟨rfl, rfl⟩))
    | (go_at_call 15; (with_reducible refine P5.out.mono ?_); rintro e w6 ⟨rfl, h6, -⟩; have H6 := Lib.hid h6; have P6 := Lib.hid (Nl.list h6 (by decide) (by kernel_rfl)); clear h6)
    | (go_at_call 24; (with_reducible refine P6.out.mono ?_); rintro e w7 ⟨ua, uc, rfl, h7⟩; have P7 : Hid (Calls Try.prog 26 #[pv w.heap.size, .int .i64 2, .int .u32 5] w7 fun e w' => e = .returned (.int .i64 7) ∧ w7 = w') := Lib.hid (by obtain ⟨F, G, g1, _⟩ := h7; exact pick_st g1 (by decide) 2 5 (by decide)); have P7b := Lib.hid (h7.move (by decide) 7 3 3 rfl (by decide) 0 0 b6 (by kernel_rfl) (by kernel_rfl) rfl); clear h7)
    | (go_at_call 26; (with_reducible refine P7.out.mono ?_); rintro e w7b ⟨rfl, rfl⟩)
    | (go_at_call 11; first
      | ((with_reducible refine P7b.out.mono ?_); rintro e w8 ⟨rfl, h8⟩; have P8 := Lib.hid (h8.place (by decide) 0 0 7 7 rfl (by decide) 0 2 b7 (by kernel_rfl) (by kernel_rfl) rfl); clear h8)
      | ((with_reducible refine P10.out.mono ?_); rintro e w11 ⟨rfl, h11⟩; have HZ := Lib.hid (Blk.new w11 #[.int .i64 0, .slice none 0 0, .slice none 0 0, .slice none 0 0, .slice none 0 0, .slice none 0 0, .slice none 0 0, .slice none 0 0, .slice none 0 0] 52); have HO := Lib.hid (h11.below ((Below.refl _ _).alloc (Nat.le_refl _) (.cells #[.int .i64 0, .slice none 0 0, .slice none 0 0, .slice none 0 0, .slice none 0 0, .slice none 0 0, .slice none 0 0, .slice none 0 0, .slice none 0 0] 52))); clear h11))
    | (go_at_call 29; (with_reducible refine (alive_any _).mono ?_); rintro e w12 ⟨rfl, hb⟩; have HS := Lib.hid (HO.out.below hb).same; clear hb)
    | (go_at_call 21; (with_reducible refine HS.out.mono ?_); rintro e w13 ⟨rfl, hs⟩; have HO2 := Lib.hid hs; clear hs)
    | (go_at_call 17; (with_reducible refine (where_nil _ _).mono ?_); rintro e w14 ⟨rfl, rfl⟩)
    | (go_at_call 13; (with_reducible refine (cut_nil _ _).mono ?_); rintro e w14 ⟨rfl, rfl⟩)
    | (go_at_call 22; (with_reducible refine (all_nil _).mono ?_); rintro e w14 ⟨rfl, rfl⟩)
    | (go_at_call 28; (with_reducible refine (cores_nil _).mono ?_); rintro e w14 ⟨rfl, rfl⟩)
    | (go_at_call 19; (with_reducible refine (none_may _).mono ?_); rintro e w15 ⟨rfl, hb⟩; have HO3 := Lib.hid (HO2.out.below hb); clear hb))
  go_ret
  exact ⟨rfl, HO3.out.bel⟩
end Go.Proofs.Ytkjmpkoogjbjnaa.Quo
namespace Go.Proofs.Ytkjmpkoogjbjnaa.Walk
open Go Go.RowKit Kit
theorem queueNames (w : World) : Calls Try.prog 4 #[] w fun e w' => e = .returned (.bool true) ∧ Below w.heap.size w w' := Quo.names w
end Go.Proofs.Ytkjmpkoogjbjnaa.Walk
