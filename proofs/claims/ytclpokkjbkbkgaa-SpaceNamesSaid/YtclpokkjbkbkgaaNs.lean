/-
  The chapter's numbers and examples: SpaceNames.
-/
import Derived.Test.YtclpokkjbkbkgaaAl
namespace Go.Proofs.Ytclpokkjbkbkgaa.Ns
open Go Go.RowKit Go.Shelf Kit Bk
open Fm hiding Mem made_any len_any
open Fo Fr Fw Fx Fu Fq
open Tm hiding Mem
open Ts Tc Ti Sp Sa Pz To My Pv Mp Mq Dr Cl Iv Iw Ix Wr Sy Al
set_option linter.unusedVariables false

def U1 : Sx := uns A1 0 1
def U2 : Sx := maps 3 U1 0 false true 1
theorem clone_nil (w : World) : Calls Try.prog 14 #[.pointer none] w fun e w' => e = .returned (.pointer none) ∧ w = w' := by
  have HM := Lib.hid (made_nil w)
  go_enter Try.func14, Try.ntmps14
  go_wp2_with (first | (go_at_call 30; (with_reducible refine HM.out.mono ?_); rintro e w1 ⟨rfl, rfl⟩))
  go_ret
  exact ⟨rfl, rfl⟩
theorem src_nil (S : Nat → Prop) (w : World) : Src S w (.slice none 0 0) [] := ⟨⟨none, 0, rfl, Nat.le_refl _, Nat.zero_le _, .inl rfl⟩, fun ad m c e => by cases e⟩

set_option maxRecDepth 100000 in
set_option maxHeartbeats 4000000 in
theorem names_any (w : World) : Calls Try.prog 3 #[] w fun e w' => e = .returned (.bool true) ∧ Below w.heap.size w w' := by
  have H2 := Lib.hid (two_any w)
  go_enter Try.func3, Try.ntmps3
  go_wp2_with (first | (go_at_call 7; (with_reducible refine H2.out.mono ?_); rintro e w1 ⟨p, b, q, t, rfl, hb1, ⟨hp, hb, ht⟩, hS1⟩; refine Hid.out ?_))
  refine Lib.hid ?_
  have HB1 := Lib.hid hb1
  have HS1 := Lib.hid hS1
  have HG := Lib.hid (And.intro hp (And.intro hb ht))
  have HM : Hid (Calls Try.prog 8 #[.pointer (some ⟨q, 0, none⟩), .int .u32 120, .int .i64 9] w1 fun e w' => e = .returned (.tuple #[.slice none 0 0, .int .i64 14]) ∧ Below w1.heap.size w1 w') := Lib.hid (Nw.read_no w1 q p t A1.T (hS1.sp 0 (by decide)) (hS1.tm 0 (by decide)) 120 9 9 (.inl rfl) (by decide) (by decide) (by rfl))
  clear hb1 hS1 hp hb ht H2
  go_wp2_with (first | (go_at_call 8; (with_reducible refine HM.out.mono ?_); rintro e w2 ⟨rfl, hb2⟩; refine Hid.out ?_))
  refine Lib.hid ?_
  have HB2 := Lib.hid (HB1.out.trans (hb2.mono HB1.out.size))
  have HS2 := Lib.hid (HS1.out.below hb2)
  clear hb2 HM HS1 HB1
  have HM : Hid (Calls Try.prog 8 #[.pointer (some ⟨q, 0, none⟩), .int .u32 120, .int .i64 8] w2 fun e w' => Below w2.heap.size w2 w' ∧ ∃ r, e = .returned (.tuple #[r, .int .i64 0]) ∧ w'.ownsRow w2.heap.size 5 1 r 8 (u8s (Re.rdl A1.B A1.T 120 8 (cn 120 8)))) := Lib.hid (Re.read_any w2 q p t b 3 A1.T A1.R A1.B (HS2.out.sp 0 (by decide)) HS2.out.fm (HS2.out.tm 0 (by decide)) (HS2.out.inv.fit (i := 0) (by decide)) 120 8 (by decide) (by decide) (by rfl))
  go_wp2_with (first | (go_at_call 8; (with_reducible refine HM.out.mono ?_); rintro e w3 ⟨hb3, r, rfl, ho3⟩; obtain ⟨g3, cap3, rfl⟩ := ownsRow_succ (k := 7) ho3; clear ho3; refine Hid.out ?_))
  refine Lib.hid ?_
  have HB3 := Lib.hid (HB2.out.trans (hb3.mono HB2.out.size))
  have HS3 := Lib.hid (HS2.out.below hb3)
  clear hb3 HM HS2 HB2
  have HM : Hid (Calls Try.prog 9 #[.pointer (some ⟨q, 0, none⟩), .int .i64 1, .int .i64 2] w3 fun e w' => e = .returned (.int .i64 22) ∧ Below w3.heap.size w3 w') := Lib.hid (Nw.unmap_no w3 q p t A1.T (HS3.out.sp 0 (by decide)) (HS3.out.tm 0 (by decide)) 1 2 (by decide) (by decide) (.inr ⟨1, 2, rfl, rfl, by decide, by decide, by rfl⟩))
  go_wp2_with (first | (go_at_call 9; (with_reducible refine HM.out.mono ?_); rintro e w4 ⟨rfl, hb4⟩; refine Hid.out ?_))
  refine Lib.hid ?_
  have HB4 := Lib.hid (HB3.out.trans (hb4.mono HB3.out.size))
  have HS4 := Lib.hid (HS3.out.below hb4)
  clear hb4 HM HS3 HB3
  have HM : Hid (Calls Try.prog 9 #[.pointer (some ⟨q, 0, none⟩), .int .i64 0, .int .i64 1] w4 fun e w' => e = .returned (.int .i64 0) ∧ Fm.Mem w' p b 3 U1.R U1.B ∧ Tm.Mem w' t U1.T ∧ Kp (fun j => j = b ∨ j = t) w4 w') := Lib.hid (Nw.unmap_ok w4 q p t b 3 A1 (HS4.out.sp 0 (by decide)) HS4.out.fm (HS4.out.tm 0 (by decide)) 0 1 (by decide) (by decide) (by rfl) (fun i hi => by
    obtain rfl : i = 0 := by omega
    exact ⟨_, 0, rfl, rfl, by decide, by decide⟩))
  go_wp2_with (first | (go_at_call 9; (with_reducible refine HM.out.mono ?_); rintro e w5 ⟨rfl, hF5, hT5, hk5⟩; refine Hid.out ?_))
  refine Lib.hid ?_
  have hI5 := (un1_inv (s := A1) HS4.out.inv (i := 0) (by decide) rfl 0).1
  have HB5 := Lib.hid (HB4.out.trans (kpB (n := w.heap.size) hk5 HB4.out.size (fun j hj => by rcases hj with rfl | rfl; exact HG.out.2.1; exact HG.out.2.2)))
  have HS5 : Hid (Sy.Sys w5 p b 3 U1.R U1.B (fun _ => q) (fun _ => t) [U1.T]) := Lib.hid (HS4.out.step (i := 0) (by decide) hk5 hF5 hT5 hI5)
  clear hF5 hT5 hk5 hI5 HM HS4 HB4
  have HM : Hid (Calls Try.prog 10 #[.pointer (some ⟨q, 0, none⟩), .int .u32 0] w5 fun e w' => Below w5.heap.size w5 w' ∧ e = .returned (.tuple #[.int .i64 (-1), .bool false])) := Lib.hid (frame_any w5 q p t U1.T (HS5.out.sp 0 (by decide)) (HS5.out.tm 0 (by decide)) 0 (by decide))
  go_wp2_with (first | (go_at_call 10; (with_reducible refine HM.out.mono ?_); rintro e w6 ⟨hb6, rfl⟩; refine Hid.out ?_))
  refine Lib.hid ?_
  have HB6 := Lib.hid (HB5.out.trans (hb6.mono HB5.out.size))
  have HS6 := Lib.hid (HS5.out.below hb6)
  clear hb6 HM HS5 HB5
  have HM : Hid (Calls Try.prog 10 #[.pointer (some ⟨q, 0, none⟩), .int .u32 64] w6 fun e w' => Below w6.heap.size w6 w' ∧ e = .returned (.tuple #[.int .i64 1, .bool false])) := Lib.hid (frame_any w6 q p t U1.T (HS6.out.sp 0 (by decide)) (HS6.out.tm 0 (by decide)) 64 (by decide))
  go_wp2_with (first | (go_at_call 10; (with_reducible refine HM.out.mono ?_); rintro e w7 ⟨hb7, rfl⟩; refine Hid.out ?_))
  refine Lib.hid ?_
  have HB7 := Lib.hid (HB6.out.trans (hb7.mono HB6.out.size))
  have HS7 := Lib.hid (HS6.out.below hb7)
  clear hb7 HM HS6 HB6
  have HM : Hid (Calls Try.prog 11 #[.pointer (some ⟨q, 0, none⟩), .int .i64 0, .int .i64 1, .bool false, .bool true] w7 fun e w' => e = .returned (.int .i64 0) ∧ Fm.Mem w' p b 3 U2.R U2.B ∧ Tm.Mem w' t U2.T ∧ Kp (fun j => j = b ∨ j = t) w7 w') := Lib.hid (map_ok w7 q p t b 3 U1.T U1.R U1.B (HS7.out.sp 0 (by decide)) HS7.out.fm (HS7.out.tm 0 (by decide)) 0 1 (by decide) (by decide) (by rfl) (by decide) false true)
  go_wp2_with (first | (go_at_call 11; (with_reducible refine HM.out.mono ?_); rintro e w8 ⟨rfl, hF8, hT8, hk8⟩; refine Hid.out ?_))
  refine Lib.hid ?_
  have hI8 := (maps_inv (s := U1) HS7.out.inv (i := 0) (by decide) rfl (k := 0) (m := 1) (by decide) (fun j hj => by obtain rfl : j = 0 := (by omega); rfl) (by decide) false true 1 (Nat.le_refl _)).1
  have HB8 := Lib.hid (HB7.out.trans (kpB (n := w.heap.size) hk8 HB7.out.size (fun j hj => by rcases hj with rfl | rfl; exact HG.out.2.1; exact HG.out.2.2)))
  have HS8 : Hid (Sy.Sys w8 p b 3 U2.R U2.B (fun _ => q) (fun _ => t) [U2.T]) := Lib.hid (HS7.out.step (i := 0) (by decide) hk8 hF8 hT8 hI8)
  clear hF8 hT8 hk8 hI8 HM HS7 HB7
  have HM : Hid (Calls Try.prog 10 #[.pointer (some ⟨q, 0, none⟩), .int .u32 0] w8 fun e w' => Below w8.heap.size w8 w' ∧ e = .returned (.tuple #[.int .i64 0, .bool true])) := Lib.hid (frame_any w8 q p t U2.T (HS8.out.sp 0 (by decide)) (HS8.out.tm 0 (by decide)) 0 (by decide))
  go_wp2_with (first | (go_at_call 10; (with_reducible refine HM.out.mono ?_); rintro e w9 ⟨hb9, rfl⟩; refine Hid.out ?_))
  refine Lib.hid ?_
  have HB9 := Lib.hid (HB8.out.trans (hb9.mono HB8.out.size))
  have HS9 := Lib.hid (HS8.out.below hb9)
  clear hb9 HM HS8 HB8
  have hA9 : Below w9.heap.size w9 (w9.alloc (.cells #[.int .u8 1] 5)) := (Below.refl _ _).alloc (Nat.le_refl _) _
  have HM : Hid (Calls Try.prog 12 #[.pointer (some ⟨q, 0, none⟩), .int .u32 0, .slice (some ⟨w9.heap.size, 0, none⟩) 1 1] (w9.alloc (.cells #[.int .u8 1] 5)) fun e w' => e = .returned (.int .i64 14) ∧ Below (w9.alloc (.cells #[.int .u8 1] 5)).heap.size (w9.alloc (.cells #[.int .u8 1] 5)) w') := Lib.hid (Nw.write_no _ q p t U2.T ((HS9.out.below hA9).sp 0 (by decide)) ((HS9.out.below hA9).tm 0 (by decide)) 0 _ 1 1 (by decide) (by decide) (by rfl))
  go_wp2_with (first | (go_at_call 12; (with_reducible refine HM.out.mono ?_); rintro e w10 ⟨rfl, hb10⟩; refine Hid.out ?_))
  refine Lib.hid ?_
  have HB10 := Lib.hid (HB9.out.trans ((hA9.trans (hb10.mono hA9.size)).mono HB9.out.size))
  have HS10 := Lib.hid (HS9.out.below (hA9.trans (hb10.mono hA9.size)))
  clear hb10 hA9 HM HS9 HB9
  have HM : Hid (Calls Try.prog 12 #[.pointer (some ⟨q, 0, none⟩), .int .u32 4000, .slice none 0 0] w10 fun e w' => e = .returned (.int .i64 0) ∧ Kp (fun j => j = b ∨ j = t) w10 w') := Lib.hid ((Nw.write_ok w10 q p t b 3 U2.T U2.R U2.B (HS10.out.sp 0 (by decide)) HS10.out.fm (HS10.out.tm 0 (by decide)) (HS10.out.inv.fit (i := 0) (by decide)) 4000 (by decide) (.slice none 0 0) [] (src_nil _ _) (by simp) (by simp) (by rfl) (by decide)).mono fun e w' ⟨h1, h2, _⟩ => ⟨h1, h2⟩)
  go_wp2_with (first | (go_at_call 12; (with_reducible refine HM.out.mono ?_); rintro e w11 ⟨rfl, hk11⟩; refine Hid.out ?_))
  refine Lib.hid ?_
  have HB11 := Lib.hid (HB10.out.trans (kpB (n := w.heap.size) hk11 HB10.out.size (fun j hj => by rcases hj with rfl | rfl; exact HG.out.2.1; exact HG.out.2.2)))
  clear hk11 HM HS10 HB10
  have HM := Lib.hid (Nw.read_nil w11 0 0)
  go_wp2_with (first | (go_at_call 8; (with_reducible refine HM.out.mono ?_); rintro e w12 ⟨rfl, hb12⟩; refine Hid.out ?_))
  refine Lib.hid ?_
  have HB12 := Lib.hid (HB11.out.trans (hb12.mono HB11.out.size))
  clear hb12 HM HB11
  have HM := Lib.hid (alive_any w12)
  go_wp2_with (first | (go_at_call 13; (with_reducible refine HM.out.mono ?_); rintro e w13 ⟨rfl, hb13⟩; refine Hid.out ?_))
  refine Lib.hid ?_
  have HB13 := Lib.hid (HB12.out.trans (hb13.mono HB12.out.size))
  clear hb13 HM HB12
  have HM := Lib.hid (map_nil w13 0 1 true true)
  have HC := Lib.hid (clone_nil w13)
  have HN := Lib.hid (Nw.new_nil w13)
  have HD := Lib.hid (dirty_nil w13)
  go_wp2_with (first | (go_at_call 11; (with_reducible refine HM.out.mono ?_); rintro e w14 ⟨rfl, rfl⟩) | (go_at_call 14; (with_reducible refine HC.out.mono ?_); rintro e w14 ⟨rfl, rfl⟩) | (go_at_call 15; (with_reducible refine HN.out.mono ?_); rintro e w14 ⟨rfl, rfl⟩) | (go_at_call 16; (with_reducible refine HD.out.mono ?_); rintro e w14 ⟨hb14, r, rfl, ho14⟩; obtain ⟨ad, cap, rfl⟩ : ∃ ad cap, r = .slice ad 0 cap := (by obtain ⟨_, ⟨h0, _⟩ | ⟨g, cap, cur, hv, _⟩⟩ := ho14; exact ⟨_, _, h0⟩; exact ⟨_, _, hv⟩); have HB14 := Lib.hid (HB13.out.trans (hb14.mono HB13.out.size)); clear hb14 ho14))
  go_ret
  exact ⟨rfl, HB14.out⟩
end Go.Proofs.Ytclpokkjbkbkgaa.Ns
namespace Go.Proofs.Ytclpokkjbkbkgaa.Walk
open Go Go.RowKit
theorem spaceNames (w : World) : Calls Try.prog 3 #[] w fun e w' => e = .returned (.bool true) ∧ Below w.heap.size w w' := Ns.names_any w
end Go.Proofs.Ytclpokkjbkbkgaa.Walk
