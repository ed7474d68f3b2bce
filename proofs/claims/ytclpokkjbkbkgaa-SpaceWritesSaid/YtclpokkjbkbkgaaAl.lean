/-
  The chapter's examples.
-/
import Derived.Test.YtclpokkjbkbkgaaSy
namespace Go.Proofs.Ytclpokkjbkbkgaa.Al
open Go Go.RowKit Go.Shelf Kit Bk
open Fm hiding Mem made_any len_any
open Fo Fr Fw Fx Fu Fq
open Tm hiding Mem
open Ts Tc Ti Sp Sa Pz To My Pv Mp Mq Dr Cl Iv Iw Ix Wr Sy
set_option linter.unusedVariables false

theorem occN_le (T : Tab) (f : Nat) : ∀ N, occN T f N ≤ N
  | 0 => Nat.le_refl _
  | N + 1 => by
    have := occN_le T f N
    have := has_le (T N) f
    unfold occN
    omega
theorem tot_le : ∀ (Ls : List Tab) (f : Nat), tot Ls f ≤ 64 * Ls.length
  | [], _ => Nat.le_refl _
  | T :: r, f => by
    have h1 := tot_le r f
    have h2 := occN_le T f 64
    show occ T f + tot r f ≤ 64 * (r.length + 1)
    unfold occ
    omega
theorem kpB {S : Nat → Prop} {n : Nat} {w w' : World} (h : Kp S w w') (hn : n ≤ w.heap.size) (hS : ∀ j, S j → n ≤ j) : Below n w w' := h.below hn hS

def A0 : Sx := ⟨fun _ => 0, fun _ _ => 0, fun _ => none⟩
def A1 : Sx := maps 3 A0 0 true false 2
def A2 : St := sts 3 ⟨A1.R, A1.B, A1.T⟩ 64 1 [9] (cn 64 1)
def A3R (f : Nat) : Nat := A2.R f + occ A2.T f
def A4 : St := sts 3 ⟨A3R, A2.B, cowT A2.T⟩ 64 1 [8] (cn 64 1)

set_option maxRecDepth 100000 in
theorem two_any (w : World) : Calls Try.prog 7 #[] w fun e w' => ∃ p b q t, e = .returned (.tuple #[.pointer (some ⟨p, 0, none⟩), .pointer (some ⟨q, 0, none⟩)]) ∧ Below w.heap.size w w' ∧ (w.heap.size ≤ p ∧ w.heap.size ≤ b ∧ w.heap.size ≤ t) ∧ Sy.Sys w' p b 3 A1.R A1.B (fun _ => q) (fun _ => t) [A1.T] := by
  have HN : Hid (Calls Try.prog 17 #[.int .i64 3] w fun e w' => Below w.heap.size w w' ∧ ∃ p b, e = .returned (.tuple #[.pointer (some ⟨p, 0, none⟩), .int .i64 0]) ∧ w.heap.size ≤ p ∧ w.heap.size ≤ b ∧ Fm.Mem w' p b 3 (fun _ => 0) (fun _ _ => 0)) := Lib.hid (new_ok w 3 (by decide))
  go_enter Try.func7, Try.ntmps7
  go_wp2_with (first | (go_at_call 17; (with_reducible refine HN.out.mono ?_); rintro e w1 ⟨hb1, p, b, rfl, hp, hb, hM⟩; refine Hid.out ?_))
  refine Lib.hid ?_
  have HW := Lib.hid (Nw.new_any w1 p)
  have H1 := Lib.hid (And.intro hb1 (And.intro hp (And.intro hb hM)))
  clear hb1 hp hb hM HN
  go_wp2_with (first | (go_at_call 15; (with_reducible refine HW.out.mono ?_); rintro e w2 ⟨rfl, hb2, hS2, hT2⟩; refine Hid.out ?_))
  refine Lib.hid ?_
  have hF2 := H1.out.2.2.2.below hb2
  have HM : Hid (Calls Try.prog 11 #[.pointer (some ⟨w1.heap.size + 1, 0, none⟩), .int .i64 0, .int .i64 2, .bool true, .bool false] w2 fun e w' => e = .returned (.int .i64 0) ∧ Fm.Mem w' p b 3 A1.R A1.B ∧ Tm.Mem w' w1.heap.size A1.T ∧ Kp (fun j => j = b ∨ j = w1.heap.size) w2 w') := Lib.hid (map_ok w2 (w1.heap.size + 1) p w1.heap.size b 3 (fun _ => none) (fun _ => 0) (fun _ _ => 0) hS2 hF2 hT2 0 2 (by decide) (by decide) (by rfl) (by decide) true false)
  have HB := Lib.hid (H1.out.1.trans (hb2.mono H1.out.1.size))
  have HS := Lib.hid (And.intro hS2 (And.intro hF2 hT2))
  have hsz := H1.out.1.size
  have hsz2 := hb2.size
  clear hF2 hS2 hT2 hb2 HW
  go_wp2_with (first | (go_at_call 11; (with_reducible refine HM.out.mono ?_); rintro e w3 ⟨rfl, hF3, hT3, hk3⟩; refine Hid.out ?_))
  refine Lib.hid ?_
  have hI0 : Inv 3 A0.R [A0.T] := Inv.empty 3
  have hI := (maps_inv (s := A0) hI0 (i := 0) (by decide) rfl (k := 0) (m := 2) (by decide) (fun j hj => rfl) (by decide) true false 2 (Nat.le_refl _)).1
  have hSy : Sy.Sys w2 p b 3 (fun _ => 0) (fun _ _ => 0) (fun _ => w1.heap.size + 1) (fun _ => w1.heap.size) [fun _ => none] := ⟨HS.out.2.1, fun i hi => HS.out.1, fun i hi => by
    have : i = 0 := by simpa using hi
    subst this
    exact HS.out.2.2, fun i j hi hj hne => by simp at hi hj; omega, Inv.empty 3⟩
  have hfin := hSy.step (i := 0) (by decide) hk3 hF3 hT3 hI
  have hb3 := HB.out.trans (kpB (n := w.heap.size) hk3 HB.out.size (fun j hj => by rcases hj with rfl | rfl; exact H1.out.2.2.1; exact hsz))
  have HO := Lib.hid (And.intro hb3 (And.intro (And.intro H1.out.2.1 (And.intro H1.out.2.2.1 hsz)) hfin))
  clear hI0 hI hSy hfin hb3 hF3 hT3 hk3
  go_wp2
  go_ret2
  exact ⟨_, _, _, _, rfl, HO.out⟩

/-- A row of bytes that was just made is a source. -/
theorem src_one (w : World) (S : Nat → Prop) (v : Nat) (hS : ¬ S w.heap.size) : Src S (w.alloc (.cells #[.int .u8 (v : Int)] 5)) (.slice (some ⟨w.heap.size, 0, none⟩) 1 1) [v] := by
  refine ⟨⟨some ⟨w.heap.size, 0, none⟩, 1, rfl, Nat.le_refl _, by unfold maxLen; decide, .inr ⟨w.heap.size, 0, rfl, by simp, fun i hi => ?_⟩⟩, .inr fun ad m c e => by cases e; exact hS⟩
  have : i = 0 := by simpa using hi
  subst this
  exact (Blk.new w #[.int .u8 (v : Int)] 5).cell 0
/-- A byte set in one of the spaces, that it may be. -/
theorem setByte_ok {w : World} {p b n : Nat} {R : Nat → Nat} {B : Nat → Nat → Nat} {qs ts : Nat → Nat} {Ls : List Tab} (h : Sy.Sys w p b n R B qs ts Ls) {i : Nat} (hi : i < Ls.length) (a : Nat) (ha : a < 4294967296) (v : Nat) (hv : v < 256) (hM : mayB Ls[i] a 1 true = true) (hR : nd R Ls[i] a 0 (cn a 1) ≤ fre n R) :
    Calls Try.prog 39 #[.pointer (some ⟨qs i, 0, none⟩), .int .u32 (a : Int), .int .u8 (v : Int)] w fun e w' => e = .returned (.bool true) ∧ Kp (fun j => j = b ∨ j = ts i) w w' ∧ Sy.Sys w' p b n (sts n ⟨R, B, Ls[i]⟩ a 1 [v] (cn a 1)).R (sts n ⟨R, B, Ls[i]⟩ a 1 [v] (cn a 1)).B qs ts (Ls.set i (sts n ⟨R, B, Ls[i]⟩ a 1 [v] (cn a 1)).T) := by
  have hA : Below w.heap.size w (w.alloc (.cells #[.int .u8 (v : Int)] 5)) := (Below.refl _ _).alloc (Nat.le_refl _) _
  have hS := h.below hA
  have hlt := (h.tm i hi).lt
  have hlb := h.fm.lt.2
  have hw := Nw.write_ok _ (qs i) p (ts i) b n Ls[i] R B (hS.sp i hi) hS.fm (hS.tm i hi) (hS.inv.fit hi) a ha (.slice (some ⟨w.heap.size, 0, none⟩) 1 1) [v] (src_one w _ v (by omega)) (by simpa using hv) (by simp) hM hR
  refine (setByte_of w _ (a : Int) (v : Int) 0 _ hw).mono ?_
  rintro e w' ⟨rfl, hk, hF, hT⟩
  have hI := (sts_inv (s := ⟨R, B, Ls[i]⟩) h.inv hi rfl a 1 [v] hM hR (cn a 1) (Nat.le_refl _)).2.1
  have hk2 : Kp (fun j => j = b ∨ j = ts i) w w' := (Kp.of_below hA).trans hk (fun j hj => .inl hj)
  exact ⟨rfl, hk2, h.step hi hk2 hF hT hI⟩
/-- A byte told of one of the spaces. -/
theorem byte_ok {w : World} {p b n : Nat} {R : Nat → Nat} {B : Nat → Nat → Nat} {qs ts : Nat → Nat} {Ls : List Tab} (h : Sy.Sys w p b n R B qs ts Ls) {i : Nat} (hi : i < Ls.length) (a : Nat) (ha : a < 4294967296) (v : Nat) (hv : v < 256) (hM : mayB Ls[i] a 1 false = true) (hB : Re.rdl B Ls[i] a 1 (cn a 1) = [v]) :
    Calls Try.prog 40 #[.pointer (some ⟨qs i, 0, none⟩), .int .u32 (a : Int)] w fun e w' => e = .returned (.tuple #[.int .u8 (v : Int), .bool true]) ∧ Below w.heap.size w w' := by
  have hr := Re.read_any w (qs i) p (ts i) b n Ls[i] R B (h.sp i hi) h.fm (h.tm i hi) (h.inv.fit hi) a 1 (by decide) ha hM
  rw [hB] at hr
  exact byte_one w _ (a : Int) v w.heap.size hv (Nat.le_refl _) hr
/-- A clone of one of the spaces. -/
theorem clone_ok {w : World} {p b n : Nat} {R : Nat → Nat} {B : Nat → Nat → Nat} {qs ts : Nat → Nat} {Ls : List Tab} (h : Sy.Sys w p b n R B qs ts Ls) (hl : Ls.length ≤ 8) {i : Nat} (hi : i < Ls.length) :
    Calls Try.prog 14 #[.pointer (some ⟨qs i, 0, none⟩)] w fun e w' => ∃ q' t', e = .returned (.pointer (some ⟨q', 0, none⟩)) ∧ w.heap.size ≤ q' ∧ w.heap.size ≤ t' ∧ Kp (fun j => j = b ∨ j = ts i) w w' ∧ Sy.Sys w' p b n (fun f => R f + occ Ls[i] f) B (up qs Ls.length q') (up ts Ls.length t') (Ls.set i (cowT Ls[i]) ++ [cowT Ls[i]]) := by
  have hb : ∀ f, R f < 900 := fun f => by
    rw [h.inv.cnt f]
    have := tot_le Ls f
    omega
  have hc := clone_is w (qs i) p (ts i) b n ⟨R, B, Ls[i]⟩ (h.sp i hi) h.fm (h.tm i hi) (ents Ls[i] 64) rfl (clOk_inv (s := ⟨R, B, Ls[i]⟩) h.inv hi rfl h.fm.pos.2 hb)
  refine hc.mono ?_
  rintro e w' ⟨q', t', rfl, h1, h2, h3, h4, h5, h6, h7⟩
  obtain ⟨c1, c2, c3⟩ := cls_all ⟨R, B, Ls[i]⟩ (fun k x hx => by obtain ⟨a1, f, a2, _⟩ := h.inv.rng i hi k x hx; exact ⟨a1, f, a2⟩)
  have c3' : (cls ⟨R, B, Ls[i]⟩ (ents Ls[i] 64) (ents Ls[i] 64).length).R = fun f => R f + occ Ls[i] f := funext c3
  rw [c1, c3'] at h4
  rw [c2] at h5 h6
  exact ⟨q', t', rfl, h1, h2, h7, h.clone hi h1 h2 h3 h7 h4 h5 h6 (fun f => rfl)⟩

set_option maxRecDepth 100000 in
set_option maxHeartbeats 2000000 in
theorem alive_any (w : World) : Calls Try.prog 13 #[] w fun e w' => e = .returned (.bool true) ∧ Below w.heap.size w w' := by
  have H2 := Lib.hid (two_any w)
  go_enter Try.func13, Try.ntmps13
  go_wp2_with (first | (go_at_call 7; (with_reducible refine H2.out.mono ?_); rintro e w1 ⟨p, b, q, t, rfl, hb1, ⟨hp, hb, ht⟩, hS1⟩; refine Hid.out ?_))
  refine Lib.hid ?_
  have HB1 := Lib.hid hb1
  have HS1 := Lib.hid hS1
  have HG := Lib.hid (And.intro hp (And.intro hb ht))
  have HM : Hid (Calls Try.prog 11 #[.pointer (some ⟨q, 0, none⟩), .int .i64 1, .int .i64 1, .bool true, .bool false] w1 fun e w' => e = .returned (.int .i64 22) ∧ Below w1.heap.size w1 w') := Lib.hid (map_no w1 q p t A1.T (hS1.sp 0 (by decide)) (hS1.tm 0 (by decide)) 1 1 (by decide) (by decide) true false (.inr ⟨1, 1, rfl, rfl, by decide, by decide, by rfl⟩))
  clear hb1 hS1 hp hb ht H2
  go_wp2_with (first | (go_at_call 11; (with_reducible refine HM.out.mono ?_); rintro e w2 ⟨rfl, hb2⟩; refine Hid.out ?_))
  refine Lib.hid ?_
  have HB2 := Lib.hid (HB1.out.trans (hb2.mono HB1.out.size))
  have HS2 := Lib.hid (HS1.out.below hb2)
  clear hb2 HM HS1 HB1
  have HM : Hid (Calls Try.prog 11 #[.pointer (some ⟨q, 0, none⟩), .int .i64 5, .int .i64 2, .bool true, .bool false] w2 fun e w' => e = .returned (.int .i64 12) ∧ Below w2.heap.size w2 w') := Lib.hid (map_full w2 q p t b 3 A1.T A1.R A1.B (HS2.out.sp 0 (by decide)) HS2.out.fm (HS2.out.tm 0 (by decide)) 5 2 (by decide) (by decide) (by rfl) (by decide) true false)
  go_wp2_with (first | (go_at_call 11; (with_reducible refine HM.out.mono ?_); rintro e w3 ⟨rfl, hb3⟩; refine Hid.out ?_))
  refine Lib.hid ?_
  have HB3 := Lib.hid (HB2.out.trans (hb3.mono HB2.out.size))
  have HS3 := Lib.hid (HS2.out.below hb3)
  clear hb3 HM HS2 HB2
  have HC : Hid (Calls Try.prog 39 #[.pointer (some ⟨q, 0, none⟩), .int .u32 64, .int .u8 9] w3 fun e w' => e = .returned (.bool true) ∧ Kp (fun j => j = b ∨ j = t) w3 w' ∧ Sy.Sys w' p b 3 A2.R A2.B (fun _ => q) (fun _ => t) [A2.T]) := Lib.hid (setByte_ok HS3.out (i := 0) (by decide) 64 (by decide) 9 (by decide) (by rfl) (by decide))
  go_wp2_with (first | (go_at_call 39; (with_reducible refine HC.out.mono ?_); rintro e w4 ⟨rfl, hk4, hS4⟩; refine Hid.out ?_))
  refine Lib.hid ?_
  have HB4 := Lib.hid (HB3.out.trans (kpB (n := w.heap.size) hk4 HB3.out.size (fun j hj => by rcases hj with rfl | rfl; exact HG.out.2.1; exact HG.out.2.2)))
  have HS4 := Lib.hid hS4
  clear hk4 hS4 HC HS3 HB3
  have HD : Hid (Calls Try.prog 14 #[.pointer (some ⟨q, 0, none⟩)] w4 fun e w' => ∃ q' t', e = .returned (.pointer (some ⟨q', 0, none⟩)) ∧ w4.heap.size ≤ q' ∧ w4.heap.size ≤ t' ∧ Kp (fun j => j = b ∨ j = t) w4 w' ∧ Sy.Sys w' p b 3 A3R A2.B (up (fun _ => q) 1 q') (up (fun _ => t) 1 t') [cowT A2.T, cowT A2.T]) := Lib.hid (clone_ok HS4.out (by decide) (i := 0) (by decide))
  go_wp2_with (first | (go_at_call 14; (with_reducible refine HD.out.mono ?_); rintro e w5 ⟨q', t', rfl, hq5, ht5, hk5, hS5⟩; refine Hid.out ?_))
  refine Lib.hid ?_
  have HB5 := Lib.hid (HB4.out.trans (kpB (n := w.heap.size) hk5 HB4.out.size (fun j hj => by rcases hj with rfl | rfl; exact HG.out.2.1; exact HG.out.2.2)))
  have HS5 := Lib.hid hS5
  have HT5 : Hid (w.heap.size ≤ t') := Lib.hid (Nat.le_trans HB4.out.size ht5)
  clear hk5 hS5 hq5 ht5 HD HS4 HB4
  have HE : Hid (Calls Try.prog 40 #[.pointer (some ⟨q', 0, none⟩), .int .u32 64] w5 fun e w' => e = .returned (.tuple #[.int .u8 9, .bool true]) ∧ Below w5.heap.size w5 w') := Lib.hid (byte_ok HS5.out (i := 1) (by decide) 64 (by decide) 9 (by decide) (by rfl) (by rfl))
  go_wp2_with (first | (go_at_call 40; (with_reducible refine HE.out.mono ?_); rintro e w6 ⟨rfl, hb6⟩; refine Hid.out ?_))
  refine Lib.hid ?_
  have HB6 := Lib.hid (HB5.out.trans (hb6.mono HB5.out.size))
  have HS6 := Lib.hid (HS5.out.below hb6)
  clear hb6 HE HS5 HB5
  have HF : Hid (Calls Try.prog 39 #[.pointer (some ⟨q', 0, none⟩), .int .u32 64, .int .u8 8] w6 fun e w' => e = .returned (.bool true) ∧ Kp (fun j => j = b ∨ j = t') w6 w' ∧ Sy.Sys w' p b 3 A4.R A4.B (up (fun _ => q) 1 q') (up (fun _ => t) 1 t') [cowT A2.T, A4.T]) := Lib.hid (setByte_ok HS6.out (i := 1) (by decide) 64 (by decide) 8 (by decide) (by rfl) (by decide))
  go_wp2_with (first | (go_at_call 39; (with_reducible refine HF.out.mono ?_); rintro e w7 ⟨rfl, hk7, hS7⟩; refine Hid.out ?_))
  refine Lib.hid ?_
  have HB7 := Lib.hid (HB6.out.trans (kpB (n := w.heap.size) hk7 HB6.out.size (fun j hj => by rcases hj with rfl | rfl; exact HG.out.2.1; exact HT5.out)))
  have HS7 := Lib.hid hS7
  clear hk7 hS7 HF HS6 HB6
  have HE : Hid (Calls Try.prog 40 #[.pointer (some ⟨q, 0, none⟩), .int .u32 64] w7 fun e w' => e = .returned (.tuple #[.int .u8 9, .bool true]) ∧ Below w7.heap.size w7 w') := Lib.hid (byte_ok HS7.out (i := 0) (by decide) 64 (by decide) 9 (by decide) (by rfl) (by rfl))
  go_wp2_with (first | (go_at_call 40; (with_reducible refine HE.out.mono ?_); rintro e w8 ⟨rfl, hb8⟩; refine Hid.out ?_))
  refine Lib.hid ?_
  have HB8 := Lib.hid (HB7.out.trans (hb8.mono HB7.out.size))
  have HS8 := Lib.hid (HS7.out.below hb8)
  clear hb8 HE HS7 HB7
  have hA8 : Below w8.heap.size w8 (w8.alloc (.cells #[.int .u8 1] 5)) := (Below.refl _ _).alloc (Nat.le_refl _) _
  have HI : Hid (Calls Try.prog 39 #[.pointer (some ⟨q, 0, none⟩), .int .u32 0, .int .u8 1] w8 fun e w' => e = .returned (.bool false) ∧ Below (w8.alloc (.cells #[.int .u8 1] 5)).heap.size (w8.alloc (.cells #[.int .u8 1] 5)) w') := Lib.hid (setByte_of w8 _ 0 1 12 _ (Nw.write_full _ q p t b 3 (cowT A2.T) A4.R A4.B ((HS8.out.below hA8).sp 0 (by decide)) (HS8.out.below hA8).fm ((HS8.out.below hA8).tm 0 (by decide)) (HS8.out.inv.fit (i := 0) (by decide)) 0 _ 1 1 (by decide) (by decide) (by rfl) (by decide)))
  go_wp2_with (first | (go_at_call 39; (with_reducible refine HI.out.mono ?_); rintro e w9 ⟨rfl, hb9⟩; refine Hid.out ?_))
  refine Lib.hid ?_
  have HB9 := Lib.hid (HB8.out.trans ((hA8.trans (hb9.mono hA8.size)).mono HB8.out.size))
  have HS9 := Lib.hid (HS8.out.below (hA8.trans (hb9.mono hA8.size)))
  clear hb9 hA8 HI HS8 HB8
  have HJ : Hid (Calls Try.prog 23 #[.pointer (some ⟨p, 0, none⟩)] w9 fun e w' => e = .returned (.int .i64 0) ∧ Below w9.heap.size w9 w') := Lib.hid (free_is w9 p b 3 A4.R A4.B HS9.out.fm)
  go_wp2_with (first | (go_at_call 23; (with_reducible refine HJ.out.mono ?_); rintro e w10 ⟨rfl, hb10⟩; have HB10 := Lib.hid (HB9.out.trans (hb10.mono HB9.out.size)); clear hb10))
  go_ret
  exact ⟨rfl, HB10.out⟩
end Go.Proofs.Ytclpokkjbkbkgaa.Al
