/-
  toWrite: the frame that a page is written into by, made its own ahead of that.
-/
import Derived.Test.YtjoapeeljigjcaaDoorSa
import Derived.Test.YtjoapeeljigjcaaDoorFq
import Derived.BigQuiet
import Derived.Deep.RegionHeld
namespace Go.Proofs.YtjoapeeljigjcaaDoor.To
open Go Go.RowKit Go.Shelf Kit Bk
open Fm hiding Mem made_any len_any
open Fo Fr Fw Fx
open Tm hiding Mem
open Ts Tc Ti Sp Sa
set_option linter.unusedVariables false

theorem bel_drewN {B : Nat} {a w : World} (h : Below B a w) (n : Nat) : Below B a (w.drewN n) := ⟨h.os, h.tape, h.output, h.size, h.block⟩
/-- What is kept, from a part to the whole. -/
theorem Kp.wide {S S' : Nat → Prop} {w w' : World} (h : Kp S w w') (hS : ∀ j, S j → S' j) : Kp S' w w' := h.mono fun j _ hj => hS j hj
theorem fm_kept {S : Nat → Prop} {w w' : World} {p b n : Nat} {R : Nat → Nat} {B : Nat → Nat → Nat} (h : Fm.Mem w p b n R B) (hk : Kp S w w') (hp : ¬ S p) (hb : ¬ S b) : Fm.Mem w' p b n R B := Fm.Mem.kept h hk hp hb

set_option maxRecDepth 100000 in
set_option maxHeartbeats 2000000 in
theorem toWrite_own (w : World) (q p t b n : Nat) (T : Nat → Option En) (R : Nat → Nat) (B : Nat → Nat → Nat) (h : Sp w q p t) (hF : Fm.Mem w p b n R B) (hT : Tm.Mem w t T) (k : Nat) (hk : k < 64) (f : Nat) (hf : f < n) (xw xs xc xd : Bool)
    (hx : T k = some ⟨(f : Int), xw, xs, xc, xd⟩) (hc : xc = true → R f ≤ 1) :
    Calls Tryd.prog 41 #[.pointer (some ⟨q, 0, none⟩), .int .i64 (k : Int)] w fun e w' => e = .returned (.int .i64 (f : Int)) ∧ Kp (fun j => j = t) w w' ∧ Tm.Mem w' t (up T k (some ⟨(f : Int), xw, xs, false, true⟩)) := by
  have hn := hF.pos.2
  have c1 : ∀ W, Below w.heap.size w W → W.cell? ⟨q, 1, none⟩ = some (.pointer (some ⟨t, 0, none⟩)) := fun W hb => (Blk.below h hb).cell 1
  have c0 : ∀ W, Below w.heap.size w W → W.cell? ⟨q, 0, none⟩ = some (.pointer (some ⟨p, 0, none⟩)) := fun W hb => (Blk.below h hb).cell 0
  have hg := Tm.get_in w t T hT k hk
  rw [hx] at hg
  have HG : Hid (Calls Tryd.prog 43 #[.pointer (some ⟨t, 0, none⟩), .int .i64 (k : Int)] w fun e w' => e = .returned (.tuple #[.agg #[.int .i64 (f : Int), .bool xw, .bool xs, .bool xc, .bool xd], .bool true]) ∧ Below w.heap.size w w') := Lib.hid hg
  have HR := Lib.hid (fun W (hb : Below w.heap.size w W) => refs_in W p b n R B (hF.below hb) f hf)
  have HS0 := Lib.hid trivial
  have HC := Lib.hid (And.intro c0 c1)
  have d1 := c1 w (Below.refl _ _)
  have hgt : xc = true → decide (1 < (R f : Int)) = false := fun e => decide_eq_false (by have := hc e; omega)
  clear hg c0 c1 hc
  go_enter Tryd.func41, Tryd.ntmps41
  go_wp2_with (first | (go_at_call 43; (with_reducible refine HG.out.mono ?_); rintro e w1 ⟨rfl, hb1⟩; have HW1 := Lib.hid hb1.size; have HW1 := Lib.hid hb1.size; have HW1 := Lib.hid hb1.size; have HW1 := Lib.hid hb1.size; have HW1 := Lib.hid hb1.size; have HB := Lib.hid (hb1.alloc hb1.size (.cells #[.int .i64 (f : Int), .bool xw, .bool xs, .bool xc, .bool xd] 56)); have hx1 := Blk.new w1 #[.int .i64 (f : Int), .bool xw, .bool xs, .bool xc, .bool xd] 56; clear hb1))
  have e3 := hx1.cell 3
  have e0 := hx1.cell 0
  have d0 := HC.out.1 _ HB.out
  obtain ⟨W, hW⟩ : ∃ W, w1.alloc (.cells #[.int .i64 (f : Int), .bool xw, .bool xs, .bool xc, .bool xd] 56) = W := ⟨_, rfl⟩
  obtain ⟨g, hgz⟩ : ∃ g, w1.heap.size = g := ⟨_, rfl⟩
  rw [hW] at HB hx1 e3 e0 d0 ⊢
  rw [hgz] at hx1 e3 e0 ⊢
  have HX := Lib.hid hx1
  have HW := Lib.hid hgz
  clear hW hgz hx1 hx
  have NQT := Lib.hid (fun e : q = t => by obtain ⟨⟨cs, ht, _⟩, _⟩ := hT; exact Blk.ne (show Blk w q _ _ from h) ht (by decide) e)
  cases xc with
  | false =>
    go_quiet (fail)
    have HBY := Lib.hid (bel_drewN HB.out nq)
    have hSY : Sp (W.drewN nq) q p t := Sp.below h HBY.out
    have hTY : Tm.Mem (W.drewN nq) t T := hT.below HBY.out
    have hxY : Blk (W.drewN nq) g #[.int .i64 (f : Int), .bool xw, .bool xs, .bool false, .bool xd] 56 := HX.out
    generalize W.drewN nq = Y at HBY hSY hTY hxY ⊢
    have hgw : w.heap.size ≤ g := by rw [← HW.out]; exact HW1.out
    clear hgt HG HR HS0 HB HC HX HW e3 e0 d0 d1 W
    have s1 := Blk.cell hSY 1
    have e0 := hxY.cell 0
    have e1 := hxY.cell 1
    have e2 := hxY.cell 2
    have e3 := hxY.cell 3
    have e4 := hxY.cell 4
    have y0 := hxY.free 0
    have y3 := hxY.free 3
    have y4 := hxY.free 4
    have nq1 := hSY.ne hxY (by decide)
    have nt1 : t ≠ g := fun e => by obtain ⟨⟨cs, ht, _⟩, _⟩ := hTY; exact ht.ne hxY (by decide) e
    go_wp2
    have hx2 : Blk ((Y.setCell ⟨g, 3, none⟩ (.bool false)).setCell ⟨g, 4, none⟩ (.bool true)) g #[.int .i64 (f : Int), .bool xw, .bool xs, .bool false, .bool true] 56 := by
      have := (hxY.set 3 (.bool false)).set 4 (.bool true)
      simpa using this
    have hS2 : Sp ((Y.setCell ⟨g, 3, none⟩ (.bool false)).setCell ⟨g, 4, none⟩ (.bool true)) q p t := (hSY.other _ _ _ nq1).other _ _ _ nq1
    have hk2 : Kp (fun j => j = g) Y ((Y.setCell ⟨g, 3, none⟩ (.bool false)).setCell ⟨g, 4, none⟩ (.bool true)) := (Kp.set (S := fun j => j = g) Y g 3 _ rfl).trans (Kp.set (S := fun j => j = g) _ g 4 _ rfl) (fun _ h => .inl h)
    have hT2 := hTY.kept hk2 nt1
    clear s1 e0 e1 e2 e3 e4 y0 y3 y4
    generalize (Y.setCell ⟨g, 3, none⟩ (.bool false)).setCell ⟨g, 4, none⟩ (.bool true) = Y2 at hx2 hS2 hk2 hT2 ⊢
    have s1 := Blk.cell hS2 1
    have e0 := hx2.cell 0
    have e1 := hx2.cell 1
    have e2 := hx2.cell 2
    have e3 := hx2.cell 3
    have e4 := hx2.cell 4
    have HS := Lib.hid (set_in Y2.drew t T (hT2.drew) k ⟨(f : Int), xw, xs, false, true⟩ hk (by simp [may]; omega))
    have HZ := Lib.hid (And.intro hx2 (And.intro hS2 (And.intro hk2 (And.intro hSY (And.intro hxY hTY)))))
    clear hx2 hS2 hk2 hT2 hSY hxY hTY
    go_region_held (fun W' => W'.cell? ⟨q, 1, none⟩ = some (.pointer (some ⟨t, 0, none⟩)) ∧ W'.cell? ⟨g, 0, none⟩ = some (.int .i64 (f : Int)) ∧ W'.cell? ⟨g, 1, none⟩ = some (.bool xw) ∧ W'.cell? ⟨g, 2, none⟩ = some (.bool xs) ∧ W'.cell? ⟨g, 3, none⟩ = some (.bool false) ∧ W'.cell? ⟨g, 4, none⟩ = some (.bool true)) (first | exact ⟨s1, e0, e1, e2, e3, e4⟩ | exact K5.out) (first | (go_at_call 35; (with_reducible refine HS.out.mono ?_); rintro e w5 ⟨rfl, hk5, hT5⟩; have hx5 := HZ.out.1.kept (Kp.trans (Kp.refl (fun j => j = t) Y2).drew hk5 (fun _ h => .inl h)) (fun e => nt1 e.symm); have hs5 := HZ.out.2.1.kept (Kp.trans (Kp.refl (fun j => j = t) Y2).drew hk5 (fun _ h => .inl h)) (fun e => NQT.out e); have K5 := Lib.hid (And.intro (Blk.cell hs5 1) (And.intro (hx5.cell 0) (And.intro (hx5.cell 1) (And.intro (hx5.cell 2) (And.intro (hx5.cell 3) (hx5.cell 4)))))); have i0 := hx5.cell 0; have HT5 := Lib.hid (And.intro hk5 hT5); clear hx5 hs5 hk5 hT5))
    go_wp2
    go_ret
    exact ⟨rfl, ((((Kp.of_below HBY.out).trans (S' := fun j => j = g) HZ.out.2.2.1 (fun j hj => .inr (by omega))).trans (S := fun j => j = t) (Kp.refl (fun j => j = t) Y2).drew (fun j hj => .inl hj)).trans HT5.out.1 (fun j hj => .inl hj)), HT5.out.2⟩
  | true =>
    have hd := hgt rfl
    go_quiet ((go_at_call 63; exact Calls.quiet_of_same ((HR.out _ (by first | exact HB.out | exact bel_drewN HB.out _)).mono fun e w' ⟨he, hw⟩ => ⟨he, hw.symm⟩)))
    have HBY := Lib.hid (bel_drewN HB.out nq)
    have hSY : Sp (W.drewN nq) q p t := Sp.below h HBY.out
    have hTY : Tm.Mem (W.drewN nq) t T := hT.below HBY.out
    have hxY : Blk (W.drewN nq) g #[.int .i64 (f : Int), .bool xw, .bool xs, .bool true, .bool xd] 56 := HX.out
    generalize W.drewN nq = Y at HBY hSY hTY hxY ⊢
    have hgw : w.heap.size ≤ g := by rw [← HW.out]; exact HW1.out
    clear hgt HG HR HS0 HB HC HX HW e3 e0 d0 d1 W
    have s1 := Blk.cell hSY 1
    have e0 := hxY.cell 0
    have e1 := hxY.cell 1
    have e2 := hxY.cell 2
    have e3 := hxY.cell 3
    have e4 := hxY.cell 4
    have y0 := hxY.free 0
    have y3 := hxY.free 3
    have y4 := hxY.free 4
    have nq1 := hSY.ne hxY (by decide)
    have nt1 : t ≠ g := fun e => by obtain ⟨⟨cs, ht, _⟩, _⟩ := hTY; exact ht.ne hxY (by decide) e
    go_wp2
    have hx2 : Blk ((Y.setCell ⟨g, 3, none⟩ (.bool false)).setCell ⟨g, 4, none⟩ (.bool true)) g #[.int .i64 (f : Int), .bool xw, .bool xs, .bool false, .bool true] 56 := by
      have := (hxY.set 3 (.bool false)).set 4 (.bool true)
      simpa using this
    have hS2 : Sp ((Y.setCell ⟨g, 3, none⟩ (.bool false)).setCell ⟨g, 4, none⟩ (.bool true)) q p t := (hSY.other _ _ _ nq1).other _ _ _ nq1
    have hk2 : Kp (fun j => j = g) Y ((Y.setCell ⟨g, 3, none⟩ (.bool false)).setCell ⟨g, 4, none⟩ (.bool true)) := (Kp.set (S := fun j => j = g) Y g 3 _ rfl).trans (Kp.set (S := fun j => j = g) _ g 4 _ rfl) (fun _ h => .inl h)
    have hT2 := hTY.kept hk2 nt1
    clear s1 e0 e1 e2 e3 e4 y0 y3 y4
    generalize (Y.setCell ⟨g, 3, none⟩ (.bool false)).setCell ⟨g, 4, none⟩ (.bool true) = Y2 at hx2 hS2 hk2 hT2 ⊢
    have s1 := Blk.cell hS2 1
    have e0 := hx2.cell 0
    have e1 := hx2.cell 1
    have e2 := hx2.cell 2
    have e3 := hx2.cell 3
    have e4 := hx2.cell 4
    have HS := Lib.hid (set_in Y2.drew t T (hT2.drew) k ⟨(f : Int), xw, xs, false, true⟩ hk (by simp [may]; omega))
    have HZ := Lib.hid (And.intro hx2 (And.intro hS2 (And.intro hk2 (And.intro hSY (And.intro hxY hTY)))))
    clear hx2 hS2 hk2 hT2 hSY hxY hTY
    go_region_held (fun W' => W'.cell? ⟨q, 1, none⟩ = some (.pointer (some ⟨t, 0, none⟩)) ∧ W'.cell? ⟨g, 0, none⟩ = some (.int .i64 (f : Int)) ∧ W'.cell? ⟨g, 1, none⟩ = some (.bool xw) ∧ W'.cell? ⟨g, 2, none⟩ = some (.bool xs) ∧ W'.cell? ⟨g, 3, none⟩ = some (.bool false) ∧ W'.cell? ⟨g, 4, none⟩ = some (.bool true)) (first | exact ⟨s1, e0, e1, e2, e3, e4⟩ | exact K5.out) (first | (go_at_call 35; (with_reducible refine HS.out.mono ?_); rintro e w5 ⟨rfl, hk5, hT5⟩; have hx5 := HZ.out.1.kept (Kp.trans (Kp.refl (fun j => j = t) Y2).drew hk5 (fun _ h => .inl h)) (fun e => nt1 e.symm); have hs5 := HZ.out.2.1.kept (Kp.trans (Kp.refl (fun j => j = t) Y2).drew hk5 (fun _ h => .inl h)) (fun e => NQT.out e); have K5 := Lib.hid (And.intro (Blk.cell hs5 1) (And.intro (hx5.cell 0) (And.intro (hx5.cell 1) (And.intro (hx5.cell 2) (And.intro (hx5.cell 3) (hx5.cell 4)))))); have i0 := hx5.cell 0; have HT5 := Lib.hid (And.intro hk5 hT5); clear hx5 hs5 hk5 hT5))
    go_wp2
    go_ret
    exact ⟨rfl, ((((Kp.of_below HBY.out).trans (S' := fun j => j = g) HZ.out.2.2.1 (fun j hj => .inr (by omega))).trans (S := fun j => j = t) (Kp.refl (fun j => j = t) Y2).drew (fun j hj => .inl hj)).trans HT5.out.1 (fun j hj => .inl hj)), HT5.out.2⟩

set_option maxRecDepth 100000 in
set_option maxHeartbeats 2000000 in
theorem toWrite_double (w : World) (q p t b n : Nat) (T : Nat → Option En) (R : Nat → Nat) (B : Nat → Nat → Nat) (h : Sp w q p t) (hF : Fm.Mem w p b n R B) (hT : Tm.Mem w t T) (k : Nat) (hk : k < 64) (f : Nat) (hf : f < n) (xw xs xd : Bool)
    (hx : T k = some ⟨(f : Int), xw, xs, true, xd⟩) (r : Nat) (hr : R f = r + 2) (m : Nat) (hm : m < n) (hz : R m = 0) (hml : ∀ j, j < m → R j ≠ 0) :
    Calls Tryd.prog 41 #[.pointer (some ⟨q, 0, none⟩), .int .i64 (k : Int)] w fun e w' => e = .returned (.int .i64 (m : Int)) ∧ Kp (fun j => j = b ∨ j = t) w w' ∧ Fm.Mem w' p b n (up (up R m 1) f (r + 1)) (up B m (B f)) ∧ Tm.Mem w' t (up T k (some ⟨(m : Int), xw, xs, false, true⟩)) := by
  have hn := hF.pos.2
  have c1 : ∀ W, Below w.heap.size w W → W.cell? ⟨q, 1, none⟩ = some (.pointer (some ⟨t, 0, none⟩)) := fun W hb => (Blk.below h hb).cell 1
  have c0 : ∀ W, Below w.heap.size w W → W.cell? ⟨q, 0, none⟩ = some (.pointer (some ⟨p, 0, none⟩)) := fun W hb => (Blk.below h hb).cell 0
  have hg := Tm.get_in w t T hT k hk
  rw [hx] at hg
  have HG : Hid (Calls Tryd.prog 43 #[.pointer (some ⟨t, 0, none⟩), .int .i64 (k : Int)] w fun e w' => e = .returned (.tuple #[.agg #[.int .i64 (f : Int), .bool xw, .bool xs, .bool true, .bool xd], .bool true]) ∧ Below w.heap.size w w') := Lib.hid hg
  have HR := Lib.hid (fun W (hb : Below w.heap.size w W) => refs_in W p b n R B (hF.below hb) f hf)
  have HC := Lib.hid (And.intro c0 c1)
  have d1 := c1 w (Below.refl _ _)
  have hgt : decide (1 < (R f : Int)) = true := decide_eq_true (by omega)
  have hfm : f ≠ m := fun e => by rw [e, hz] at hr; omega
  have Hr := Lib.hid (And.intro hr (And.intro hm (And.intro hz (And.intro hml hfm))))
  have NQT := Lib.hid (fun e : q = t => by obtain ⟨⟨cs, ht, _⟩, _⟩ := hT; exact Blk.ne (show Blk w q _ _ from h) ht (by decide) e)
  have HFP : Hid (p ≠ t ∧ b ≠ t ∧ q ≠ b ∧ q ≠ t) := Lib.hid (by
    obtain ⟨⟨cs, ht, _⟩, _⟩ := hT
    obtain ⟨⟨cap, h1, _⟩, ⟨ds, h3, _⟩, _⟩ := hF
    exact ⟨h1.ne ht (by decide), h3.ne ht (by decide), Blk.ne (show Blk w q _ _ from h) h3 (by decide), Blk.ne (show Blk w q _ _ from h) ht (by decide)⟩)
  clear hg c0 c1 hr hm hz hml hfm
  go_enter Tryd.func41, Tryd.ntmps41
  go_wp2_with (first | (go_at_call 43; (with_reducible refine HG.out.mono ?_); rintro e w1 ⟨rfl, hb1⟩; have HW1 := Lib.hid hb1.size; have HW1 := Lib.hid hb1.size; have HB := Lib.hid (hb1.alloc hb1.size (.cells #[.int .i64 (f : Int), .bool xw, .bool xs, .bool true, .bool xd] 56)); have hx1 := Blk.new w1 #[.int .i64 (f : Int), .bool xw, .bool xs, .bool true, .bool xd] 56; clear hb1))
  have e3 := hx1.cell 3
  have e0 := hx1.cell 0
  have d0 := HC.out.1 _ HB.out
  obtain ⟨W, hW⟩ : ∃ W, w1.alloc (.cells #[.int .i64 (f : Int), .bool xw, .bool xs, .bool true, .bool xd] 56) = W := ⟨_, rfl⟩
  obtain ⟨g, hgz⟩ : ∃ g, w1.heap.size = g := ⟨_, rfl⟩
  rw [hW] at HB hx1 e3 e0 d0 ⊢
  rw [hgz] at hx1 e3 e0 ⊢
  have HX := Lib.hid hx1
  have HW := Lib.hid hgz
  clear hW hgz hx1 hx
  go_quiet ((go_at_call 63; exact Calls.quiet_of_same ((HR.out _ (by first | exact HB.out | exact bel_drewN HB.out _)).mono fun e w' ⟨he, hw⟩ => ⟨he, hw.symm⟩)))
  have HBY := Lib.hid (bel_drewN HB.out nq)
  have hSY : Sp (W.drewN nq) q p t := Sp.below h HBY.out
  have hTY : Tm.Mem (W.drewN nq) t T := hT.below HBY.out
  have hFY : Fm.Mem (W.drewN nq) p b n R B := hF.below HBY.out
  have hxY : Blk (W.drewN nq) g #[.int .i64 (f : Int), .bool xw, .bool xs, .bool true, .bool xd] 56 := HX.out
  generalize W.drewN nq = Y at HBY hSY hTY hFY hxY ⊢
  have hgw : w.heap.size ≤ g := by rw [← HW.out]; exact HW1.out
  clear hgt HG HR HB HC HX HW e3 e0 d0 d1 W
  have HD := Lib.hid (double_ok Y.drew p b n R B (hFY.below (Below.refl _ _).drew) f hf (by rw [Hr.out.1]; omega) m Hr.out.2.1 Hr.out.2.2.1 Hr.out.2.2.2.1)
  have s0 := Blk.cell hSY 0
  have e0 := hxY.cell 0
  have HY := Lib.hid (And.intro hSY (And.intro hTY hxY))
  have ngb : g ≠ b := fun e => by obtain ⟨_, ⟨ds, h3, _⟩, _⟩ := hFY; exact h3.ne hxY (by decide) e.symm
  clear hSY hTY hFY hxY
  go_wp2
  go_region_held (fun W' => W'.cell? ⟨q, 0, none⟩ = some (.pointer (some ⟨p, 0, none⟩)) ∧ W'.cell? ⟨g, 0, none⟩ = some (.int .i64 (f : Int))) (first | exact ⟨s0, e0⟩ | exact K5.out) (first | (go_at_call 66; (with_reducible refine HD.out.mono ?_); rintro e w5 ⟨rfl, hM5, hk5⟩; have hk6 := (Kp.refl (fun j => j = b) Y).drew.trans hk5 (fun _ h => .inl h); have hx5 := HY.out.2.2.kept hk6 ngb; have hs5 := HY.out.1.kept hk6 HFP.out.2.2.1; have K5 := Lib.hid (And.intro (Blk.cell hs5 0) (hx5.cell 0)); have i0 := hx5.cell 0; have s5 := Blk.cell hs5 0; have H5 := Lib.hid (And.intro hM5 (And.intro hk6 (And.intro hs5 (And.intro hx5 (HY.out.2.1.kept hk6 (fun e => HFP.out.2.1 e.symm)))))); clear hx5 hs5 hk5 hM5 hk6))
  go_wp2
  have hrr : up R m 1 f = r + 2 := by rw [up_other _ _ _ _ Hr.out.2.2.2.2, Hr.out.1]
  have HD2 := Lib.hid (Fq.drop_is w5.drew p b n (up R m 1) (up B m (B f)) (H5.out.1.below (Below.refl _ _).drew) f hf (by omega))
  go_region_held (fun W' => W'.cell? ⟨q, 0, none⟩ = some (.pointer (some ⟨p, 0, none⟩)) ∧ W'.cell? ⟨g, 0, none⟩ = some (.int .i64 (f : Int))) (first | exact ⟨s5, i0⟩ | exact K6.out) (first | (go_at_call 67; (with_reducible refine HD2.out.mono ?_); rintro e w6 ⟨⟨du, dv, rfl⟩, hM6, hk6⟩; have hk7 : Kp (fun j => j = b) w5 w6 := (Kp.refl (fun j => j = b) w5).drew.trans hk6 (fun _ h => .inl h); have hx6 := H5.out.2.2.2.1.kept hk7 ngb; have hs6 := H5.out.2.2.1.kept hk7 HFP.out.2.2.1; have K6 := Lib.hid (And.intro (Blk.cell hs6 0) (hx6.cell 0)); have H6 := Lib.hid (And.intro hM6 (And.intro hk7 (And.intro hs6 (And.intro hx6 (H5.out.2.2.2.2.kept hk7 (fun e => HFP.out.2.1 e.symm)))))); clear hx6 hs6 hM6 hk7 hk6))
  have hM7 : Fm.Mem w6 p b n (up (up R m 1) f (r + 1)) (up B m (B f)) := by
    have := H6.out.1
    unfold Fq.drR Fq.drB at this
    rw [if_neg (by omega), hrr] at this
    exact this
  have z0 := H6.out.2.2.2.1.cell 0
  have zf := H6.out.2.2.2.1.free 0
  have npg : ¬ p = g := fun e => by
    obtain ⟨⟨cap, h1, _⟩, _⟩ := H6.out.1
    exact h1.ne H6.out.2.2.2.1 (by decide) e
  have gqs := H6.out.2.2.1.ne H6.out.2.2.2.1 (by decide)
  have hk8 : Kp (fun j => j = g) w6 (w6.setCell ⟨g, 0, none⟩ (.int .i64 (m : Int))) := Kp.set _ _ _ _ rfl
  have hSY : Sp (w6.setCell ⟨g, 0, none⟩ (.int .i64 (m : Int))) q p t := H6.out.2.2.1.other _ _ _ gqs
  have hxY : Blk (w6.setCell ⟨g, 0, none⟩ (.int .i64 (m : Int))) g #[.int .i64 (m : Int), .bool xw, .bool xs, .bool true, .bool xd] 56 := by
    have := H6.out.2.2.2.1.set 0 (.int .i64 (m : Int))
    simpa using this
  have ntg : t ≠ g := fun e => by
    obtain ⟨⟨cs, ht, _⟩, _⟩ := H6.out.2.2.2.2
    exact ht.ne H6.out.2.2.2.1 (by decide) e
  have hTY : Tm.Mem (w6.setCell ⟨g, 0, none⟩ (.int .i64 (m : Int))) t T := H6.out.2.2.2.2.kept hk8 ntg
  obtain ⟨hm256, -⟩ : m < 256 ∧ True := ⟨by have := Hr.out.2.1; omega, trivial⟩
  clear i0 s5 s0 e0
  have s1 := Blk.cell hSY 1
  have e0 := hxY.cell 0
  have e1 := hxY.cell 1
  have e2 := hxY.cell 2
  have e3 := hxY.cell 3
  have e4 := hxY.cell 4
  have y0 := hxY.free 0
  have y3 := hxY.free 3
  have y4 := hxY.free 4
  have nq1 := hSY.ne hxY (by decide)
  have nt1 : t ≠ g := fun e => by obtain ⟨⟨cs, ht, _⟩, _⟩ := hTY; exact ht.ne hxY (by decide) e
  go_wp2
  have hx2 : Blk (((w6.setCell ⟨g, 0, none⟩ (.int .i64 (m : Int))).setCell ⟨g, 3, none⟩ (.bool false)).setCell ⟨g, 4, none⟩ (.bool true)) g #[.int .i64 (m : Int), .bool xw, .bool xs, .bool false, .bool true] 56 := by
    have := (hxY.set 3 (.bool false)).set 4 (.bool true)
    simpa using this
  have hS2 : Sp (((w6.setCell ⟨g, 0, none⟩ (.int .i64 (m : Int))).setCell ⟨g, 3, none⟩ (.bool false)).setCell ⟨g, 4, none⟩ (.bool true)) q p t := (hSY.other _ _ _ nq1).other _ _ _ nq1
  have hk2 : Kp (fun j => j = g) (w6.setCell ⟨g, 0, none⟩ (.int .i64 (m : Int))) (((w6.setCell ⟨g, 0, none⟩ (.int .i64 (m : Int))).setCell ⟨g, 3, none⟩ (.bool false)).setCell ⟨g, 4, none⟩ (.bool true)) := (Kp.set (S := fun j => j = g) (w6.setCell ⟨g, 0, none⟩ (.int .i64 (m : Int))) g 3 _ rfl).trans (Kp.set (S := fun j => j = g) _ g 4 _ rfl) (fun _ h => .inl h)
  have hT2 := hTY.kept hk2 nt1
  clear s1 e0 e1 e2 e3 e4 y0 y3 y4
  generalize ((w6.setCell ⟨g, 0, none⟩ (.int .i64 (m : Int))).setCell ⟨g, 3, none⟩ (.bool false)).setCell ⟨g, 4, none⟩ (.bool true) = Y2 at hx2 hS2 hk2 hT2 ⊢
  have s1 := Blk.cell hS2 1
  have e0 := hx2.cell 0
  have e1 := hx2.cell 1
  have e2 := hx2.cell 2
  have e3 := hx2.cell 3
  have e4 := hx2.cell 4
  have HS := Lib.hid (set_in Y2.drew t T (hT2.drew) k ⟨(m : Int), xw, xs, false, true⟩ hk (by simp [may]; omega))
  have HZ := Lib.hid (And.intro hx2 (And.intro hS2 (And.intro hk2 (And.intro hSY (And.intro hxY hTY)))))
  clear hx2 hS2 hk2 hT2 hSY hxY hTY
  go_region_held (fun W' => W'.cell? ⟨q, 1, none⟩ = some (.pointer (some ⟨t, 0, none⟩)) ∧ W'.cell? ⟨g, 0, none⟩ = some (.int .i64 (m : Int)) ∧ W'.cell? ⟨g, 1, none⟩ = some (.bool xw) ∧ W'.cell? ⟨g, 2, none⟩ = some (.bool xs) ∧ W'.cell? ⟨g, 3, none⟩ = some (.bool false) ∧ W'.cell? ⟨g, 4, none⟩ = some (.bool true)) (first | exact ⟨s1, e0, e1, e2, e3, e4⟩ | exact K5.out) (first | (go_at_call 35; (with_reducible refine HS.out.mono ?_); rintro e w5 ⟨rfl, hk5, hT5⟩; have hx5 := HZ.out.1.kept (Kp.trans (Kp.refl (fun j => j = t) Y2).drew hk5 (fun _ h => .inl h)) (fun e => nt1 e.symm); have hs5 := HZ.out.2.1.kept (Kp.trans (Kp.refl (fun j => j = t) Y2).drew hk5 (fun _ h => .inl h)) (fun e => NQT.out e); have K5 := Lib.hid (And.intro (Blk.cell hs5 1) (And.intro (hx5.cell 0) (And.intro (hx5.cell 1) (And.intro (hx5.cell 2) (And.intro (hx5.cell 3) (hx5.cell 4)))))); have i0 := hx5.cell 0; have HT5 := Lib.hid (And.intro hk5 hT5); clear hx5 hs5 hk5 hT5))
  go_wp2
  go_ret
  exact ⟨rfl, ((((((Kp.of_below HBY.out).trans (S' := fun j => j = b) (S := fun j => j = b ∨ j = t) H5.out.2.1 (fun j hj => .inl (.inl hj))).trans H6.out.2.1 (fun j hj => .inl (.inl hj))).trans hk8 (fun j hj => .inr (by omega))).trans (S' := fun j => j = g) HZ.out.2.2.1 (fun j hj => .inr (by omega))).trans (Kp.refl (fun j => j = t) Y2).drew (fun j hj => .inl (.inr hj))).trans HT5.out.1 (fun j hj => .inl (.inr hj)), (((hM7.kept hk8 npg ngb.symm).kept HZ.out.2.2.1 npg ngb.symm).kept ((Kp.refl (fun j => j = t) Y2).drew.trans HT5.out.1 (fun _ h => .inl h)) HFP.out.1 HFP.out.2.1), HT5.out.2⟩
end Go.Proofs.YtjoapeeljigjcaaDoor.To
