/-
  New, Page, Unmap; Read and Write that are refused; a byte set and told.
-/
import Derived.Test.YtjoapeeljigjcaaDoorNe
import Derived.Test.YtjoapeeljigjcaaDoorRe
import Derived.Test.YtjoapeeljigjcaaDoorWr
import Derived.Test.YtjoapeeljigjcaaDoorMq
namespace Go.Proofs.YtjoapeeljigjcaaDoor.Nw
open Go Go.RowKit Go.Shelf Kit Bk
open Fm hiding Mem made_any len_any
open Fo Fr Fw Fx Fu Fq
open Tm hiding Mem
open Ts Tc Ti Sp Sa Pz Ro To My Pv Wr Mp
set_option linter.unusedVariables false

theorem new_nil (w : World) : Calls Tryd.prog 16 #[.pointer none] w fun e w' => e = .returned (.pointer none) ∧ w = w' := by
  go_enter Tryd.func16, Tryd.ntmps16
  go_wp2
  go_ret
  exact ⟨rfl, rfl⟩
theorem new_any (w : World) (p : Nat) : Calls Tryd.prog 16 #[.pointer (some ⟨p, 0, none⟩)] w fun e w' => e = .returned (.pointer (some ⟨w.heap.size + 1, 0, none⟩)) ∧ Below w.heap.size w w' ∧ Sp w' (w.heap.size + 1) p w.heap.size ∧ Tm.Mem w' w.heap.size (fun _ => none) := by
  have hz := run_zeroT
  have hM := Tm.Mem.kept (Mem.zero w) (Kp.alloc (fun _ => False) (w.alloc (.cells zT 78)) (.cells #[.pointer (some ⟨p, 0, none⟩), .pointer (some ⟨w.heap.size, 0, none⟩)] 80)) (fun e => e)
  have hS : Sp ((w.alloc (.cells zT 78)).alloc (.cells #[.pointer (some ⟨p, 0, none⟩), .pointer (some ⟨w.heap.size, 0, none⟩)] 80)) (w.heap.size + 1) p w.heap.size := by
    have := Blk.new (w.alloc (.cells zT 78)) #[.pointer (some ⟨p, 0, none⟩), .pointer (some ⟨w.heap.size, 0, none⟩)] 80
    rw [World.size_alloc] at this
    exact this
  have hB : Below w.heap.size w ((w.alloc (.cells zT 78)).alloc (.cells #[.pointer (some ⟨p, 0, none⟩), .pointer (some ⟨w.heap.size, 0, none⟩)] 80)) := ((Below.refl _ _).alloc (Nat.le_refl _) _).alloc (by simp) _
  have H := Lib.hid (And.intro hB (And.intro hS hM))
  clear hB hS hM
  generalize zT = Z at *
  go_enter Tryd.func16, Tryd.ntmps16
  go_wp2
  go_ret
  exact ⟨rfl, H.out⟩

/-- A page's bytes. -/
theorem page_some (w : World) (q p t b n : Nat) (T : Nat → Option En) (R : Nat → Nat) (B : Nat → Nat → Nat) (h : Sp w q p t) (hF : Fm.Mem w p b n R B) (hT : Tm.Mem w t T) (k : Nat) (x : En) (hx : T k = some x) (f : Nat) (hf : x.f = (f : Int)) (hfn : f < n) (hr : R f ≠ 0) :
    Calls Tryd.prog 26 #[.pointer (some ⟨q, 0, none⟩), .int .i64 (k : Int)] w fun e w' => Below w.heap.size w w' ∧ ∃ r, e = .returned r ∧ w'.ownsRow w.heap.size 5 1 r 64 (u8f (B f) 64) := by
  have HE := Lib.hid (entries_any w q p t h)
  have hg := My.get_at w t T hT k
  rw [hx] at hg
  obtain ⟨xf, xw, xs, xc, xd⟩ := x
  dsimp only at hf
  subst hf
  have HG : Hid (Calls Tryd.prog 43 #[.pointer (some ⟨t, 0, none⟩), .int .i64 (k : Int)] w fun e w' => e = .returned (.tuple #[.agg #[.int .i64 (f : Int), .bool xw, .bool xs, .bool xc, .bool xd], .bool true]) ∧ Below w.heap.size w w') := Lib.hid hg
  have HR := Lib.hid (fun W (hb : Below w.heap.size w W) => read_ok W p b n R B (hF.below hb) f hfn hr 0 64 (by omega))
  have HC := Lib.hid (fun W (hb : Below w.heap.size w W) => Blk.cell (Sp.below h hb) 0)
  clear hg hF hT hx h
  go_enter Tryd.func26, Tryd.ntmps26
  go_wp2_with (first | (go_at_call 47; (with_reducible refine HE.out.mono ?_); rintro e w1 ⟨rfl, rfl⟩) | (go_at_call 43; (with_reducible refine HG.out.mono ?_); rintro e w2 ⟨rfl, hb2⟩; have HB := Lib.hid (hb2.alloc hb2.size (.cells #[.int .i64 (f : Int), .bool xw, .bool xs, .bool xc, .bool xd] 56)); have hx2 := Blk.new w2 #[.int .i64 (f : Int), .bool xw, .bool xs, .bool xc, .bool xd] 56; clear hb2))
  have c0 := HC.out _ HB.out
  have e0 := hx2.cell 0
  obtain ⟨g, hg⟩ : ∃ g, w2.heap.size = g := ⟨_, rfl⟩
  obtain ⟨W, hW⟩ : ∃ W, w2.alloc (.cells #[.int .i64 (f : Int), .bool xw, .bool xs, .bool xc, .bool xd] 56) = W := ⟨_, rfl⟩
  rw [hW] at HB hx2 c0 e0 ⊢
  rw [hg] at hx2 e0 ⊢
  have HX := Lib.hid hx2
  have HRD : Hid (Calls Tryd.prog 44 #[.pointer (some ⟨p, 0, none⟩), .int .i64 (f : Int), .int .i64 0, .int .i64 64] W.drew fun e w' => Below W.drew.heap.size W.drew w' ∧ ∃ r, e = .returned (.tuple #[r, .int .i64 0]) ∧ w'.ownsRow W.drew.heap.size 5 1 r 64 (u8f (fun i => B f (0 + i)) 64)) := Lib.hid (HR.out W.drew (HB.out.drew))
  clear hW hg hx2
  go_region_held (fun W' => W'.cell? ⟨q, 0, none⟩ = some (.pointer (some ⟨p, 0, none⟩)) ∧ W'.cell? ⟨g, 0, none⟩ = some (.int .i64 (f : Int))) (first | exact ⟨c0, e0⟩ | exact K5.out) (first | (go_at_call 44; (with_reducible refine HRD.out.mono ?_); rintro e w5 ⟨hb5, r5, rfl, ho5⟩; have hb6 : Below W.heap.size W w5 := (Below.refl _ _).drew.trans (hb5.mono (Nat.le_refl _)); have K5 := Lib.hid (And.intro (HC.out _ (HB.out.trans (hb6.mono HB.out.size))) ((HX.out.below hb6).cell 0)); have H5 := Lib.hid (And.intro hb6 ho5); clear hb5 ho5 hb6))
  go_wp2
  go_ret
  have h5 := H5.out.2
  simp only [Nat.zero_add] at h5
  exact ⟨HB.out.trans (H5.out.1.mono HB.out.size), r5, rfl, own_base (show w5.ownsRow W.heap.size 5 1 r5 64 (u8f (B f) 64) from h5) HB.out.size⟩
theorem page_none (w : World) (q p t : Nat) (T : Nat → Option En) (h : Sp w q p t) (hT : Tm.Mem w t T) (k : Nat) (hx : T k = none) :
    Calls Tryd.prog 26 #[.pointer (some ⟨q, 0, none⟩), .int .i64 (k : Int)] w fun e w' => Below w.heap.size w w' ∧ e = .returned (.slice none 0 0) := by
  have HE := Lib.hid (entries_any w q p t h)
  have hg := My.get_at w t T hT k
  rw [hx] at hg
  have HG : Hid (Calls Tryd.prog 43 #[.pointer (some ⟨t, 0, none⟩), .int .i64 (k : Int)] w fun e w' => e = .returned (.tuple #[.agg #[.int .i64 0, .bool false, .bool false, .bool false, .bool false], .bool false]) ∧ Below w.heap.size w w') := Lib.hid hg
  clear hg hT hx h
  go_enter Tryd.func26, Tryd.ntmps26
  go_wp2_with (first | (go_at_call 47; (with_reducible refine HE.out.mono ?_); rintro e w1 ⟨rfl, rfl⟩) | (go_at_call 43; (with_reducible refine HG.out.mono ?_); rintro e w2 ⟨rfl, hb2⟩; have HB := Lib.hid (hb2.alloc hb2.size (.cells #[.int .i64 0, .bool false, .bool false, .bool false, .bool false] 56)); clear hb2))
  go_ret
  exact ⟨HB.out, rfl⟩

/-- Refused. -/
theorem read_no (w : World) (q p t : Nat) (T : Nat → Option En) (h : Sp w q p t) (hT : Tm.Mem w t T) (a m : Nat) (N : Int) (hN : N = (m : Int) ∨ (N ≤ 0 ∧ m = 0)) (hm : m < 9223372036854775808) (ha : a < 4294967296) (hno : (mayB T a m false && decide (0 ≤ N)) = false) :
    Calls Tryd.prog 21 #[.pointer (some ⟨q, 0, none⟩), .int .u32 (a : Int), .int .i64 N] w fun e w' => e = .returned (.tuple #[.slice none 0 0, .int .i64 14]) ∧ Below w.heap.size w w' := by
  have hb1 := (Below.refl w.heap.size w).alloc (Nat.le_refl _) (.cells #[.pointer (some ⟨q, 0, none⟩)] 22)
  have hmy := may_any _ q p t T (Sp.below h hb1) (hT.below hb1) a m N false hN hm ha
  rw [hno] at hmy
  have HMY := Lib.hid hmy
  have HB1 := Lib.hid hb1
  clear hmy hb1 h hT hN hm ha hno
  go_enter Tryd.func21, Tryd.ntmps21
  go_wp2_with (first | (go_at_call 37; (with_reducible refine HMY.out.mono ?_); rintro e w1 ⟨rfl, hb1⟩; have HB2 := Lib.hid (HB1.out.trans (hb1.mono HB1.out.size)); clear hb1))
  go_ret2
  exact ⟨rfl, HB2.out⟩
theorem read_nil (w : World) (a N : Int) :
    Calls Tryd.prog 21 #[.pointer none, .int .u32 a, .int .i64 N] w fun e w' => e = .returned (.tuple #[.slice none 0 0, .int .i64 14]) ∧ Below w.heap.size w w' := by
  have hb1 := (Below.refl w.heap.size w).alloc (Nat.le_refl _) (.cells #[.pointer none] 22)
  have HMY := Lib.hid (may_nil (w.alloc (.cells #[.pointer none] 22)) a N false)
  have HB1 := Lib.hid hb1
  clear hb1
  go_enter Tryd.func21, Tryd.ntmps21
  go_wp2_with (first | (go_at_call 37; (with_reducible refine HMY.out.mono ?_); rintro e w1 ⟨rfl, hb1⟩; have HB2 := Lib.hid (HB1.out.trans (hb1.mono HB1.out.size)); clear hb1))
  go_ret2
  exact ⟨rfl, HB2.out⟩
theorem write_no (w : World) (q p t : Nat) (T : Nat → Option En) (h : Sp w q p t) (hT : Tm.Mem w t T) (a : Nat) (av : Option Addr) (m cap : Nat) (hm : m ≤ 1000000) (ha : a < 4294967296) (hno : mayB T a m true = false) :
    Calls Tryd.prog 19 #[.pointer (some ⟨q, 0, none⟩), .int .u32 (a : Int), .slice av m cap] w fun e w' => e = .returned (.int .i64 14) ∧ Below w.heap.size w w' := by
  have hb1 := ((Below.refl w.heap.size w).alloc (Nat.le_refl _) (.cells #[.pointer (some ⟨q, 0, none⟩)] 22)).alloc (by simp) (.cells #[.slice av m cap] 37)
  have hmy := may_any _ q p t T (Sp.below h hb1) (hT.below hb1) a m (m : Int) true (.inl rfl) (by omega) ha
  rw [hno] at hmy
  have HMY := Lib.hid hmy
  have HB1 := Lib.hid hb1
  clear hmy hb1 h hT ha hno
  go_enter Tryd.func19, Tryd.ntmps19
  go_wp2_with (first | (go_at_call 37; (with_reducible refine HMY.out.mono ?_); rintro e w1 ⟨rfl, hb1⟩; have HB2 := Lib.hid (HB1.out.trans (hb1.mono HB1.out.size)); clear hb1))
  go_ret
  exact ⟨rfl, HB2.out⟩
set_option maxRecDepth 100000 in
set_option maxHeartbeats 2000000 in
theorem write_full (w : World) (q p t b nf : Nat) (T : Nat → Option En) (R : Nat → Nat) (B : Nat → Nat → Nat) (h : Sp w q p t) (hF : Fm.Mem w p b nf R B) (hT : Tm.Mem w t T) (hfit : Fit nf R T) (a : Nat) (av : Option Addr) (m cap : Nat) (hm : m ≤ 1000000) (ha : a < 4294967296) (hM : mayB T a m true = true) (hR : fre nf R < nd R T a 0 (cn a m)) :
    Calls Tryd.prog 19 #[.pointer (some ⟨q, 0, none⟩), .int .u32 (a : Int), .slice av m cap] w fun e w' => e = .returned (.int .i64 12) ∧ Below w.heap.size w w' := by
  have hb1 := ((Below.refl w.heap.size w).alloc (Nat.le_refl _) (.cells #[.pointer (some ⟨q, 0, none⟩)] 22)).alloc (by simp) (.cells #[.slice av m cap] 37)
  have b1 : Blk ((w.alloc (.cells #[.pointer (some ⟨q, 0, none⟩)] 22)).alloc (.cells #[.slice av m cap] 37)) w.heap.size #[.pointer (some ⟨q, 0, none⟩)] 22 := (Boxed.new w 22 (.pointer (some ⟨q, 0, none⟩))).alloc (.cells #[.slice av m cap] 37)
  have b2 : Blk ((w.alloc (.cells #[.pointer (some ⟨q, 0, none⟩)] 22)).alloc (.cells #[.slice av m cap] 37)) _ #[.slice av m cap] 37 := Boxed.new (w.alloc (.cells #[.pointer (some ⟨q, 0, none⟩)] 22)) 37 (.slice av m cap)
  simp only [World.size_alloc] at b2
  have hmy := may_any _ q p t T (Sp.below h hb1) (hT.below hb1) a m (m : Int) true (.inl rfl) (by omega) ha
  rw [hM, decide_eq_true (by omega : (0 : Int) ≤ (m : Int))] at hmy
  have HMY := Lib.hid hmy
  have hss : ∀ j, j < cn a m → (T (a / 64 + j)).isSome = true := fun j hj => by
    have := mayB_iff.1 hM j hj
    cases hx : T (a / 64 + j) with
    | none => rw [hx] at this; cases this
    | some x => rfl
  have HND := Lib.hid (fun W (hb : Below w.heap.size w W) => Ne.needs_any W q p t b nf T R B (Sp.below h hb) (hF.below hb) (hT.below hb) hfit a m hm ha hss)
  have HFR := Lib.hid (fun W (hb : Below w.heap.size w W) => free_is W p b nf R B (hF.below hb))
  have HQ := Lib.hid (fun W (hb : Below w.heap.size w W) => Blk.cell (Sp.below h hb) 0)
  have HB1 := Lib.hid hb1
  have hd : decide ((fre nf R : Int) < (nd R T a 0 (cn a m) : Int)) = true := decide_eq_true (by omega)
  have hd2 : decide (fre nf R < nd R T a 0 (cn a m)) = true := decide_eq_true hR
  clear hmy hb1 h hT ha hM hR hF hfit hss
  go_enter Tryd.func19, Tryd.ntmps19
  go_wp2_with (first | (go_at_call 37; (with_reducible refine HMY.out.mono ?_); rintro e w1 ⟨rfl, hb1⟩; have HB2 := Lib.hid (HB1.out.trans (hb1.mono HB1.out.size)); have b13 := b1.below hb1; have b23 := b2.below hb1; clear hb1))
  have HK : Hid (∀ W, Below w1.heap.size w1 W → W.cell? ⟨w.heap.size, 0, none⟩ = some (.pointer (some ⟨q, 0, none⟩)) ∧ W.cell? ⟨w.heap.size + 1, 0, none⟩ = some (.slice av m cap) ∧ W.cell? ⟨q, 0, none⟩ = some (.pointer (some ⟨p, 0, none⟩))) := Lib.hid fun W hb => ⟨(b13.below hb).cell 0, (b23.below hb).cell 0, HQ.out _ (HB2.out.trans (hb.mono HB2.out.size))⟩
  have B0 : Hid (Below w1.heap.size w1 w1.drew) := Lib.hid (Below.refl _ _).drew
  go_region_held (fun W => W.cell? ⟨w.heap.size, 0, none⟩ = some (.pointer (some ⟨q, 0, none⟩)) ∧ W.cell? ⟨w.heap.size + 1, 0, none⟩ = some (.slice av m cap) ∧ W.cell? ⟨q, 0, none⟩ = some (.pointer (some ⟨p, 0, none⟩))) (first | exact HK.out _ C2.out | exact HK.out _ C1.out | exact HK.out _ B0.out)
    (first
      | (go_at_call 38; (with_reducible refine (HND.out _ (HB2.out.trans (B0.out.mono HB2.out.size))).mono ?_); rintro e c1 ⟨rfl, hc1⟩; have C1 := Lib.hid (B0.out.trans (hc1.mono B0.out.size)); clear hc1)
      | (go_at_call 33; (with_reducible refine (HFR.out _ (HB2.out.trans (C1.out.mono HB2.out.size))).mono ?_); rintro e c2 ⟨rfl, hc2⟩; have C2 := Lib.hid (C1.out.trans (hc2.mono C1.out.size)); clear hc2))
  go_wp2
  go_ret
  exact ⟨rfl, HB2.out.trans (C2.out.mono HB2.out.size)⟩
theorem write_ok (w : World) (q p t b nf : Nat) (T : Nat → Option En) (R : Nat → Nat) (B : Nat → Nat → Nat) (h : Sp w q p t) (hF : Fm.Mem w p b nf R B) (hT : Tm.Mem w t T) (hfit : Fit nf R T)
    (a : Nat) (ha : a < 4294967296) (v : Value) (xs : List Nat) (hv : Src (fun j => j = b ∨ j = t) w v xs) (h8 : ∀ x ∈ xs, x < 256) (hbt : xs.length ≤ 1000000) (hM : mayB T a xs.length true = true) (hR : nd R T a 0 (cn a xs.length) ≤ fre nf R) :
    Calls Tryd.prog 19 #[.pointer (some ⟨q, 0, none⟩), .int .u32 (a : Int), v] w fun e w' => e = .returned (.int .i64 0) ∧ Kp (fun j => j = b ∨ j = t) w w' ∧
      Fm.Mem w' p b nf (sts nf ⟨R, B, T⟩ a xs.length xs (cn a xs.length)).R (sts nf ⟨R, B, T⟩ a xs.length xs (cn a xs.length)).B ∧ Tm.Mem w' t (sts nf ⟨R, B, T⟩ a xs.length xs (cn a xs.length)).T := by
  refine (callsIn_wide (n := 6)).1 (write_in 6 (Nat.le_refl _) w q p t b nf T R B h hF hT hfit a ha v xs hv h8 hbt (fun hMM W hb => ?_) hM hR)
  refine Ne.needs_any W q p t b nf T R B (Sp.below h hb) (hF.below hb) (hT.below hb) hfit a _ hbt ha (fun j hj => ?_)
  have := mayB_iff.1 hMM j hj
  cases hx : T (a / 64 + j) with
  | none => rw [hx] at this; cases this
  | some x => rfl
end Go.Proofs.YtjoapeeljigjcaaDoor.Nw
