/-
  Unmapping, mapping, dropping: page by page.
-/
import Derived.Test.YtclpokkjbkbkgaaTo
namespace Go.Proofs.Ytclpokkjbkbkgaa.Mp
open Go Go.RowKit Go.Shelf Kit Bk
open Fm hiding Mem made_any len_any
open Fo Fr Fw Fx Fu Fq
open Tm hiding Mem
open Ts Tc Ti Sp Sa To
set_option linter.unusedVariables false

theorem apart {w : World} {q p t b n : Nat} {T : Nat → Option En} {R : Nat → Nat} {B : Nat → Nat → Nat} (h : Sp w q p t) (hF : Fm.Mem w p b n R B) (hT : Tm.Mem w t T) : p ≠ b ∧ p ≠ t ∧ q ≠ b ∧ q ≠ t ∧ b ≠ t := by
  obtain ⟨⟨cs, ht, _⟩, _⟩ := hT
  obtain ⟨⟨cap, h1, _⟩, ⟨ds, h3, _⟩, _⟩ := hF
  exact ⟨h1.ne h3 (by decide), h1.ne ht (by decide), Blk.ne (show Blk w q _ _ from h) h3 (by decide), Blk.ne (show Blk w q _ _ from h) ht (by decide), h3.ne ht (by decide)⟩

/-- Frames and a table behind i pages unmapped from page k on. -/
structure Sx where
  R : Nat → Nat
  B : Nat → Nat → Nat
  T : Nat → Option En
def un1 (s : Sx) (k : Nat) : Sx := match s.T k with
  | none => s
  | some x => ⟨drR s.R x.f.toNat, drB s.R s.B x.f.toNat, up s.T k none⟩
def uns (s : Sx) (k : Nat) : Nat → Sx
  | 0 => s
  | i + 1 => un1 (uns s k i) (k + i)
/-- What is asked of them on the way: the i-th page is mapped, and its frame taken. -/
def unOk (n : Nat) (s : Sx) (k m : Nat) : Prop := ∀ i, i < m → ∃ x f, (uns s k i).T (k + i) = some x ∧ x.f = ((f : Nat) : Int) ∧ f < n ∧ (uns s k i).R f ≠ 0

set_option maxRecDepth 100000 in
set_option maxHeartbeats 2000000 in
theorem unmap_is (w : World) (q p t b n : Nat) (s : Sx) (h : Sp w q p t) (hF : Fm.Mem w p b n s.R s.B) (hT : Tm.Mem w t s.T) (k m : Nat) (hk : k + m ≤ 64) (hok : unOk n s k m) :
    Calls Try.prog 32 #[.pointer (some ⟨q, 0, none⟩), .int .i64 (k : Int), .int .i64 (m : Int)] w fun e w' => (∃ v, e = .returned v) ∧ Fm.Mem w' p b n (uns s k m).R (uns s k m).B ∧ Tm.Mem w' t (uns s k m).T ∧ Kp (fun j => j = b ∨ j = t) w w' := by
  have HNE := Lib.hid (apart h hF hT)
  have hbl := hF.lt.2
  have htl := hT.lt
  have hql : q < w.heap.size := Blk.lt h
  go_enter Try.func32, Try.ntmps32
  go_wp2
  go_loopw [10] (fun i wr => ∃ j : Nat, j ≤ m ∧ i = .int .i64 (j : Int) ∧ Fm.Mem wr p b n (uns s k j).R (uns s k j).B ∧ Tm.Mem wr t (uns s k j).T ∧ Kp (fun j => j = b ∨ j = t) w wr) (fun i _ => m - (intOf i).toNat)
  case atStart => exact ⟨0, Nat.zero_le _, rfl, hF, hT, Kp.refl _ _⟩
  case round =>
    obtain ⟨j, hj, rfl, hFr, hTr, hkp⟩ := hrel
    by_cases hlt : j < m
    · obtain ⟨⟨xf, xw, xs, xc, xd⟩, f, hx, hf1, hf2, hf3⟩ := hok j hlt
      dsimp only at hf1
      subst hf1
      have hsp := Sp.kept h hkp (fun e => e.elim HNE.out.2.2.1 HNE.out.2.2.2.1)
      have hcl := clear_some wr t _ hTr (k + j) (by omega) _ hx
      rw [show ((k + j : Nat) : Int) = (k : Int) + (j : Int) by omega] at hcl
      have HCL : Hid (Calls Try.prog 51 #[.pointer (some ⟨t, 0, none⟩), .int .i64 ((k : Int) + (j : Int))] wr fun e w' => e = .returned (.tuple #[.agg #[.int .i64 (f : Int), .bool xw, .bool xs, .bool xc, .bool xd], .bool true]) ∧ Kp (fun j => j = t) wr w' ∧ Tm.Mem w' t (up (uns s k j).T (k + j) none)) := Lib.hid hcl
      have hst : uns s k (j + 1) = ⟨drR (uns s k j).R f, drB (uns s k j).R (uns s k j).B f, up (uns s k j).T (k + j) none⟩ := by
        show un1 _ _ = _
        unfold un1
        rw [hx]
        rfl
      obtain ⟨s', hs'⟩ : ∃ s', uns s k (j + 1) = s' := ⟨_, rfl⟩
      rw [hs'] at hst
      obtain ⟨s0, hs0⟩ : ∃ s0, uns s k j = s0 := ⟨_, rfl⟩
      rw [hs0] at hFr hTr hst hf3 HCL
      have HS := Lib.hid (And.intro hs' hst)
      have c1 := Blk.cell hsp 1
      have hjm : (j : Int) < (m : Int) := by omega
      have hk1 : (k : Int) + (j : Int) < 64 := by omega
      have H0 := Lib.hid (And.intro hsp (And.intro hFr hkp))
      clear hcl hx hs' hst hs0 hsp hFr hTr hkp hok
      go_wp2_with (first | (go_at_call 51; (with_reducible refine HCL.out.mono ?_); rintro e w5 ⟨rfl, hk5, hT5⟩; have hx5 := Blk.new w5 #[.int .i64 (f : Int), .bool xw, .bool xs, .bool xc, .bool xd] 47; have H5 := Lib.hid (And.intro hk5 hT5); clear hk5 hT5))
      have hk6 : Kp (fun j => j = t) wr (w5.alloc (.cells #[.int .i64 (f : Int), .bool xw, .bool xs, .bool xc, .bool xd] 47)) := H5.out.1.trans (Kp.alloc (fun _ => False) _ _) (fun _ e => e.elim)
      have hT6 := H5.out.2.kept (Kp.alloc (fun _ => False) w5 (.cells #[.int .i64 (f : Int), .bool xw, .bool xs, .bool xc, .bool xd] 47)) (fun e => e)
      have hsz := H5.out.1.size
      obtain ⟨g, hg⟩ : ∃ g, w5.heap.size = g := ⟨_, rfl⟩
      rw [hg] at hx5 hsz ⊢
      generalize w5.alloc (.cells #[.int .i64 (f : Int), .bool xw, .bool xs, .bool xc, .bool xd] 47) = W at hk6 hT6 hx5 ⊢
      clear hg H5 w5
      have hF6 := H0.out.2.1.kept hk6 HNE.out.2.1 HNE.out.2.2.2.2
      have hS6 := Sp.kept H0.out.1 hk6 HNE.out.2.2.2.1
      have d0 := Blk.cell hS6 0
      have x0 := hx5.cell 0
      have HD := Lib.hid (drop_is W.drew p b n s0.R s0.B (hF6.below (Below.refl _ _).drew) f hf2 hf3)
      have ngb : g ≠ b := fun e => by obtain ⟨_, ⟨ds, h3, _⟩, _⟩ := hF6; exact h3.ne hx5 (by decide) e.symm
      have HZ := Lib.hid (And.intro hk6 (And.intro hT6 (And.intro hx5 (And.intro hS6 ngb))))
      clear hk6 hT6 hx5 hF6 hS6 ngb
      go_region_held (fun W' => W'.cell? ⟨q, 0, none⟩ = some (.pointer (some ⟨p, 0, none⟩)) ∧ W'.cell? ⟨g, 0, none⟩ = some (.int .i64 (f : Int))) (first | exact ⟨d0, x0⟩ | exact K7.out) (first | (go_at_call 52; (with_reducible refine HD.out.mono ?_); rintro e w7 ⟨⟨du, dv, rfl⟩, hF7, hk7⟩; have hk8 : Kp (fun j => j = b) W w7 := (Kp.refl (fun j => j = b) W).drew.trans hk7 (fun _ h => .inl h); have K7 := Lib.hid (And.intro (Blk.cell (Sp.kept HZ.out.2.2.2.1 hk8 HNE.out.2.2.1) 0) ((HZ.out.2.2.1.kept hk8 HZ.out.2.2.2.2).cell 0)); have H7 := Lib.hid (And.intro hF7 hk8); clear hF7 hk7 hk8))
      go_wp2
      go_roundw
      case rel => exact ⟨j + 1, by omega, by go_num, by rw [HS.out.1, HS.out.2]; exact H7.out.1, by rw [HS.out.1, HS.out.2]; exact HZ.out.2.1.kept H7.out.2 HNE.out.2.2.2.2.symm, (H0.out.2.2.trans HZ.out.1 (fun j hj => .inl (.inr hj))).trans H7.out.2 (fun j hj => .inl (.inl hj))⟩
      case measure => simp [intOf]; omega
    · obtain rfl : j = m := by omega
      have HO := Lib.hid (And.intro hFr (And.intro hTr hkp))
      clear hFr hTr hkp hok
      go_wp2
      go_end0
      exact ⟨⟨_, rfl⟩, HO.out⟩
end Go.Proofs.Ytclpokkjbkbkgaa.Mp
