/-
  Free frames' bytes are noughts, whatever is mapped and written (towards SpaceMaps): One, a space with what it keeps.
-/
import Derived.Test.YtclpokkjbkbkgaaUn
namespace Go.Proofs.Ytclpokkjbkbkgaa.Zf
open Go Go.RowKit Go.Shelf Kit Bk
open Fm hiding Mem made_any len_any
open Fo Fr Fw Fx Fu Fq
open Tm hiding Mem
open Ts Tc Ti Sp Sa Pz To My Pv Mp Mq Dr Cl Iv Iw Ix Wr Sy Al Pg So Oq Sn Tg Un
set_option linter.unusedVariables false

def Zr (R : Nat → Nat) (B : Nat → Nat → Nat) : Prop := ∀ f, R f = 0 → ∀ j, B f j = 0
theorem zr_maps {n : Nat} {R : Nat → Nat} {B : Nat → Nat → Nat} {T : Tab} (h : Zr R B) (k : Nat) (wb sh : Bool) : ∀ m, Zr (maps n ⟨R, B, T⟩ k wb sh m).R B
  | 0 => h
  | m + 1 => fun f hf j => by
    have hf' : up (maps n ⟨R, B, T⟩ k wb sh m).R (lf n (maps n ⟨R, B, T⟩ k wb sh m).R) 1 f = 0 := hf
    by_cases e : f = lf n (maps n ⟨R, B, T⟩ k wb sh m).R
    · rw [e, up_same] at hf'
      cases hf'
    · rw [up_other _ _ _ _ e] at hf'
      exact zr_maps h k wb sh m f hf' j
theorem zr_st1 {n : Nat} {s : St} (h : Zr s.R s.B) {k : Nat} (off : Nat) (ys : List Nat) (hu : ∀ x, s.T k = some x → s.R x.f.toNat ≠ 0) : Zr (st1 n s k off ys).R (st1 n s k off ys).B := by
  unfold st1
  cases hx : s.T k with
  | none => exact h
  | some x =>
    have hr := hu x hx
    intro f hf j
    show up (twB n s.R s.B x) (twF n s.R x) _ f j = 0
    replace hf : twR n s.R x f = 0 := hf
    unfold twR at hf
    unfold twB twF
    by_cases hd : dbl s.R x = true
    · rw [if_pos hd] at hf
      rw [if_pos hd, if_pos hd]
      have h1 : 1 < s.R x.f.toNat := by
        unfold dbl at hd
        simp only [Bool.and_eq_true, decide_eq_true_eq] at hd
        exact hd.2
      by_cases e1 : f = x.f.toNat
      · rw [e1, up_same] at hf; omega
      rw [up_other _ _ _ _ e1] at hf
      by_cases e2 : f = lf n s.R
      · rw [e2, up_same] at hf; cases hf
      rw [up_other _ _ _ _ e2] at hf
      rw [up_other _ _ _ _ e2, up_other _ _ _ _ e2]
      exact h f hf j
    · rw [if_neg hd] at hf
      rw [if_neg hd, if_neg hd]
      have e1 : f ≠ x.f.toNat := fun e => hr (e ▸ hf)
      rw [up_other _ _ _ _ e1]
      exact h f hf j
theorem zr_sts {n : Nat} {s : St} {Ls : List Tab} (h : Inv n s.R Ls) {i : Nat} (hi : i < Ls.length) (hT : Ls[i] = s.T) (a m : Nat) (xs : List Nat) (hM : mayB s.T a m true = true) (hR : nd s.R s.T a 0 (cn a m) ≤ fre n s.R) (hz : Zr s.R s.B) :
    ∀ c, c ≤ cn a m → Zr (sts n s a m xs c).R (sts n s a m xs c).B
  | 0, _ => hz
  | c + 1, hc => by
    have ih := zr_sts h hi hT a m xs hM hR hz c (by omega)
    obtain ⟨_, h2, _⟩ := sts_inv h hi hT a m xs hM hR c (by omega)
    refine zr_st1 ih _ _ fun x hx => ?_
    have hi' : i < (Ls.set i (sts n s a m xs c).T).length := by rw [List.length_set]; exact hi
    have hx' : (Ls.set i (sts n s a m xs c).T)[i] (a / 64 + c) = some x := by rw [get_set]; exact hx
    obtain ⟨_, f0, e1, _⟩ := h2.rng i hi' _ x hx'
    have := h2.used hi' hx' e1
    rw [show x.f.toNat = f0 by omega]
    exact this

/-- One space, with free frames of noughts. -/
def One (W : World) (p b n q t : Nat) (R : Nat → Nat) (B : Nat → Nat → Nat) (T : Tab) : Prop := Sy.Sys W p b n R B (fun _ => q) (fun _ => t) [T] ∧ Zr R B
def On1 (W : World) (p b n q t : Nat) : Prop := ∃ R B T, One W p b n q t R B T
theorem On1.below {w w' : World} {p b n q t : Nat} (h : On1 w p b n q t) (hb : Below w.heap.size w w') : On1 w' p b n q t := by
  obtain ⟨R, B, T, h1, h2⟩ := h
  exact ⟨R, B, T, h1.below hb, h2⟩
variable {N : Nat} {w w' : World} {p b n q t : Nat}
theorem zMap (h : On1 w p b n q t) (hN : N ≤ w.heap.size) (hb : N ≤ b) (ht : N ≤ t) (page k : Int) (hp : (Lit.int .i64 page).wf = true) (hk : (Lit.int .i64 k).wf = true) (wb sh : Bool) :
    Calls Try.prog 11 #[.pointer (some ⟨q, 0, none⟩), .int .i64 page, .int .i64 k, .bool wb, .bool sh] w fun e w' => (∃ v, e = .returned v) ∧ On1 w' p b n q t ∧ Below N w w' := by
  obtain ⟨R, B, T, h1, h2⟩ := h
  refine (sMap h1 (i := 0) (by decide : 0 < 1) page k hp hk wb sh).mono ?_
  rintro e w' ⟨code, R', T', rfl, hkp, hS, hc⟩
  refine ⟨⟨_, rfl⟩, ⟨R', B, T', hS, ?_⟩, below_of hkp hN (fun j hj => by rcases hj with rfl | rfl <;> assumption)⟩
  rcases hc with ⟨_, a, m, _, _, _, _, _, _, rfl, _⟩ | ⟨_, rfl, _⟩ | ⟨_, _, rfl, _⟩
  · exact zr_maps h2 a wb sh m
  · exact h2
  · exact h2
theorem zWrite (h : On1 w p b n q t) (hN : N ≤ w.heap.size) (hb : N ≤ b) (ht : N ≤ t) (a : Nat) (ha : a < 4294967296) (v : Value) (xs : List Nat) (hv : Src (fun j => j = b ∨ j = t) w v xs) (h8 : ∀ x ∈ xs, x < 256) (hl : xs.length ≤ 300) :
    Calls Try.prog 12 #[.pointer (some ⟨q, 0, none⟩), .int .u32 (a : Int), v] w fun e w' => (∃ v, e = .returned v) ∧ On1 w' p b n q t ∧ Below N w w' := by
  obtain ⟨R, B, T, h1, h2⟩ := h
  refine (sWrite h1 (i := 0) (by decide : 0 < 1) a ha v xs hv h8 (by omega)).mono ?_
  rintro e w' ⟨code, s', rfl, hkp, hS, hc⟩
  refine ⟨⟨_, rfl⟩, ⟨_, _, _, hS, ?_⟩, below_of hkp hN (fun j hj => by rcases hj with rfl | rfl <;> assumption)⟩
  rcases hc with ⟨_, hM, hR, rfl⟩ | ⟨_, rfl⟩
  · exact zr_sts (s := ⟨R, B, T⟩) h1.inv (i := 0) (by decide : 0 < 1) rfl a xs.length xs hM hR h2 _ (Nat.le_refl _)
  · exact h2
end Go.Proofs.Ytclpokkjbkbkgaa.Zf
