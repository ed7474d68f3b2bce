/-
  Calls of spaces with no page Shared: what they leave of the others' texts.
-/
import Derived.Test.YtclpokkjbkbkgaaSo
namespace Go.Proofs.Ytclpokkjbkbkgaa.Sn
open Go Go.RowKit Go.Shelf Kit Bk
open Fm hiding Mem made_any len_any
open Fo Fr Fw Fx Fu Fq
open Tm hiding Mem
open Ts Tc Ti Sp Sa Pz To My Pv Mp Mq Dr Cl Iv Iw Ix Wr Sy Al Pg So Oq
set_option linter.unusedVariables false

variable {w w' : World} {p b n : Nat} {R R' : Nat → Nat} {B B' : Nat → Nat → Nat} {qs ts : Nat → Nat} {Ls : List Tab} {T : Tab}

def NS (T : Tab) : Prop := ∀ k x, T k = some x → x.s = false
theorem ns_none : NS fun _ => none := fun k x h => by cases h
theorem ns_cow (h : NS T) : NS (cowT T) := fun k x hx => by
  unfold cowT at hx
  cases hy : T k with
  | none => rw [hy] at hx; cases hx
  | some y => rw [hy] at hx; cases hx; exact (cow_s y).trans (h k y hy)
theorem pgP_cow (B : Nat → Nat → Nat) (T : Tab) : pgP B (cowT T) 64 = pgP B T 64 := pgP_congr fun j _ => by
  unfold pgS cowT
  cases T j <;> rfl
theorem pgP_keep (h : ∀ l y, T l = some y → B' y.f.toNat = B y.f.toNat) : pgP B' T 64 = pgP B T 64 := pgP_congr fun j _ => by
  unfold pgS
  cases hy : T j with
  | none => rfl
  | some y =>
    show bstr (bts (B' _) 64) = bstr (bts (B _) 64)
    rw [h j y hy]
theorem fre_congr (h : ∀ k, R k = 0 ↔ R' k = 0) : fre n R = fre n R' := by
  unfold fre usd
  congr 2
  refine List.filter_congr fun k _ => ?_
  exact decide_eq_decide.2 (not_congr (h k))
theorem ns_maps (h : NS T) (R : Nat → Nat) (B : Nat → Nat → Nat) (k : Nat) (wb : Bool) : ∀ m, NS (maps n ⟨R, B, T⟩ k wb false m).T
  | 0 => h
  | m + 1 => fun j x hx => by
    by_cases e : j = k + m
    · subst e
      have : some ⟨_, wb, false, false, true⟩ = some x := (up_same _ _ _).symm.trans hx
      cases this
      rfl
    · exact ns_maps h R B k wb m j x ((up_other _ _ _ _ e).symm.trans hx)
/-- A source that stood ahead of the memory. -/
theorem src_of {S : Nat → Prop} {w wr : World} {v : Value} {xs : List Nat} (hs : Slc .u8 w v xs) (hb : Below w.heap.size w wr) (hS : ∀ j, S j → w.heap.size ≤ j) : Src S wr v xs := by
  refine ⟨hs.below hb, ?_⟩
  obtain ⟨a, cap, hv, h1, h2, h3⟩ := hs
  rcases h3 with h3 | ⟨b, off, ha, hlt, _⟩
  · exact .inl h3
  · refine .inr fun ad m c e => ?_
    rw [hv, ha] at e
    cases e
    intro h
    have := hS _ h
    exact absurd hlt (Nat.not_lt.2 this)
theorem sMapN (h : Sy.Sys w p b n R B qs ts Ls) {i : Nat} (hi : i < Ls.length) (hN : NS Ls[i]) (page k : Int) (hp : (Lit.int .i64 page).wf = true) (hk : (Lit.int .i64 k).wf = true) (wb : Bool) :
    Calls Try.prog 11 #[.pointer (some ⟨qs i, 0, none⟩), .int .i64 page, .int .i64 k, .bool wb, .bool false] w fun e w' => ∃ (v : Value) (R' : Nat → Nat) (T' : Tab), e = .returned v ∧ Kp (fun j => j = b ∨ j = ts i) w w' ∧ Sy.Sys w' p b n R' B qs ts (Ls.set i T') ∧ NS T' := by
  refine (sMap h hi page k hp hk wb false).mono ?_
  rintro e w' ⟨code, R', T', rfl, hkp, hS, hc⟩
  refine ⟨_, R', T', rfl, hkp, hS, ?_⟩
  rcases hc with ⟨_, a, m, _, _, _, _, _, _, _, rfl⟩ | ⟨_, _, rfl⟩ | ⟨_, _, _, rfl⟩
  · exact ns_maps hN R B a wb m
  · exact hN
  · exact hN
theorem sWriteN (h : Sy.Sys w p b n R B qs ts Ls) {i : Nat} (hi : i < Ls.length) (hN : NS Ls[i]) (a : Nat) (ha : a < 4294967296) (v : Value) (xs : List Nat) (hv : Src (fun j => j = b ∨ j = ts i) w v xs) (h8 : ∀ x ∈ xs, x < 256) (hl : xs.length ≤ 1000000) :
    Calls Try.prog 12 #[.pointer (some ⟨qs i, 0, none⟩), .int .u32 (a : Int), v] w fun e w' => ∃ (u : Value) (R' : Nat → Nat) (B' : Nat → Nat → Nat) (T' : Tab), e = .returned u ∧ Kp (fun j => j = b ∨ j = ts i) w w' ∧ Sy.Sys w' p b n R' B' qs ts (Ls.set i T') ∧ NS T' ∧
      ∀ j (g : j < Ls.length), j ≠ i → pgP B' Ls[j] 64 = pgP B Ls[j] 64 := by
  refine (sWrite h hi a ha v xs hv h8 hl).mono ?_
  rintro e w' ⟨code, s', rfl, hkp, hS, hc⟩
  refine ⟨_, _, _, _, rfl, hkp, hS, ?_⟩
  rcases hc with ⟨_, hM, hR, rfl⟩ | ⟨_, rfl⟩
  · obtain ⟨h1, h2, h3, h4, h5⟩ := sts_inv (s := ⟨R, B, Ls[i]⟩) h.inv hi rfl a xs.length xs hM hR (cn a xs.length) (Nat.le_refl _)
    refine ⟨fun k z hz => ?_, fun j g hj => pgP_keep fun l y hy => h5 j g l y hj hy ?_⟩
    · cases hx : Ls[i] k with
      | some x =>
        obtain ⟨F, ⟨cc, dd, e1⟩, _⟩ := h4 k x hx
        rw [e1] at hz
        cases hz
        exact hN k x hx
      | none =>
        by_cases hin : k < a / 64 ∨ a / 64 + cn a xs.length ≤ k
        · have := h3 k hin
          rw [hz] at this
          exact absurd (this.trans hx) (by simp)
        · have := mayB_iff.1 hM (k - a / 64) (by omega)
          rw [show a / 64 + (k - a / 64) = k by omega, hx] at this
          cases this
    · rintro ⟨_, _, x, hx, hs, _⟩
      rw [hN l x hx] at hs
      cases hs
  · exact ⟨hN, fun _ _ _ => rfl⟩
theorem sDropN (h : Sy.Sys w p b n R B qs ts Ls) {i : Nat} (hi : i < Ls.length) :
    Calls Try.prog 19 #[.pointer (some ⟨qs i, 0, none⟩)] w fun e w' => ∃ (v : Value) (R' : Nat → Nat) (B' : Nat → Nat → Nat), e = .returned v ∧ Kp (fun j => j = b ∨ j = ts i) w w' ∧ Sy.Sys w' p b n R' B' qs ts (Ls.set i (fun _ => none)) ∧
      ∀ j (g : j < Ls.length), j ≠ i → pgP B' Ls[j] 64 = pgP B Ls[j] 64 := by
  refine (sDrop h hi).mono ?_
  rintro e w' ⟨v, R', B', rfl, hkp, hS, hc⟩
  exact ⟨v, R', B', rfl, hkp, hS, fun j g hj => pgP_keep fun l y hy => hc j g l y hj hy⟩
theorem occ_none (f : Nat) : occ (fun _ => none) f = 0 := by
  have : ∀ N, occN (fun _ => none) f N = 0 := fun N => by
    induction N with
    | zero => rfl
    | succ N ih =>
      show occN (fun _ => none) f N + has none f = 0
      rw [ih]
      rfl
  exact this 64
end Go.Proofs.Ytclpokkjbkbkgaa.Sn
