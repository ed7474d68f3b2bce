/-
  What a Clone and a Drop leave of spaces over one memory.
-/
import Derived.Test.YtjoapeeljigjcaaDoorIw
namespace Go.Proofs.YtjoapeeljigjcaaDoor.Ix
open Go Go.RowKit Go.Shelf Kit Bk
open Fm hiding Mem made_any len_any
open Fo Fr Fw Fx Fu Fq
open Tm hiding Mem
open Ts Tc Ti Sp Sa Pz To My Pv Mp Mq Dr Cl Iv Iw
set_option linter.unusedVariables false

def cowT (T : Tab) : Tab := fun k => (T k).map cow
theorem cow_f (x : En) : (cow x).f = x.f := rfl
theorem cow_s (x : En) : (cow x).s = x.s := rfl
theorem cow_w (x : En) : (cow x).w = x.w := rfl
theorem has_cow (x : Option En) (f : Nat) : has (x.map cow) f = has x f := by cases x <;> rfl
theorem occ_cow (T : Tab) (f : Nat) : occ (cowT T) f = occ T f := by
  unfold occ
  have : ∀ N, occN (cowT T) f N = occN T f N := fun N => by
    induction N with
    | zero => rfl
    | succ N ih => unfold occN; rw [ih]; show _ + has ((T N).map cow) f = _; rw [has_cow]
  exact this 64
theorem cls_bound (s : Sx) (l : List (Nat × En)) (f : Nat) : ∀ j, j ≤ l.length → s.R f ≤ (cls s l j).R f ∧ (cls s l j).R f ≤ s.R f + j
  | 0, _ => ⟨Nat.le_refl _, Nat.le_refl _⟩
  | j + 1, h => by
    have ih := cls_bound s l f j (by omega)
    rw [cls_succ s l j (by omega)]
    unfold cl1
    dsimp only
    by_cases e : f = l[j].2.f.toNat
    · subst e; rw [up_same]; omega
    · rw [up_other _ _ _ _ e]; omega
theorem cls_fold (s : Sx) (hr : ∀ k x, s.T k = some x → ∃ f : Nat, x.f = (f : Int)) : ∀ N, ((ents s.T N).foldl (fun s x => cl1 s x.1 x.2) s).B = s.B ∧
    (∀ k, ((ents s.T N).foldl (fun s x => cl1 s x.1 x.2) s).T k = if k < N then (s.T k).map cow else s.T k) ∧ ∀ f, ((ents s.T N).foldl (fun s x => cl1 s x.1 x.2) s).R f = s.R f + occN s.T f N
  | 0 => ⟨rfl, fun k => by rw [if_neg (Nat.not_lt_zero k)]; rfl, fun f => rfl⟩
  | N + 1 => by
    obtain ⟨h1, h2, h3⟩ := cls_fold s hr N
    cases hx : s.T N with
    | none =>
      rw [ents_none hx]
      refine ⟨h1, fun k => ?_, fun f => ?_⟩
      · rw [h2 k]
        by_cases e : k = N
        · subst e; rw [if_neg (Nat.lt_irrefl k), if_pos (Nat.lt_succ_self k), hx]; rfl
        · by_cases hk : k < N
          · rw [if_pos hk, if_pos (by omega)]
          · rw [if_neg hk, if_neg (by omega)]
      · rw [h3 f]
        show s.R f + occN s.T f N = s.R f + (occN s.T f N + has (s.T N) f)
        rw [hx]
        rfl
    | some x =>
      obtain ⟨f0, hf0⟩ := hr N x hx
      rw [ents_some hx, List.foldl_append]
      refine ⟨h1, fun k => ?_, fun f => ?_⟩
      · show up _ N (some (cow x)) k = _
        by_cases e : k = N
        · subst e; rw [up_same, if_pos (Nat.lt_succ_self k), hx]; rfl
        · rw [up_other _ _ _ _ e, h2 k]
          by_cases hk : k < N
          · rw [if_pos hk, if_pos (by omega)]
          · rw [if_neg hk, if_neg (by omega)]
      · show up _ x.f.toNat _ f = s.R f + (occN s.T f N + has (s.T N) f)
        rw [hx, show x.f.toNat = f0 by omega]
        by_cases e : f = f0
        · subst e; rw [up_same, h3 f, has_some hf0]; omega
        · rw [up_other _ _ _ _ e, h3 f]
          show _ = s.R f + (occN s.T f N + (if x.f = (f : Int) then 1 else 0))
          rw [if_neg (by omega)]; rfl
theorem cls_all (s : Sx) (hr : ∀ k x, s.T k = some x → k < 64 ∧ ∃ f : Nat, x.f = (f : Int)) : (cls s (ents s.T 64) (ents s.T 64).length).B = s.B ∧ (cls s (ents s.T 64) (ents s.T 64).length).T = cowT s.T ∧ ∀ f, (cls s (ents s.T 64) (ents s.T 64).length).R f = s.R f + occ s.T f := by
  unfold cls
  rw [List.take_length]
  obtain ⟨h1, h2, h3⟩ := cls_fold s (fun k x hx => (hr k x hx).2) 64
  refine ⟨h1, ?_, h3⟩
  funext k
  rw [h2 k]
  split
  · rfl
  · rename_i hk
    show s.T k = (s.T k).map cow
    cases hx : s.T k with
    | none => rfl
    | some x => exact absurd (hr k x hx).1 hk
theorem clOk_inv {n : Nat} {s : Sx} {Ls : List Tab} (h : Inv n s.R Ls) {i : Nat} (hi : i < Ls.length) (hT : Ls[i] = s.T) (hn : n ≤ 256) (hb : ∀ f, s.R f < 900) : clOk n s (ents s.T 64) := fun j hj => by
  have hm : (ents s.T 64)[j] ∈ ents s.T 64 := List.getElem_mem hj
  obtain ⟨⟨k, x⟩, hx0⟩ : ∃ z, (ents s.T 64)[j] = z := ⟨_, rfl⟩
  rw [hx0] at hm ⊢
  obtain ⟨hk, hx⟩ := ents_mem.1 hm
  have hx' : Ls[i] k = some x := by rw [hT]; exact hx
  obtain ⟨_, f, h1, h2⟩ := h.rng i hi k x hx'
  have hu := h.used hi hx' h1
  have hbd := cls_bound s (ents s.T 64) f j (by omega)
  have hl := ents_len s.T 64
  have := hb f
  refine ⟨hk, ?_, f, h1, h2, by omega, by omega⟩
  have hs := h.shc i hi k x hx'
  unfold may cow
  dsimp only
  rw [h1]
  cases hxs : x.s with
  | false => simp; omega
  | true => rw [hs hxs]; simp; omega
/-- A clone beside its space. -/
theorem Inv.clone {n : Nat} {R : Nat → Nat} {Ls : List Tab} (h : Inv n R Ls) {i : Nat} (hi : i < Ls.length) {R' : Nat → Nat} (hR : ∀ f, R' f = R f + occ Ls[i] f) : Inv n R' (Ls.set i (cowT Ls[i]) ++ [cowT Ls[i]]) := by
  have hget : ∀ j (g : j < (Ls.set i (cowT Ls[i]) ++ [cowT Ls[i]]).length), (∃ g' : j < Ls.length, j ≠ i ∧ (Ls.set i (cowT Ls[i]) ++ [cowT Ls[i]])[j] = Ls[j]) ∨ ((j = i ∨ j = Ls.length) ∧ (Ls.set i (cowT Ls[i]) ++ [cowT Ls[i]])[j] = cowT Ls[i]) := fun j g => by
    simp only [List.length_append, List.length_set, List.length_singleton] at g
    by_cases e : j < Ls.length
    · rw [List.getElem_append_left (by rw [List.length_set]; exact e), List.getElem_set]
      by_cases e2 : i = j
      · rw [if_pos e2]; exact .inr ⟨.inl e2.symm, rfl⟩
      · rw [if_neg e2]; exact .inl ⟨e, Ne.symm e2, rfl⟩
    · have : j = Ls.length := by omega
      subst this
      rw [List.getElem_append_right (by rw [List.length_set]; exact Nat.le_refl _)]
      exact .inr ⟨.inr rfl, by simp⟩
  -- whose entry it was
  have hold : ∀ j (g : j < (Ls.set i (cowT Ls[i]) ++ [cowT Ls[i]]).length) k z, (Ls.set i (cowT Ls[i]) ++ [cowT Ls[i]])[j] k = some z → ∃ j0, ∃ g0 : j0 < Ls.length, ∃ y, Ls[j0] k = some y ∧ z.f = y.f ∧ z.s = y.s ∧ z.w = y.w ∧ ((j = j0 ∧ j ≠ i ∧ z = y) ∨ (j0 = i ∧ z = cow y)) := fun j g k z hz => by
    rcases hget j g with ⟨g', hne, e⟩ | ⟨hj, e⟩
    · rw [e] at hz
      exact ⟨j, g', z, hz, rfl, rfl, rfl, .inl ⟨rfl, hne, rfl⟩⟩
    · rw [e] at hz
      unfold cowT at hz
      obtain ⟨y, hy, rfl⟩ := Option.map_eq_some_iff.1 hz
      exact ⟨i, hi, y, hy, rfl, rfl, rfl, .inr ⟨rfl, rfl⟩⟩
  refine ⟨fun j g k z hz => ?_, fun f => ?_, fun j g j' g' k l z z' hz hz' he => ?_, fun j g j' g' k z z' hne hz hz' he hs hw => ?_, fun j g k z hz hs => ?_⟩
  · obtain ⟨j0, g0, y, hy, e1, _⟩ := hold j g k z hz
    rw [e1]
    exact h.rng j0 g0 k y hy
  · rw [hR, tot_app, h.cnt f, occ_cow]
    have := tot_set Ls i (cowT Ls[i]) f hi
    rw [occ_cow] at this
    omega
  · obtain ⟨j0, g0, y, hy, e1, e2, e3, _⟩ := hold j g k z hz
    obtain ⟨j1, g1, y', hy', d1, d2, d3, _⟩ := hold j' g' l z' hz'
    rw [e1, d1] at he
    rw [e2, d2, e3, d3]
    exact h.pos j0 g0 j1 g1 k l y y' hy hy' he
  · obtain ⟨j0, g0, y, hy, e1, e2, e3, e4⟩ := hold j g k z hz
    obtain ⟨j1, g1, y', hy', d1, d2, d3, d4⟩ := hold j' g' k z' hz'
    rcases e4 with ⟨rfl, hni, rfl⟩ | ⟨rfl, rfl⟩
    · refine h.sep j g0 j1 g1 k z y' ?_ hy hy' (by rw [← d1]; exact he) hs hw
      rcases d4 with ⟨rfl, _, _⟩ | ⟨rfl, _⟩
      · exact hne
      · exact hni
    · show (y.c || (y.w && !y.s)) = true
      rw [show y.s = false from hs, show y.w = true from hw]
      simp
  · obtain ⟨j0, g0, y, hy, e1, e2, e3, e4⟩ := hold j g k z hz
    have hc := h.shc j0 g0 k y hy (by rw [← e2]; exact hs)
    rcases e4 with ⟨rfl, hni, rfl⟩ | ⟨rfl, rfl⟩
    · exact hc
    · show (y.c || (y.w && !y.s)) = false
      rw [hc, show y.s = true from hs]
      simp

/-- A table's pages are each there once. -/
theorem ents_nodup (T : Tab) : ∀ N, ((ents T N).map Prod.fst).Nodup
  | 0 => List.nodup_nil
  | N + 1 => by
    have ih := ents_nodup T N
    cases hx : T N with
    | none => rw [ents_none hx]; exact ih
    | some x =>
      rw [ents_some hx, List.map_append, List.nodup_append]
      refine ⟨ih, by simp, fun a ha b hb => ?_⟩
      simp only [List.map_cons, List.map_nil, List.mem_singleton] at hb
      subst hb
      obtain ⟨⟨k, e⟩, hk, rfl⟩ := List.mem_map.1 ha
      have := (ents_mem.1 hk).1
      dsimp only at this ⊢
      omega
/-- On the way of a Drop. -/
theorem dst_inv {n : Nat} {s : Sx} {Ls : List Tab} (h : Inv n s.R Ls) {i : Nat} (hi : i < Ls.length) (hT : Ls[i] = s.T) : ∀ j, j ≤ (ents s.T 64).length →
    Inv n (dst s (ents s.T 64) j).R (Ls.set i (dst s (ents s.T 64) j).T) ∧ (∀ k, (dst s (ents s.T 64) j).T k = if k ∈ ((ents s.T 64).take j).map Prod.fst then none else s.T k) ∧
      ∀ j' (g : j' < Ls.length) l y, j' ≠ i → Ls[j'] l = some y → (dst s (ents s.T 64) j).B y.f.toNat = s.B y.f.toNat
  | 0, _ => ⟨by show Inv n s.R (Ls.set i s.T); rw [← hT, set_get]; exact h, fun k => by simp [dst], fun _ _ _ _ _ _ => rfl⟩
  | j + 1, hj => by
    obtain ⟨h1, h2, h3⟩ := dst_inv h hi hT j (by omega)
    have hi' : i < (Ls.set i (dst s (ents s.T 64) j).T).length := by rw [List.length_set]; exact hi
    obtain ⟨k1, k2, k3, k4⟩ := un1_inv h1 hi' (get_set _ _ _ _) (ents s.T 64)[j].1
    rw [List.set_set] at k1
    rw [dst_succ s _ j (by omega)]
    refine ⟨k1, fun k => ?_, fun j' g l y hne hy => ?_⟩
    · rw [List.take_succ_eq_append_getElem (by omega), List.map_append]
      by_cases e : k = (ents s.T 64)[j].1
      · rw [e, k3, if_pos (by simp)]
      · rw [k2 k e, h2 k]
        by_cases hm : k ∈ ((ents s.T 64).take j).map Prod.fst
        · rw [if_pos hm, if_pos (List.mem_append_left _ hm)]
        · rw [if_neg hm, if_neg]
          intro h9
          rcases List.mem_append.1 h9 with h9 | h9
          · exact hm h9
          · simp only [List.map_cons, List.map_nil, List.mem_singleton] at h9
            exact e h9
    · have g' : j' < (Ls.set i (dst s (ents s.T 64) j).T).length := by rw [List.length_set]; exact g
      have hgj : (Ls.set i (dst s (ents s.T 64) j).T)[j'] = Ls[j'] := by rw [List.getElem_set, if_neg (Ne.symm hne)]
      rw [k4 j' g' l y (.inl hne) (by rw [hgj]; exact hy)]
      exact h3 j' g l y hne hy
theorem drOk_inv {n : Nat} {s : Sx} {Ls : List Tab} (h : Inv n s.R Ls) {i : Nat} (hi : i < Ls.length) (hT : Ls[i] = s.T) : drOk n s (ents s.T 64) := fun j hj => by
  obtain ⟨h1, h2, _⟩ := dst_inv h hi hT j (by omega)
  have hm : (ents s.T 64)[j] ∈ ents s.T 64 := List.getElem_mem hj
  have hnot : (ents s.T 64)[j].1 ∉ ((ents s.T 64).take j).map Prod.fst := fun hmem => by
    have hnd := ents_nodup s.T 64
    rw [List.map_take] at hmem
    obtain ⟨a, ha, hae⟩ := List.getElem_of_mem hmem
    rw [List.getElem_take] at hae
    have hal : a < j := by rw [List.length_take] at ha; omega
    rw [List.length_take, List.length_map] at ha
    have := (List.getElem_inj (h₀ := by rw [List.length_map]; omega) (h₁ := by rw [List.length_map]; exact hj) hnd).1 (hae.trans (List.getElem_map Prod.fst).symm)
    omega
  obtain ⟨⟨k, x⟩, hx0⟩ : ∃ z, (ents s.T 64)[j] = z := ⟨_, rfl⟩
  rw [hx0] at hm hnot ⊢
  obtain ⟨hk, hx⟩ := ents_mem.1 hm
  have hT1 : (dst s (ents s.T 64) j).T k = some x := by rw [h2 k, if_neg hnot]; exact hx
  have hi' : i < (Ls.set i (dst s (ents s.T 64) j).T).length := by rw [List.length_set]; exact hi
  have hxj : (Ls.set i (dst s (ents s.T 64) j).T)[i] k = some x := by rw [get_set]; exact hT1
  obtain ⟨_, f, e1, e2⟩ := h1.rng i hi' k x hxj
  exact ⟨hk, x, f, hT1, e1, e2, h1.used hi' hxj e1⟩
/-- Behind a Drop. -/
theorem dst_all {n : Nat} {s : Sx} {Ls : List Tab} (h : Inv n s.R Ls) {i : Nat} (hi : i < Ls.length) (hT : Ls[i] = s.T) : (dst s (ents s.T 64) (ents s.T 64).length).T = fun _ => none := by
  obtain ⟨_, h2, _⟩ := dst_inv h hi hT _ (Nat.le_refl _)
  funext k
  rw [h2 k, List.take_length]
  split
  · rfl
  · rename_i hk
    cases hx : s.T k with
    | none => rfl
    | some x =>
      have hx' : Ls[i] k = some x := by rw [hT]; exact hx
      exact absurd (List.mem_map.2 ⟨(k, x), ents_mem.2 ⟨(h.rng i hi k x hx').1, hx⟩, rfl⟩) hk
end Go.Proofs.YtjoapeeljigjcaaDoor.Ix
