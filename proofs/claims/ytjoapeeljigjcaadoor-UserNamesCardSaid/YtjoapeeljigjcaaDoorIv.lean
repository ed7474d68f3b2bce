/-
  Spaces over one memory, in plain words: whose frames are whose; what a step leaves.
-/
import Derived.Test.YtjoapeeljigjcaaDoorCl
import Derived.Test.YtjoapeeljigjcaaDoorPv
namespace Go.Proofs.YtjoapeeljigjcaaDoor.Iv
open Go Go.RowKit Go.Shelf Kit Bk
open Fm hiding Mem made_any len_any
open Fo Fr Fw Fx Fu Fq
open Tm hiding Mem
open Ts Tc Ti Sp Sa Pz To My Pv Mp Mq Dr Cl
set_option linter.unusedVariables false

abbrev Tab := Nat → Option En
/-- An entry has a frame. -/
def has (x : Option En) (f : Nat) : Nat := match x with
  | some e => if e.f = (f : Int) then 1 else 0
  | none => 0
theorem has_some {x : En} {f : Nat} (h : x.f = (f : Int)) : has (some x) f = 1 := if_pos h
theorem has_none (f : Nat) : has none f = 0 := rfl
theorem has_le (x : Option En) (f : Nat) : has x f ≤ 1 := by unfold has; split <;> (try split) <;> omega
theorem has_pos {x : Option En} {f : Nat} (h : has x f ≠ 0) : ∃ e, x = some e ∧ e.f = (f : Int) := by
  unfold has at h
  split at h
  · split at h
    · exact ⟨_, rfl, by assumption⟩
    · exact absurd rfl h
  · exact absurd rfl h
/-- How many of a table's pages have it. -/
def occN (T : Tab) (f : Nat) : Nat → Nat
  | 0 => 0
  | N + 1 => occN T f N + has (T N) f
def occ (T : Tab) (f : Nat) : Nat := occN T f 64
theorem occN_up (T : Tab) (k : Nat) (v : Option En) (f : Nat) : ∀ N, occN (up T k v) f N + (if k < N then has (T k) f else 0) = occN T f N + (if k < N then has v f else 0)
  | 0 => by simp [occN]
  | N + 1 => by
    have ih := occN_up T k v f N
    unfold occN
    by_cases e : N = k
    · subst e
      rw [up_same, if_pos (Nat.lt_succ_self N), if_pos (Nat.lt_succ_self N)]
      rw [if_neg (Nat.lt_irrefl N), if_neg (Nat.lt_irrefl N)] at ih
      omega
    · rw [up_other _ _ _ _ e]
      by_cases hk : k < N
      · rw [if_pos (by omega), if_pos (by omega)]
        rw [if_pos hk, if_pos hk] at ih
        omega
      · rw [if_neg (by omega), if_neg (by omega)]
        rw [if_neg hk, if_neg hk] at ih
        omega
theorem occ_up {T : Tab} {k : Nat} (hk : k < 64) (v : Option En) (f : Nat) : occ (up T k v) f + has (T k) f = occ T f + has v f := by
  have := occN_up T k v f 64
  rw [if_pos hk, if_pos hk] at this
  exact this
theorem occN_pos {T : Tab} {k f : Nat} : ∀ {N}, k < N → has (T k) f ≠ 0 → occN T f N ≠ 0
  | N + 1, hk, h => by
    unfold occN
    by_cases e : k = N
    · subst e; omega
    · have := occN_pos (T := T) (f := f) (show k < N by omega) h
      omega
theorem occN_ex {T : Tab} {f : Nat} : ∀ {N}, occN T f N ≠ 0 → ∃ k, k < N ∧ has (T k) f ≠ 0
  | 0, h => absurd rfl h
  | N + 1, h => by
    unfold occN at h
    by_cases e : has (T N) f = 0
    · obtain ⟨k, h1, h2⟩ := occN_ex (T := T) (f := f) (N := N) (by omega)
      exact ⟨k, by omega, h2⟩
    · exact ⟨N, by omega, e⟩
/-- All spaces'. -/
def tot : List Tab → Nat → Nat
  | [], _ => 0
  | T :: r, f => occ T f + tot r f
theorem tot_set : ∀ (Ls : List Tab) (i : Nat) (T' : Tab) (f : Nat) (h : i < Ls.length), tot (Ls.set i T') f + occ Ls[i] f = tot Ls f + occ T' f
  | T :: r, 0, T', f, _ => by
    show occ T' f + tot r f + occ T f = occ T f + tot r f + occ T' f
    omega
  | T :: r, i + 1, T', f, h => by
    have hi : i < r.length := by simpa using h
    have := tot_set r i T' f hi
    show occ T f + tot (r.set i T') f + occ r[i] f = occ T f + tot r f + occ T' f
    omega
theorem tot_app : ∀ (Ls : List Tab) (T : Tab) (f : Nat), tot (Ls ++ [T]) f = tot Ls f + occ T f
  | [], T, f => by simp [tot]
  | U :: r, T, f => by
    show occ U f + tot (r ++ [T]) f = occ U f + tot r f + occ T f
    rw [tot_app r T f]
    omega
theorem tot_ge : ∀ (Ls : List Tab) (i : Nat) (f : Nat) (h : i < Ls.length), occ Ls[i] f ≤ tot Ls f
  | T :: r, 0, f, _ => Nat.le_add_right _ _
  | T :: r, i + 1, f, h => Nat.le_trans (tot_ge r i f (by simpa using h)) (Nat.le_add_left _ _)
theorem tot_zero : ∀ (Ls : List Tab) (f : Nat), (∀ i (h : i < Ls.length), occ Ls[i] f = 0) → tot Ls f = 0
  | [], _, _ => rfl
  | T :: r, f, h => by
    have h0 := h 0 (by simp)
    have := tot_zero r f (fun i hi => h (i + 1) (by simpa using hi))
    show occ T f + tot r f = 0
    simp at h0
    omega

/-- What holds of all spaces over one memory (but for attached pages). -/
structure Inv (n : Nat) (R : Nat → Nat) (Ls : List Tab) : Prop where
  rng : ∀ i (h : i < Ls.length) k x, Ls[i] k = some x → k < 64 ∧ ∃ f : Nat, x.f = (f : Int) ∧ f < n
  cnt : ∀ f, R f = tot Ls f
  pos : ∀ i (h : i < Ls.length) j (g : j < Ls.length) k l x y, Ls[i] k = some x → Ls[j] l = some y → x.f = y.f → k = l ∧ x.s = y.s ∧ x.w = y.w
  sep : ∀ i (h : i < Ls.length) j (g : j < Ls.length) k x y, i ≠ j → Ls[i] k = some x → Ls[j] k = some y → x.f = y.f → x.s = false → x.w = true → x.c = true
  shc : ∀ i (h : i < Ls.length) k x, Ls[i] k = some x → x.s = true → x.c = false
theorem Inv.used {n : Nat} {R : Nat → Nat} {Ls : List Tab} (h : Inv n R Ls) {i : Nat} (hi : i < Ls.length) {k : Nat} {x : En} (hx : Ls[i] k = some x) {f : Nat} (hf : x.f = (f : Int)) : R f ≠ 0 := by
  rw [h.cnt]
  have h1 := tot_ge Ls i f hi
  have h2 : occ Ls[i] f ≠ 0 := occN_pos (h.rng i hi k x hx).1 (by rw [hx, has_some hf]; decide)
  omega
theorem Inv.fit {n : Nat} {R : Nat → Nat} {Ls : List Tab} (h : Inv n R Ls) {i : Nat} (hi : i < Ls.length) : Fit n R Ls[i] := by
  refine ⟨fun k x hx => ?_, fun k l x y hx hy he => (h.pos i hi i hi k l x y hx hy he).1⟩
  obtain ⟨_, f, h1, h2⟩ := h.rng i hi k x hx
  exact ⟨f, h1, h2, h.used hi hx h1⟩
theorem Inv.free {n : Nat} {R : Nat → Nat} {Ls : List Tab} (h : Inv n R Ls) {m : Nat} (hm : R m = 0) {i : Nat} (hi : i < Ls.length) {k : Nat} {x : En} (hx : Ls[i] k = some x) : x.f ≠ (m : Int) := fun e => h.used hi hx e hm
/-- One table's page turned: to be shown of the new entry alone. -/
theorem Inv.turn {n : Nat} {R R' : Nat → Nat} {Ls : List Tab} (h : Inv n R Ls) {i : Nat} (hi : i < Ls.length) {k : Nat} (hk : k < 64) (v : Option En)
    (hcnt : ∀ f, R' f + has (Ls[i] k) f = R f + has v f)
    (hv : ∀ x, v = some x → (∃ f : Nat, x.f = (f : Int) ∧ f < n) ∧ (x.s = true → x.c = false) ∧
      (∀ j (g : j < Ls.length) l y, (j ≠ i ∨ l ≠ k) → Ls[j] l = some y → x.f = y.f → k = l ∧ x.s = y.s ∧ x.w = y.w ∧ (x.s = false → x.w = true → x.c = true ∧ y.c = true))) :
    Inv n R' (Ls.set i (up Ls[i] k v)) := by
  have hget : ∀ j (g : j < (Ls.set i (up Ls[i] k v)).length) l z, (Ls.set i (up Ls[i] k v))[j] l = some z → (j = i ∧ l = k ∧ v = some z) ∨ ((j ≠ i ∨ l ≠ k) ∧ ∃ g' : j < Ls.length, Ls[j] l = some z) := fun j g l z hz => by
    rw [List.length_set] at g
    rw [List.getElem_set] at hz
    by_cases e : i = j
    · subst e
      rw [if_pos rfl] at hz
      by_cases e2 : l = k
      · subst e2; rw [up_same] at hz; exact .inl ⟨rfl, rfl, hz⟩
      · rw [up_other _ _ _ _ e2] at hz; exact .inr ⟨.inr e2, g, hz⟩
    · rw [if_neg e] at hz
      exact .inr ⟨.inl (Ne.symm e), g, hz⟩
  refine ⟨fun j g l z hz => ?_, fun f => ?_, fun j g j' g' l l' z z' hz hz' he => ?_, fun j g j' g' l z z' hne hz hz' he hs hw => ?_, fun j g l z hz hs => ?_⟩
  · rcases hget j g l z hz with ⟨rfl, rfl, e⟩ | ⟨_, g', hz'⟩
    · exact ⟨hk, (hv z e).1⟩
    · exact h.rng j g' l z hz'
  · have h1 := tot_set Ls i (up Ls[i] k v) f hi
    have h2 := occ_up (T := Ls[i]) hk v f
    have h3 := hcnt f
    have h4 := h.cnt f
    omega
  · rcases hget j g l z hz with ⟨rfl, rfl, e⟩ | ⟨hn, g1, hz1⟩
    · rcases hget j' g' l' z' hz' with ⟨rfl, rfl, e'⟩ | ⟨hn', g2, hz2⟩
      · rw [e] at e'; cases e'; exact ⟨rfl, rfl, rfl⟩
      · obtain ⟨h1, h2, h3, _⟩ := (hv z e).2.2 j' g2 l' z' hn' hz2 he
        exact ⟨h1, h2, h3⟩
    · rcases hget j' g' l' z' hz' with ⟨rfl, rfl, e'⟩ | ⟨hn', g2, hz2⟩
      · obtain ⟨h1, h2, h3, _⟩ := (hv z' e').2.2 j g1 l z hn hz1 he.symm
        exact ⟨h1.symm, h2.symm, h3.symm⟩
      · exact h.pos j g1 j' g2 l l' z z' hz1 hz2 he
  · rcases hget j g l z hz with ⟨rfl, rfl, e⟩ | ⟨hn, g1, hz1⟩
    · rcases hget j' g' l z' hz' with ⟨rfl, _, e'⟩ | ⟨hn', g2, hz2⟩
      · exact absurd rfl hne
      · exact ((hv z e).2.2 j' g2 l z' hn' hz2 he).2.2.2 hs hw |>.1
    · rcases hget j' g' l z' hz' with ⟨rfl, rfl, e'⟩ | ⟨hn', g2, hz2⟩
      · obtain ⟨h1, h2, h3, h4⟩ := (hv z' e').2.2 j g1 l z hn hz1 he.symm
        exact (h4 (h2.trans hs) (h3.trans hw)).2
      · exact h.sep j g1 j' g2 l z z' hne hz1 hz2 he hs hw
  · rcases hget j g l z hz with ⟨rfl, rfl, e⟩ | ⟨_, g', hz'⟩
    · exact (hv z e).2.1 hs
    · exact h.shc j g' l z hz' hs

/-- A page mapped. -/
theorem Inv.map {n : Nat} {R : Nat → Nat} {Ls : List Tab} (h : Inv n R Ls) {i : Nat} (hi : i < Ls.length) {k : Nat} (hk : k < 64) (hx : Ls[i] k = none) {m : Nat} (hm : m < n) (hz : R m = 0) (wb sh : Bool) :
    Inv n (up R m 1) (Ls.set i (up Ls[i] k (some ⟨(m : Int), wb, sh, false, true⟩))) := by
  refine h.turn hi hk _ (fun f => ?_) (fun x e => ?_)
  · rw [hx, has_none]
    by_cases e : f = m
    · subst e; rw [up_same, hz, has_some rfl]
    · rw [up_other _ _ _ _ e]
      show R f + 0 = R f + (if (m : Int) = (f : Int) then 1 else 0)
      rw [if_neg (by omega)]
  · cases e
    exact ⟨⟨m, rfl, hm⟩, fun _ => rfl, fun j g l y _ hy he => absurd he.symm (h.free hz g hy)⟩
/-- A page unmapped. -/
theorem Inv.unmap {n : Nat} {R : Nat → Nat} {Ls : List Tab} (h : Inv n R Ls) {i : Nat} (hi : i < Ls.length) {k : Nat} {x : En} (hx : Ls[i] k = some x) :
    Inv n (drR R x.f.toNat) (Ls.set i (up Ls[i] k none)) := by
  obtain ⟨hk, f0, h1, h2⟩ := h.rng i hi k x hx
  have hu := h.used hi hx h1
  refine h.turn hi hk _ (fun f => ?_) (fun y e => by cases e)
  rw [hx, has_none]
  unfold drR
  rw [show x.f.toNat = f0 by omega]
  by_cases e : f = f0
  · subst e; rw [up_same, has_some h1]; omega
  · rw [up_other _ _ _ _ e]
    show R f + (if x.f = (f : Int) then 1 else 0) = R f + 0
    rw [if_neg (by omega)]
/-- A page made its own, and written. -/
theorem Inv.own {n : Nat} {R : Nat → Nat} {Ls : List Tab} (h : Inv n R Ls) {i : Nat} (hi : i < Ls.length) {k : Nat} {x : En} (hx : Ls[i] k = some x) (hp : dbl R x = true → 0 < fre n R) :
    Inv n (twR n R x) (Ls.set i (twT n R Ls[i] k x)) := by
  obtain ⟨hk, f0, h1, h2⟩ := h.rng i hi k x hx
  have hu := h.used hi hx h1
  have hff : x.f.toNat = f0 := by omega
  unfold twT twF twR
  by_cases hd : dbl R x = true
  · rw [if_pos hd, if_pos hd]
    obtain ⟨hl1, hl2⟩ := lf_of (hp hd)
    have hg : x.c = true ∧ 1 < R f0 := by unfold dbl at hd; rw [hff] at hd; simpa using hd
    rw [hff]
    refine h.turn hi hk _ (fun f => ?_) (fun y e => ?_)
    · rw [hx]
      have hne : lf n R ≠ f0 := fun e => hu (by rw [← e]; exact hl2)
      by_cases e : f = f0
      · subst e
        rw [up_same, has_some h1, show has (some (⟨(lf n R : Int), x.w, x.s, false, true⟩ : En)) f = 0 from if_neg (by show ¬ (lf n R : Int) = (f : Int); omega)]
        omega
      · rw [up_other _ _ _ _ e]
        by_cases e2 : f = lf n R
        · subst e2
          rw [up_same, hl2, show has (some (⟨(lf n R : Int), x.w, x.s, false, true⟩ : En)) (lf n R) = 1 from if_pos rfl, show has (some x) (lf n R) = 0 from if_neg (by omega)]
        · rw [up_other _ _ _ _ e2, show has (some x) f = 0 from if_neg (by omega), show has (some (⟨(lf n R : Int), x.w, x.s, false, true⟩ : En)) f = 0 from if_neg (by show ¬ (lf n R : Int) = (f : Int); omega)]
    · cases e
      exact ⟨⟨lf n R, rfl, hl1⟩, fun _ => rfl, fun j g l y _ hy he => absurd he.symm (h.free hl2 g hy)⟩
  · rw [if_neg hd, if_neg hd]
    refine h.turn hi hk _ (fun f => ?_) (fun y e => ?_)
    · rw [hx, hff]
      show R f + (if x.f = (f : Int) then 1 else 0) = R f + (if ((f0 : Nat) : Int) = (f : Int) then 1 else 0)
      rw [h1]
    · cases e
      refine ⟨⟨f0, by rw [hff], h2⟩, fun _ => rfl, fun j g l y hn hy he => ?_⟩
      have he2 : x.f = y.f := by rw [← he, hff]; exact h1
      obtain ⟨p1, p2, p3⟩ := h.pos i hi j g k l x y hx hy he2
      subst p1
      have hji : j ≠ i := by rcases hn with hn | hn; exact hn; exact absurd rfl hn
      refine ⟨rfl, p2, p3, fun hs hw => ?_⟩
      -- not doubled, not Shared, Write: it would be another's, too
      exfalso
      have hc := h.sep i hi j g k x y (Ne.symm hji) hx hy he2 hs hw
      have h5 : occ Ls[i] f0 ≠ 0 := occN_pos hk (by rw [hx, has_some h1]; decide)
      have h6 : occ Ls[j] f0 ≠ 0 := occN_pos hk (by rw [hy, has_some (he2.symm.trans h1)]; decide)
      have h7 : occ Ls[i] f0 + occ Ls[j] f0 ≤ tot Ls f0 := by
        have e1 := tot_set Ls i (fun _ => none) f0 hi
        have e0 : occ (fun _ => none) f0 = 0 := rfl
        have e2 := tot_ge (Ls.set i (fun _ => none)) j f0 (by rw [List.length_set]; exact g)
        rw [List.getElem_set, if_neg (Ne.symm hji)] at e2
        omega
      have h8 := h.cnt f0
      refine hd ?_
      unfold dbl
      rw [hc, hff]
      simp
      omega
/-- No spaces' pages yet. -/
theorem Inv.empty (n : Nat) : Inv n (fun _ => 0) [fun _ => none] := by
  refine ⟨fun i h k x hx => ?_, fun f => ?_, fun i h j g k l x y hx => ?_, fun i h j g k x y _ hx => ?_, fun i h k x hx => ?_⟩
  · simp at hx
  · show 0 = occ (fun _ => none) f + 0
    rfl
  · simp at hx
  · simp at hx
  · simp at hx
end Go.Proofs.YtjoapeeljigjcaaDoor.Iv
