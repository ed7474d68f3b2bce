/-
  What FutexOrder leans on: those of a key and the others, in plain words; rows of numbers joined; what the walk carries.
-/
import Derived.Test.YtpfnjeicenhciaaFtr
import Derived.Deep.AppendSrc
import Derived.Deep.Upon
namespace Go.Proofs.Ytpfnjeicenhciaa.Fts
open Go Go.RowKit Kit Bk Fta Ftb Ftc Ftd Fte Ftf Ftg Fth Fti Ftj Ftk Ftl Ftm Ftn Fto Ftq Ftr
set_option linter.unusedVariables false
attribute [local go_sem ↓] app_wrap

/-- Those of other keys. -/
def oth (L : List Wt) (k : Ky) : List Wt := L.filter fun x => !decide (x.k = k)
theorem oth_cons (x : Wt) (t : List Wt) (k : Ky) : oth (x :: t) k = if x.k = k then oth t k else x :: oth t k := by
  unfold oth
  by_cases h : x.k = k
  · rw [if_pos h, List.filter_cons_of_neg (by simp [h])]
  · rw [if_neg h, List.filter_cons_of_pos (by simp [h])]
theorem rst_ats (k : Ky) : ∀ (L : List Wt) (n : Nat), ats (rst L k n) k = (ats L k).drop n
  | [], n => by simp [rst, ats]
  | x :: t, n => by
    unfold rst
    rw [ats_cons x t]
    by_cases h : x.k = k
    · rw [if_pos h, if_pos h]
      cases n with
      | zero =>
        show ats (x :: rst t k 0) k = _
        rw [ats_cons, if_pos h, rst_ats k t 0, List.drop_zero, List.drop_zero]
      | succ n =>
        show ats (rst t k n) k = _
        rw [rst_ats k t n, List.drop_succ_cons]
    · rw [if_neg h, if_neg h, ats_cons, if_neg h, rst_ats k t n]
theorem rst_oth (k : Ky) : ∀ (L : List Wt) (n : Nat), oth (rst L k n) k = oth L k
  | [], n => rfl
  | x :: t, n => by
    unfold rst
    rw [oth_cons x t]
    by_cases h : x.k = k
    · rw [if_pos h, if_pos h]
      cases n with
      | zero =>
        show oth (x :: rst t k 0) k = _
        rw [oth_cons, if_pos h, rst_oth k t 0]
      | succ n =>
        show oth (rst t k n) k = _
        rw [rst_oth k t n]
    · rw [if_neg h, if_neg h, oth_cons, if_neg h, rst_oth k t n]
theorem oth_all {M : List Wt} {k : Ky} (h : ats M k = []) : oth M k = M := by
  unfold oth
  rw [List.filter_eq_self]
  intro x hx
  have : ¬ x.k = k := fun e => by
    have hm : x.q ∈ ats M k := by
      unfold ats
      exact List.mem_map.2 ⟨x, List.mem_filter.2 ⟨hx, by simpa using e⟩, rfl⟩
    rw [h] at hm
    cases hm
  simpa using this
theorem oth_yes {L : List Wt} {k : Ky} {i : Nat} (h : i < L.length) (e : L[i].k = k) : oth (L.take (i + 1)) k = oth (L.take i) k := by
  unfold oth
  rw [List.take_succ_eq_append_getElem h, List.filter_append, List.filter_cons_of_neg (by simp [e])]
  simp
theorem oth_no {L : List Wt} {k : Ky} {i : Nat} (h : i < L.length) (e : L[i].k ≠ k) : oth (L.take (i + 1)) k = oth (L.take i) k ++ [L[i]] := by
  unfold oth
  rw [List.take_succ_eq_append_getElem h, List.filter_append, List.filter_cons_of_pos (by simp [e])]
  rfl
theorem oth_len (L : List Wt) (k : Ky) : (oth L k).length ≤ L.length := List.length_filter_le _ _

theorem ints_len (l : List Int) : (ints l).length = l.length := by simp [ints]
/-- Numbers of one slice behind those of a row of one's own. -/
theorem app_ints (w : World) (base : Nat) (v : Value) (l : List Int) (u : Value) (m : List Int) (hown : w.ownsRow base 3 1 v l.length (ints l)) (hu : Nr w u m) (hb : base ≤ w.heap.size) (hl : l.length + m.length ≤ 100000) :
    ∃ v' w', (appO #[37, 37] 37 #[v, u]).run Try.prog w = .ok v' w' ∧ w'.ownsRow base 3 1 v' (l ++ m).length (ints (l ++ m)) ∧ w.grownBy w' v.ownBlock := by
  obtain ⟨i0, hi, hz0, hz1, hz2⟩ := info_parts' infoI
  obtain ⟨a, cap, rfl, h1, h2, h3⟩ := hu.cells
  by_cases h0 : m = []
  · subst h0
    refine ⟨v, w, ?_, by rw [List.append_nil]; exact hown, ⟨rfl, rfl, rfl, Nat.le_refl _, fun _ _ _ => rfl⟩⟩
    have hsrc : Go.Src Try.prog i0.size 37 (.slice a ([] : List Int).length cap) 0 [] w := by
      cases a with
      | none => exact Src.ofNil _ Try.underlying37 cap
      | some p => exact Src.ofSlice _ Try.underlying37 p 0 cap [] (by simp) (by simp) (by simp)
    rcases hown.2 with ⟨rfl, _⟩ | ⟨g, cap', cur, rfl, _, _, hc, _⟩
    · exact run_append_nothing _ 37 37 37 3 i0 Try.underlying37 hi none 0 0 (Nat.le_refl _) _ hsrc
    · exact run_append_nothing _ 37 37 37 3 i0 Try.underlying37 hi _ _ _ hc _ hsrc
  · have hm0 : 0 < m.length := List.length_pos_iff.2 h0
    obtain ⟨g, rfl, -⟩ := h3 0 hm0
    obtain ⟨v', w1, hrun, hown', hgr, -⟩ := run_append_own (P := Try.prog) (w := w) base 37 37 3 i0 (.int .i64 0) 1 8 Try.underlying37 hi hz0 hz1 hz2 rfl (by decide) v l.length (ints l) hown ⟨g, 0, none⟩ m.length cap (ints m) (by rw [ints_len, Nat.mul_one])
      (fun j u hj => by
        have hjm : j < m.length := by rw [← ints_len m]; exact (List.getElem?_eq_some_iff.1 hj).1
        rw [Addr.add_mid, Nat.zero_add]
        obtain ⟨g', e, hc⟩ := h3 j hjm
        cases e
        rw [hc, ← hj]
        simp [ints, hjm]) (fun u hu => by
          simp only [ints, List.mem_map] at hu
          obtain ⟨x, _, rfl⟩ := hu
          rfl) (by unfold maxLen; omega) (by omega) hb
    refine ⟨v', w1, hrun, ?_, hgr⟩
    rw [List.length_append, show ints (l ++ m) = ints l ++ ints m by simp [ints]]
    exact hown'

/-- What the walk carries: the futex f (of those M who wait still), what it was (want, all), and those woken so far. -/
structure Or (W1 w : World) (f r b0 : Nat) (k : Ky) (L : List Wt) (uw ua wk : Value) (P : List Int) (M : List Wt) (H : Nat) : Prop where
  on_ : On W1 w f r M
  gd : Gd 200 M
  cut : P ++ ats M k = ats L k
  rest : oth M k = oth L k
  key : Blk w b0 #[.int .i64 k.p, .int .i64 k.f, .int .i64 k.o] 31
  want : Nr w uw (ats L k)
  all : Nw w ua L
  wok : w.ownsRow H 3 1 wk P.length (ints P)
  na : ∀ b n c, ua = .slice (some ⟨b, 0, none⟩) n c → b ≠ f ∧ b ≠ r
  nw : ∀ b n c, uw = .slice (some ⟨b, 0, none⟩) n c → b < H
  sz : H ≤ w.heap.size
  lo : W1.heap.size ≤ H
variable {W1 w w' : World} {f r b0 H : Nat} {k : Ky} {L M : List Wt} {uw ua wk : Value} {P : List Int}
theorem Or.below (h : Or W1 w f r b0 k L uw ua wk P M H) (hb : Below w.heap.size w w') : Or W1 w' f r b0 k L uw ua wk P M H :=
  ⟨h.on_.below hb, h.gd, h.cut, h.rest, h.key.below hb, h.want.below hb, h.all.below hb, own_below h.wok hb, h.na, h.nw, Nat.le_trans h.sz hb.size, h.lo⟩
theorem Or.wake (h : Or W1 w f r b0 k L uw ua wk P M H) (hk : Fta.kwf k) (hL : L.length ≤ 200) (n : Int) :
    Calls Try.prog 11 #[.pointer (some ⟨f, 0, none⟩), kv k, .int .i64 n] w fun e w' => ∃ a c v' w2, e = .returned (.slice a (wks M k n).length c) ∧ (w.heap.size ≤ w'.heap.size ∧ Blk w' b0 #[.int .i64 k.p, .int .i64 k.f, .int .i64 k.o] 31 ∧ Kp (fr f r) w w') ∧
      (appO #[37, 37] 37 #[wk, .slice a (wks M k n).length c]).run Try.prog w' = .ok v' w2 ∧ Or W1 w2 f r b0 k L uw ua v' (P ++ wks M k n) (rst M k n.toNat) H := by
  have hM := h.gd.len
  have hwl := wks_len M k n
  have hpl : P.length ≤ L.length := by
    have := congrArg List.length h.cut
    rw [List.length_append] at this
    have := ats_len L k
    omega
  refine (h.on_.wake h.gd.kwf (by omega) k hk n).mono ?_
  rintro e w' ⟨hkp, ho, u, rfl, hu⟩
  obtain ⟨a, c, rfl⟩ := own_form hu
  have hst : Ftf.stay (inn (wks M k n)) M = rst M k n.toNat := stay_wake k M n.toNat h.gd.own
  rw [hst] at ho
  have hkey := h.on_.blk hkp h.key (by decide) (by decide)
  have hwok : w'.ownsRow H 3 1 wk P.length (ints P) := own_kept h.wok hkp (fun g n' c' e => by
    obtain ⟨cs, hc⟩ := own_blk (by have := h.wok; rw [e] at this; exact this)
    exact h.on_.lx.apart hc (by decide) (by decide))
  have hwant := h.on_.nr hkp h.want
  have hall : Nw w' ua L := h.all.kept hkp (fun b n' c' e => by have := h.na b n' c' e; unfold fr; omega)
  obtain ⟨v', w2, g1, g2, g3⟩ := app_ints w' H wk P _ (wks M k n) hwok (nr_own hu) (Nat.le_trans h.sz hkp.size) (by omega)
  have hk2 : Kp (fun j => some j = wk.ownBlock) w' w2 := Kp.of_grown g3
  refine ⟨a, c, v', w2, rfl, ⟨hkp.size, hkey, hkp⟩, g1, ⟨?_, ?_, ?_, ?_, ?_, ?_, ?_, g2, h.na, h.nw, Nat.le_trans (Nat.le_trans h.sz hkp.size) hk2.size, h.lo⟩⟩
  · refine ⟨ho.bel.trans (hk2.below ho.bel.size (fun j e => ?_)), ho.lx.kept hk2 ?_ ?_, ho.lo⟩
    · have h1 := (hwok.lt j e.symm).1
      exact Nat.le_trans h.lo h1
    · obtain ⟨v, q1, _⟩ := ho.lx
      exact own_ne hwok q1 (by decide)
    · rcases ho.lx.row with e | ⟨cs, q1⟩
      · rw [e]
        obtain ⟨v, q1, _⟩ := ho.lx
        exact own_ne hwok q1 (by decide)
      · exact own_ne hwok q1 (by decide)
  · rw [← hst]; exact h.gd.stay _
  · rw [rst_ats, List.append_assoc]
    have : wks M k n ++ (ats M k).drop n.toNat = ats M k := List.take_append_drop _ _
    rw [this, h.cut]
  · rw [rst_oth, h.rest]
  · exact hkey.kept hk2 (own_ne hwok hkey (by decide))
  · refine own_kept hwant hk2 (fun g n' c' e he => ?_)
    have h1 := (hwok.lt g he.symm).1
    have h2 := h.nw g n' c' e
    omega
  · refine own_kept hall hk2 (fun g n' c' e => ?_)
    obtain ⟨cs, hc⟩ := own_blk (by have := hall; unfold Nw at this; rw [e] at this; exact this)
    exact own_ne hwok hc (by decide)
theorem Or.done (h : Or W1 w f r b0 k L uw ua wk (ats L k) M H) : ats M k = [] ∧ M = oth L k := by
  have h0 : ats M k = [] := by
    have := h.cut
    simpa using this
  exact ⟨h0, (oth_all h0).symm.trans h.rest⟩
end Go.Proofs.Ytpfnjeicenhciaa.Fts
