/-
  Spaces over one memory as flat bytes: what a read tells, what a write leaves; no page Shared, all of them Write.
-/
import Derived.Test.YtjoapeeljigjcaaDoorUsa
namespace Go.Proofs.YtjoapeeljigjcaaDoor.Use
open Go Go.RowKit Go.Shelf Kit Bk
open Fm hiding Mem made_any len_any
open Fo Fr Fw Fx Fu Fq
open Tm hiding Mem
open Ts Tc Ti Tl Sp Sa Pz To My Pv Mp Mq Dr Cl Iv Iw Ix Wr Sy Rd Usa Usb Usc Usd
set_option linter.unusedVariables false

/-- A table's pages are those of M, all of them Write, none Shared, and have the bytes V. -/
structure Vw (B : Nat → Nat → Nat) (T : Tab) (M : Nat → Bool) (V : Nat → Nat) : Prop where
  is : ∀ k, (T k).isSome = M k
  of : ∀ k x, T k = some x → x.w = true ∧ x.s = false ∧ ∀ i, i < 64 → B x.f.toNat i = V (64 * k + i)
/-- All of m addresses from a on are mapped. -/
def mpd (M : Nat → Bool) (a m : Nat) : Prop := ∀ x, a ≤ x → x < a + m → M (x / 64) = true
theorem mpd_zero (M : Nat → Bool) (a : Nat) : mpd M a 0 := fun x h1 h2 => by omega
theorem mpd_add {M : Nat → Bool} {a m k : Nat} : mpd M a (m + k) ↔ mpd M a m ∧ mpd M (a + m) k := by
  constructor
  · intro h
    exact ⟨fun x h1 h2 => h x h1 (by omega), fun x h1 h2 => h x (by omega) (by omega)⟩
  · rintro ⟨h1, h2⟩ x h3 h4
    by_cases e : x < a + m
    · exact h1 x h3 e
    · exact h2 x (by omega) (by omega)
theorem mpd_lt {M : Nat → Bool} {a m N : Nat} (hN : ∀ k, M k = true → k < N) (h : mpd M a m) : m = 0 ∨ a + m ≤ 64 * N := by
  rcases Nat.eq_zero_or_pos m with e | e
  · exact .inl e
  · have := hN _ (h (a + m - 1) (by omega) (by omega))
    right
    omega
theorem Vw.may {B : Nat → Nat → Nat} {T : Tab} {M : Nat → Bool} {V : Nat → Nat} (h : Vw B T M V) (a m : Nat) (wr : Bool) : mayB T a m wr = true ↔ mpd M a m := by
  have hok : ∀ k, okW (T k) wr = M k := fun k => by
    rw [← h.is]
    unfold okW
    cases hx : T k with
    | none => rfl
    | some x => simp [(h.of k x hx).1]
  rw [mayB_iff]
  constructor
  · intro h1 x h2 h3
    have := h1 (x / 64 - a / 64) ((cn_iff _ _ _).2 (by unfold fr; omega))
    rw [hok, show a / 64 + (x / 64 - a / 64) = x / 64 by omega] at this
    exact this
  · intro h1 i hi
    have h2 := (cn_iff _ _ _).1 hi
    rw [hok]
    have := h1 (a + fr a i) (by omega) (by omega)
    rw [show (a + fr a i) / 64 = a / 64 + i by unfold fr; omega] at this
    exact this
/-- What m addresses from a on have. -/
def rdv (V : Nat → Nat) (a m : Nat) : List Nat := (List.range m).map fun j => V (a + j)
theorem rdv_len (V : Nat → Nat) (a m : Nat) : (rdv V a m).length = m := by simp [rdv]
theorem rdv_at (V : Nat → Nat) (a m j : Nat) (h : j < m) : (rdv V a m)[j]? = some (V (a + j)) := by simp [rdv, h]
theorem rdv_add (V : Nat → Nat) (a m k : Nat) : rdv V a (m + k) = rdv V a m ++ rdv V (a + m) k := by
  unfold rdv
  rw [List.range_add, List.map_append, List.map_map]
  congr 1
  refine List.map_congr_left fun j _ => ?_
  show V (a + (m + j)) = V (a + m + j)
  rw [Nat.add_assoc]
theorem rdv_congr {V V' : Nat → Nat} {a m : Nat} (h : ∀ x, a ≤ x → x < a + m → V x = V' x) : rdv V a m = rdv V' a m :=
  List.map_congr_left fun j hj => h _ (by omega) (by have := List.mem_range.1 hj; omega)
theorem Vw.read {B : Nat → Nat → Nat} {T : Tab} {M : Nat → Bool} {V : Nat → Nat} (h : Vw B T M V) {a m : Nat} (hM : mpd M a m) : Re.rdl B T a m (cn a m) = rdv V a m := by
  have hm := mayB_iff.1 ((h.may a m false).2 hM)
  have : ∀ i, i ≤ cn a m → Re.rdl B T a m i = rdv V a (min m (fr a i)) := fun i => by
    induction i with
    | zero => intro _; rw [fr_zero, Nat.min_zero]; rfl
    | succ i ih =>
      intro hi
      have hft := fr_to (a := a) (m := m) (i := i) (by omega)
      show Re.rdl B T a m i ++ Re.pl B T a m i = _
      rw [ih (by omega), show min m (fr a i) = fr a i by omega, show min m (fr a (i + 1)) = fr a i + (to a m i - fr a i) by unfold to at hft ⊢; omega, rdv_add]
      congr 1
      unfold Re.pl rdv
      refine List.map_congr_left fun j hj => ?_
      have hj := List.mem_range.1 hj
      have hk := hm i (by omega)
      cases hx : T (a / 64 + i) with
      | none => rw [hx] at hk; cases hk
      | some x =>
        obtain ⟨_, _, hb⟩ := h.of _ x hx
        show B x.f.toNat (po a i + j) = _
        rw [hb _ (by omega)]
        congr 1
        unfold po fr at *
        split <;> omega
  rw [this _ (Nat.le_refl _), to_last]
/-- What a write leaves. -/
def wrv (V : Nat → Nat) (a : Nat) (xs : List Nat) : Nat → Nat := fun x => if a ≤ x ∧ x < a + xs.length then xs[x - a]?.getD 0 else V x
theorem wrv_out {V : Nat → Nat} {a : Nat} {xs : List Nat} {x : Nat} (h : ¬ (a ≤ x ∧ x < a + xs.length)) : wrv V a xs x = V x := if_neg h
theorem wrv_in {V : Nat → Nat} {a : Nat} {xs : List Nat} {j : Nat} (h : j < xs.length) : wrv V a xs (a + j) = xs[j] := by
  unfold wrv
  rw [if_pos ⟨by omega, by omega⟩, show a + j - a = j by omega, List.getElem?_eq_getElem h]
  rfl
theorem rdv_wrv (V : Nat → Nat) (a : Nat) (xs : List Nat) : rdv (wrv V a xs) a xs.length = xs := by
  apply List.ext_getElem
  · rw [rdv_len]
  · intro i h1 h2
    have := rdv_at (wrv V a xs) a xs.length i h2
    rw [List.getElem?_eq_getElem h1, wrv_in h2] at this
    exact Option.some.inj this
theorem wrv_app (V : Nat → Nat) (a : Nat) (xs ys : List Nat) : wrv (wrv V a xs) (a + xs.length) ys = wrv V a (xs ++ ys) := by
  funext x
  by_cases h1 : a + xs.length ≤ x ∧ x < a + xs.length + ys.length
  · obtain ⟨j, rfl⟩ : ∃ j, x = a + xs.length + j := ⟨x - (a + xs.length), by omega⟩
    have hj : j < ys.length := by omega
    rw [wrv_in hj, show a + xs.length + j = a + (xs.length + j) by omega, wrv_in (by rw [List.length_append]; omega), List.getElem_append_right (by omega)]
    congr 1
    omega
  · rw [wrv_out h1]
    by_cases h2 : a ≤ x ∧ x < a + xs.length
    · obtain ⟨j, rfl⟩ : ∃ j, x = a + j := ⟨x - a, by omega⟩
      have hj : j < xs.length := by omega
      rw [wrv_in hj, wrv_in (by rw [List.length_append]; omega), List.getElem_append_left hj]
    · rw [wrv_out h2, wrv_out (by rw [List.length_append]; omega)]
/-- Behind a write into the i-th of some spaces. -/
theorem vw_write {n : Nat} {R : Nat → Nat} {B : Nat → Nat → Nat} {Ls : List Tab} (h : Inv n R Ls) {i : Nat} (hi : i < Ls.length) {M : Nat → Bool} {Vs : Nat → Nat → Nat} (hv : ∀ j (g : j < Ls.length), Vw B Ls[j] M (Vs j)) (a : Nat) (xs : List Nat)
    (hM : mpd M a xs.length) (hR : nd R Ls[i] a 0 (cn a xs.length) ≤ fre n R) {s' : St} (hs : s' = sts n ⟨R, B, Ls[i]⟩ a xs.length xs (cn a xs.length)) :
    ∀ j (g : j < (Ls.set i s'.T).length), Vw s'.B (Ls.set i s'.T)[j] M (up Vs i (wrv (Vs i) a xs) j) := by
  subst hs
  obtain ⟨h1, h2, h3, h4, h5⟩ := sts_inv (s := ⟨R, B, Ls[i]⟩) h hi rfl a xs.length xs ((hv i hi).may a xs.length true |>.2 hM) hR (cn a xs.length) (Nat.le_refl _)
  have hm := mayB_iff.1 ((hv i hi).may a xs.length true |>.2 hM)
  intro j g
  rw [List.length_set] at g
  by_cases e : j = i
  · subst e
    rw [get_set, up_same]
    refine ⟨fun k => ?_, fun k z hz => ?_⟩
    · rw [← (hv j hi).is]
      cases hx : Ls[j] k with
      | some x =>
        obtain ⟨F, ⟨cc, dd, e1⟩, _⟩ := h4 k x hx
        rw [e1]
        rfl
      | none =>
        by_cases hin : k < a / 64 ∨ a / 64 + cn a xs.length ≤ k
        · rw [h3 k hin]
          show (Ls[j] k).isSome = _
          rw [hx]
        · have := hm (k - a / 64) (by omega)
          rw [show a / 64 + (k - a / 64) = k by omega, hx] at this
          cases this
    · cases hx : Ls[j] k with
      | none =>
        by_cases hin : k < a / 64 ∨ a / 64 + cn a xs.length ≤ k
        · have := h3 k hin
          rw [hz] at this
          exact absurd (this.trans hx) (by simp)
        · have := hm (k - a / 64) (by omega)
          rw [show a / 64 + (k - a / 64) = k by omega, hx] at this
          cases this
      | some x =>
        obtain ⟨F, ⟨cc, dd, e1⟩, _, e3⟩ := h4 k x hx
        rw [e1] at hz
        cases hz
        obtain ⟨v1, v2, v3⟩ := (hv j hi).of k x hx
        refine ⟨v1, v2, fun o ho => ?_⟩
        show (sts n ⟨R, B, Ls[j]⟩ a xs.length xs (cn a xs.length)).B ((F : Int)).toNat o = _
        rw [Int.toNat_natCast, e3]
        by_cases hin : a / 64 ≤ k ∧ k < a / 64 + cn a xs.length
        · rw [if_pos hin]
          obtain ⟨c, rfl⟩ : ∃ c, k = a / 64 + c := ⟨k - a / 64, by omega⟩
          have hc : c < cn a xs.length := by omega
          have hft := fr_to hc
          have hsl := seg_len (a := a) (m := xs.length) (i := c) rfl hc
          rw [show a / 64 + c - a / 64 = c by omega]
          unfold wr
          rw [hsl]
          have hpf : 64 * (a / 64 + c) + po a c = a + fr a c := by unfold po fr; split <;> omega
          by_cases hoc : po a c ≤ o ∧ o < po a c + (to a xs.length c - fr a c)
          · rw [if_pos hoc]
            obtain ⟨y, rfl⟩ : ∃ y, o = po a c + y := ⟨o - po a c, by omega⟩
            rw [show po a c + y - po a c = y by omega, show 64 * (a / 64 + c) + (po a c + y) = a + (fr a c + y) by omega, wrv_in (by omega)]
            unfold seg
            rw [List.getElem?_take, if_pos (by omega), List.getElem?_drop, List.getElem?_eq_getElem (by omega)]
            rfl
          · rw [if_neg hoc]
            show B x.f.toNat o = _
            rw [v3 o ho, wrv_out]
            intro hh
            apply hoc
            unfold to at *
            unfold po fr at *
            split <;> omega
        · rw [if_neg hin]
          show B x.f.toNat o = _
          rw [v3 o ho, wrv_out]
          intro hh
          apply hin
          have := (cn_iff a xs.length (k - a / 64)).2 (by unfold fr; omega)
          omega
  · have hgj : (Ls.set i (sts n ⟨R, B, Ls[i]⟩ a xs.length xs (cn a xs.length)).T)[j]'(by rw [List.length_set]; exact g) = Ls[j] := by rw [List.getElem_set, if_neg (Ne.symm e)]
    rw [hgj, up_other _ _ _ _ e]
    refine ⟨(hv j g).is, fun k y hy => ?_⟩
    obtain ⟨v1, v2, v3⟩ := (hv j g).of k y hy
    refine ⟨v1, v2, fun o ho => ?_⟩
    rw [h5 j g k y e hy (fun ⟨_, _, x, hx, hs, _⟩ => by rw [((hv i hi).of k x hx).2.1] at hs; cases hs)]
    exact v3 o ho
theorem vw_cow {B : Nat → Nat → Nat} {T : Tab} {M : Nat → Bool} {V : Nat → Nat} (h : Vw B T M V) : Vw B (cowT T) M V := by
  refine ⟨fun k => ?_, fun k z hz => ?_⟩
  · rw [← h.is]
    unfold cowT
    cases T k <;> rfl
  · unfold cowT at hz
    cases hx : T k with
    | none => rw [hx] at hz; cases hz
    | some x =>
      rw [hx] at hz
      cases hz
      exact h.of k x hx
theorem vw_alike {B B' : Nat → Nat → Nat} {T T' : Tab} {M : Nat → Bool} {V V' : Nat → Nat} (h : Vw B T M V) (h' : Vw B' T' M V') (hV : ∀ x, M (x / 64) = true → V x = V' x) (k : Nat) : sm B B' (T k) (T' k) = true := by
  rw [sm_iff]
  cases hx : T k with
  | none =>
    cases hy : T' k with
    | none => exact .inl ⟨rfl, rfl⟩
    | some y =>
      have h1 := h.is k
      have h2 := h'.is k
      rw [hx] at h1; rw [hy, ← h1] at h2; cases h2
  | some x =>
    have h1 := h.is k
    cases hy : T' k with
    | none =>
      have h2 := h'.is k
      rw [hx] at h1; rw [hy, ← h1] at h2; cases h2
    | some y =>
      obtain ⟨a1, a2, a3⟩ := h.of k x hx
      obtain ⟨b1, b2, b3⟩ := h'.of k y hy
      refine .inr ⟨x, y, rfl, rfl, by rw [a1, b1], by rw [a2, b2], fun i hi => ?_⟩
      rw [a3 i hi, b3 i hi]
      refine hV _ ?_
      rw [show (64 * k + i) / 64 = k by omega, ← h1, hx]
      rfl
end Go.Proofs.YtjoapeeljigjcaaDoor.Use

/-
  Calls of spaces that are flat bytes: Write, Read, Byte, Clone, Alike.
-/
namespace Go.Proofs.YtjoapeeljigjcaaDoor.Usf
open Go Go.RowKit Go.Shelf Kit Bk
open Fm hiding Mem made_any len_any
open Fo Fr Fw Fx Fu Fq
open Tm hiding Mem
open Ts Tc Ti Tl Sp Sa Pz To My Pv Mp Mq Dr Cl Iv Iw Ix Wr Sy Rd Usa Usb Usc Usd Use
set_option linter.unusedVariables false

variable {w w' : World} {p b n m : Nat} {qs ts : Nat → Nat} {M : Nat → Bool} {Vs : Nat → Nat → Nat}

/-- m spaces over one memory: their pages, and each one's bytes. -/
def On (w : World) (p b n : Nat) (qs ts : Nat → Nat) (M : Nat → Bool) (Vs : Nat → Nat → Nat) (m : Nat) : Prop :=
  ∃ R B Ls, Sy.Sys w p b n R B qs ts Ls ∧ Ls.length = m ∧ ∀ j (g : j < Ls.length), Vw B Ls[j] M (Vs j)
theorem On.below (h : On w p b n qs ts M Vs m) (hb : Below w.heap.size w w') : On w' p b n qs ts M Vs m := by
  obtain ⟨R, B, Ls, h1, h2⟩ := h
  exact ⟨R, B, Ls, h1.below hb, h2⟩
theorem On.lt (h : On w p b n qs ts M Vs m) {i : Nat} (hi : i < m) : b < w.heap.size ∧ ts i < w.heap.size ∧ qs i < w.heap.size ∧ p < w.heap.size := by
  obtain ⟨R, B, Ls, h1, rfl, _⟩ := h
  exact ⟨h1.fm.lt.2, (h1.tm i hi).lt, Blk.lt (show Blk w (qs i) _ _ from h1.sp i hi), h1.fm.lt.1⟩
theorem On.spc (h : On w p b n qs ts M Vs m) {i : Nat} (hi : i < m) : ∃ R B T, Spc w (qs i) p (ts i) b n R B T ∧ Vw B T M (Vs i) := by
  obtain ⟨R, B, Ls, h1, rfl, h2⟩ := h
  exact ⟨R, B, Ls[i], ⟨h1.sp i hi, h1.fm, h1.tm i hi, h1.inv.fit hi⟩, h2 i hi⟩
theorem On.top (h : On w p b n qs ts M Vs m) (hm : 0 < m) : ∀ k, M k = true → k < 64 := by
  obtain ⟨R, B, T, h1, h2⟩ := h.spc hm
  intro k hk
  rcases Nat.lt_or_ge k 64 with e | e
  · exact e
  · have := h2.is k
    rw [h1.tm.2 k e, hk] at this
    cases this
theorem On.u8 (h : On w p b n qs ts M Vs m) {i : Nat} (hi : i < m) {x : Nat} (hx : M (x / 64) = true) : Vs i x < 256 := by
  obtain ⟨R, B, T, h1, h2⟩ := h.spc hi
  have h3 := h2.is (x / 64)
  rw [hx] at h3
  obtain ⟨e, he⟩ := Option.isSome_iff_exists.1 h3
  have h4 := (h2.of _ e he).2.2 (x % 64) (by omega)
  rw [show 64 * (x / 64) + x % 64 = x by omega] at h4
  rw [← h4]
  exact h1.fm.u8 _ _

theorem nodup_le : ∀ (l E : List Nat), l.Nodup → (∀ x ∈ l, x ∈ E) → l.length ≤ E.length
  | [], _, _, _ => Nat.zero_le _
  | a :: l, E, hn, hs => by
    have ha : a ∈ E := hs a (by simp)
    have h1 := List.nodup_cons.1 hn
    have h2 := nodup_le l (E.erase a) h1.2 (fun x hx => (List.mem_erase_of_ne (fun e => h1.1 (by rw [← e]; exact hx))).2 (hs x (by simp [hx])))
    have h3 := List.length_erase_of_mem ha
    have h4 : 0 < E.length := List.length_pos_of_mem ha
    simp only [List.length_cons]
    omega
/-- The frames of some tables' first N pages. -/
def frs (N : Nat) : List Tab → List Nat
  | [] => []
  | T :: r => (List.range N).filterMap (fun k => (T k).map fun e => e.f.toNat) ++ frs N r
theorem frs_len (N : Nat) : ∀ Ls : List Tab, (frs N Ls).length ≤ Ls.length * N
  | [] => Nat.zero_le _
  | T :: r => by
    have h1 := frs_len N r
    have h2 := List.length_filterMap_le (fun k => (T k).map fun (e : En) => e.f.toNat) (List.range N)
    rw [List.length_range] at h2
    unfold frs
    rw [List.length_append, List.length_cons, Nat.succ_mul]
    omega
theorem frs_mem (N : Nat) (f : Nat) : ∀ Ls : List Tab, (∀ T ∈ Ls, ∀ k, (T k).isSome = true → k < N) → tot Ls f ≠ 0 → f ∈ frs N Ls
  | [], _, h => absurd rfl h
  | T :: r, hN, h => by
    unfold frs
    rw [List.mem_append]
    by_cases e : occ T f = 0
    · right
      refine frs_mem N f r (fun T' hT' => hN T' (by simp [hT'])) ?_
      intro h0
      apply h
      show occ T f + tot r f = 0
      omega
    · left
      obtain ⟨k, hk, hx⟩ := occN_ex e
      obtain ⟨x, hx, hf⟩ := has_pos hx
      refine List.mem_filterMap.2 ⟨k, List.mem_range.2 (hN T (by simp) k (by rw [hx]; rfl)), ?_⟩
      rw [hx]
      show some x.f.toNat = some f
      rw [hf]
      rfl
theorem room_of {R : Nat → Nat} {Ls : List Tab} {N : Nat} (h : Inv n R Ls) (hN : ∀ T ∈ Ls, ∀ k, (T k).isSome = true → k < N) : n - Ls.length * N ≤ fre n R := by
  have h1 := nodup_le (usd R n) (frs N Ls) (by unfold usd; exact List.Pairwise.filter _ List.nodup_range) (fun f hf => by
    refine frs_mem N f Ls hN ?_
    unfold usd at hf
    have := (List.mem_filter.1 hf).2
    rw [← h.cnt f]
    simpa using this)
  have h2 := frs_len N Ls
  unfold fre
  omega
theorem nd_le (R : Nat → Nat) (T : Tab) (a : Nat) : ∀ j i, nd R T a i j ≤ j
  | 0, _ => Nat.le_refl _
  | j + 1, i => by
    have := nd_le R T a j (i + 1)
    have h1 : ndB R (T (a / 64 + i)) ≤ 1 := by unfold ndB; split <;> (try split) <;> omega
    unfold nd
    omega

/-- Write, of one of them. -/
theorem oWrite (h : On w p b n qs ts M Vs m) {i : Nat} (hi : i < m) (a : Nat) (ha : a < 4294967296) (v : Value) (xs : List Nat) (hv : Src (fun j => j = b ∨ j = ts i) w v xs) (h8 : ∀ x ∈ xs, x < 256) (hl : xs.length ≤ 1000000) :
    Calls Tryd.prog 19 #[.pointer (some ⟨qs i, 0, none⟩), .int .u32 (a : Int), v] w fun e w' => ∃ (code : Int) (Vs' : Nat → Nat → Nat), e = .returned (.int .i64 code) ∧ Kp (fun j => j = b ∨ j = ts i) w w' ∧ On w' p b n qs ts M Vs' m ∧
      ((code = 0 ∧ mpd M a xs.length ∧ Vs' = up Vs i (wrv (Vs i) a xs)) ∨ (code = 14 ∧ ¬ mpd M a xs.length ∧ Vs' = Vs) ∨ (code = 12 ∧ mpd M a xs.length ∧ (∀ N, (∀ k, M k = true → k < N) → n < m * N + cn a xs.length) ∧ Vs' = Vs)) := by
  obtain ⟨av, cap, rfl⟩ : ∃ av cap, v = .slice av xs.length cap := by obtain ⟨⟨a, c, hv, _⟩, _⟩ := hv; exact ⟨a, c, hv⟩
  have H := h
  obtain ⟨R, B, Ls, h1, rfl, h2⟩ := h
  by_cases hM : mpd M a xs.length
  · have hMM := ((h2 i hi).may a xs.length true).2 hM
    by_cases hR : nd R Ls[i] a 0 (cn a xs.length) ≤ fre n R
    · refine (Nw.write_ok w (qs i) p (ts i) b n Ls[i] R B (h1.sp i hi) h1.fm (h1.tm i hi) (h1.inv.fit hi) a ha _ xs hv h8 hl hMM hR).mono ?_
      rintro e w' ⟨rfl, hkp, hF, hT⟩
      have hI := (sts_inv (s := ⟨R, B, Ls[i]⟩) h1.inv hi rfl a xs.length xs hMM hR (cn a xs.length) (Nat.le_refl _)).2.1
      exact ⟨0, _, rfl, hkp, ⟨_, _, _, h1.step hi hkp hF hT hI, by rw [List.length_set], vw_write h1.inv hi h2 a xs hM hR rfl⟩, .inl ⟨rfl, hM, rfl⟩⟩
    · refine (Nw.write_full w (qs i) p (ts i) b n Ls[i] R B (h1.sp i hi) h1.fm (h1.tm i hi) (h1.inv.fit hi) a av xs.length cap hl ha hMM (by omega)).mono ?_
      rintro e w' ⟨rfl, hb⟩
      refine ⟨12, Vs, rfl, Kp.of_below hb, H.below hb, .inr (.inr ⟨rfl, hM, fun N hN => ?_, rfl⟩)⟩
      have h3 := nd_le R Ls[i] a (cn a xs.length) 0
      have h4 := room_of (N := N) h1.inv (fun T hT k hk => by
        obtain ⟨j, hj, rfl⟩ := List.getElem_of_mem hT
        exact hN k (by rw [← (h2 j hj).is]; exact hk))
      omega
  · refine (Nw.write_no w (qs i) p (ts i) Ls[i] (h1.sp i hi) (h1.tm i hi) a av xs.length cap hl ha (by cases e : mayB Ls[i] a xs.length true with | false => rfl | true => exact absurd (((h2 i hi).may _ _ _).1 e) hM)).mono ?_
    rintro e w' ⟨rfl, hb⟩
    exact ⟨14, Vs, rfl, Kp.of_below hb, H.below hb, .inr (.inl ⟨rfl, hM, rfl⟩)⟩
/-- Read, of one of them. -/
theorem oRead (h : On w p b n qs ts M Vs m) {i : Nat} (hi : i < m) (a k : Nat) (ha : a < 4294967296) (hk : k ≤ 1000000) (hM : mpd M a k) :
    Calls Tryd.prog 21 #[.pointer (some ⟨qs i, 0, none⟩), .int .u32 (a : Int), .int .i64 (k : Int)] w fun e w' => Below w.heap.size w w' ∧ ∃ r, e = .returned (.tuple #[r, .int .i64 0]) ∧ w'.ownsRow w.heap.size 5 1 r k (Fw.u8s (rdv (Vs i) a k)) := by
  obtain ⟨R, B, T, h1, h2⟩ := h.spc hi
  have := Re.read_any w (qs i) p (ts i) b n T R B h1.sp h1.fm h1.tm h1.fit a k hk ha ((h2.may a k false).2 hM)
  rw [h2.read hM] at this
  exact this
theorem oReadNo (h : On w p b n qs ts M Vs m) {i : Nat} (hi : i < m) (a k : Nat) (ha : a < 4294967296) (hk : k < 9223372036854775808) (hM : ¬ mpd M a k) :
    Calls Tryd.prog 21 #[.pointer (some ⟨qs i, 0, none⟩), .int .u32 (a : Int), .int .i64 (k : Int)] w fun e w' => e = .returned (.tuple #[.slice none 0 0, .int .i64 14]) ∧ Below w.heap.size w w' := by
  obtain ⟨R, B, T, h1, h2⟩ := h.spc hi
  refine Nw.read_no w (qs i) p (ts i) T h1.sp h1.tm a k (k : Int) (.inl rfl) hk ha ?_
  cases e : mayB T a k false with
  | false => rfl
  | true => exact absurd ((h2.may _ _ _).1 e) hM
/-- Byte, of one of them. -/
theorem oByte (h : On w p b n qs ts M Vs m) {i : Nat} (hi : i < m) (a : Nat) (ha : a < 4294967296) (hM : M (a / 64) = true) :
    Calls Tryd.prog 51 #[.pointer (some ⟨qs i, 0, none⟩), .int .u32 (a : Int)] w fun e w' => e = .returned (.tuple #[.int .u8 (Vs i a : Int), .bool true]) ∧ Below w.heap.size w w' := by
  have hr := oRead h hi a 1 ha (by decide) (fun x h1 h2 => by rw [show x = a by omega]; exact hM)
  rw [show rdv (Vs i) a 1 = [Vs i a] by simp [rdv]] at hr
  exact byte_one w _ (a : Int) _ w.heap.size (h.u8 hi hM) (Nat.le_refl _) hr
theorem oByteNo (h : On w p b n qs ts M Vs m) {i : Nat} (hi : i < m) (a : Nat) (ha : a < 4294967296) (hM : M (a / 64) = false) :
    Calls Tryd.prog 51 #[.pointer (some ⟨qs i, 0, none⟩), .int .u32 (a : Int)] w fun e w' => e = .returned (.tuple #[.int .u8 0, .bool false]) ∧ Below w.heap.size w w' := by
  have H := Lib.hid (oReadNo h hi a 1 ha (by decide) (fun hh => by rw [hh a (Nat.le_refl _) (by omega)] at hM; cases hM))
  rw [show ((1 : Nat) : Int) = 1 from rfl] at H
  clear h
  go_enter Tryd.func51, Tryd.ntmps51
  go_wp2_with (first | (go_at_call 21; (with_reducible refine H.out.mono ?_); rintro e w1 ⟨rfl, hb⟩; have HB := Lib.hid hb; clear hb) | (go_at_call 72; (with_reducible refine (number_none _).mono ?_); rintro e w2 ⟨rfl, rfl⟩))
  go_ret2
  exact ⟨rfl, HB.out⟩
/-- Clone, of one of them. -/
theorem occN_le (T : Tab) (f : Nat) : ∀ N, occN T f N ≤ N
  | 0 => Nat.le_refl _
  | N + 1 => by
    have h1 := occN_le T f N
    have h2 := has_le (T N) f
    unfold occN
    omega
theorem tot_le : ∀ (Ls : List Tab) (f : Nat), tot Ls f ≤ 64 * Ls.length
  | [], _ => Nat.le_refl _
  | T :: r, f => by
    have h1 := tot_le r f
    have h2 := occN_le T f 64
    show occ T f + tot r f ≤ 64 * (r.length + 1)
    unfold occ
    omega
end Go.Proofs.YtjoapeeljigjcaaDoor.Usf

/-
  PutWords and Words.
-/
namespace Go.Proofs.YtjoapeeljigjcaaDoor.Usg
open Go Go.RowKit Go.Shelf Kit Bk
open Fm hiding Mem made_any len_any
open Fo Fr Fw Fx Fu Fq
open Tm hiding Mem
open Ts Tc Ti Tl Sp Sa Pz To My Pv Mp Mq Dr Cl Iv Iw Ix Wr Sy Rd Usa Usb Usc Usd Use Usf
open Bytes (allB bs)
open Words (wd)
set_option linter.unusedVariables false

variable {w w' : World} {p b n m : Nat} {qs ts : Nat → Nat} {M : Nat → Bool} {Vs : Nat → Nat → Nat}

/-- A row of the call's own lies in no elder block. -/
theorem src_own {S : Nat → Prop} {base k : Nat} {r : Value} {l : List Nat} (h : w.ownsRow base 5 1 r k (Bytes.u8s l)) (hS : ∀ j, S j → j < base) : Src S w r l := by
  refine ⟨BackNums.own_slc8 h, ?_⟩
  rcases h.2 with ⟨rfl, rfl⟩ | ⟨g, cap, cur, rfl, hg, _⟩
  · right
    intro ad m c e
    cases e
  · right
    intro ad m c e hs
    cases e
    have := hS _ hs
    dsimp only at this
    omega
/-- What a write of bytes leaves. -/
def Put (M : Nat → Bool) (Vs Vs' : Nat → Nat → Nat) (n m i a : Nat) (xs : List Nat) (code : Int) : Prop :=
  (code = 0 ∧ mpd M a xs.length ∧ Vs' = up Vs i (wrv (Vs i) a xs)) ∨ (code = 14 ∧ ¬ mpd M a xs.length ∧ Vs' = Vs) ∨ (code = 12 ∧ mpd M a xs.length ∧ (∀ N, (∀ k, M k = true → k < N) → n < m * N + cn a xs.length) ∧ Vs' = Vs)

set_option maxRecDepth 100000 in
theorem oPut (h : On w p b n qs ts M Vs m) {i : Nat} (hi : i < m) (a : Nat) (ha : a < 4294967296) (v : Value) (xs : List Nat) (hx : Slc .u32 w v xs) (hb : ∀ x ∈ xs, x < 4294967296) (hn : xs.length ≤ 1000) :
    Calls Tryd.prog 6 #[.pointer (some ⟨qs i, 0, none⟩), .int .u32 (a : Int), v] w fun e w' => ∃ (code : Int) (Vs' : Nat → Nat → Nat), e = .returned (.int .i64 code) ∧ Kp (fun j => j = b ∨ j = ts i) w w' ∧ On w' p b n qs ts M Vs' m ∧ Put M Vs Vs' n m i a (allB xs) code := by
  have HA := Lib.hid (Bytes.all_any v xs w hx hb hn)
  have H := Lib.hid (And.intro h (And.intro (BackNums.allB_lt hb) (show (allB xs).length ≤ 1000000 by rw [Bytes.allB_length]; omega)))
  have HL := Lib.hid (h.lt hi)
  obtain ⟨av, cap, rfl, h1, h2, -⟩ := hx
  have hd : decide ((1024 : Int) < (xs.length : Int)) = false := decide_eq_false (by omega)
  have hd2 : decide (1024 < xs.length) = false := decide_eq_false (by omega)
  have hlz : (xs.length : Int) ≤ 1000 := by omega
  clear h h1 h2 hb
  go_enter Tryd.func6, Tryd.ntmps6
  go_wp2_with (first
    | (go_at_call 20; (with_reducible refine HA.out.mono ?_); rintro e w1 ⟨r, rfl, ho, hb⟩; have HW := Lib.hid (oWrite (H.out.1.below hb) hi a ha r (allB xs) (src_own ho (fun j hj => by rcases hj with rfl | rfl; exact HL.out.1; exact HL.out.2.1)) H.out.2.1 H.out.2.2); have HB := Lib.hid hb; clear ho hb)
    | (go_at_call 19; (with_reducible refine HW.out.mono ?_); rintro e w2 ⟨code, Vs', rfl, hk, hO, hc⟩; have HK := Lib.hid (And.intro ((Kp.of_below HB.out).trans hk (fun j hj => .inl hj)) (And.intro hO hc)); clear hk hO hc))
  go_ret
  exact ⟨_, _, rfl, HK.out.1, HK.out.2.1, HK.out.2.2⟩
set_option maxRecDepth 100000 in
theorem put_many (w : World) (sp : Value) (a : Int) (av : Option Addr) (k cap : Nat) (hk : 1024 < k) (hk2 : k < 1000000) :
    Calls Tryd.prog 6 #[sp, .int .u32 a, .slice av k cap] w fun e w' => e = .returned (.int .i64 22) ∧ w = w' := by
  have hd : decide ((1024 : Int) < (k : Int)) = true := decide_eq_true (by omega)
  have hd2 : decide (1024 < k) = true := decide_eq_true (by omega)
  go_enter Tryd.func6, Tryd.ntmps6
  go_wp2
  go_ret
  exact ⟨rfl, rfl⟩

theorem rdv_lt (h : On w p b n qs ts M Vs m) {i : Nat} (hi : i < m) {a k : Nat} (hM : mpd M a k) : ∀ x ∈ rdv (Vs i) a k, x < 256 := fun x hx => by
  obtain ⟨j, hj, rfl⟩ := List.mem_map.1 hx
  have := List.mem_range.1 hj
  exact h.u8 hi (hM _ (by omega) (by omega))
set_option maxRecDepth 100000 in
theorem oWords (h : On w p b n qs ts M Vs m) {i : Nat} (hi : i < m) (a k : Nat) (ha : a < 4294967296) (hk : k ≤ 250) (hM : mpd M a (4 * k)) :
    Calls Tryd.prog 7 #[.pointer (some ⟨qs i, 0, none⟩), .int .u32 (a : Int), .int .i64 (k : Int)] w fun e w' => ∃ r, e = .returned (.tuple #[r, .int .i64 0]) ∧ Slc .u32 w' r ((List.range k).map (wd (rdv (Vs i) a (4 * k)))) ∧ Below w.heap.size w w' := by
  have hr := oRead h hi a (4 * k) ha (by omega) hM
  rw [show ((4 * k : Nat) : Int) = 4 * (k : Int) by omega] at hr
  have HR := Lib.hid hr
  have HX := Lib.hid (rdv_lt h hi hM)
  have hd1 : decide ((k : Int) < 0) = false := decide_eq_false (by omega)
  have hd2 : decide ((1024 : Int) < (k : Int)) = false := decide_eq_false (by omega)
  have hkz : (k : Int) ≤ 250 := by omega
  have hk0 : 0 ≤ (k : Int) := by omega
  clear h hr hM
  go_enter Tryd.func7, Tryd.ntmps7
  go_wp2_with (first
    | (go_at_call 21; (with_reducible refine HR.out.mono ?_); rintro e w1 ⟨hb, r, rfl, ho⟩; have HW := Lib.hid (BackNums.words_let r (rdv (Vs i) a (4 * k)) w1 (BackNums.own_slc8 ho) HX.out (by rw [rdv_len]; omega) (by rw [rdv_len]; omega)); rw [rdv_len, show 4 * k / 4 = k by omega] at HW; have HB := Lib.hid hb; clear ho hb)
    | (go_at_call 22; (with_reducible refine HW.out.mono ?_); rintro e w2 ⟨r2, rfl, hs, hb2⟩; have HK := Lib.hid (And.intro hs (HB.out.trans (hb2.mono HB.out.size))); clear hs hb2))
  go_ret2
  exact ⟨_, rfl, HK.out.1, HK.out.2⟩
set_option maxRecDepth 100000 in
theorem oWordsNo (h : On w p b n qs ts M Vs m) {i : Nat} (hi : i < m) (a k : Nat) (ha : a < 4294967296) (hk : k ≤ 250) (hM : ¬ mpd M a (4 * k)) :
    Calls Tryd.prog 7 #[.pointer (some ⟨qs i, 0, none⟩), .int .u32 (a : Int), .int .i64 (k : Int)] w fun e w' => e = .returned (.tuple #[.slice none 0 0, .int .i64 14]) ∧ Below w.heap.size w w' := by
  have hr := oReadNo h hi a (4 * k) ha (by omega) hM
  rw [show ((4 * k : Nat) : Int) = 4 * (k : Int) by omega] at hr
  have HR := Lib.hid hr
  have hd1 : decide ((k : Int) < 0) = false := decide_eq_false (by omega)
  have hd2 : decide ((1024 : Int) < (k : Int)) = false := decide_eq_false (by omega)
  have hkz : (k : Int) ≤ 250 := by omega
  have hk0 : 0 ≤ (k : Int) := by omega
  clear h hr hM
  go_enter Tryd.func7, Tryd.ntmps7
  go_wp2_with (first
    | (go_at_call 21; (with_reducible refine HR.out.mono ?_); rintro e w1 ⟨rfl, hb⟩; have HB := Lib.hid hb; clear hb))
  go_ret2
  exact ⟨rfl, HB.out⟩
set_option maxRecDepth 100000 in
theorem words_arg (w : World) (sp : Value) (a k : Int) (hk : k < 0 ∨ 1024 < k) :
    Calls Tryd.prog 7 #[sp, .int .u32 a, .int .i64 k] w fun e w' => e = .returned (.tuple #[.slice none 0 0, .int .i64 22]) ∧ w = w' := by
  by_cases h0 : k < 0
  · have hd1 : decide (k < 0) = true := decide_eq_true h0
    clear hk
    go_enter Tryd.func7, Tryd.ntmps7
    go_wp2
    go_ret2
    exact ⟨rfl, rfl⟩
  · have hd1 : decide (k < 0) = false := decide_eq_false h0
    have hd2 : decide ((1024 : Int) < k) = true := decide_eq_true (by omega)
    clear hk
    go_enter Tryd.func7, Tryd.ntmps7
    go_wp2
    go_ret2
    exact ⟨rfl, rfl⟩
end Go.Proofs.YtjoapeeljigjcaaDoor.Usg
