/-
  What stands behind pages mapped: their entries, their bytes, how many are dirty, and that they may be unmapped (towards SpaceMaps).
-/
import Derived.Test.YtclpokkjbkbkgaaZf
namespace Go.Proofs.Ytclpokkjbkbkgaa.Um
open Go Go.RowKit Go.Shelf Kit Bk
open Fm hiding Mem made_any len_any
open Fo Fr Fw Fx Fu Fq
open Tm hiding Mem
open Ts Tc Ti Sp Sa Pz To My Pv Mp Mq Dr Cl Iv Iw Ix Wr Sy Al Pg So Oq Sn Tg Un Zf
set_option linter.unusedVariables false

theorem maps_zero (n : Nat) (s : Sx) (k : Nat) (wb sh : Bool) (f : Nat) : ∀ m, (maps n s k wb sh m).R f = 0 → s.R f = 0
  | 0, h => h
  | m + 1, h => by
    have h' : up (maps n s k wb sh m).R (lf n (maps n s k wb sh m).R) 1 f = 0 := h
    by_cases e : f = lf n (maps n s k wb sh m).R
    · rw [e, up_same] at h'
      cases h'
    · rw [up_other _ _ _ _ e] at h'
      exact maps_zero n s k wb sh f m h'
theorem maps_at {n : Nat} {s : Sx} {k m : Nat} (hm : m ≤ fre n s.R) (wb sh : Bool) : ∀ i, i ≤ m → ∀ j, j < i → ∃ F : Nat, (maps n s k wb sh i).T (k + j) = some ⟨(F : Int), wb, sh, false, true⟩ ∧ F < n ∧ s.R F = 0
  | 0, _, j, hj => by omega
  | i + 1, hi, j, hj => by
    by_cases e : j = i
    · subst e
      have hp : 0 < fre n (maps n s k wb sh j).R := by rw [maps_fre n s k wb sh m hm j (by omega)]; omega
      obtain ⟨h1, h2, _⟩ := lf_spec (fre_pos hp)
      exact ⟨lf n (maps n s k wb sh j).R, up_same _ _ _, h1, maps_zero n s k wb sh _ j h2⟩
    · obtain ⟨F, h1, h2⟩ := maps_at hm wb sh i (by omega) j (by omega)
      exact ⟨F, (up_other _ _ _ _ (by omega)).trans h1, h2⟩
theorem dirty_ge {T : Tab} {k m : Nat} (h : ∀ j, j < m → ∃ x, T (k + j) = some x ∧ x.d = true) : ∀ N, min N (k + m) - k ≤ (Th.pgs (fun x => x.d) (ents T N)).length
  | 0 => by omega
  | N + 1 => by
    have ih := dirty_ge h N
    cases hx : T N with
    | none =>
      rw [ents_none hx]
      have : ¬ (k ≤ N ∧ N < k + m) := fun ⟨h1, h2⟩ => by
        obtain ⟨x, e, _⟩ := h (N - k) (by omega)
        rw [show k + (N - k) = N by omega, hx] at e
        cases e
      omega
    | some x =>
      rw [ents_some hx]
      by_cases hin : k ≤ N ∧ N < k + m
      · obtain ⟨y, e, hd⟩ := h (N - k) (by omega)
        rw [show k + (N - k) = N by omega, hx] at e
        cases e
        rw [Th.pgs_yes (x := (N, x)) hd, List.length_append]
        exact (by omega : min (N + 1) (k + m) - k ≤ (Th.pgs (fun x => x.d) (ents T N)).length + 1)
      · have hle : (Th.pgs (fun x => x.d) (ents T N)).length ≤ (Th.pgs (fun x => x.d) (ents T N ++ [(N, x)])).length := by
          simp only [Th.pgs, List.filter_append, List.map_append, List.length_append]
          exact Nat.le_add_right _ _
        omega
theorem un_ok {n : Nat} {R : Nat → Nat} {B : Nat → Nat → Nat} {T : Tab} (h : Inv n R [T]) {k m : Nat} (hk : k + m ≤ 64) (hall : ∀ j, j < m → T (k + j) = none) (hm : m ≤ fre n R) (wb sh : Bool) : unOk n (maps n ⟨R, B, T⟩ k wb sh m) k m := fun i hi => by
  obtain ⟨h1, h2⟩ := maps_inv (s := ⟨R, B, T⟩) h (i := 0) (by decide : 0 < 1) rfl hk hall hm wb sh m (Nat.le_refl _)
  obtain ⟨g1, g2, _, _⟩ := uns_inv (s := maps n ⟨R, B, T⟩ k wb sh m) h1 (i := 0) (by decide : 0 < 1) rfl k i
  obtain ⟨F, e1, e2, e3⟩ := maps_at (s := ⟨R, B, T⟩) hm wb sh m (Nat.le_refl _) i hi
  have e4 := (g2 (k + i) (.inr (Nat.le_refl _))).trans e1
  exact ⟨_, F, e4, rfl, e2, g1.used (i := 0) (by decide : 0 < 1) (k := k + i) e4 rfl⟩
theorem maps_B (n : Nat) (s : Sx) (k : Nat) (wb sh : Bool) : ∀ j, (maps n s k wb sh j).B = s.B
  | 0 => rfl
  | j + 1 => maps_B n s k wb sh j

/-- What stands behind a Map that went through. -/
structure Mpd (w : World) (p b n q t : Nat) (R : Nat → Nat) (B : Nat → Nat → Nat) (T : Tab) (a m : Nat) (wb sh : Bool) : Prop where
  h1 : 1 ≤ m
  h2 : a + m ≤ 64
  hI : Inv n R [T]
  hz : Zr R B
  hall : ∀ j, j < m → T (a + j) = none
  hm : m ≤ fre n R
  hS : Sy.Sys w p b n (maps n ⟨R, B, T⟩ a wb sh m).R B (fun _ => q) (fun _ => t) [(maps n ⟨R, B, T⟩ a wb sh m).T]
variable {w w' : World} {p b n q t a m : Nat} {R : Nat → Nat} {B : Nat → Nat → Nat} {T : Tab} {wb sh : Bool}
theorem Mpd.below (h : Mpd w p b n q t R B T a m wb sh) (hb : Below w.heap.size w w') : Mpd w' p b n q t R B T a m wb sh := ⟨h.h1, h.h2, h.hI, h.hz, h.hall, h.hm, h.hS.below hb⟩
theorem Mpd.at_ (h : Mpd w p b n q t R B T a m wb sh) {j : Nat} (hj : j < m) : ∃ F : Nat, (maps n ⟨R, B, T⟩ a wb sh m).T (a + j) = some ⟨(F : Int), wb, sh, false, true⟩ ∧ F < n ∧ R F = 0 :=
  maps_at (s := ⟨R, B, T⟩) h.hm wb sh m (Nat.le_refl _) j hj
theorem Mpd.dirty (h : Mpd w p b n q t R B T a m wb sh) :
    ∃ c : Nat, m ≤ c ∧ c ≤ 64 ∧ Calls Try.prog 16 #[.pointer (some ⟨q, 0, none⟩)] w fun e w' => ∃ ad cap, e = .returned (.slice ad c cap) ∧ Below w.heap.size w w' := by
  refine ⟨(Th.pgs (fun x => x.d) (ents (maps n ⟨R, B, T⟩ a wb sh m).T 64)).length, ?_, ?_, (dirty_any w q p t _ (h.hS.sp 0 (by decide : 0 < 1)) (h.hS.tm 0 (by decide : 0 < 1))).mono ?_⟩
  · have := dirty_ge (T := (maps n ⟨R, B, T⟩ a wb sh m).T) (k := a) (m := m) (fun j hj => by
      obtain ⟨F, e, _⟩ := h.at_ hj
      exact ⟨_, e, rfl⟩) 64
    have := h.h2
    show m ≤ (Th.pgs (fun x => x.d) (ents (maps n ⟨R, B, T⟩ a wb sh m).T 64)).length
    omega
  · exact Nat.le_trans (Th.pgs_len _ _) (ents_len _ _)
  · rintro e w' ⟨hb, r, rfl, _, ⟨h1, h2⟩ | ⟨g, cap, cur, rfl, _⟩⟩
    · refine ⟨none, 0, ?_, hb⟩
      rw [h1]
      congr 2
      exact h2.symm
    · exact ⟨_, _, rfl, hb⟩
theorem Mpd.page (h : Mpd w p b n q t R B T a m wb sh) {j : Nat} (hj : j < m) :
    Calls Try.prog 22 #[.pointer (some ⟨q, 0, none⟩), .int .i64 ((a + j : Nat) : Int)] w fun e w' => ∃ g off cap, e = .returned (.slice (some ⟨g, off, none⟩) 64 cap) ∧ 64 ≤ cap ∧ cap ≤ maxLen ∧ Below w.heap.size w w' ∧ ∀ i, i < 64 → w'.cell? ⟨g, off + i, none⟩ = some (.int .u8 0) := by
  obtain ⟨F, e1, e2, e3⟩ := h.at_ hj
  refine (Nw.page_some w q p t b n _ _ B (h.hS.sp 0 (by decide : 0 < 1)) h.hS.fm (h.hS.tm 0 (by decide : 0 < 1)) (a + j) _ e1 F rfl e2 (h.hS.inv.used (i := 0) (by decide : 0 < 1) e1 rfl)).mono ?_
  rintro e w' ⟨hb, r, rfl, ho⟩
  rw [u8f_bts] at ho
  obtain ⟨ad, cap, rfl, h1, h2, h3 | ⟨g, off, rfl, hlt, hc⟩⟩ := own_slc ho
  · exact absurd (congrArg List.length h3) (by rw [bts_len]; decide)
  · rw [bts_len] at h1 hc
    refine ⟨g, off, cap, by rw [bts_len], h1, h2, hb, fun i hi => (hc i hi).trans ?_⟩
    have : (bts (B F) 64)[i]? = some 0 := by simp [bts, hi, h.hz F e3]
    rw [this]
    rfl
theorem Mpd.frame (h : Mpd w p b n q t R B T a m wb sh) {j : Nat} (hj : j < m) :
    Calls Try.prog 10 #[.pointer (some ⟨q, 0, none⟩), .int .u32 (((a + j) * 64 : Nat) : Int)] w fun e w' => (∃ F : Int, e = .returned (.tuple #[.int .i64 F, .bool sh])) ∧ Below w.heap.size w w' := by
  obtain ⟨F, e1, e2, e3⟩ := h.at_ hj
  have h2 := h.h2
  refine (frame_any w q p t _ (h.hS.sp 0 (by decide : 0 < 1)) (h.hS.tm 0 (by decide : 0 < 1)) ((a + j) * 64) (by omega)).mono ?_
  rintro e w' ⟨hb, rfl⟩
  have e5 : atI [(maps n ⟨R, B, T⟩ a wb sh m).T][0] (((a + j) * 64 / 64 : Nat) : Int) = some ⟨(F : Int), wb, sh, false, true⟩ := by
    rw [show (a + j) * 64 / 64 = a + j by omega, atI_nat (by omega : a + j < 64)]
    exact e1
  refine ⟨⟨(F : Int), ?_⟩, hb⟩
  rw [e5]
  rfl
theorem Mpd.free (h : Mpd w p b n q t R B T a m wb sh) :
    Calls Try.prog 23 #[.pointer (some ⟨p, 0, none⟩)] w fun e w' => e = .returned (.int .i64 ((fre n R : Int) - (m : Int))) ∧ Below w.heap.size w w' := by
  have := free_is w p b n _ B h.hS.fm
  have hm := h.hm
  rw [maps_fre n ⟨R, B, T⟩ a wb sh m hm m (Nat.le_refl _), show ((fre n R - m : Nat) : Int) = (fre n R : Int) - (m : Int) by omega] at this
  exact this
theorem Mpd.unmap (h : Mpd w p b n q t R B T a m wb sh) :
    Calls Try.prog 9 #[.pointer (some ⟨q, 0, none⟩), .int .i64 (a : Int), .int .i64 (m : Int)] w fun e w' => e = .returned (.int .i64 0) ∧ Kp (fun j => j = b ∨ j = t) w w' ∧ ∃ B', Sy.Sys w' p b n R B' (fun _ => q) (fun _ => t) [T] ∧ pgP B' T 64 = pgP B T 64 := by
  have ha : allI (maps n ⟨R, B, T⟩ a wb sh m).T a m true = true := allI_iff.2 fun j hj => by
    obtain ⟨F, e, _⟩ := h.at_ hj
    rw [e]
    rfl
  have hb := maps_B n ⟨R, B, T⟩ a wb sh m
  refine (Nw.unmap_ok w q p t b n (maps n ⟨R, B, T⟩ a wb sh m) (h.hS.sp 0 (by decide : 0 < 1)) (by rw [hb]; exact h.hS.fm) (h.hS.tm 0 (by decide : 0 < 1)) a m h.h1 h.h2 ha (un_ok h.hI h.h2 h.hall h.hm wb sh)).mono ?_
  rintro e w' ⟨rfl, hF, hT, hk⟩
  obtain ⟨e1, e2, e3, e4⟩ := maps_back (B := B) h.hI h.h2 h.hall h.hm wb sh
  rw [e1] at hT
  rw [e2] at hF
  exact ⟨rfl, hk, _, h.hS.step (i := 0) (by decide : 0 < 1) hk hF hT h.hI, pgP_keep e4⟩
theorem wf_small (k : Nat) (h : k ≤ 1000) : (Lit.int .i64 (k : Int)).wf = true := by
  simp [Lit.wf, IntKind.min, IntKind.max, IntKind.bits, IntKind.signed]
  omega
theorem unmap_twice (hS : Sy.Sys w p b n R B (fun _ => q) (fun _ => t) [T]) (h1 : 1 ≤ m) (h2 : a + m ≤ 64) (hall : ∀ j, j < m → T (a + j) = none) :
    Calls Try.prog 9 #[.pointer (some ⟨q, 0, none⟩), .int .i64 (a : Int), .int .i64 (m : Int)] w fun e w' => e = .returned (.int .i64 22) ∧ Below w.heap.size w w' := by
  refine Nw.unmap_no w q p t T (hS.sp 0 (by decide : 0 < 1)) (hS.tm 0 (by decide : 0 < 1)) a m (wf_small a (by omega)) (wf_small m (by omega)) (.inr ⟨a, m, rfl, rfl, h1, h2, ?_⟩)
  cases h : allI T a m true with
  | false => rfl
  | true =>
    have := allI_iff.1 h 0 (by omega)
    rw [hall 0 (by omega)] at this
    cases this
/-- A row of entries that was read stays. -/
theorem row_kept {Ls : List Tab} {qs ts : Nat → Nat} (hS : Sy.Sys w p b n R B qs ts Ls) {i : Nat} (hi : i < Ls.length) {v : Value} {l : Nat} {xs : List Value} (h : Rd.Rd w 62 v 6 l xs) (hk : Kp (fun j => j = b ∨ j = ts i) w w') : Rd.Rd w' 62 v 6 l xs := by
  refine h.kept hk fun g cs hb hg => ?_
  rcases hg with rfl | rfl
  · obtain ⟨cs', hb', _⟩ := hS.fm.row
    have e := hb.symm.trans hb'
    injection e with e
    injection e with e1 e2
    exact absurd e2 (by decide)
  · obtain ⟨cs', hb', _⟩ := (hS.tm i hi).blk
    have e := hb.symm.trans hb'
    injection e with e
    injection e with e1 e2
    exact absurd e2 (by decide)
/-- A row told, its length as a name. -/
theorem row_len {base : Nat} {r : Value} {l : List (Nat × En)} (h : w.ownsRow base 62 6 r l.length (Tl.mcells l)) : ∃ ln, l.length = ln ∧ ∃ ad cap, r = .slice ad ln cap ∧ ln ≤ cap ∧ cap ≤ maxLen ∧ Rd.Rd w 62 (.slice ad ln cap) 6 ln (Tl.mcells l) := by
  have h2 := Rd.Rd.of_own h
  obtain ⟨_, ad, cap, rfl, h3, h4, _⟩ := id h2
  exact ⟨_, rfl, ad, cap, rfl, h3, h4, h2⟩
end Go.Proofs.Ytclpokkjbkbkgaa.Um
