/-
  Some spaces over one memory, in a slice: what each call of SpaceWrites leaves of them.
-/
import Derived.Test.YtclpokkjbkbkgaaCn
namespace Go.Proofs.Ytclpokkjbkbkgaa.Fa
open Go Go.RowKit Go.Shelf Kit Bk
open Fm hiding Mem made_any len_any
open Fo Fr Fw Fx Fu Fq
open Tm hiding Mem
open Ts Tc Ti Sp Sa Pz To My Pv Mp Mq Dr Cl Iv Iw Ix Wr Sy Al Pg So Oq Sn Tg Un Zf Um Qc Cn
set_option linter.unusedVariables false

variable {N : Nat} {w w' : World} {p b n : Nat} {R : Nat → Nat} {B : Nat → Nat → Nat} {qs ts : Nat → Nat} {Ls : List Tab} {v : Value} {L M : Nat}

theorem un_oks {s : Sx} (h : Inv n s.R Ls) {i : Nat} (hi : i < Ls.length) (hT : Ls[i] = s.T) {k m : Nat} (hall : allI s.T k m true = true) : unOk n s k m := fun j hj => by
  obtain ⟨g1, g2, _, _⟩ := uns_inv h hi hT k j
  have hs := allI_iff.1 hall j hj
  obtain ⟨x, hx⟩ := Option.isSome_iff_exists.1 hs
  have hx2 : Ls[i] (k + j) = some x := by rw [hT]; exact hx
  obtain ⟨_, f, e1, e2⟩ := h.rng i hi _ x hx2
  have e4 := (g2 (k + j) (.inr (Nat.le_refl _))).trans hx
  have hi' : i < (Ls.set i (uns s k j).T).length := by rw [List.length_set]; exact hi
  exact ⟨x, f, e4, e1, e2, g1.used hi' (k := k + j) (by rw [get_set]; exact e4) e1⟩
/-- Unmap, of one of them. -/
theorem sUnmap (h : Sy.Sys w p b n R B qs ts Ls) {i : Nat} (hi : i < Ls.length) (page k : Int) (hp : (Lit.int .i64 page).wf = true) (hk : (Lit.int .i64 k).wf = true) :
    Calls Try.prog 9 #[.pointer (some ⟨qs i, 0, none⟩), .int .i64 page, .int .i64 k] w fun e w' => ∃ (u : Value) (R' : Nat → Nat) (B' : Nat → Nat → Nat) (T' : Tab), e = .returned u ∧ Kp (fun j => j = b ∨ j = ts i) w w' ∧ Sy.Sys w' p b n R' B' qs ts (Ls.set i T') := by
  have hno : (okR page k = false ∨ ∃ a m : Nat, page = (a : Int) ∧ k = (m : Int) ∧ 1 ≤ m ∧ a + m ≤ 64 ∧ allI Ls[i] a m true = false) → _ := fun hno => (Nw.unmap_no w (qs i) p (ts i) Ls[i] (h.sp i hi) (h.tm i hi) page k hp hk hno).mono (R' := fun e w' => ∃ (u : Value) (R' : Nat → Nat) (B' : Nat → Nat → Nat) (T' : Tab), e = .returned u ∧ Kp (fun j => j = b ∨ j = ts i) w w' ∧ Sy.Sys w' p b n R' B' qs ts (Ls.set i T')) (fun e w' ⟨he, hb⟩ => ⟨_, R, B, Ls[i], he, Kp.of_below hb, by rw [set_get]; exact h.below hb⟩)
  by_cases hok : okR page k = true
  · obtain ⟨h1, h2, h3⟩ := okR_iff.1 hok
    obtain ⟨a, rfl⟩ := Int.eq_ofNat_of_zero_le h1
    obtain ⟨m, rfl⟩ := Int.eq_ofNat_of_zero_le (show 0 ≤ k by omega)
    cases ha : allI Ls[i] a m true with
    | false => exact hno (.inr ⟨a, m, rfl, rfl, by omega, by omega, ha⟩)
    | true =>
      refine (Nw.unmap_ok w (qs i) p (ts i) b n ⟨R, B, Ls[i]⟩ (h.sp i hi) h.fm (h.tm i hi) a m (by omega) (by omega) ha (un_oks (s := ⟨R, B, Ls[i]⟩) h.inv hi rfl ha)).mono ?_
      rintro e w' ⟨rfl, hF, hT, hkp⟩
      exact ⟨_, _, _, _, rfl, hkp, h.step hi hkp hF hT (uns_inv (s := ⟨R, B, Ls[i]⟩) h.inv hi rfl a m).1⟩
  · exact hno (.inl (by simpa using hok))

/-- Pointers to the first L. -/
def ptrs (qs : Nat → Nat) (L : Nat) : List Value := (List.range L).map fun i => Value.pointer (some ⟨qs i, 0, none⟩)
theorem ptrs_len (qs : Nat → Nat) (L : Nat) : (ptrs qs L).length = L := by simp [ptrs]
theorem ptrs_at (qs : Nat → Nat) {L i : Nat} (h : i < L) : (ptrs qs L)[i]? = some (.pointer (some ⟨qs i, 0, none⟩)) := by simp [ptrs, h]
theorem ptrs_succ (qs : Nat → Nat) (L : Nat) : ptrs qs L ++ [.pointer (some ⟨qs L, 0, none⟩)] = ptrs qs (L + 1) := by simp [ptrs, List.range_succ]
theorem ptrs_congr {qs qs' : Nat → Nat} {L : Nat} (h : ∀ i, i < L → qs i = qs' i) : ptrs qs L = ptrs qs' L := List.map_congr_left fun i hi => by rw [h i (List.mem_range.1 hi)]

/-- L pointers lie in the row v; there are M spaces. -/
def Fam (N : Nat) (w : World) (p b n : Nat) (v : Value) (L M : Nat) (qs : Nat → Nat) : Prop := ∃ R B ts Ls, Ls.length = M ∧ Sy.Sys w p b n R B qs ts Ls ∧ w.ownsRow N 23 1 v L (ptrs qs L) ∧ N ≤ b ∧ ∀ i, i < M → N ≤ ts i
theorem own_kept {S : Nat → Prop} {T : TypeId} {size : Nat} {xs : List Value} (h : w.ownsRow N T size v L xs) (hk : Kp S w w') (hS : ∀ g cs, Blk w g cs T → ¬ S g) : w'.ownsRow N T size v L xs := by
  obtain ⟨hl, ⟨h1, h2⟩ | ⟨g, cap, cur, rfl, hg, hb, hc, hm, hs, he⟩⟩ := h
  · exact ⟨hl, .inl ⟨h1, h2⟩⟩
  · have hb' : Blk w g cur T := hb
    exact ⟨hl, .inr ⟨g, cap, cur, rfl, hg, hb'.kept hk (hS g cur hb'), hc, hm, hs, he⟩⟩
theorem own_below {T : TypeId} {size : Nat} {xs : List Value} (h : w.ownsRow N T size v L xs) (hb : Below w.heap.size w w') : w'.ownsRow N T size v L xs := own_kept h (S := fun _ => False) (.of_below hb) (fun _ _ _ e => e)
theorem row_far {T : TypeId} (hT : T ≠ 109) (hT2 : T ≠ 95) (hS : Sy.Sys w p b n R B qs ts Ls) {i : Nat} (hi : i < Ls.length) : ∀ g cs, Blk w g cs T → ¬ (g = b ∨ g = ts i) := fun g cs hb hg => by
  rcases hg with rfl | rfl
  · obtain ⟨cs', hb', _⟩ := hS.fm.row
    exact hT (Blk.inj hb hb').2
  · obtain ⟨cs', hb', _⟩ := (hS.tm i hi).blk
    exact hT2 (Blk.inj hb hb').2
theorem Fam.below (h : Fam N w p b n v L M qs) (hb : Below w.heap.size w w') : Fam N w' p b n v L M qs := by
  obtain ⟨R, B, ts, Ls, h1, h2, h3, h4, h5⟩ := h
  exact ⟨R, B, ts, Ls, h1, h2.below hb, own_below h3 hb, h4, h5⟩
/-- The row as a slice. -/
theorem own_get {xs : List Value} {T : TypeId} (h : w.ownsRow N T 1 v L xs) (hL : 1 ≤ L) : ∃ g cap, v = .slice (some ⟨g, 0, none⟩) L cap ∧ L ≤ cap ∧ cap ≤ maxLen ∧ g < w.heap.size ∧ ∀ i, i < L → w.cell? ⟨g, i, none⟩ = xs[i]? := by
  obtain ⟨hl, ⟨h1, h2⟩ | ⟨g, cap, cur, rfl, hg, hb, hc, hm, hs, he⟩⟩ := h
  · omega
  · have hb' : Blk w g cur T := hb
    refine ⟨g, cap, rfl, hc, hm, hb'.lt, fun i hi => ?_⟩
    rw [hb'.cell]
    have := congrArg (fun l => l[i]?) he
    simp only [List.getElem?_take, Array.getElem?_toList] at this
    rw [if_pos (by omega)] at this
    exact this
theorem Fam.get (h : Fam N w p b n v L M qs) (hL : 1 ≤ L) : ∃ g cap, v = .slice (some ⟨g, 0, none⟩) L cap ∧ L ≤ cap ∧ cap ≤ maxLen ∧ g < w.heap.size ∧ ∀ i, i < L → w.cell? ⟨g, i, none⟩ = some (.pointer (some ⟨qs i, 0, none⟩)) := by
  obtain ⟨R, B, ts, Ls, h1, h2, h3, h4, h5⟩ := h
  obtain ⟨g, cap, e1, e2, e3, e4, e5⟩ := own_get h3 hL
  exact ⟨g, cap, e1, e2, e3, e4, fun i hi => (e5 i hi).trans (ptrs_at qs hi)⟩
/-- What is neither frames' nor a table's stays. -/
def Kx (w w' : World) : Prop := ∀ g cs T, T ≠ 109 → T ≠ 95 → Blk w g cs T → Blk w' g cs T
theorem fStep {i : Nat} {T' : Tab} {R' : Nat → Nat} {B' : Nat → Nat → Nat} (h1 : Ls.length = M) (h2 : Sy.Sys w p b n R B qs ts Ls) (h3 : w.ownsRow N 23 1 v L (ptrs qs L)) (h4 : N ≤ b) (h5 : ∀ i, i < M → N ≤ ts i) (hi : i < Ls.length) (hN : N ≤ w.heap.size) (hkp : Kp (fun j => j = b ∨ j = ts i) w w') (hS : Sy.Sys w' p b n R' B' qs ts (Ls.set i T')) :
    Fam N w' p b n v L M qs ∧ Below N w w' ∧ Kx w w' :=
  ⟨⟨R', B', ts, Ls.set i T', by rw [List.length_set]; exact h1, hS, own_kept h3 hkp (row_far (by decide) (by decide) h2 hi), h4, h5⟩, below_of hkp hN (fun j hj => by rcases hj with rfl | rfl; exact h4; exact h5 i (by omega)), fun g cs T t1 t2 hb => hb.kept hkp (row_far t1 t2 h2 hi g cs hb)⟩
theorem fMap (h : Fam N w p b n v L M qs) (hN : N ≤ w.heap.size) {i : Nat} (hi : i < M) (page k : Int) (hp : (Lit.int .i64 page).wf = true) (hk : (Lit.int .i64 k).wf = true) (wb sh : Bool) :
    Calls Try.prog 11 #[.pointer (some ⟨qs i, 0, none⟩), .int .i64 page, .int .i64 k, .bool wb, .bool sh] w fun e w' => (∃ u, e = .returned u) ∧ Fam N w' p b n v L M qs ∧ Below N w w' ∧ Kx w w' := by
  obtain ⟨R, B, ts, Ls, h1, h2, h3, h4, h5⟩ := h
  have hi' : i < Ls.length := by omega
  refine (sMap h2 hi' page k hp hk wb sh).mono ?_
  rintro e w' ⟨code, R', T', rfl, hkp, hS, hc⟩
  exact ⟨⟨_, rfl⟩, fStep h1 h2 h3 h4 h5 hi' hN hkp hS⟩
theorem fUnmap (h : Fam N w p b n v L M qs) (hN : N ≤ w.heap.size) {i : Nat} (hi : i < M) (page k : Int) (hp : (Lit.int .i64 page).wf = true) (hk : (Lit.int .i64 k).wf = true) :
    Calls Try.prog 9 #[.pointer (some ⟨qs i, 0, none⟩), .int .i64 page, .int .i64 k] w fun e w' => (∃ u, e = .returned u) ∧ Fam N w' p b n v L M qs ∧ Below N w w' ∧ Kx w w' := by
  obtain ⟨R, B, ts, Ls, h1, h2, h3, h4, h5⟩ := h
  have hi' : i < Ls.length := by omega
  refine (sUnmap h2 hi' page k hp hk).mono ?_
  rintro e w' ⟨u, R', B', T', rfl, hkp, hS⟩
  exact ⟨⟨_, rfl⟩, fStep h1 h2 h3 h4 h5 hi' hN hkp hS⟩
theorem fWrite (h : Fam N w p b n v L M qs) (hN : N ≤ w.heap.size) {i : Nat} (hi : i < M) (a : Nat) (ha : a < 4294967296) (u : Value) (xs : List Nat) (hv : ∀ S : Nat → Prop, (∀ j, S j → N ≤ j) → Src S w u xs) (h8 : ∀ x ∈ xs, x < 256) (hl : xs.length ≤ 300) :
    Calls Try.prog 12 #[.pointer (some ⟨qs i, 0, none⟩), .int .u32 (a : Int), u] w fun e w' => (∃ u, e = .returned u) ∧ Fam N w' p b n v L M qs ∧ Below N w w' ∧ Kx w w' := by
  obtain ⟨R, B, ts, Ls, h1, h2, h3, h4, h5⟩ := h
  have hi' : i < Ls.length := by omega
  refine (sWrite h2 hi' a ha u xs (hv _ (fun j hj => by rcases hj with rfl | rfl; exact h4; exact h5 i hi)) h8 (by omega)).mono ?_
  rintro e w' ⟨code, s', rfl, hkp, hS, hc⟩
  exact ⟨⟨_, rfl⟩, fStep h1 h2 h3 h4 h5 hi' hN hkp hS⟩
theorem fDrop (h : Fam N w p b n v L M qs) (hN : N ≤ w.heap.size) {i : Nat} (hi : i < M) :
    Calls Try.prog 19 #[.pointer (some ⟨qs i, 0, none⟩)] w fun e w' => (∃ u, e = .returned u) ∧ Fam N w' p b n v L M qs ∧ Below N w w' ∧ Kx w w' := by
  obtain ⟨R, B, ts, Ls, h1, h2, h3, h4, h5⟩ := h
  have hi' : i < Ls.length := by omega
  refine (sDrop h2 hi').mono ?_
  rintro e w' ⟨u, R', B', rfl, hkp, hS, hc⟩
  exact ⟨⟨_, rfl⟩, fStep h1 h2 h3 h4 h5 hi' hN hkp hS⟩
theorem fClone (h : Fam N w p b n v L M qs) (hN : N ≤ w.heap.size) (hLM : L ≤ M) (hM : M ≤ 8) {i : Nat} (hi : i < M) :
    Calls Try.prog 14 #[.pointer (some ⟨qs i, 0, none⟩)] w fun e w' => ∃ q', e = .returned (.pointer (some ⟨q', 0, none⟩)) ∧ Fam N w' p b n v L (M + 1) (up qs M q') ∧ Below N w w' := by
  obtain ⟨R, B, ts, Ls, h1, h2, h3, h4, h5⟩ := h
  have hi' : i < Ls.length := by omega
  refine (clone_ok h2 (by omega) hi').mono ?_
  rintro e w' ⟨q', t', rfl, hq, ht, hkp, hS⟩
  have hrow := own_kept h3 hkp (row_far (by decide) (by decide) h2 hi')
  rw [ptrs_congr (qs' := up qs M q') (fun j hj => (up_other _ _ _ _ (by omega)).symm)] at hrow
  rw [h1] at hS
  refine ⟨q', rfl, ⟨_, _, _, _, by rw [List.length_append, List.length_set, h1]; rfl, hS, hrow, h4, fun j hj => ?_⟩, below_of hkp hN (fun j hj => by rcases hj with rfl | rfl; exact h4; exact h5 i hi)⟩
  by_cases e : j = M
  · rw [e, up_same]
    omega
  · rw [up_other _ _ _ _ e]
    exact h5 j (by omega)
theorem sys_far {S : Nat → Prop} (h : Sy.Sys w p b n R B qs ts Ls) (hk : Kp S w w') (hS : ∀ j, S j → ∃ cs, Blk w j cs 23) : Sy.Sys w' p b n R B qs ts Ls := by
  refine ⟨?_, fun i hi => ?_, fun i hi => ?_, h.dis, h.inv⟩
  · obtain ⟨cap, h1, _⟩ := h.fm.hd
    obtain ⟨cs, h3, _⟩ := h.fm.row
    refine h.fm.kept hk (fun e => ?_) (fun e => ?_)
    · obtain ⟨c, hc⟩ := hS _ e
      exact absurd (Blk.inj h1 hc).2 (by decide)
    · obtain ⟨c, hc⟩ := hS _ e
      exact absurd (Blk.inj h3 hc).2 (by decide)
  · refine Sp.kept (h.sp i hi) hk (fun e => ?_)
    obtain ⟨c, hc⟩ := hS _ e
    exact absurd (Blk.inj (h.sp i hi) hc).2 (by decide)
  · obtain ⟨cs, h3, _⟩ := (h.tm i hi).blk
    refine (h.tm i hi).kept hk (fun e => ?_)
    obtain ⟨c, hc⟩ := hS _ e
    exact absurd (Blk.inj h3 hc).2 (by decide)
theorem infoP : (Try.prog.info? 23).map (fun i => (i.zero, i.size, i.bytes)) = some (some (.pointer none), 1, 8) := by kernel_rfl
theorem own_block {T : TypeId} {size : Nat} {xs : List Value} (h : w.ownsRow N T size v L xs) (j : Nat) (hj : some j = v.ownBlock) : N ≤ j ∧ ∃ cs, Blk w j cs T := by
  obtain ⟨hl, ⟨h1, h2⟩ | ⟨g, cap, cur, rfl, hg, hb, hc, hm, hs, he⟩⟩ := h
  · subst h1
    cases hj
  · cases hj
    exact ⟨hg, cur, hb⟩
/-- One more pointer behind the row. -/
theorem fAppend (h : Fam N w p b n v L (L + 1) qs) (hN : N ≤ w.heap.size) (hL : L ≤ 8) :
    ∃ v' w2, (Tl.appO #[45, 45] 45 #[v, .slice (some ⟨w.heap.size, 0, none⟩) 1 1]).run Try.prog (w.alloc (.cells #[.pointer (some ⟨qs L, 0, none⟩)] 23)) = .ok v' w2 ∧ Fam N w2 p b n v' (L + 1) (L + 1) qs ∧ Below N w w2 := by
  obtain ⟨R, B, ts, Ls, h1, h2, h3, h4, h5⟩ := h
  obtain ⟨i0, hi, hz0, hz1, hz2⟩ := info_parts infoP
  have hba : Below w.heap.size w (w.alloc (.cells #[.pointer (some ⟨qs L, 0, none⟩)] 23)) := (Below.refl _ _).alloc (Nat.le_refl _) _
  have h3a := own_below h3 hba
  obtain ⟨v', w2, hrun, hown', hgrow, -⟩ := run_append_own (P := Try.prog) (w := w.alloc (.cells #[.pointer (some ⟨qs L, 0, none⟩)] 23)) N 45 45 23 i0 (.pointer none) 1 8 Try.underlying45 hi hz0 hz1 hz2 rfl (by decide) v L (ptrs qs L) h3a ⟨w.heap.size, 0, none⟩ 1 1 [.pointer (some ⟨qs L, 0, none⟩)] rfl
    (fun j u hj => by
      rw [Addr.add_mid, Nat.zero_add, (Blk.new w #[.pointer (some ⟨qs L, 0, none⟩)] 23).cell]
      simpa using hj) (by simp [Value.oneCell']) (by unfold maxLen; omega) (by omega) (by simp; omega)
  have hkg := Kp.of_grown hgrow
  rw [ptrs_succ] at hown'
  refine ⟨v', w2, hrun, ⟨R, B, ts, Ls, h1, sys_far (h2.below hba) hkg (fun j hj => (own_block h3a j hj).2), hown', h4, h5⟩, (hba.mono hN).trans (hkg.below (by simp; omega) (fun j hj => (own_block h3a j hj).1))⟩
theorem fCounts (h : Fam N w p b n v L L qs) (h1L : 1 ≤ L) (h4L : L ≤ 4) :
    Calls Try.prog 20 #[.pointer (some ⟨p, 0, none⟩), v] w fun e w' => e = .returned (.bool true) ∧ Below w.heap.size w w' := by
  obtain ⟨g, cap, rfl, e2, e3, e4, e5⟩ := h.get h1L
  obtain ⟨R, B, ts, Ls, h1, h2, _⟩ := h
  exact counts_any w h2 L h1 h4L g cap e2 e3 e4 e5
/-- The first of them. -/
theorem fNew {q t : Nat} (hS : Sy.Sys w p b n R B (fun _ => q) (fun _ => t) [fun _ => none]) (hb : N ≤ b) (ht : N ≤ t) (hN : N ≤ w.heap.size) :
    Fam N (w.alloc (.cells #[.pointer (some ⟨q, 0, none⟩)] 23)) p b n (.slice (some ⟨w.heap.size, 0, none⟩) 1 1) 1 1 (fun _ => q) :=
  ⟨R, B, _, _, rfl, hS.below ((Below.refl _ _).alloc (Nat.le_refl _) _), ⟨rfl, .inr ⟨w.heap.size, 1, _, rfl, hN, Blk.new w _ _, Nat.le_refl _, by decide, rfl, rfl⟩⟩, hb, fun _ _ => ht⟩
/-- Which of them. -/
theorem who_of (who : Int) {L : Nat} (h1 : 1 ≤ L) : ∃ k : Nat, k < L ∧ Int.tmod (Int.tmod who L + L) L = (k : Int) ∧ -(L : Int) < Int.tmod who L ∧ Int.tmod who L < (L : Int) := by
  have h2 : Int.tmod who L < (L : Int) := Int.tmod_lt_of_pos who (by omega)
  have h3 : -(L : Int) < Int.tmod who L := by
    have := Int.lt_tmod_of_pos who (show (0 : Int) < L by omega)
    exact this
  have h4 : 0 ≤ Int.tmod (Int.tmod who L + L) L := Int.tmod_nonneg _ (by omega)
  have h5 : Int.tmod (Int.tmod who L + L) L < (L : Int) := Int.tmod_lt_of_pos _ (by omega)
  exact ⟨(Int.tmod (Int.tmod who L + L) L).toNat, by omega, by omega, h3, h2⟩
end Go.Proofs.Ytclpokkjbkbkgaa.Fa
