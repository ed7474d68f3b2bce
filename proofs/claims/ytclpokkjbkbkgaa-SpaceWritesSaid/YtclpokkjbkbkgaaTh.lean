/-
  Dirty and Len of a table of pages.
-/
import Derived.Test.YtclpokkjbkbkgaaTl
namespace Go.Proofs.Ytclpokkjbkbkgaa.Th
open Go Go.RowKit Go.Shelf Kit Bk Tm Ts Tc Ti Tl
set_option linter.unusedVariables false

attribute [local go_sem] Oper.semAt_some
attribute [local go_sem ↓] app_wrap

theorem info3 : (Try.prog.info? 3).map (fun i => (i.zero, i.size, i.bytes)) = some (some (.int .i64 0), 1, 8) := by kernel_rfl
/-- The pages of those of which q holds. -/
def pgs (q : En → Bool) (l : List (Nat × En)) : List Nat := (l.filter fun x => q x.2).map Prod.fst
def ints (l : List Nat) : List Value := l.map fun (x : Nat) => Value.int .i64 (x : Int)
theorem pgs_yes {q : En → Bool} {l : List (Nat × En)} {x : Nat × En} (h : q x.2 = true) : pgs q (l ++ [x]) = pgs q l ++ [x.1] := by simp [pgs, List.filter_append, h]
theorem pgs_no {q : En → Bool} {l : List (Nat × En)} {x : Nat × En} (h : q x.2 = false) : pgs q (l ++ [x]) = pgs q l := by simp [pgs, List.filter_append, h]
theorem pgs_len (q : En → Bool) (l : List (Nat × En)) : (pgs q l).length ≤ l.length := by
  unfold pgs
  have := List.length_filter_le (fun x => q x.2) l
  simpa using this
theorem pgs_all (l : List (Nat × En)) : (pgs (fun _ => true) l).length = l.length := by simp [pgs]
theorem row_below {w w' : World} {base : Nat} {e : TypeId} {size : Nat} {v : Value} {n : Nat} {xs : List Value} (h : w.ownsRow base e size v n xs) (hb : Below w.heap.size w w') : w'.ownsRow base e size v n xs :=
  h.kept (grown_below hb) (by cases v.ownBlock with | none => exact .inl rfl | some r => exact .inr (by simp))
theorem keeps_below {w w' : World} (h : Below w.heap.size w w') : KeepsOthers w w' := ⟨h.size, fun k o hk _ => (h.block k (Array.getElem?_eq_some_iff.1 hk).1).trans hk⟩

theorem askD_in (n : Nat) (x : En) (w : World) : CallsIn Fence.wide n Try.prog 60 #[ev x] w fun e w' => e = .returned (.bool x.d) ∧ Below w.heap.size w w' := by
  refine callsIn_of_wp Try.func60 rfl trivial ?_ rfl
  simp only [Try.ntmps60, List.size_toArray, List.length_cons, List.length_nil, Nat.reduceAdd, Nat.reduceSub, Array.replicate_succ, Array.replicate_zero, List.push_toArray, List.append_toArray, List.nil_append, List.cons_append]
  gi_wp2
  go_ret
  exact ⟨rfl, (Below.refl _ _).alloc (Nat.le_refl _) _⟩

set_option maxRecDepth 100000 in
set_option maxHeartbeats 2000000 in
theorem thoseD_in (n : Nat) (hn : 4 ≤ n) (a : Option Addr) (T : Nat → Option En) (w : World) (hM : Gets w.heap.size w (.pointer a) T) :
    CallsIn Fence.wide n Try.prog 59 #[.pointer a, .func (.func 60) #[] #[]] w fun e w' => Below w.heap.size w w' ∧ ∃ r, e = .returned r ∧ w'.ownsRow w.heap.size 3 1 r (pgs (fun x => x.d) (ents T 64)).length (ints (pgs (fun x => x.d) (ents T 64))) := by
  obtain ⟨i0, hi, hz0, hz1, hz2⟩ := info_parts info3
  refine callsIn_of_wp_marks Try.func59 rfl trivial ?_ rfl
  simp only [Try.ntmps59, List.size_toArray, List.length_cons, List.length_nil, Nat.reduceAdd, Nat.reduceSub, Array.replicate_succ, Array.replicate_zero, List.push_toArray, List.append_toArray, List.nil_append, List.cons_append]
  gi_wp2_with (first | (refine ⟨trivial, fun _ => (by omega), ?_⟩; gi_at_call 57; refine (entries_in (n - 1) a _).mono ?_; rintro e w' ⟨rfl, rfl⟩))
  have bA := ((Boxed.new w 117 (.func (.func 60) #[] #[])).alloc (.cells #[.slice none 0 0] 38)).alloc (.cells #[.pointer a] 71)
  have bS := (Boxed.new (w.alloc (.cells #[.func (.func 60) #[] #[]] 117)) 38 (.slice none 0 0)).alloc (.cells #[.pointer a] 71)
  have bP := Boxed.new ((w.alloc (.cells #[.func (.func 60) #[] #[]] 117)).alloc (.cells #[.slice none 0 0] 38)) 71 (.pointer a)
  have hB0 := ((((Below.refl w.heap.size w).alloc (Nat.le_refl _) (.cells #[.func (.func 60) #[] #[]] 117))).alloc (by simp) (.cells #[.slice none 0 0] 38)).alloc (by simp; omega) (.cells #[.pointer a] 71)
  have hsz : (((w.alloc (.cells #[.func (.func 60) #[] #[]] 117)).alloc (.cells #[.slice none 0 0] 38)).alloc (.cells #[.pointer a] 71)).heap.size = w.heap.size + 3 := by simp
  have hrow0 := World.ownsRow_nil (((w.alloc (.cells #[.func (.func 60) #[] #[]] 117)).alloc (.cells #[.slice none 0 0] 38)).alloc (.cells #[.pointer a] 71)) w.heap.size 3 1
  simp only [World.size_alloc] at bP bS
  obtain ⟨W0, hW0⟩ : ∃ W0, ((w.alloc (.cells #[.func (.func 60) #[] #[]] 117)).alloc (.cells #[.slice none 0 0] 38)).alloc (.cells #[.pointer a] 71) = W0 := ⟨_, rfl⟩
  rw [hW0] at bA bS bP hB0 hsz hrow0 ⊢
  clear hW0
  have hM0 := hM.low hB0
  refine wpIn_rangeFunc_ownH rfl (by omega) (gf := 62) (lb := #[.pointer (some ⟨w.heap.size + 1 + 1, 0, none⟩)]) rfl trivial (enters_of Try.func62 (by kernel_rfl) rfl)
    (entries_stops (n - 1) (by omega) (w.heap.size + 1 + 1) w.heap.size (.pointer a) T encs (fun _ _ _ => rfl) W0 (by omega) hM0 bP) Kq.trans (Kq.put (by omega)) (Below.refl _ _) (fun _ => rfl)
    (fun pre W => (((∃ v, Boxed W (w.heap.size + 1) 38 v ∧ W.ownsRow w.heap.size 3 1 v (pgs (fun x => x.d) pre).length (ints (pgs (fun x => x.d) pre)) ∧ True) ∧ Boxed W (w.heap.size + 1 + 1) 71 (.pointer a)) ∧ Boxed W w.heap.size 117 (.func (.func 60) #[] #[])) ∧ Below w.heap.size w W)
    (fun c pre W => False)
    (OwnFrom.and (OwnFrom.and (OwnFrom.and (Own.from (holdsRow_own w.heap.size (w.heap.size + 1) 38 3 1 (fun (pre : List (Nat × En)) => (pgs (fun x => x.d) pre).length) (fun (pre : List (Nat × En)) => ints (pgs (fun x => x.d) pre)) (fun _ _ => True)) _) (Own.from (boxed_own _ _ _) _)) (Own.from (boxed_own _ _ _) _)) (ownFrom_below (Nat.le_refl _) (by omega)))
    (fun c => ownFrom_pure _ _)
    ⟨⟨⟨⟨_, by simpa using bS, hrow0, trivial⟩, by simpa using bP⟩, bA⟩, hB0⟩
    (fun x a' W => ∃ g, a' = { tmps := #[.pointer a, .func (.func 60) #[] #[], undef, .pointer (some ⟨w.heap.size, 0, none⟩), .slice none 0 0, .pointer (some ⟨w.heap.size + 1, 0, none⟩), .int .i64 (x.1 : Int), .pointer (some ⟨g, 0, none⟩), .pointer a, .func (.func 62) #[] #[.pointer (some ⟨w.heap.size + 1 + 1, 0, none⟩)], .int .i64 (x.1 : Int), ev x.2, undef, undef, undef, undef, undef, undef, undef, undef], defers := [] } ∧ Blk W g #[.int .i64 x.2.f, .bool x.2.w, .bool x.2.s, .bool x.2.c, .bool x.2.d] 47)
    (fun x a' => ownFrom_ax)
    ?assign ?body ?done ?stop
  case assign =>
    rintro l pre x W K ⟨⟨⟨⟨v, hv, hrow, -⟩, hP⟩, hA⟩, hB⟩ hK
    dsimp only [encs]
    gi_wp2
    exact hK _ _ ((KeepsOthers.alloc W _).from _) (Kq.below ((Below.refl _ _).alloc (Nat.le_refl _) _) hB.size) ⟨⟨⟨⟨v, hv.alloc _, hrow.alloc _, trivial⟩, hP.alloc _⟩, hA.alloc _⟩, hB.alloc hB.size _⟩ ⟨W.heap.size, by simp, Blk.new _ _ _⟩
  case body =>
    rintro l pre x a' W hl ⟨rr, hr⟩ ⟨⟨⟨⟨v, hv, hrow, -⟩, hP⟩, hA⟩, hB⟩ ⟨g, rfl, hg⟩ hlt
    have cA := hA.cell
    have hsW := hB.size
    have g0 := hg.cell 0
    have g1 := hg.cell 1
    have g2 := hg.cell 2
    have g3 := hg.cell 3
    have g4 := hg.cell 4
    have hpl := pgs_len (fun x => x.d) pre
    gi_wp2_with (first | (refine ⟨trivial, fun _ => (by omega), ?_⟩; gi_at_call 60; refine (askD_in _ x.2 _).mono ?_; rintro e w9 ⟨rfl, hb9⟩; refine Hid.out ?_))
    refine Lib.hid ?_
    have hs9 := hb9.size
    replace hv : Boxed w9 (w.heap.size + 1) 38 v := (hb9.block _ hv.lt).trans hv
    replace hP : Boxed w9 (w.heap.size + 1 + 1) 71 (.pointer a) := (hb9.block _ hP.lt).trans hP
    replace hA : Boxed w9 w.heap.size 117 (.func (.func 60) #[] #[]) := (hb9.block _ hA.lt).trans hA
    replace hrow := row_below hrow hb9
    replace hB := hB.trans (hb9.mono hsW)
    have hk9 := keeps_below hb9
    have hq9 : Kq w.heap.size (w.heap.size + 1 + 1) W w9 := Kq.below hb9 hsW
    have cL := hv.cell
    clear g0 g1 g2 g3 g4 hg cA
    cases hd : x.2.d with
    | false =>
      have hpn : pgs (fun x => x.d) (pre ++ [x]) = pgs (fun x => x.d) pre := pgs_no hd
      have HR := Lib.hid hrow
      clear hrow
      gi_wp2
      exact ⟨hk9.from _, hq9, ⟨⟨⟨v, hv, by rw [hpn]; exact HR.out, trivial⟩, hP⟩, hA⟩, hB⟩
    | true =>
    obtain ⟨v', w2, hrun, hown', hgrow, -⟩ := run_append_own (P := Try.prog) (w := w9.alloc (.cells #[.int .i64 (x.1 : Int)] 3)) w.heap.size 38 38 3 i0 (.int .i64 0) 1 8 Try.underlying38 hi hz0 hz1 hz2 rfl (by decide) v (pgs (fun x => x.d) pre).length (ints (pgs (fun x => x.d) pre)) (hrow.alloc _) ⟨w9.heap.size, 0, none⟩ 1 1 [.int .i64 (x.1 : Int)] rfl
      (by intro j u hj; have hj0 : j = 0 := (by cases j with | zero => rfl | succ j => simp at hj); subst hj0; simp at hj; subst hj; simp [Addr.add]) (by simp [Value.oneCell']) (by unfold maxLen; omega) (by omega) (by simp; omega)
    obtain ⟨g', cap', rfl⟩ := ownsRow_succ hown'
    have hrun' : (appO #[38, 38] 38 #[v, .slice (some ⟨w9.heap.size, 0, none⟩) 1 1]).run Try.prog (w9.alloc (.cells #[.int .i64 (x.1 : Int)] 3)) = .ok (.slice (some ⟨g', 0, none⟩) ((pgs (fun x => x.d) pre).length + 1) cap') w2 := hrun
    clear hrun
    have hkeep : ∀ (C : Nat) (t : TypeId) (u : Value), t ≠ 3 → C ≠ w.heap.size + 1 → Boxed w9 C t u → Boxed (w2.setCell ⟨w.heap.size + 1, 0, none⟩ (.slice (some ⟨g', 0, none⟩) ((pgs (fun x => x.d) pre).length + 1) cap')) C t u := fun C t u ht hne h =>
      Boxed.other (Boxed.kept (h.alloc _) hgrow (h.not_row ht hrow)) hne _
    have hpy : pgs (fun x => x.d) (pre ++ [x]) = pgs (fun x => x.d) pre ++ [x.1] := pgs_yes hd
    have hown2 : w2.ownsRow w.heap.size 3 1 (.slice (some ⟨g', 0, none⟩) ((pgs (fun x => x.d) pre).length + 1) cap') (pgs (fun x => x.d) (pre ++ [x])).length (ints (pgs (fun x => x.d) (pre ++ [x]))) := by rw [hpy]; simpa [ints] using hown'
    obtain ⟨hv1, hv2, hr2, hk2, hb2⟩ := hv.appended (by decide) hrow (by omega) (by omega) hown2 hgrow
    have hc1 := hv1.cell
    have hf1 := hv1.frozen
    have HV := Lib.hid (And.intro hv2 (And.intro hr2 (And.intro (hk9.trans hk2) (hb9.mono hsW |>.trans hb2))))
    have HKP := Lib.hid hkeep
    have HHP := Lib.hid (And.intro hP hA)
    have HB2 := Lib.hid (hB.trans hb2)
    have HQ9 := Lib.hid hq9
    clear hv2 hr2 hk2 hb2 hown' hown2 hgrow hkeep hpy hP hA hB hk9 hq9 hv hrow
    gi_wp2
    first | exact ⟨HV.out.2.2.1.from _, ⟨HV.out.2.2.2, fun u hu => HKP.out _ _ u (by decide) (by omega) (HQ9.out.2 u hu)⟩, ⟨⟨⟨_, HV.out.1, HV.out.2.1, trivial⟩, HKP.out _ _ _ (by decide) (by omega) HHP.out.1⟩, HKP.out _ _ _ (by decide) (by omega) HHP.out.2⟩, HB2.out⟩ | exact ⟨HV.out.2.2.1.from _, ⟨HV.out.2.2.2, fun u hu => HKP.out _ _ u (by decide) (by omega) (HQ9.out.2 u hu)⟩, ⟨⟨⟨_, HV.out.1, HV.out.2.1⟩, HKP.out _ _ _ (by decide) (by omega) HHP.out.1⟩, HKP.out _ _ _ (by decide) (by omega) HHP.out.2⟩, HB2.out⟩
  case done =>
    rintro D ys W hD rfl ⟨⟨⟨⟨v, hv, hrow, -⟩, hP⟩, hA⟩, hB⟩ hK
    have cL := hv.cell
    have HR := Lib.hid hrow
    clear hrow
    gi_wp2
    refine ⟨by simp, .inl ⟨_, _, rfl, run_takeDeferred hK, ?_⟩⟩
    refine ⟨v, ?_, hB.trans (belowK_b (w := w) (Nat.le_refl _) W D _ _ (by omega) hK rfl rfl), _, rfl, ownsRow_putObj HR.out (.deferred none) hK rfl⟩
    simp [results, go_sem]
  case stop =>
    rintro D c pre W hD hm hF hK
    exact hF.elim

theorem dirty_any (w : World) (a : Option Addr) (T : Nat → Option En) (hM : Gets w.heap.size w (.pointer a) T) :
    Calls Try.prog 44 #[.pointer a] w fun e w' => Below w.heap.size w w' ∧ ∃ r, e = .returned r ∧ w'.ownsRow w.heap.size 3 1 r (pgs (fun x => x.d) (ents T 64)).length (ints (pgs (fun x => x.d) (ents T 64))) := by
  have HT := Lib.hid ((callsIn_wide (n := 4)).1 (thoseD_in 4 (Nat.le_refl _) a T w hM))
  clear hM
  go_enter Try.func44, Try.ntmps44
  go_wp2_with (first | (go_at_call 59; (with_reducible refine HT.out.mono ?_); rintro e w1 ⟨hb, r, rfl, ho⟩))
  go_ret
  exact ⟨hb, _, rfl, ho⟩
end Go.Proofs.Ytclpokkjbkbkgaa.Th
