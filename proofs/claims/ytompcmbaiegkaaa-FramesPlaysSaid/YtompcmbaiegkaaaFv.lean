/-
  Used of a memory of frames.
-/
import Derived.Test.YtompcmbaiegkaaaFu
namespace Go.Proofs.Ytompcmbaiegkaaa.Fv
open Go Go.RowKit Go.Shelf Kit Fm Fo Fr Fw Fx Fy Fu
set_option linter.unusedVariables false

attribute [local go_sem] Oper.semAt_some
attribute [local go_sem ↓] app_wrap

def ints (l : List Nat) : List Value := l.map fun (x : Nat) => Value.int .i64 (x : Int)
theorem info3 : (Try.prog.info? 3).map (fun i => (i.zero, i.size, i.bytes)) = some (some (.int .i64 0), 1, 8) := by kernel_rfl

set_option maxRecDepth 100000 in
set_option maxHeartbeats 2000000 in
theorem seq_in (n : Nat) (hn : 3 ≤ n) (Bb p b N : Nat) (R : Nat → Nat) (B : Nat → Nat → Nat) (w : World) (hM : Mem w p b N R B) (hBb : Boxed w Bb 24 (.pointer (some ⟨p, 0, none⟩))) :
    CallsIn Fence.wide n Try.prog 43 #[.slice none 0 0, .func (.func 44) #[] #[.pointer (some ⟨Bb, 0, none⟩)]] w fun e w' => Below w.heap.size w w' ∧ ∃ r, e = .returned r ∧ w'.ownsRow w.heap.size 3 1 r (usd R N).length (ints (usd R N)) := by
  have hN := hM.pos
  have hplt := hM.lt
  obtain ⟨i0, hi, hz0, hz1, hz2⟩ := info_parts info3
  refine callsIn_of_wp_marks Try.func43 rfl trivial ?_ rfl
  simp only [Try.ntmps43, List.size_toArray, List.length_cons, List.length_nil, Nat.reduceAdd, Nat.reduceSub, Array.replicate_succ, Array.replicate_zero, List.push_toArray, List.append_toArray, List.nil_append, List.cons_append]
  gi_wp2
  have hBlt := hBb.lt
  have bS := Boxed.new w 39 (.slice none 0 0)
  have bP := hBb.alloc (.cells #[.slice none 0 0] 39)
  have hB0 := (Below.refl w.heap.size w).alloc (Nat.le_refl _) (.cells #[.slice none 0 0] 39)
  have hsz : (w.alloc (.cells #[.slice none 0 0] 39)).heap.size = w.heap.size + 1 := by simp
  have hrow0 := World.ownsRow_nil (w.alloc (.cells #[.slice none 0 0] 39)) w.heap.size 3 1
  obtain ⟨W0, hW0⟩ : ∃ W0, w.alloc (.cells #[.slice none 0 0] 39) = W0 := ⟨_, rfl⟩
  rw [hW0] at bS bP hB0 hsz hrow0 ⊢
  clear hW0
  have hM0 := hM.below hB0
  refine wpIn_rangeFunc_ownH rfl (by omega) (gf := 44) (lb := #[.pointer (some ⟨Bb, 0, none⟩)]) rfl trivial (enters_of Try.func44 (by kernel_rfl) rfl)
    (used_stops (n - 1) (by omega) Bb w.heap.size p b N R B W0 hplt.1 hplt.2 hM0 bP) Kq.trans (Kq.put (by omega)) (Below.refl _ _) (fun _ => rfl)
    (fun pre W => ((∃ v, Boxed W w.heap.size 39 v ∧ W.ownsRow w.heap.size 3 1 v pre.length (ints pre) ∧ True) ∧ Boxed W Bb 24 (.pointer (some ⟨p, 0, none⟩))) ∧ Below w.heap.size w W)
    (fun c pre W => False)
    (OwnFrom.and (OwnFrom.and (Own.from (holdsRow_own w.heap.size w.heap.size 39 3 1 (fun (pre : List Nat) => pre.length) (fun (pre : List Nat) => ints pre) (fun _ _ => True)) _) (Own.from (boxed_own _ _ _) _)) (ownFrom_below (Nat.le_refl _) (by omega)))
    (fun c => ownFrom_pure _ _)
    ⟨⟨⟨_, bS, hrow0, trivial⟩, bP⟩, hB0⟩
    (fun x a' W => a' = { tmps := #[.slice none 0 0, .func (.func 44) #[] #[.pointer (some ⟨Bb, 0, none⟩)], .pointer (some ⟨w.heap.size, 0, none⟩), undef, .slice none 0 0, .int .i64 (x : Int), .func (.func 44) #[] #[.pointer (some ⟨Bb, 0, none⟩)], .int .i64 (x : Int), undef, undef, undef, undef, undef], defers := [] })
    (fun x a' => ownFrom_pure _ (fun _ : Unit => _))
    ?assign ?body ?done ?stop
  case assign =>
    rintro l pre x W K hI hK
    dsimp only [encs]
    gi_wp2
    exact hK _ _ ((KeepsOthers.refl _).from _) (Kq.refl _ _ _) hI (by simp)
  case body =>
    rintro l pre x a' W hl ⟨rr, hr⟩ ⟨⟨⟨v, hv, hrow, -⟩, hP⟩, hB⟩ rfl hlt
    have cL := hv.cell
    have hsW := hB.size
    have hcl : ∀ o, (W.alloc o).cell? ⟨w.heap.size, 0, none⟩ = some v := fun o => (hv.alloc o).cell
    obtain ⟨v', w2, hrun, hown', hgrow, -⟩ := run_append_own (P := Try.prog) (w := W.alloc (.cells #[.int .i64 (x : Int)] 3)) w.heap.size 39 39 3 i0 (.int .i64 0) 1 8 Try.underlying39 hi hz0 hz1 hz2 rfl (by decide) v pre.length (ints pre) (hrow.alloc _) ⟨W.heap.size, 0, none⟩ 1 1 [.int .i64 (x : Int)] rfl
      (by intro j u hj; have hj0 : j = 0 := (by cases j with | zero => rfl | succ j => simp at hj); subst hj0; simp at hj; subst hj; simp [Addr.add]) (by simp [Value.oneCell']) (by unfold maxLen; omega) (by omega) (by simp; omega)
    obtain ⟨g', cap', rfl⟩ := ownsRow_succ hown'
    have hrun' : (appO #[39, 39] 39 #[v, .slice (some ⟨W.heap.size, 0, none⟩) 1 1]).run Try.prog (W.alloc (.cells #[.int .i64 (x : Int)] 3)) = .ok (.slice (some ⟨g', 0, none⟩) (pre.length + 1) cap') w2 := hrun
    clear hrun
    have hkeep : ∀ (C : Nat) (t : TypeId) (u : Value), t ≠ 3 → C ≠ w.heap.size → Boxed W C t u → Boxed (w2.setCell ⟨w.heap.size, 0, none⟩ (.slice (some ⟨g', 0, none⟩) (pre.length + 1) cap')) C t u := fun C t u ht hne h =>
      Boxed.other (Boxed.kept (h.alloc _) hgrow (h.not_row ht hrow)) hne _
    obtain ⟨hv1, hv2, hr2, hk2, hb2⟩ := hv.appended (by decide) hrow hsW (Nat.le_refl _) hown' hgrow
    have hc1 := hv1.cell
    have hf1 := hv1.frozen
    have HV := Lib.hid (And.intro hv2 (And.intro hr2 (And.intro hk2 hb2)))
    clear hv2 hr2 hk2 hb2 hown' hgrow
    gi_wp2
    exact ⟨HV.out.2.2.1.from _, ⟨HV.out.2.2.2, fun u hu => hkeep _ _ u (by decide) (by omega) hu⟩, ⟨⟨_, HV.out.1, by simpa [ints] using HV.out.2.1, trivial⟩, hkeep _ _ _ (by decide) (by omega) hP⟩, hB.trans HV.out.2.2.2⟩
  case done =>
    rintro D ys W hD rfl ⟨⟨⟨v, hv, hrow, -⟩, hP⟩, hB⟩ hK
    have cL := hv.cell
    have HR := Lib.hid hrow
    clear hrow
    gi_wp2
    refine ⟨by simp, .inl ⟨_, _, rfl, run_takeDeferred hK, ?_⟩⟩
    refine ⟨v, ?_, hB.trans (belowK_b (w := w) (Nat.le_refl _) W D _ _ (by omega) hK rfl rfl), _, rfl, ownsRow_putObj HR.out (.deferred none) hK rfl⟩
    simp [results, go_sem]
  case stop =>
    rintro D c pre W hD hm hF hK
    exact hF.elim
theorem collect_in (n : Nat) (hn : 4 ≤ n) (Bb p b N : Nat) (R : Nat → Nat) (B : Nat → Nat → Nat) (w : World) (hM : Mem w p b N R B) (hBb : Boxed w Bb 24 (.pointer (some ⟨p, 0, none⟩))) :
    CallsIn Fence.wide n Try.prog 39 #[.func (.func 44) #[] #[.pointer (some ⟨Bb, 0, none⟩)]] w fun e w' => Below w.heap.size w w' ∧ ∃ r, e = .returned r ∧ w'.ownsRow w.heap.size 3 1 r (usd R N).length (ints (usd R N)) := by
  have HS := Lib.hid (seq_in (n - 1) (by omega) Bb p b N R B w hM hBb)
  refine callsIn_of_wp Try.func39 rfl trivial ?_ rfl
  simp only [Try.ntmps39, List.size_toArray, List.length_cons, List.length_nil, Nat.reduceAdd, Nat.reduceSub, Array.replicate_succ, Array.replicate_zero, List.push_toArray, List.append_toArray, List.nil_append, List.cons_append]
  clear hM hBb
  gi_wp2_with (first | (refine ⟨trivial, fun _ => (by omega), ?_⟩; gi_at_call 43; refine HS.out.mono ?_; rintro e w' ⟨hb, r, rfl, ho⟩))
  go_ret
  exact ⟨hb, _, rfl, ho⟩
theorem usedl_in (n : Nat) (hn : 5 ≤ n) (p b N : Nat) (R : Nat → Nat) (B : Nat → Nat → Nat) (w : World) (hM : Mem w p b N R B) :
    CallsIn Fence.wide n Try.prog 17 #[.pointer (some ⟨p, 0, none⟩)] w fun e w' => Below w.heap.size w w' ∧ ∃ r, e = .returned r ∧ w'.ownsRow w.heap.size 3 1 r (usd R N).length (ints (usd R N)) := by
  have hb0 : Below w.heap.size w (w.alloc (.cells #[.pointer (some ⟨p, 0, none⟩)] 24)) := (Below.refl _ _).alloc (Nat.le_refl _) _
  have HC := Lib.hid (collect_in (n - 1) (by omega) w.heap.size p b N R B (w.alloc (.cells #[.pointer (some ⟨p, 0, none⟩)] 24)) (hM.below hb0) (Boxed.new _ _ _))
  have HB := Lib.hid hb0
  refine callsIn_of_wp Try.func17 rfl trivial ?_ rfl
  simp only [Try.ntmps17, List.size_toArray, List.length_cons, List.length_nil, Nat.reduceAdd, Nat.reduceSub, Array.replicate_succ, Array.replicate_zero, List.push_toArray, List.append_toArray, List.nil_append, List.cons_append]
  clear hM hb0
  gi_wp2_with (first | (refine ⟨trivial, fun _ => (by omega), ?_⟩; gi_at_call 40; refine (used_in (n - 1) p _).mono ?_; rintro e w' ⟨rfl, rfl⟩) | (refine ⟨trivial, fun _ => (by omega), ?_⟩; gi_at_call 39; refine HC.out.mono ?_; rintro e w' ⟨hb, r, rfl, ho⟩))
  go_ret
  exact ⟨HB.out.trans (hb.mono (by simp)), _, rfl, own_base ho (by simp)⟩
theorem used_any (w : World) (p b N : Nat) (R : Nat → Nat) (B : Nat → Nat → Nat) (hM : Mem w p b N R B) :
    Calls Try.prog 17 #[.pointer (some ⟨p, 0, none⟩)] w fun e w' => Below w.heap.size w w' ∧ ∃ r, e = .returned r ∧ w'.ownsRow w.heap.size 3 1 r (usd R N).length (ints (usd R N)) := (callsIn_wide (n := 5)).1 (usedl_in 5 (Nat.le_refl _) p b N R B w hM)
end Go.Proofs.Ytompcmbaiegkaaa.Fv
