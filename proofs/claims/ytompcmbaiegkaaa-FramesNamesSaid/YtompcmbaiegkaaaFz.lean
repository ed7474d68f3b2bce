/-
  A memory that New did not make: its iterator, Free, Used.
-/
import Derived.Test.YtompcmbaiegkaaaFv
namespace Go.Proofs.Ytompcmbaiegkaaa.Fz
open Go Go.RowKit Go.Shelf Kit Fm Fo Fr Fw Fx Fy Fu Fv
set_option linter.unusedVariables false
attribute [local go_sem] Oper.semAt_some
attribute [local go_sem ↓] app_wrap

/-- A memory of no frames. -/
def ZMem (w : World) (p b N : Nat) (R : Nat → Nat) (B : Nat → Nat → Nat) : Prop := (Blk w p #[.slice none 0 0] 55 ∧ b = p) ∧ N = 0
theorem ZMem.pos {w : World} {p b N : Nat} {R : Nat → Nat} {B : Nat → Nat → Nat} (h : ZMem w p b N R B) : N ≤ 256 := by rw [h.2]; omega
theorem ZMem.lt {w : World} {p b N : Nat} {R : Nat → Nat} {B : Nat → Nat → Nat} (h : ZMem w p b N R B) : p < w.heap.size ∧ b < w.heap.size := by rw [h.1.2]; exact ⟨h.1.1.lt, h.1.1.lt⟩
theorem ZMem.below {w w' : World} {p b N : Nat} {R : Nat → Nat} {B : Nat → Nat → Nat} (h : ZMem w p b N R B) (hb : Below w.heap.size w w') : ZMem w' p b N R B := ⟨⟨h.1.1.below hb, h.1.2⟩, h.2⟩
theorem zlen (w : World) (p b N : Nat) (R : Nat → Nat) (B : Nat → Nat → Nat) (h : ZMem w p b N R B) :
    Calls Try.prog 21 #[.pointer (some ⟨p, 0, none⟩)] w fun e w' => e = .returned (.int .i64 N) ∧ w = w' := by
  obtain ⟨⟨h1, _⟩, rfl⟩ := h
  have c0 := h1.cell 0
  clear h1
  go_enter Try.func21, Try.ntmps21
  go_wp2
  go_ret
  exact ⟨rfl, rfl⟩
set_option maxRecDepth 100000 in
set_option maxHeartbeats 2000000 in
theorem used1_in (n : Nat) (hn : 1 ≤ n) (l Bb n₀ p b N : Nat) (R : Nat → Nat) (B : Nat → Nat → Nat) (J Jx : List Nat → World → Prop) (W : World)
    (hY : ∀ pre x W, J pre W → pre.length < N → YieldAt Fence.wide (n - 1) Try.prog l (encs x) W fun e W' =>
      (e = .returned (.bool true) ∧ J (pre ++ [x]) W' ∧ Kq n₀ Bb W W') ∨ (e = .returned (.bool false) ∧ Jx (pre ++ [x]) W'))
    (hp : p < n₀) (hb : b < n₀) (hM : ZMem W p b N R B) (hB : Boxed W Bb 24 (.pointer (some ⟨p, 0, none⟩))) (h0 : J [] W) :
    CallsIn Fence.wide n Try.prog 44 #[.func (.yield l) #[] #[], .pointer (some ⟨Bb, 0, none⟩)] W fun e W' => (∃ v, e = .returned v) ∧
      ((∃ ys, ys = usd R N ∧ J ys W') ∨ (∃ pre, (∃ k, k ≤ N ∧ pre = usd R k) ∧ Jx pre W')) := by
  have hN := hM.pos
  refine callsIn_of_wp Try.func44 rfl trivial ?_ rfl
  simp only [Try.ntmps44, List.size_toArray, List.length_cons, List.length_nil, Nat.reduceAdd, Nat.reduceSub, Array.replicate_succ, Array.replicate_zero, List.push_toArray, List.append_toArray, List.nil_append, List.cons_append]
  have hBc := hB.cell
  have HL := Lib.hid ((callsIn_wide (n := n - 1)).2 (zlen W p b N R B hM))
  gi_wp2
  refine wpIn_wide.2 (wp_scope_straight ((wpIn_wide (n := n)).1 ?_))
  gi_wp2
  refine wpIn_label ?_
  gi_wp2_with (refine ⟨trivial, ?_⟩; refine HL.out.mono ?_; rintro e w9 ⟨rfl, rfl⟩)
  clear hBc
  gi_loopw [6] (fun i wr => ∃ (k : Nat), k ≤ N ∧ i = .int .i64 (k : Int) ∧ J (usd R k) wr ∧ Kq n₀ Bb W wr)
    (fun i _ => N - (intOf i).toNat)
  case atStart => exact ⟨0, Nat.zero_le _, rfl, h0, Kq.refl _ _ _⟩
  case round =>
    obtain ⟨k, hk, rfl, hJs, hnx⟩ := hrel
    have hbB := hnx.2 _ hB
    have hcB := hbB.cell
    by_cases hlt : k < N
    · exact absurd hlt (by rw [hM.2]; omega)
    · obtain rfl : k = N := by omega
      gi_wp2
      rw [Exit.noGoto_normal]
      go_end0
      exact ⟨⟨_, rfl⟩, .inl ⟨_, rfl, hJs⟩⟩

theorem used_stops (n : Nat) (hn : 1 ≤ n) (Bb n₀ p b N : Nat) (R : Nat → Nat) (B : Nat → Nat → Nat) (w : World) (hp : p < n₀) (hb : b < n₀) (hM : ZMem w p b N R B) (hc : Boxed w Bb 24 (.pointer (some ⟨p, 0, none⟩))) :
    SeqStopsK Fence.wide n Try.prog 44 #[.pointer (some ⟨Bb, 0, none⟩)] encs (Kq n₀ Bb) (fun ys => ys = usd R N) (fun pre => ∃ k, k ≤ N ∧ pre = usd R k) N w := fun l J Jx W hW hJ _ hY hJ0 =>
  used1_in n hn l Bb n₀ p b N R B J Jx W hY hp hb (hM.below hW) ((hW.block Bb hc.lt).trans hc) hJ0

set_option maxRecDepth 100000 in
set_option maxHeartbeats 2000000 in
theorem free_in (n : Nat) (hn : 4 ≤ n) (p b N : Nat) (R : Nat → Nat) (B : Nat → Nat → Nat) (w : World) (hM : ZMem w p b N R B) :
    CallsIn Fence.wide n Try.prog 20 #[.pointer (some ⟨p, 0, none⟩)] w fun e w' => e = .returned (.int .i64 ((N : Int) - ((usd R N).length : Int))) ∧ Below w.heap.size w w' := by
  have hN := hM.pos
  have hplt := hM.lt
  have HL := Lib.hid ((callsIn_wide (n := n - 1)).2 (zlen w p b N R B hM))
  refine callsIn_of_wp_marks Try.func20 rfl trivial ?_ rfl
  simp only [Try.ntmps20, List.size_toArray, List.length_cons, List.length_nil, Nat.reduceAdd, Nat.reduceSub, Array.replicate_succ, Array.replicate_zero, List.push_toArray, List.append_toArray, List.nil_append, List.cons_append]
  gi_wp2_with (first | (refine ⟨trivial, fun _ => (by omega), ?_⟩; gi_at_call 21; refine HL.out.mono ?_; rintro e w' ⟨rfl, rfl⟩) | (refine ⟨trivial, fun _ => (by omega), ?_⟩; gi_at_call 40; refine (used_in (n - 1) p _).mono ?_; rintro e w' ⟨rfl, rfl⟩))
  have bN := (Boxed.new w 3 (.int .i64 (N : Int))).alloc (.cells #[.pointer (some ⟨p, 0, none⟩)] 24)
  have bP := Boxed.new (w.alloc (.cells #[.int .i64 (N : Int)] 3)) 24 (.pointer (some ⟨p, 0, none⟩))
  have hB0 := (((Below.refl w.heap.size w).alloc (Nat.le_refl _) (.cells #[.int .i64 (N : Int)] 3))).alloc (by simp) (.cells #[.pointer (some ⟨p, 0, none⟩)] 24)
  have hsz : ((w.alloc (.cells #[.int .i64 (N : Int)] 3)).alloc (.cells #[.pointer (some ⟨p, 0, none⟩)] 24)).heap.size = w.heap.size + 2 := by simp
  simp only [World.size_alloc] at bP
  obtain ⟨W0, hW0⟩ : ∃ W0, (w.alloc (.cells #[.int .i64 (N : Int)] 3)).alloc (.cells #[.pointer (some ⟨p, 0, none⟩)] 24) = W0 := ⟨_, rfl⟩
  rw [hW0] at bN bP hB0 hsz ⊢
  clear hW0
  have hM0 := hM.below hB0
  refine wpIn_rangeFunc_ownH rfl (by omega) (gf := 44) (lb := #[.pointer (some ⟨w.heap.size + 1, 0, none⟩)]) rfl trivial (enters_of Try.func44 (by kernel_rfl) rfl)
    (used_stops (n - 1) (by omega) (w.heap.size + 1) w.heap.size p b N R B W0 hplt.1 hplt.2 hM0 bP) Kq.trans (Kq.put (by omega)) (Below.refl _ _) (fun _ => rfl)
    (fun pre W => ((Boxed W w.heap.size 3 (.int .i64 ((N : Int) - (pre.length : Int)))) ∧ Boxed W (w.heap.size + 1) 24 (.pointer (some ⟨p, 0, none⟩))) ∧ Below w.heap.size w W)
    (fun c pre W => False)
    (OwnFrom.and (OwnFrom.and (Own.from (boxed_own _ _ (fun (pre : List Nat) => Value.int .i64 ((N : Int) - (pre.length : Int)))) _) (Own.from (boxed_own _ _ _) _)) (ownFrom_below (Nat.le_refl _) (by omega)))
    (fun c => ownFrom_pure _ _)
    ⟨⟨by simpa using bN, bP⟩, hB0⟩
    (fun x a' W => a' = { tmps := #[.pointer (some ⟨p, 0, none⟩), undef, .int .i64 0, .pointer (some ⟨w.heap.size, 0, none⟩), .pointer (some ⟨p, 0, none⟩), .int .i64 (N : Int), .pointer (some ⟨p, 0, none⟩), .func (.func 44) #[] #[.pointer (some ⟨w.heap.size + 1, 0, none⟩)], .int .i64 (x : Int), undef, undef, undef], defers := [] })
    (fun x a' => ownFrom_pure _ (fun _ : Unit => _))
    ?assign ?body ?done ?stop
  case assign =>
    rintro l pre x W K hI hK
    dsimp only [encs]
    gi_wp2
    exact hK _ _ ((KeepsOthers.refl _).from _) (Kq.refl _ _ _) hI (by simp)
  case body =>
    rintro l pre x a' W hl ⟨rr, hr⟩ ⟨⟨hN1, hP⟩, hB⟩ rfl hlt
    have cN := hN1.cell
    have fN := hN1.frozen
    have hsW := hB.size
    obtain ⟨q, hq⟩ : ∃ q : Int, q = (N : Int) - (pre.length : Int) := ⟨_, rfl⟩
    have hq2 : (N : Int) - ((pre ++ [x]).length : Int) = q - 1 := by simp; omega
    have hq0 : 0 ≤ q := by omega
    have hq1 : q ≤ 256 := by omega
    rw [← hq] at cN hN1
    have HQ := Lib.hid hq2
    clear hq hq2
    gi_wp2
    exact ⟨(KeepsOthers.setCell _ _ _).from _, ⟨(Below.refl _ _).setCell (p := ⟨w.heap.size, 0, none⟩) (Nat.le_refl _) _, fun v hv => hv.other (by omega) _⟩, ⟨by rw [HQ.out]; exact hN1.set _, hP.other (by omega) _⟩, hB.setCell (p := ⟨w.heap.size, 0, none⟩) (Nat.le_refl _) _⟩
  case done =>
    rintro D ys W hD rfl ⟨⟨hN1, hP⟩, hB⟩ hK
    have cN := hN1.cell
    have hq0 : (usd R N).length ≤ N := usd_len R N
    gi_wp2
    refine ⟨by simp, .inl ⟨_, _, rfl, run_takeDeferred hK, ?_⟩⟩
    refine ⟨.int .i64 ((N : Int) - ((usd R N).length : Int)), ?_, rfl, hB.trans (belowK_b (w := w) (Nat.le_refl _) W D _ _ (by omega) hK rfl rfl)⟩
    simp [results, go_sem]
  case stop =>
    rintro D c pre W hD hm hF hK
    exact hF.elim
theorem free_any (w : World) (p b N : Nat) (R : Nat → Nat) (B : Nat → Nat → Nat) (hM : ZMem w p b N R B) :
    Calls Try.prog 20 #[.pointer (some ⟨p, 0, none⟩)] w fun e w' => e = .returned (.int .i64 ((N : Int) - ((usd R N).length : Int))) ∧ Below w.heap.size w w' := (callsIn_wide (n := 4)).1 (free_in 4 (Nat.le_refl _) p b N R B w hM)
set_option maxRecDepth 100000 in
set_option maxHeartbeats 2000000 in
theorem seq_in (n : Nat) (hn : 3 ≤ n) (Bb p b N : Nat) (R : Nat → Nat) (B : Nat → Nat → Nat) (w : World) (hM : ZMem w p b N R B) (hBb : Boxed w Bb 24 (.pointer (some ⟨p, 0, none⟩))) :
    CallsIn Fence.wide n Try.prog 43 #[.slice none 0 0, .func (.func 44) #[] #[.pointer (some ⟨Bb, 0, none⟩)]] w fun e w' => Below w.heap.size w w' ∧ ∃ r, e = .returned r ∧ w'.ownsRow w.heap.size 3 1 r (usd R N).length (ints (usd R N)) := by
  have hN := hM.pos
  have hplt := hM.lt
  obtain ⟨i0, hi, hz0, hz1, hz2⟩ := info_parts info3
  refine callsIn_of_wp_marks Try.func43 rfl trivial ?_ rfl
  simp only [Try.ntmps43, List.size_toArray, List.length_cons, List.length_nil, Nat.reduceAdd, Nat.reduceSub, Array.replicate_succ, Array.replicate_zero, List.push_toArray, List.append_toArray, List.nil_append, List.cons_append]
  gi_wp2
  have hBlt := hBb.lt
  have bS := Boxed.new w 39 (.slice none 0 0)
  have bP := hBb.alloc (.cells #[.slice none 0 0] 39)
  have hB0 := (Below.refl w.heap.size w).alloc (Nat.le_refl _) (.cells #[.slice none 0 0] 39)
  have hsz : (w.alloc (.cells #[.slice none 0 0] 39)).heap.size = w.heap.size + 1 := by simp
  have hrow0 := World.ownsRow_nil (w.alloc (.cells #[.slice none 0 0] 39)) w.heap.size 3 1
  obtain ⟨W0, hW0⟩ : ∃ W0, w.alloc (.cells #[.slice none 0 0] 39) = W0 := ⟨_, rfl⟩
  rw [hW0] at bS bP hB0 hsz hrow0 ⊢
  clear hW0
  have hM0 := hM.below hB0
  refine wpIn_rangeFunc_ownH rfl (by omega) (gf := 44) (lb := #[.pointer (some ⟨Bb, 0, none⟩)]) rfl trivial (enters_of Try.func44 (by kernel_rfl) rfl)
    (used_stops (n - 1) (by omega) Bb w.heap.size p b N R B W0 hplt.1 hplt.2 hM0 bP) Kq.trans (Kq.put (by omega)) (Below.refl _ _) (fun _ => rfl)
    (fun pre W => ((∃ v, Boxed W w.heap.size 39 v ∧ W.ownsRow w.heap.size 3 1 v pre.length (ints pre) ∧ True) ∧ Boxed W Bb 24 (.pointer (some ⟨p, 0, none⟩))) ∧ Below w.heap.size w W)
    (fun c pre W => False)
    (OwnFrom.and (OwnFrom.and (Own.from (holdsRow_own w.heap.size w.heap.size 39 3 1 (fun (pre : List Nat) => pre.length) (fun (pre : List Nat) => ints pre) (fun _ _ => True)) _) (Own.from (boxed_own _ _ _) _)) (ownFrom_below (Nat.le_refl _) (by omega)))
    (fun c => ownFrom_pure _ _)
    ⟨⟨⟨_, bS, hrow0, trivial⟩, bP⟩, hB0⟩
    (fun x a' W => a' = { tmps := #[.slice none 0 0, .func (.func 44) #[] #[.pointer (some ⟨Bb, 0, none⟩)], .pointer (some ⟨w.heap.size, 0, none⟩), undef, .slice none 0 0, .int .i64 (x : Int), .func (.func 44) #[] #[.pointer (some ⟨Bb, 0, none⟩)], .int .i64 (x : Int), undef, undef, undef, undef, undef], defers := [] })
    (fun x a' => ownFrom_pure _ (fun _ : Unit => _))
    ?assign ?body ?done ?stop
  case assign =>
    rintro l pre x W K hI hK
    dsimp only [encs]
    gi_wp2
    exact hK _ _ ((KeepsOthers.refl _).from _) (Kq.refl _ _ _) hI (by simp)
  case body =>
    rintro l pre x a' W hl ⟨rr, hr⟩ ⟨⟨⟨v, hv, hrow, -⟩, hP⟩, hB⟩ rfl hlt
    have cL := hv.cell
    have hsW := hB.size
    have hcl : ∀ o, (W.alloc o).cell? ⟨w.heap.size, 0, none⟩ = some v := fun o => (hv.alloc o).cell
    obtain ⟨v', w2, hrun, hown', hgrow, -⟩ := run_append_own (P := Try.prog) (w := W.alloc (.cells #[.int .i64 (x : Int)] 3)) w.heap.size 39 39 3 i0 (.int .i64 0) 1 8 Try.underlying39 hi hz0 hz1 hz2 rfl (by decide) v pre.length (ints pre) (hrow.alloc _) ⟨W.heap.size, 0, none⟩ 1 1 [.int .i64 (x : Int)] rfl
      (by intro j u hj; have hj0 : j = 0 := (by cases j with | zero => rfl | succ j => simp at hj); subst hj0; simp at hj; subst hj; simp [Addr.add]) (by simp [Value.oneCell']) (by unfold maxLen; omega) (by omega) (by simp; omega)
    obtain ⟨g', cap', rfl⟩ := ownsRow_succ hown'
    have hrun' : (appO #[39, 39] 39 #[v, .slice (some ⟨W.heap.size, 0, none⟩) 1 1]).run Try.prog (W.alloc (.cells #[.int .i64 (x : Int)] 3)) = .ok (.slice (some ⟨g', 0, none⟩) (pre.length + 1) cap') w2 := hrun
    clear hrun
    have hkeep : ∀ (C : Nat) (t : TypeId) (u : Value), t ≠ 3 → C ≠ w.heap.size → Boxed W C t u → Boxed (w2.setCell ⟨w.heap.size, 0, none⟩ (.slice (some ⟨g', 0, none⟩) (pre.length + 1) cap')) C t u := fun C t u ht hne h =>
      Boxed.other (Boxed.kept (h.alloc _) hgrow (h.not_row ht hrow)) hne _
    obtain ⟨hv1, hv2, hr2, hk2, hb2⟩ := hv.appended (by decide) hrow hsW (Nat.le_refl _) hown' hgrow
    have hc1 := hv1.cell
    have hf1 := hv1.frozen
    have HV := Lib.hid (And.intro hv2 (And.intro hr2 (And.intro hk2 hb2)))
    clear hv2 hr2 hk2 hb2 hown' hgrow
    gi_wp2
    exact ⟨HV.out.2.2.1.from _, ⟨HV.out.2.2.2, fun u hu => hkeep _ _ u (by decide) (by omega) hu⟩, ⟨⟨_, HV.out.1, by simpa [ints] using HV.out.2.1, trivial⟩, hkeep _ _ _ (by decide) (by omega) hP⟩, hB.trans HV.out.2.2.2⟩
  case done =>
    rintro D ys W hD rfl ⟨⟨⟨v, hv, hrow, -⟩, hP⟩, hB⟩ hK
    have cL := hv.cell
    have HR := Lib.hid hrow
    clear hrow
    gi_wp2
    refine ⟨by simp, .inl ⟨_, _, rfl, run_takeDeferred hK, ?_⟩⟩
    refine ⟨v, ?_, hB.trans (belowK_b (w := w) (Nat.le_refl _) W D _ _ (by omega) hK rfl rfl), _, rfl, ownsRow_putObj HR.out (.deferred none) hK rfl⟩
    simp [results, go_sem]
  case stop =>
    rintro D c pre W hD hm hF hK
    exact hF.elim
theorem collect_in (n : Nat) (hn : 4 ≤ n) (Bb p b N : Nat) (R : Nat → Nat) (B : Nat → Nat → Nat) (w : World) (hM : ZMem w p b N R B) (hBb : Boxed w Bb 24 (.pointer (some ⟨p, 0, none⟩))) :
    CallsIn Fence.wide n Try.prog 39 #[.func (.func 44) #[] #[.pointer (some ⟨Bb, 0, none⟩)]] w fun e w' => Below w.heap.size w w' ∧ ∃ r, e = .returned r ∧ w'.ownsRow w.heap.size 3 1 r (usd R N).length (ints (usd R N)) := by
  have HS := Lib.hid (seq_in (n - 1) (by omega) Bb p b N R B w hM hBb)
  refine callsIn_of_wp Try.func39 rfl trivial ?_ rfl
  simp only [Try.ntmps39, List.size_toArray, List.length_cons, List.length_nil, Nat.reduceAdd, Nat.reduceSub, Array.replicate_succ, Array.replicate_zero, List.push_toArray, List.append_toArray, List.nil_append, List.cons_append]
  clear hM hBb
  gi_wp2_with (first | (refine ⟨trivial, fun _ => (by omega), ?_⟩; gi_at_call 43; refine HS.out.mono ?_; rintro e w' ⟨hb, r, rfl, ho⟩))
  go_ret
  exact ⟨hb, _, rfl, ho⟩
theorem usedl_in (n : Nat) (hn : 5 ≤ n) (p b N : Nat) (R : Nat → Nat) (B : Nat → Nat → Nat) (w : World) (hM : ZMem w p b N R B) :
    CallsIn Fence.wide n Try.prog 17 #[.pointer (some ⟨p, 0, none⟩)] w fun e w' => Below w.heap.size w w' ∧ ∃ r, e = .returned r ∧ w'.ownsRow w.heap.size 3 1 r (usd R N).length (ints (usd R N)) := by
  have hb0 : Below w.heap.size w (w.alloc (.cells #[.pointer (some ⟨p, 0, none⟩)] 24)) := (Below.refl _ _).alloc (Nat.le_refl _) _
  have HC := Lib.hid (collect_in (n - 1) (by omega) w.heap.size p b N R B (w.alloc (.cells #[.pointer (some ⟨p, 0, none⟩)] 24)) (hM.below hb0) (Boxed.new _ _ _))
  have HB := Lib.hid hb0
  refine callsIn_of_wp Try.func17 rfl trivial ?_ rfl
  simp only [Try.ntmps17, List.size_toArray, List.length_cons, List.length_nil, Nat.reduceAdd, Nat.reduceSub, Array.replicate_succ, Array.replicate_zero, List.push_toArray, List.append_toArray, List.nil_append, List.cons_append]
  clear hM hb0
  gi_wp2_with (first | (refine ⟨trivial, fun _ => (by omega), ?_⟩; gi_at_call 40; refine (used_in (n - 1) p _).mono ?_; rintro e w' ⟨rfl, rfl⟩) | (refine ⟨trivial, fun _ => (by omega), ?_⟩; gi_at_call 39; refine HC.out.mono ?_; rintro e w' ⟨hb, r, rfl, ho⟩))
  go_ret
  exact ⟨HB.out.trans (hb.mono (by simp)), _, rfl, own_base ho (by simp)⟩
theorem used_any (w : World) (p b N : Nat) (R : Nat → Nat) (B : Nat → Nat → Nat) (hM : ZMem w p b N R B) :
    Calls Try.prog 17 #[.pointer (some ⟨p, 0, none⟩)] w fun e w' => Below w.heap.size w w' ∧ ∃ r, e = .returned r ∧ w'.ownsRow w.heap.size 3 1 r (usd R N).length (ints (usd R N)) := (callsIn_wide (n := 5)).1 (usedl_in 5 (Nat.le_refl _) p b N R B w hM)

end Go.Proofs.Ytompcmbaiegkaaa.Fz
