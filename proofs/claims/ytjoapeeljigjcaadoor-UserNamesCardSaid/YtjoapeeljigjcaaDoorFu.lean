/-
  The iterator used of package frames: it tells the frames that are not free, rising, to any loop body that keeps what lay there; Free.
-/
import Derived.Test.YtjoapeeljigjcaaDoorFx
import Derived.RangeFuncNested
import Derived.RangeFuncBound
import Derived.RangeFuncCalls
import Derived.RangeFuncLeaves
import Derived.Shelf.Abstract
import Derived.Shelf.RegionOpen
import Derived.OwnWalkIn
import Derived.TacticsInMore
import Derived.LoopNIn
import Derived.LoopIn
namespace Go.Proofs.YtjoapeeljigjcaaDoor.Fu
open Go Go.RowKit Go.Shelf Kit Bk Fm Fo Fr Fw Fx
set_option linter.unusedVariables false

attribute [local go_sem] Oper.semAt_some

/-- The frames below n that are not free. -/
def usd (R : Nat → Nat) (n : Nat) : List Nat := (List.range n).filter fun k => decide (R k ≠ 0)
theorem usd_zero (R : Nat → Nat) : usd R 0 = [] := rfl
theorem usd_yes {R : Nat → Nat} {k : Nat} (h : R k ≠ 0) : usd R (k + 1) = usd R k ++ [k] := by simp [usd, List.range_succ, List.filter_append, h]
theorem usd_no {R : Nat → Nat} {k : Nat} (h : R k = 0) : usd R (k + 1) = usd R k := by simp [usd, List.range_succ, List.filter_append, h]
theorem usd_len (R : Nat → Nat) (n : Nat) : (usd R n).length ≤ n := by
  unfold usd
  have := List.length_filter_le (fun k => decide (R k ≠ 0)) (List.range n)
  simpa using this
theorem usd_mem {R : Nat → Nat} {n k : Nat} : k ∈ usd R n ↔ k < n ∧ R k ≠ 0 := by simp [usd]
def encs (k : Nat) : Array Value := #[.int .i64 (k : Int)]

/-- What a round that goes on keeps: what lay below n₀, and the iterator's own box. -/
def Kq (n₀ Bb : Nat) (W W' : World) : Prop := Below n₀ W W' ∧ ∀ v, Boxed W Bb 40 v → Boxed W' Bb 40 v
theorem Kq.trans {n₀ Bb : Nat} {A B C : World} (h : Kq n₀ Bb A B) (k : Kq n₀ Bb B C) : Kq n₀ Bb A C := ⟨h.1.trans k.1, fun v hv => k.2 v (h.2 v hv)⟩
theorem Kq.put {n₀ Bb : Nat} {w : World} (hn : n₀ ≤ w.heap.size) (W : World) (l : Nat) (o o' : Obj) (hl : w.heap.size ≤ l) (h : W.heap[l]? = some o) (hc : o.isCells = false) (hw : o.isWalk = false) : Kq n₀ Bb W (W.putObj l o') :=
  ⟨belowK_b hn W l o o' hl h hc hw, fun v hv => hv.kept (grownBy_putObj' W l o') (fun e => by
    cases e
    rw [show W.heap[Bb]? = _ from hv] at h
    cases h
    cases hc)⟩
theorem Kq.refl (n₀ Bb : Nat) (W : World) : Kq n₀ Bb W W := ⟨Below.refl _ _, fun _ h => h⟩
theorem Mem.low {w w' : World} {p b n n₀ : Nat} {R : Nat → Nat} {B : Nat → Nat → Nat} (h : Mem w p b n R B) (hb : Below n₀ w w') (hp : p < n₀) (hb2 : b < n₀) : Mem w' p b n R B := by
  obtain ⟨⟨cap, h1, h2⟩, ⟨cs, h3, h4⟩, h5, h6, h7⟩ := h
  exact ⟨⟨cap, (hb.block p hp).trans h1, h2⟩, ⟨cs, (hb.block b hb2).trans h3, h4⟩, h5, h6, h7⟩

set_option maxRecDepth 100000 in
set_option maxHeartbeats 2000000 in
theorem used1_in (n : Nat) (hn : 1 ≤ n) (l Bb n₀ p b N : Nat) (R : Nat → Nat) (B : Nat → Nat → Nat) (J Jx : List Nat → World → Prop) (W : World)
    (hY : ∀ pre x W, J pre W → pre.length < N → YieldAt Fence.wide (n - 1) Tryd.prog l (encs x) W fun e W' =>
      (e = .returned (.bool true) ∧ J (pre ++ [x]) W' ∧ Kq n₀ Bb W W') ∨ (e = .returned (.bool false) ∧ Jx (pre ++ [x]) W'))
    (hp : p < n₀) (hb : b < n₀) (hM : Mem W p b N R B) (hB : Boxed W Bb 40 (.pointer (some ⟨p, 0, none⟩))) (h0 : J [] W) :
    CallsIn Fence.wide n Tryd.prog 75 #[.func (.yield l) #[] #[], .pointer (some ⟨Bb, 0, none⟩)] W fun e W' => (∃ v, e = .returned v) ∧
      ((∃ ys, ys = usd R N ∧ J ys W') ∨ (∃ pre, (∃ k, k ≤ N ∧ pre = usd R k) ∧ Jx pre W')) := by
  have hN := hM.pos
  refine callsIn_of_wp Tryd.func75 rfl trivial ?_ rfl
  simp only [Tryd.ntmps75, List.size_toArray, List.length_cons, List.length_nil, Nat.reduceAdd, Nat.reduceSub, Array.replicate_succ, Array.replicate_zero, List.push_toArray, List.append_toArray, List.nil_append, List.cons_append]
  have hBc := hB.cell
  have HL := Lib.hid ((callsIn_wide (n := n - 1)).2 (len_any W p b N R B hM))
  gi_wp2
  refine wpIn_wide.2 (wp_scope_straight ((wpIn_wide (n := n)).1 ?_))
  gi_wp2
  refine wpIn_label ?_
  gi_wp2_with (refine ⟨trivial, ?_⟩; refine HL.out.mono ?_; rintro e w9 ⟨rfl, rfl⟩)
  clear hBc
  gi_loopw [6] (fun i wr => ∃ (k : Nat), k ≤ N ∧ i = .int .i64 (k : Int) ∧ J (usd R k) wr ∧ Kq n₀ Bb W wr)
    (fun i _ => N - (intOf i).toNat)
  case atStart => exact ⟨0, Nat.zero_le _, rfl, h0, Kq.refl _ _ _⟩
  case round =>
    obtain ⟨k, hk, rfl, hJs, hnx⟩ := hrel
    have hbB := hnx.2 _ hB
    have hcB := hbB.cell
    have hMr := Mem.low hM hnx.1 hp hb
    by_cases hlt : k < N
    · have hlt' : (k : Int) < (N : Int) := by omega
      obtain ⟨⟨cap, h1, h2⟩, ⟨cs, h3, h4, h5, _⟩, _⟩ := hMr
      have c0 := h1.cell 0
      have c1 := (h3.cell _).trans (h5 k hlt)
      by_cases hz : R k = 0
      · rw [hz] at c1
        have hu := usd_no hz
        clear h1 h3 h4 h5
        gi_wp2
        go_roundw
        case rel => exact ⟨k + 1, by omega, by go_num, by rw [hu]; exact hJs, hnx⟩
        case measure => simp [intOf]; omega
      · have hu := usd_yes hz
        have hd : ((R k : Int) == 0) = false := by simp; omega
        obtain ⟨fn, tmps, assign, body, hy, hR2⟩ := hY _ k wr hJs (Nat.lt_of_le_of_lt (usd_len R k) hlt)
        dsimp only [encs] at hy
        clear h1 h3 h4 h5 hz
        gi_wp2
        refine hR2.mono ?_
        rintro e W3 (⟨rfl, hJ3, hk3⟩ | ⟨rfl, hJx3⟩)
        · gi_wp2
          go_roundw
          case rel => exact ⟨k + 1, by omega, by go_num, by rw [hu]; exact hJ3, hnx.trans hk3⟩
          case measure => simp [intOf]; omega
        · gi_wp2
          rw [Exit.noGoto_ret]
          refine bodyPost_ret (results_none rfl _ _ _) rfl ?_
          exact ⟨⟨_, rfl⟩, .inr ⟨_, ⟨k + 1, by omega, hu.symm⟩, hJx3⟩⟩
    · obtain rfl : k = N := by omega
      gi_wp2
      rw [Exit.noGoto_normal]
      go_end0
      exact ⟨⟨_, rfl⟩, .inl ⟨_, rfl, hJs⟩⟩

theorem used_in (n p : Nat) (w : World) :
    CallsIn Fence.wide n Tryd.prog 58 #[.pointer (some ⟨p, 0, none⟩)] w fun e w' => e = .returned (.func (.func 75) #[] #[.pointer (some ⟨w.heap.size, 0, none⟩)]) ∧ w' = w.alloc (.cells #[.pointer (some ⟨p, 0, none⟩)] 40) := by
  refine callsIn_of_wp Tryd.func58 rfl trivial ?_ rfl
  simp only [Tryd.ntmps58, List.size_toArray, List.length_cons, List.length_nil, Nat.reduceAdd, Nat.reduceSub, Array.replicate_succ, Array.replicate_zero, List.push_toArray, List.append_toArray, List.nil_append, List.cons_append]
  gi_wp2
  go_ret
  exact ⟨rfl, rfl⟩
/-- All used frames come, rising, or a first part of them. n₀: what lay there when the loop's function began. -/
theorem used_stops (n : Nat) (hn : 1 ≤ n) (Bb n₀ p b N : Nat) (R : Nat → Nat) (B : Nat → Nat → Nat) (w : World) (hp : p < n₀) (hb : b < n₀) (hM : Mem w p b N R B) (hc : Boxed w Bb 40 (.pointer (some ⟨p, 0, none⟩))) :
    SeqStopsK Fence.wide n Tryd.prog 75 #[.pointer (some ⟨Bb, 0, none⟩)] encs (Kq n₀ Bb) (fun ys => ys = usd R N) (fun pre => ∃ k, k ≤ N ∧ pre = usd R k) N w := fun l J Jx W hW hJ _ hY hJ0 =>
  used1_in n hn l Bb n₀ p b N R B J Jx W hY hp hb (hM.below hW) ((hW.block Bb hc.lt).trans hc) hJ0

set_option maxRecDepth 100000 in
set_option maxHeartbeats 2000000 in
theorem free_in (n : Nat) (hn : 4 ≤ n) (p b N : Nat) (R : Nat → Nat) (B : Nat → Nat → Nat) (w : World) (hM : Mem w p b N R B) :
    CallsIn Fence.wide n Tryd.prog 33 #[.pointer (some ⟨p, 0, none⟩)] w fun e w' => e = .returned (.int .i64 ((N : Int) - ((usd R N).length : Int))) ∧ Below w.heap.size w w' := by
  have hN := hM.pos
  have hplt := hM.lt
  have HL := Lib.hid ((callsIn_wide (n := n - 1)).2 (len_any w p b N R B hM))
  refine callsIn_of_wp_marks Tryd.func33 rfl trivial ?_ rfl
  simp only [Tryd.ntmps33, List.size_toArray, List.length_cons, List.length_nil, Nat.reduceAdd, Nat.reduceSub, Array.replicate_succ, Array.replicate_zero, List.push_toArray, List.append_toArray, List.nil_append, List.cons_append]
  gi_wp2_with (first | (refine ⟨trivial, fun _ => (by omega), ?_⟩; gi_at_call 57; refine HL.out.mono ?_; rintro e w' ⟨rfl, rfl⟩) | (refine ⟨trivial, fun _ => (by omega), ?_⟩; gi_at_call 58; refine (used_in (n - 1) p _).mono ?_; rintro e w' ⟨rfl, rfl⟩))
  have bN := (Boxed.new w 3 (.int .i64 (N : Int))).alloc (.cells #[.pointer (some ⟨p, 0, none⟩)] 40)
  have bP := Boxed.new (w.alloc (.cells #[.int .i64 (N : Int)] 3)) 40 (.pointer (some ⟨p, 0, none⟩))
  have hB0 := (((Below.refl w.heap.size w).alloc (Nat.le_refl _) (.cells #[.int .i64 (N : Int)] 3))).alloc (by simp) (.cells #[.pointer (some ⟨p, 0, none⟩)] 40)
  have hsz : ((w.alloc (.cells #[.int .i64 (N : Int)] 3)).alloc (.cells #[.pointer (some ⟨p, 0, none⟩)] 40)).heap.size = w.heap.size + 2 := by simp
  simp only [World.size_alloc] at bP
  obtain ⟨W0, hW0⟩ : ∃ W0, (w.alloc (.cells #[.int .i64 (N : Int)] 3)).alloc (.cells #[.pointer (some ⟨p, 0, none⟩)] 40) = W0 := ⟨_, rfl⟩
  rw [hW0] at bN bP hB0 hsz ⊢
  clear hW0
  have hM0 := hM.below hB0
  refine wpIn_rangeFunc_ownH rfl (by omega) (gf := 75) (lb := #[.pointer (some ⟨w.heap.size + 1, 0, none⟩)]) rfl trivial (enters_of Tryd.func75 (by kernel_rfl) rfl)
    (used_stops (n - 1) (by omega) (w.heap.size + 1) w.heap.size p b N R B W0 hplt.1 hplt.2 hM0 bP) Kq.trans (Kq.put (by omega)) (Below.refl _ _) (fun _ => rfl)
    (fun pre W => ((Boxed W w.heap.size 3 (.int .i64 ((N : Int) - (pre.length : Int)))) ∧ Boxed W (w.heap.size + 1) 40 (.pointer (some ⟨p, 0, none⟩))) ∧ Below w.heap.size w W)
    (fun c pre W => False)
    (OwnFrom.and (OwnFrom.and (Own.from (boxed_own _ _ (fun (pre : List Nat) => Value.int .i64 ((N : Int) - (pre.length : Int)))) _) (Own.from (boxed_own _ _ _) _)) (ownFrom_below (Nat.le_refl _) (by omega)))
    (fun c => ownFrom_pure _ _)
    ⟨⟨by simpa using bN, bP⟩, hB0⟩
    (fun x a' W => a' = { tmps := #[.pointer (some ⟨p, 0, none⟩), undef, .int .i64 0, .pointer (some ⟨w.heap.size, 0, none⟩), .pointer (some ⟨p, 0, none⟩), .int .i64 (N : Int), .pointer (some ⟨p, 0, none⟩), .func (.func 75) #[] #[.pointer (some ⟨w.heap.size + 1, 0, none⟩)], .int .i64 (x : Int), undef, undef, undef], defers := [] })
    (fun x a' => ownFrom_pure _ (fun _ : Unit => _))
    ?assign ?body ?done ?stop
  case assign =>
    rintro l pre x W K hI hK
    dsimp only [encs]
    gi_wp2
    exact hK _ _ ((KeepsOthers.refl _).from _) (Kq.refl _ _ _) hI (by simp)
  case body =>
    rintro l pre x a' W hl ⟨rr, hr⟩ ⟨⟨hN1, hP⟩, hB⟩ rfl hlt
    have cN := hN1.cell
    have fN := hN1.frozen
    have hsW := hB.size
    obtain ⟨q, hq⟩ : ∃ q : Int, q = (N : Int) - (pre.length : Int) := ⟨_, rfl⟩
    have hq2 : (N : Int) - ((pre ++ [x]).length : Int) = q - 1 := by simp; omega
    have hq0 : 0 ≤ q := by omega
    have hq1 : q ≤ 256 := by omega
    rw [← hq] at cN hN1
    have HQ := Lib.hid hq2
    clear hq hq2
    gi_wp2
    exact ⟨(KeepsOthers.setCell _ _ _).from _, ⟨(Below.refl _ _).setCell (p := ⟨w.heap.size, 0, none⟩) (Nat.le_refl _) _, fun v hv => hv.other (by omega) _⟩, ⟨by rw [HQ.out]; exact hN1.set _, hP.other (by omega) _⟩, hB.setCell (p := ⟨w.heap.size, 0, none⟩) (Nat.le_refl _) _⟩
  case done =>
    rintro D ys W hD rfl ⟨⟨hN1, hP⟩, hB⟩ hK
    have cN := hN1.cell
    have hq0 : (usd R N).length ≤ N := usd_len R N
    gi_wp2
    refine ⟨by simp, .inl ⟨_, _, rfl, run_takeDeferred hK, ?_⟩⟩
    refine ⟨.int .i64 ((N : Int) - ((usd R N).length : Int)), ?_, rfl, hB.trans (belowK_b (w := w) (Nat.le_refl _) W D _ _ (by omega) hK rfl rfl)⟩
    simp [results, go_sem]
  case stop =>
    rintro D c pre W hD hm hF hK
    exact hF.elim
theorem free_any (w : World) (p b N : Nat) (R : Nat → Nat) (B : Nat → Nat → Nat) (hM : Mem w p b N R B) :
    Calls Tryd.prog 33 #[.pointer (some ⟨p, 0, none⟩)] w fun e w' => e = .returned (.int .i64 ((N : Int) - ((usd R N).length : Int))) ∧ Below w.heap.size w w' := (callsIn_wide (n := 4)).1 (free_in 4 (Nat.le_refl _) p b N R B w hM)
end Go.Proofs.YtjoapeeljigjcaaDoor.Fu
