/-
  A futex: the iterator at, and At.
-/
import Derived.Test.YtpfnjeicenhciaaFtc
import Derived.RangeFuncNested
import Derived.RangeFuncBound
import Derived.RangeFuncCalls
import Derived.RangeFuncLeaves
import Derived.Shelf.Abstract
import Derived.Shelf.RegionOpen
import Derived.OwnWalkIn
import Derived.TacticsInMore
import Derived.LoopNIn
import Derived.LoopIn
namespace Go.Proofs.Ytpfnjeicenhciaa.Ftd
open Go Go.RowKit Go.Shelf Kit Bk Fta Ftb Ftc
set_option linter.unusedVariables false
attribute [local go_sem] Oper.semAt_some

/-- Who waits at a key, in order. -/
def ats (L : List Wt) (k : Ky) : List Int := (L.filter fun x => decide (x.k = k)).map (·.q)
theorem ats_yes {L : List Wt} {k : Ky} {i : Nat} (h : i < L.length) (e : L[i].k = k) : ats (L.take (i + 1)) k = ats (L.take i) k ++ [L[i].q] := by
  unfold ats
  rw [List.take_succ_eq_append_getElem h, List.filter_append, List.map_append, List.filter_cons_of_pos (by simpa using e)]
  rfl
theorem ats_no {L : List Wt} {k : Ky} {i : Nat} (h : i < L.length) (e : L[i].k ≠ k) : ats (L.take (i + 1)) k = ats (L.take i) k := by
  unfold ats
  rw [List.take_succ_eq_append_getElem h, List.filter_append, List.map_append, List.filter_cons_of_neg (by simpa using e)]
  simp
theorem ats_len (L : List Wt) (k : Ky) : (ats L k).length ≤ L.length := by
  unfold ats
  rw [List.length_map]
  exact List.length_filter_le _ _
def encs (x : Int) : Array Value := #[.int .i64 x]
theorem grown_below {w w' : World} (h : Below w.heap.size w w') : w.grownBy w' none := ⟨h.1, h.2, h.3, h.size, fun k hk _ => h.block k hk⟩

/-- What a round that goes on keeps: what lay below n₀, and the iterator's own boxes. -/
def Kq (n₀ Bb Kb : Nat) (W W' : World) : Prop := Below n₀ W W' ∧ (∀ v, Boxed W Bb 23 v → Boxed W' Bb 23 v) ∧ ∀ cs, Blk W Kb cs 31 → Blk W' Kb cs 31
theorem Kq.trans {n₀ Bb Kb : Nat} {A B C : World} (h : Kq n₀ Bb Kb A B) (k : Kq n₀ Bb Kb B C) : Kq n₀ Bb Kb A C := ⟨h.1.trans k.1, fun v hv => k.2.1 v (h.2.1 v hv), fun v hv => k.2.2 v (h.2.2 v hv)⟩
theorem Kq.put {n₀ Bb Kb : Nat} {w : World} (hn : n₀ ≤ w.heap.size) (W : World) (l : Nat) (o o' : Obj) (hl : w.heap.size ≤ l) (h : W.heap[l]? = some o) (hc : o.isCells = false) (hw : o.isWalk = false) : Kq n₀ Bb Kb W (W.putObj l o') :=
  ⟨belowK_b hn W l o o' hl h hc hw, fun v hv => hv.kept (grownBy_putObj' W l o') (fun e => by
    cases e
    rw [show W.heap[Bb]? = _ from hv] at h
    cases h
    cases hc), fun cs hk => ((grownBy_putObj' W l o').block Kb hk.lt (fun e => by
    cases e
    rw [show W.heap[Kb]? = _ from hk] at h
    cases h
    cases hc)).trans hk⟩
theorem Kq.refl (n₀ Bb Kb : Nat) (W : World) : Kq n₀ Bb Kb W W := ⟨Below.refl _ _, fun _ h => h, fun _ h => h⟩
theorem Kq.below {n₀ Bb Kb : Nat} {W W' : World} (h : Below W.heap.size W W') (hn : n₀ ≤ W.heap.size) : Kq n₀ Bb Kb W W' := ⟨h.mono hn, fun v hv => (h.block Bb hv.lt).trans hv, fun cs hk => hk.below h⟩
theorem Lx.low {T : TypeId} {w w' : World} {f r n₀ : Nat} {L : List Wt} (h : Lx T w f r L) (hb : Below n₀ w w') (hf : f < n₀) (hr : r < n₀) : Lx T w' f r L :=
  h.kept (S := fun j => n₀ ≤ j) ⟨hb.os, hb.tape, hb.output, hb.size, fun k hk hn => hb.block k (by omega)⟩ (by omega) (by omega)
/-- A futex (or none) of which the iterator needs these alone, whatever is done above n₀. -/
structure Gv (n₀ : Nat) (w : World) (a : Option Addr) (v : Value) (r : Nat) (L : List Wt) : Prop where
  ret : ∀ W, Below n₀ w W → Calls Try.prog 35 #[.pointer a] W fun e w' => e = .returned v ∧ W = w'
  form : ∃ va c, v = .slice va L.length c ∧ L.length ≤ c ∧ c ≤ maxLen ∧ (∀ i, i < L.length → va = some ⟨r, 0, none⟩)
  cells : ∀ W, Below n₀ w W → ∀ (i : Nat) (hi : i < L.length), W.cell? ⟨r, i * 4, none⟩ = some (.int .i64 L[i].q) ∧ W.cell? ⟨r, i * 4 + 1, none⟩ = some (.int .i64 L[i].k.p) ∧ W.cell? ⟨r, i * 4 + 2, none⟩ = some (.int .i64 L[i].k.f) ∧ W.cell? ⟨r, i * 4 + 3, none⟩ = some (.int .i64 L[i].k.o)
theorem Gv.low {n₀ r : Nat} {w w' : World} {a : Option Addr} {v : Value} {L : List Wt} (h : Gv n₀ w a v r L) (hb : Below n₀ w w') : Gv n₀ w' a v r L := ⟨fun W k => h.ret W (hb.trans k), h.form, fun W k => h.cells W (hb.trans k)⟩
theorem gv_nil (n₀ : Nat) (w : World) : Gv n₀ w none (.slice none 0 0) 0 [] := ⟨fun W _ => waiting_nil W, ⟨none, 0, rfl, Nat.le_refl _, Nat.zero_le _, fun i hi => absurd hi (Nat.not_lt_zero _)⟩, fun W _ i hi => absurd hi (Nat.not_lt_zero _)⟩
theorem gv_lx {n₀ r f : Nat} {w : World} {L : List Wt} (h : Lx 26 w f r L) (hf : f < n₀) (hr : r < n₀) : ∃ v, Gv n₀ w (some ⟨f, 0, none⟩) v r L := by
  obtain ⟨v, h1, h2⟩ := h
  have hl : ∀ W, Below n₀ w W → Blk W f #[v] 26 ∧ Wr W v f r L := fun W hb => by
    have hk : Kp (fun j => n₀ ≤ j) w W := ⟨hb.os, hb.tape, hb.output, hb.size, fun k hk hn => hb.block k (by omega)⟩
    exact ⟨h1.kept hk (by omega), h2.kept hk (by omega)⟩
  exact ⟨v, fun W hb => waiting_any W f v (hl W hb).1, h2.form, fun W hb i hi => (hl W hb).2.cells i hi⟩

set_option maxRecDepth 100000 in
set_option maxHeartbeats 4000000 in
theorem at1_in (n : Nat) (hn : 1 ≤ n) (l Bb Kb n₀ : Nat) (ad : Option Addr) (v : Value) (r : Nat) (L : List Wt) (k : Ky) (J Jx : List Int → World → Prop) (W : World) (hJ : AbidesFrom W.heap.size J)
    (hY : ∀ pre x W, J pre W → pre.length < L.length → YieldAt Fence.wide (n - 1) Try.prog l (encs x) W fun e W' =>
      (e = .returned (.bool true) ∧ J (pre ++ [x]) W' ∧ Kq n₀ Bb Kb W W') ∨ (e = .returned (.bool false) ∧ Jx (pre ++ [x]) W'))
    (hn₀ : n₀ ≤ W.heap.size) (hL : Gv n₀ W ad v r L) (hwf : ∀ x ∈ L, kwf x.k) (hk : kwf k)
    (hB : Boxed W Bb 23 (.pointer ad)) (hK : Blk W Kb #[.int .i64 k.p, .int .i64 k.f, .int .i64 k.o] 31) (h0 : J [] W) :
    CallsIn Fence.wide n Try.prog 39 #[.func (.yield l) #[] #[], .pointer (some ⟨Bb, 0, none⟩), .pointer (some ⟨Kb, 0, none⟩)] W fun e W' => (∃ v, e = .returned v) ∧
      ((∃ ys, ys = ats L k ∧ J ys W') ∨ (∃ pre, (∃ j, j ≤ L.length ∧ pre = ats (L.take j) k) ∧ Jx pre W')) := by
  have hcB := hB.cell
  obtain ⟨a, c, rfl, hc1, hc2, ha⟩ := hL.form
  have HA := Lib.hid ha
  have HW := Lib.hid ((callsIn_wide (n := n - 1)).2 (hL.ret W (Below.refl _ _)))
  have HLx := Lib.hid hL
  have HWf := Lib.hid hwf
  have HKw := Lib.hid hk
  have HB := Lib.hid hB
  have HK := Lib.hid hK
  have HJ := Lib.hid hJ
  have HY := Lib.hid hY
  have HN := Lib.hid hn₀
  unfold maxLen at hc2
  have hcI : (L.length : Int) ≤ 9223372036854775807 := by omega
  clear hL hc1 hc2 ha hwf hk hB hK hJ hY hn₀
  refine callsIn_of_wp Try.func39 rfl trivial ?_ rfl
  simp only [Try.ntmps39, List.size_toArray, List.length_cons, List.length_nil, Nat.reduceAdd, Nat.reduceSub, Array.replicate_succ, Array.replicate_zero, List.push_toArray, List.append_toArray, List.nil_append, List.cons_append]
  gi_wp2
  refine wpIn_wide.2 (wp_scope_straight ((wpIn_wide (n := n)).1 ?_))
  gi_wp2
  refine wpIn_label ?_
  gi_wp2_with (refine ⟨trivial, ?_⟩; refine HW.out.mono ?_; rintro e w9 ⟨rfl, rfl⟩)
  clear hcB
  gi_loopw [9] (fun i wr => ∃ j : Nat, j ≤ L.length ∧ i = .int .i64 (j : Int) ∧ J (ats (L.take j) k) wr ∧ Kq n₀ Bb Kb W wr)
    (fun i _ => L.length - (intOf i).toNat)
  case atStart => exact ⟨0, Nat.zero_le _, rfl, h0, Kq.refl _ _ _ _⟩
  case round =>
    obtain ⟨j, hj, rfl, hJs, hnx⟩ := hrel
    have hszr := hnx.1.size
    by_cases hlt : j < L.length
    · have hltI : (j : Int) < (L.length : Int) := by omega
      obtain rfl := HA.out j hlt
      obtain ⟨c0, c1, c2, c3⟩ := HLx.out.cells wr hnx.1 j hlt
      have hbx := hnx.2.1 _ HB.out
      have hkx := hnx.2.2 _ HK.out
      have hba := (Below.refl wr.heap.size wr).alloc (Nat.le_refl _) (.cells #[.int .i64 L[j].q, .int .i64 L[j].k.p, .int .i64 L[j].k.f, .int .i64 L[j].k.o] 51)
      have e0 := (hkx.below hba).cell 0
      have e1 := (hkx.below hba).cell 1
      have e2 := (hkx.below hba).cell 2
      have hrk := run_key L[j].k k (HWf.out _ (List.getElem_mem hlt)) HKw.out
      have hJa := HJ.out _ _ _ none hJs (grown_below hba) (fun r e => by cases e)
      have hya := HY.out _ L[j].q _ hJa (Nat.lt_of_le_of_lt (by have := ats_len (L.take j) k; rw [List.length_take] at this; omega) hlt)
      have hka := Kq.below (n₀ := n₀) (Bb := Bb) (Kb := Kb) hba (by have := HN.out; omega)
      by_cases he : L[j].k = k
      · have hd : decide (L[j].k = k) = true := decide_eq_true he
        have hat := ats_yes hlt he
        rw [hd] at hrk
        have HH := Lib.hid (And.intro hnx (And.intro hat hka))
        obtain ⟨fn, tmps, assign, body, hy, hR2⟩ := hya
        dsimp only [encs] at hy
        clear hJa hJs hnx hbx hkx hba hat hka he hd
        gi_wp2
        refine hR2.mono ?_
        rintro e W3 (⟨rfl, hJ3, hk3⟩ | ⟨rfl, hJx3⟩)
        · gi_wp2
          go_roundw
          case rel => exact ⟨j + 1, by omega, by go_num, by rw [HH.out.2.1]; exact hJ3, (HH.out.1.trans HH.out.2.2).trans hk3⟩
          case measure => simp [intOf]; omega
        · gi_wp2
          rw [Exit.noGoto_ret]
          refine bodyPost_ret (results_none rfl _ _ _) rfl ?_
          exact ⟨⟨_, rfl⟩, .inr ⟨_, ⟨j + 1, by omega, HH.out.2.1.symm⟩, hJx3⟩⟩
      · have hd : decide (L[j].k = k) = false := decide_eq_false he
        have hat := ats_no hlt he
        rw [hd] at hrk
        have HH := Lib.hid (And.intro hnx (And.intro hat (And.intro hka hJa)))
        clear hJa hJs hnx hbx hkx hba hat hka hya he hd
        gi_wp2
        go_roundw
        case rel => exact ⟨j + 1, by omega, by go_num, by rw [HH.out.2.1]; exact HH.out.2.2.2, HH.out.1.trans HH.out.2.2.1⟩
        case measure => simp [intOf]; omega
    · obtain rfl : j = L.length := by omega
      rw [List.take_length] at hJs
      clear hnx
      gi_wp2
      rw [Exit.noGoto_normal]
      go_end0
      exact ⟨⟨_, rfl⟩, .inl ⟨_, rfl, hJs⟩⟩

theorem at_in (n : Nat) (ad : Option Addr) (k : Ky) (w : World) :
    CallsIn Fence.wide n Try.prog 30 #[.pointer ad, kv k] w fun e w' => e = .returned (.func (.func 39) #[] #[.pointer (some ⟨w.heap.size, 0, none⟩), .pointer (some ⟨w.heap.size + 1, 0, none⟩)]) ∧ w' = (w.alloc (.cells #[.pointer ad] 23)).alloc (.cells #[.int .i64 k.p, .int .i64 k.f, .int .i64 k.o] 31) := by
  refine callsIn_of_wp Try.func30 rfl trivial ?_ rfl
  simp only [Try.ntmps30, List.size_toArray, List.length_cons, List.length_nil, Nat.reduceAdd, Nat.reduceSub, Array.replicate_succ, Array.replicate_zero, List.push_toArray, List.append_toArray, List.nil_append, List.cons_append]
  gi_wp2
  go_ret
  exact ⟨rfl, rfl⟩
/-- All of that key come, in order, or a first part of them. n₀: what lay there when the loop's function began. -/
theorem at_stops (n : Nat) (hn : 1 ≤ n) (Bb Kb n₀ : Nat) (ad : Option Addr) (v : Value) (r : Nat) (L : List Wt) (k : Ky) (w : World) (hn₀ : n₀ ≤ w.heap.size) (hL : Gv n₀ w ad v r L) (hwf : ∀ x ∈ L, kwf x.k) (hk : kwf k)
    (hB : Boxed w Bb 23 (.pointer ad)) (hK : Blk w Kb #[.int .i64 k.p, .int .i64 k.f, .int .i64 k.o] 31) :
    SeqStopsK Fence.wide n Try.prog 39 #[.pointer (some ⟨Bb, 0, none⟩), .pointer (some ⟨Kb, 0, none⟩)] encs (Kq n₀ Bb Kb) (fun ys => ys = ats L k) (fun pre => ∃ j, j ≤ L.length ∧ pre = ats (L.take j) k) L.length w := fun l J Jx W hW hJ _ hY hJ0 =>
  at1_in n hn l Bb Kb n₀ ad v r L k J Jx W hJ hY (Nat.le_trans hn₀ hW.size) (hL.low (hW.mono hn₀)) hwf hk ((hW.block Bb hB.lt).trans hB) (hK.below hW) hJ0

/-- Numbers as cells. -/
def ints (l : List Int) : List Value := l.map fun x => Value.int .i64 x
theorem infoI : (Try.prog.info? 3).map (fun i => (i.zero, i.size, i.bytes)) = some (some (.int .i64 0), 1, 8) := by kernel_rfl
attribute [local go_sem ↓] app_wrap

set_option maxRecDepth 100000 in
set_option maxHeartbeats 2000000 in
theorem seq_in (n : Nat) (hn : 3 ≤ n) (Bb Kb : Nat) (ad : Option Addr) (v : Value) (r : Nat) (L : List Wt) (k : Ky) (w : World) (hL : Gv w.heap.size w ad v r L) (hwf : ∀ x ∈ L, kwf x.k) (hk : kwf k) (hll : L.length ≤ 90000)
    (hB : Boxed w Bb 23 (.pointer ad)) (hK : Blk w Kb #[.int .i64 k.p, .int .i64 k.f, .int .i64 k.o] 31) :
    CallsIn Fence.wide n Try.prog 42 #[.slice none 0 0, .func (.func 39) #[] #[.pointer (some ⟨Bb, 0, none⟩), .pointer (some ⟨Kb, 0, none⟩)]] w fun e w' => Below w.heap.size w w' ∧ ∃ u, e = .returned u ∧ w'.ownsRow w.heap.size 3 1 u (ats L k).length (ints (ats L k)) := by
  obtain ⟨i0, hi, hz0, hz1, hz2⟩ := info_parts' infoI
  have hBlt := hB.lt
  have hKlt := hK.lt
  refine callsIn_of_wp_marks Try.func42 rfl trivial ?_ rfl
  simp only [Try.ntmps42, List.size_toArray, List.length_cons, List.length_nil, Nat.reduceAdd, Nat.reduceSub, Array.replicate_succ, Array.replicate_zero, List.push_toArray, List.append_toArray, List.nil_append, List.cons_append]
  gi_wp2
  have bS := Boxed.new w 37 (.slice none 0 0)
  have bP := hB.alloc (.cells #[.slice none 0 0] 37)
  have hB0 := (Below.refl w.heap.size w).alloc (Nat.le_refl _) (.cells #[.slice none 0 0] 37)
  have bK := hK.below hB0
  have hsz : (w.alloc (.cells #[.slice none 0 0] 37)).heap.size = w.heap.size + 1 := by simp
  have hrow0 := World.ownsRow_nil (w.alloc (.cells #[.slice none 0 0] 37)) w.heap.size 3 1
  obtain ⟨W0, hW0⟩ : ∃ W0, w.alloc (.cells #[.slice none 0 0] 37) = W0 := ⟨_, rfl⟩
  rw [hW0] at bS bP bK hB0 hsz hrow0 ⊢
  clear hW0
  have hM0 := hL.low hB0
  refine wpIn_rangeFunc_ownH rfl (by omega) (gf := 39) (lb := #[.pointer (some ⟨Bb, 0, none⟩), .pointer (some ⟨Kb, 0, none⟩)]) rfl trivial (enters_of Try.func39 (by kernel_rfl) rfl)
    (at_stops (n - 1) (by omega) Bb Kb w.heap.size ad v r L k W0 hB0.size hM0 hwf hk bP bK) Kq.trans (Kq.put (by omega)) (Below.refl _ _) (fun _ => rfl)
    (fun pre W => ((∃ v, Boxed W w.heap.size 37 v ∧ W.ownsRow w.heap.size 3 1 v pre.length (ints pre) ∧ True) ∧ True) ∧ Below w.heap.size w W)
    (fun c pre W => False)
    (OwnFrom.and (OwnFrom.and (Own.from (holdsRow_own w.heap.size w.heap.size 37 3 1 (fun (pre : List Int) => pre.length) (fun (pre : List Int) => ints pre) (fun _ _ => True)) _) (ownFrom_pure _ (fun _ => True))) (ownFrom_below (Nat.le_refl _) (by omega)))
    (fun c => ownFrom_pure _ _)
    ⟨⟨⟨_, bS, hrow0, trivial⟩, trivial⟩, hB0⟩
    (fun x a' W => a' = { tmps := #[.slice none 0 0, .func (.func 39) #[] #[.pointer (some ⟨Bb, 0, none⟩), .pointer (some ⟨Kb, 0, none⟩)], .pointer (some ⟨w.heap.size, 0, none⟩), undef, .slice none 0 0, .int .i64 x, .func (.func 39) #[] #[.pointer (some ⟨Bb, 0, none⟩), .pointer (some ⟨Kb, 0, none⟩)], .int .i64 x, undef, undef, undef, undef, undef], defers := [] })
    (fun x a' => ownFrom_pure _ (fun _ : Unit => _))
    ?assign ?body ?done ?stop
  case assign =>
    rintro l pre x W K hI hK
    dsimp only [encs]
    gi_wp2
    exact hK _ _ ((KeepsOthers.refl _).from _) (Kq.refl _ _ _ _) hI (by simp)
  case body =>
    rintro l pre x a' W hl ⟨rr, hr⟩ ⟨⟨⟨v, hv, hrow, -⟩, -⟩, hB⟩ rfl hlt
    have cL := hv.cell
    have hsW := hB.size
    obtain ⟨v', w2, hrun, hown', hgrow, -⟩ := run_append_own (P := Try.prog) (w := W.alloc (.cells #[.int .i64 x] 3)) w.heap.size 37 37 3 i0 (.int .i64 0) 1 8 Try.underlying37 hi hz0 hz1 hz2 rfl (by decide) v pre.length (ints pre) (hrow.alloc _) ⟨W.heap.size, 0, none⟩ 1 1 [.int .i64 x] rfl
      (by intro j u hj; have hj0 : j = 0 := (by cases j with | zero => rfl | succ j => simp at hj); subst hj0; simp at hj; subst hj; simp [Addr.add]) (by simp [Value.oneCell']) (by unfold maxLen; omega) (by omega) (by simp; omega)
    obtain ⟨g', cap', rfl⟩ := ownsRow_succ hown'
    have hrun' : (appO #[37, 37] 37 #[v, .slice (some ⟨W.heap.size, 0, none⟩) 1 1]).run Try.prog (W.alloc (.cells #[.int .i64 x] 3)) = .ok (.slice (some ⟨g', 0, none⟩) (pre.length + 1) cap') w2 := hrun
    clear hrun
    have hkeep : ∀ (C : Nat) (t : TypeId) (u : Value), t ≠ 3 → C ≠ w.heap.size → Boxed W C t u → Boxed (w2.setCell ⟨w.heap.size, 0, none⟩ (.slice (some ⟨g', 0, none⟩) (pre.length + 1) cap')) C t u := fun C t u ht hne h =>
      Boxed.other (Boxed.kept (h.alloc _) hgrow (h.not_row ht hrow)) hne _
    have hkeepK : ∀ cs, Blk W Kb cs 31 → Blk (w2.setCell ⟨w.heap.size, 0, none⟩ (.slice (some ⟨g', 0, none⟩) (pre.length + 1) cap')) Kb cs 31 := fun cs h => by
      refine Blk.other ((h.below ((Below.refl _ _).alloc (Nat.le_refl _) _)).kept (Kp.of_grown hgrow) (fun e => ?_)) _ _ _ (by omega)
      rcases hrow.2 with ⟨rfl, _⟩ | ⟨g, cap, cur, rfl, _, hh, _⟩
      · simp [Value.ownBlock] at e
      · simp [Value.ownBlock] at e
        subst e
        exact absurd (h.inj (show Blk W Kb cur 3 from hh)).2 (by decide)
    obtain ⟨hv1, hv2, hr2, hk2, hb2⟩ := hv.appended (by decide) hrow hsW (Nat.le_refl _) hown' hgrow
    have hc1 := hv1.cell
    have hf1 := hv1.frozen
    have HV := Lib.hid (And.intro hv2 (And.intro hr2 (And.intro hk2 hb2)))
    clear hv2 hr2 hk2 hb2 hown' hgrow
    gi_wp2
    exact ⟨HV.out.2.2.1.from _, ⟨HV.out.2.2.2, fun u hu => hkeep _ _ u (by decide) (by omega) hu, hkeepK⟩, ⟨⟨_, HV.out.1, by simpa [ints] using HV.out.2.1, trivial⟩, trivial⟩, hB.trans HV.out.2.2.2⟩
  case done =>
    rintro D ys W hD rfl ⟨⟨⟨v, hv, hrow, -⟩, -⟩, hB⟩ hK
    have cL := hv.cell
    have HR := Lib.hid hrow
    clear hrow
    gi_wp2
    refine ⟨by simp, .inl ⟨_, _, rfl, run_takeDeferred hK, ?_⟩⟩
    refine ⟨v, ?_, hB.trans (belowK_b (w := w) (Nat.le_refl _) W D _ _ (by omega) hK rfl rfl), _, rfl, ownsRow_putObj HR.out (.deferred none) hK rfl⟩
    simp [results, go_sem]
  case stop =>
    rintro D c pre W hD hm hF hK
    exact hF.elim
theorem collect_in (n : Nat) (hn : 4 ≤ n) (Bb Kb : Nat) (ad : Option Addr) (v : Value) (r : Nat) (L : List Wt) (k : Ky) (w : World) (hL : Gv w.heap.size w ad v r L) (hwf : ∀ x ∈ L, kwf x.k) (hk : kwf k) (hll : L.length ≤ 90000)
    (hB : Boxed w Bb 23 (.pointer ad)) (hK : Blk w Kb #[.int .i64 k.p, .int .i64 k.f, .int .i64 k.o] 31) :
    CallsIn Fence.wide n Try.prog 36 #[.func (.func 39) #[] #[.pointer (some ⟨Bb, 0, none⟩), .pointer (some ⟨Kb, 0, none⟩)]] w fun e w' => Below w.heap.size w w' ∧ ∃ u, e = .returned u ∧ w'.ownsRow w.heap.size 3 1 u (ats L k).length (ints (ats L k)) := by
  have HS := Lib.hid (seq_in (n - 1) (by omega) Bb Kb ad v r L k w hL hwf hk hll hB hK)
  refine callsIn_of_wp Try.func36 rfl trivial ?_ rfl
  simp only [Try.ntmps36, List.size_toArray, List.length_cons, List.length_nil, Nat.reduceAdd, Nat.reduceSub, Array.replicate_succ, Array.replicate_zero, List.push_toArray, List.append_toArray, List.nil_append, List.cons_append]
  clear hL hB hK hwf hk
  gi_wp2_with (first | (refine ⟨trivial, fun _ => (by omega), ?_⟩; gi_at_call 42; refine HS.out.mono ?_; rintro e w' ⟨hb, r, rfl, ho⟩))
  go_ret
  exact ⟨hb, _, rfl, ho⟩
/-- At, of a futex or of none. -/
theorem ats_gv (w : World) (ad : Option Addr) (v : Value) (r : Nat) (L : List Wt) (k : Ky) (hL : Gv w.heap.size w ad v r L) (hwf : ∀ x ∈ L, kwf x.k) (hk : kwf k) (hll : L.length ≤ 90000) :
    Calls Try.prog 19 #[.pointer ad, kv k] w fun e w' => Below w.heap.size w w' ∧ ∃ u, e = .returned u ∧ w'.ownsRow w.heap.size 3 1 u (ats L k).length (ints (ats L k)) := by
  have b1 := (Below.refl w.heap.size w).alloc (Nat.le_refl _) (.cells #[.int .i64 k.p, .int .i64 k.f, .int .i64 k.o] 31)
  have b2 := b1.alloc b1.size (.cells #[.pointer ad] 23)
  have b3 := b2.alloc b2.size (.cells #[.int .i64 k.p, .int .i64 k.f, .int .i64 k.o] 31)
  have HA := Lib.hid ((callsIn_wide (n := 4)).1 (at_in 4 ad k (w.alloc (.cells #[.int .i64 k.p, .int .i64 k.f, .int .i64 k.o] 31))))
  have HC : Hid (Calls Try.prog 36 #[.func (.func 39) #[] #[.pointer (some ⟨(w.alloc (.cells #[.int .i64 k.p, .int .i64 k.f, .int .i64 k.o] 31)).heap.size, 0, none⟩), .pointer (some ⟨(w.alloc (.cells #[.int .i64 k.p, .int .i64 k.f, .int .i64 k.o] 31)).heap.size + 1, 0, none⟩)]] (((w.alloc (.cells #[.int .i64 k.p, .int .i64 k.f, .int .i64 k.o] 31)).alloc (.cells #[.pointer ad] 23)).alloc (.cells #[.int .i64 k.p, .int .i64 k.f, .int .i64 k.o] 31)) fun e w' => Below w.heap.size w w' ∧ ∃ u, e = .returned u ∧ w'.ownsRow w.heap.size 3 1 u (ats L k).length (ints (ats L k))) := Lib.hid (by
    generalize w.alloc (.cells #[.int .i64 k.p, .int .i64 k.f, .int .i64 k.o] 31) = W1 at *
    have c1 := (Boxed.new W1 23 (.pointer ad)).alloc (.cells #[.int .i64 k.p, .int .i64 k.f, .int .i64 k.o] 31)
    have c2 := Blk.new (W1.alloc (.cells #[.pointer ad] 23)) #[.int .i64 k.p, .int .i64 k.f, .int .i64 k.o] 31
    simp only [World.size_alloc] at c2
    have hL3 : Gv ((W1.alloc (.cells #[.pointer ad] 23)).alloc (.cells #[.int .i64 k.p, .int .i64 k.f, .int .i64 k.o] 31)).heap.size ((W1.alloc (.cells #[.pointer ad] 23)).alloc (.cells #[.int .i64 k.p, .int .i64 k.f, .int .i64 k.o] 31)) ad v r L :=
      ⟨fun W hb => (hL.low b3).ret W (hb.mono b3.size), hL.form, fun W hb => (hL.low b3).cells W (hb.mono b3.size)⟩
    refine ((callsIn_wide (n := 4)).1 (collect_in 4 (Nat.le_refl _) _ _ ad v r L k _ hL3 hwf hk hll c1 c2)).mono ?_
    rintro e w' ⟨hb, u, rfl, ho⟩
    exact ⟨b3.trans (hb.mono b3.size), u, rfl, own_base ho b3.size⟩)
  replace HC := Lib.hid (by have := HC.out; simp only [World.size_alloc] at this; exact this)
  clear b1 b2 b3 hL hwf hk
  go_enter Try.func19, Try.ntmps19
  go_wp2_with (first | (go_at_call 30; (with_reducible refine HA.out.mono ?_); rintro e w1 ⟨rfl, rfl⟩) | (go_at_call 36; (with_reducible refine HC.out.mono ?_); rintro e w1 ⟨hb, u, rfl, ho⟩))
  go_ret
  exact ⟨hb, _, rfl, ho⟩
theorem at_any (w : World) (f r : Nat) (L : List Wt) (k : Ky) (h : Lx 26 w f r L) (hwf : ∀ x ∈ L, kwf x.k) (hk : kwf k) (hll : L.length ≤ 90000) :
    Calls Try.prog 19 #[.pointer (some ⟨f, 0, none⟩), kv k] w fun e w' => Below w.heap.size w w' ∧ ∃ u, e = .returned u ∧ w'.ownsRow w.heap.size 3 1 u (ats L k).length (ints (ats L k)) := by
  obtain ⟨v, hg⟩ := gv_lx h h.lt.1 h.lt.2
  exact ats_gv w _ v r L k hg hwf hk hll
end Go.Proofs.Ytpfnjeicenhciaa.Ftd
