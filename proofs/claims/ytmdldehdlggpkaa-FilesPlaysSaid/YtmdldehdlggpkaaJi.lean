/-
  The iterator open of package files: it tells the numbers that are open, rising, to any loop body that keeps what lay there; least.
-/
import Derived.Test.YtmdldehdlggpkaaJm
import Derived.RangeFuncNested
import Derived.RangeFuncBound
import Derived.RangeFuncCalls
import Derived.RangeFuncLeaves
import Derived.Shelf.Abstract
import Derived.Shelf.RegionOpen
import Derived.OwnWalkIn
import Derived.TacticsInMore
import Derived.LoopNIn
import Derived.LoopIn
namespace Go.Proofs.Ytmdldehdlggpkaa.Ji
open Go Go.RowKit Go.Shelf Kit Bk Jp Jm
set_option linter.unusedVariables false

attribute [local go_sem] Oper.semAt_some

def encs (k : Nat) : Array Value := #[.int .i64 (k : Int)]

/-- What a round that goes on keeps: what lay below n₀, and the iterator's own box. -/
def Kq (n₀ Bb : Nat) (W W' : World) : Prop := Below n₀ W W' ∧ ∀ v, Boxed W Bb 31 v → Boxed W' Bb 31 v
theorem Kq.trans {n₀ Bb : Nat} {A B C : World} (h : Kq n₀ Bb A B) (k : Kq n₀ Bb B C) : Kq n₀ Bb A C := ⟨h.1.trans k.1, fun v hv => k.2 v (h.2 v hv)⟩
theorem Kq.put {n₀ Bb : Nat} {w : World} (hn : n₀ ≤ w.heap.size) (W : World) (l : Nat) (o o' : Obj) (hl : w.heap.size ≤ l) (h : W.heap[l]? = some o) (hc : o.isCells = false) (hw : o.isWalk = false) : Kq n₀ Bb W (W.putObj l o') :=
  ⟨belowK_b hn W l o o' hl h hc hw, fun v hv => hv.kept (grownBy_putObj' W l o') (fun e => by
    cases e
    rw [show W.heap[Bb]? = _ from hv] at h
    cases h
    cases hc)⟩
theorem Kq.refl (n₀ Bb : Nat) (W : World) : Kq n₀ Bb W W := ⟨Below.refl _ _, fun _ h => h⟩

/-- Open files of which at tells the counts of R, whatever is done above n₀; also none. -/
def Ats (n₀ : Nat) (w : World) (pv : Value) (R : Nat → Nat) : Prop :=
  ∀ W, Below n₀ w W → ∀ k : Nat, k < 64 → ∃ q : Option Addr, (q = none ↔ R k = 0) ∧ Calls Try.prog 42 #[pv, .int .i64 (k : Int)] W fun e w' => e = .returned (.pointer q) ∧ W = w'
theorem Ats.low {n₀ : Nat} {w W : World} {pv : Value} {R : Nat → Nat} (h : Ats n₀ w pv R) (hb : Below n₀ w W) : Ats n₀ W pv R := fun W' hb' k hk => h W' (hb.trans hb') k hk
theorem ats_fl {n₀ f : Nat} {w : World} {S : Sf} (h : Fl w f S) (hp : f < n₀) : Ats n₀ w (.pointer (some ⟨f, 0, none⟩)) S.R := fun W hb k hk => by
  by_cases hr : S.R k = 0
  · exact ⟨none, by simp [hr], at_no W f S (h.low hb hp) (k : Int) (by rw [rf_nat hk]; exact hr)⟩
  · exact ⟨some ⟨f, k * 3, none⟩, by simp [hr], at_yes W f S (h.low hb hp) k hk hr⟩
theorem ats_nil (n₀ : Nat) (w : World) : Ats n₀ w (.pointer none) (fun _ => 0) := fun W hb k hk => ⟨none, by simp, at_nil W (k : Int)⟩

set_option maxRecDepth 100000 in
set_option maxHeartbeats 2000000 in
theorem open1_in (n : Nat) (hn : 1 ≤ n) (l Bb n₀ : Nat) (a : Option Addr) (R : Nat → Nat) (J Jx : List Nat → World → Prop) (W : World)
    (hY : ∀ pre x W, J pre W → pre.length < 64 → YieldAt Fence.wide (n - 1) Try.prog l (encs x) W fun e W' =>
      (e = .returned (.bool true) ∧ J (pre ++ [x]) W' ∧ Kq n₀ Bb W W') ∨ (e = .returned (.bool false) ∧ Jx (pre ++ [x]) W'))
    (hM : Ats n₀ W (.pointer a) R) (hB : Boxed W Bb 31 (.pointer a)) (h0 : J [] W) :
    CallsIn Fence.wide n Try.prog 52 #[.func (.yield l) #[] #[], .pointer (some ⟨Bb, 0, none⟩)] W fun e W' => (∃ v, e = .returned v) ∧
      ((∃ ys, ys = usd R 64 ∧ J ys W') ∨ (∃ pre, (∃ k, k ≤ 64 ∧ pre = usd R k) ∧ Jx pre W')) := by
  refine callsIn_of_wp Try.func52 rfl trivial ?_ rfl
  simp only [Try.ntmps52, List.size_toArray, List.length_cons, List.length_nil, Nat.reduceAdd, Nat.reduceSub, Array.replicate_succ, Array.replicate_zero, List.push_toArray, List.append_toArray, List.nil_append, List.cons_append]
  gi_wp2
  refine wpIn_wide.2 (wp_scope_straight ((wpIn_wide (n := n)).1 ?_))
  gi_wp2
  refine wpIn_label ?_
  gi_wp2
  gi_loopw [4] (fun i wr => ∃ (k : Nat), k ≤ 64 ∧ i = .int .i64 (k : Int) ∧ J (usd R k) wr ∧ Kq n₀ Bb W wr)
    (fun i _ => 64 - (intOf i).toNat)
  case atStart => exact ⟨0, Nat.zero_le _, rfl, h0, Kq.refl _ _ _⟩
  case round =>
    obtain ⟨k, hk, rfl, hJs, hnx⟩ := hrel
    have hbB := hnx.2 _ hB
    have hcB := hbB.cell
    by_cases hlt : k < 64
    · have hlt' : (k : Int) < 64 := by omega
      obtain ⟨q, hq, hat⟩ := hM wr hnx.1 k hlt
      have HA := Lib.hid ((callsIn_wide (n := n - 1)).2 hat)
      by_cases hz : R k = 0
      · obtain rfl : q = none := hq.2 hz
        have hu := usd_no hz
        clear hat hq hz
        gi_wp2_with (refine ⟨trivial, ?_⟩; refine HA.out.mono ?_; rintro e w9 ⟨rfl, rfl⟩)
        go_roundw
        case rel => exact ⟨k + 1, by omega, by go_num, by rw [hu]; exact hJs, hnx⟩
        case measure => simp [intOf]; omega
      · obtain ⟨a2, rfl⟩ : ∃ a2, q = some a2 := by
          cases q with
          | none => exact absurd (hq.1 rfl) hz
          | some a2 => exact ⟨a2, rfl⟩
        have hu := usd_yes hz
        obtain ⟨fn, tmps, assign, body, hy, hR2⟩ := hY _ k wr hJs (Nat.lt_of_le_of_lt (usd_len R k) hlt)
        dsimp only [encs] at hy
        clear hat hq hz
        gi_wp2_with (refine ⟨trivial, ?_⟩; refine HA.out.mono ?_; rintro e w9 ⟨rfl, rfl⟩)
        refine hR2.mono ?_
        rintro e W3 (⟨rfl, hJ3, hk3⟩ | ⟨rfl, hJx3⟩)
        · gi_wp2
          go_roundw
          case rel => exact ⟨k + 1, by omega, by go_num, by rw [hu]; exact hJ3, hnx.trans hk3⟩
          case measure => simp [intOf]; omega
        · gi_wp2
          rw [Exit.noGoto_ret]
          refine bodyPost_ret (results_none rfl _ _ _) rfl ?_
          exact ⟨⟨_, rfl⟩, .inr ⟨_, ⟨k + 1, by omega, hu.symm⟩, hJx3⟩⟩
    · obtain rfl : k = 64 := by omega
      gi_wp2
      rw [Exit.noGoto_normal]
      go_end0
      exact ⟨⟨_, rfl⟩, .inl ⟨_, rfl, hJs⟩⟩
theorem open_in (n : Nat) (a : Option Addr) (w : World) :
    CallsIn Fence.wide n Try.prog 44 #[.pointer a] w fun e w' => e = .returned (.func (.func 52) #[] #[.pointer (some ⟨w.heap.size, 0, none⟩)]) ∧ w' = w.alloc (.cells #[.pointer a] 31) := by
  refine callsIn_of_wp Try.func44 rfl trivial ?_ rfl
  simp only [Try.ntmps44, List.size_toArray, List.length_cons, List.length_nil, Nat.reduceAdd, Nat.reduceSub, Array.replicate_succ, Array.replicate_zero, List.push_toArray, List.append_toArray, List.nil_append, List.cons_append]
  gi_wp2
  go_ret
  exact ⟨rfl, rfl⟩
/-- All open numbers come, rising, or a first part of them. n₀: what lay there when the loop's function began. -/
theorem open_stops (n : Nat) (hn : 1 ≤ n) (Bb n₀ : Nat) (a : Option Addr) (R : Nat → Nat) (w : World) (hn₀ : n₀ ≤ w.heap.size) (hM : Ats n₀ w (.pointer a) R) (hc : Boxed w Bb 31 (.pointer a)) :
    SeqStopsK Fence.wide n Try.prog 52 #[.pointer (some ⟨Bb, 0, none⟩)] encs (Kq n₀ Bb) (fun ys => ys = usd R 64) (fun pre => ∃ k, k ≤ 64 ∧ pre = usd R k) 64 w := fun l J Jx W hW hJ _ hY hJ0 =>
  open1_in n hn l Bb n₀ a R J Jx W hY (hM.low (hW.mono hn₀)) ((hW.block Bb hc.lt).trans hc) hJ0

/-- A first part that stands in its places. -/
theorem stop_is {R : Nat → Nat} {k x : Nat} {pre : List Nat} (hk : k ≤ 64) (h : pre ++ [x] = usd R k) (hp : pre = List.range pre.length) (hx : x ≠ pre.length) : lst R 64 = pre.length := by
  have hxm : x ∈ usd R k := by rw [← h]; simp
  obtain ⟨hxk, hxr⟩ := usd_mem.1 hxm
  have hlow : ∀ j, j < pre.length → R j ≠ 0 := fun j hj => by
    have : j ∈ usd R k := by rw [← h, hp]; simp; left; simpa using hj
    exact (usd_mem.1 this).2
  have hle : pre.length ≤ k := by
    have := usd_len R k
    rw [← h] at this
    simp at this
    omega
  refine lst_is R 64 _ (by omega) hlow (fun hlt => ?_)
  by_cases hz : R pre.length = 0
  · exact hz
  · exfalso
    have hlk : pre.length < k := by
      have := usd_len R k
      rw [← h] at this
      simp at this
      omega
    have hini := usd_ini (R := R) (m := pre.length + 1) (fun j hj => by
      by_cases e : j = pre.length
      · rw [e]; exact hz
      · exact hlow j (by omega)) k (by omega)
    rw [← h, show pre.length + 1 = (pre ++ [x]).length by simp, List.take_length, List.range_eq_range', ] at hini
    have h2 := congrArg (fun l => l[pre.length]?) hini
    simp at h2
    exact hx h2
theorem done_is {R : Nat → Nat} (hp : usd R 64 = List.range (usd R 64).length) : lst R 64 = (usd R 64).length := by
  have hlow : ∀ j, j < (usd R 64).length → R j ≠ 0 := fun j hj => by
    have : j ∈ usd R 64 := by rw [hp]; simpa using hj
    exact (usd_mem.1 this).2
  refine lst_is R 64 _ (usd_len R 64) hlow (fun hlt => ?_)
  by_cases hz : R (usd R 64).length = 0
  · exact hz
  · exfalso
    have : (usd R 64).length ∈ usd R 64 := usd_mem.2 ⟨hlt, hz⟩
    rw [hp] at this
    simp at this

set_option maxRecDepth 100000 in
set_option maxHeartbeats 2000000 in
theorem least_in (n : Nat) (hn : 4 ≤ n) (a : Option Addr) (R : Nat → Nat) (w : World) (hM : Ats w.heap.size w (.pointer a) R) :
    CallsIn Fence.wide n Try.prog 49 #[.pointer a] w fun e w' => e = .returned (.int .i64 (lst R 64 : Int)) ∧ Below w.heap.size w w' := by
  refine callsIn_of_wp_marks Try.func49 rfl trivial ?_ rfl
  simp only [Try.ntmps49, List.size_toArray, List.length_cons, List.length_nil, Nat.reduceAdd, Nat.reduceSub, Array.replicate_succ, Array.replicate_zero, List.push_toArray, List.append_toArray, List.nil_append, List.cons_append]
  gi_wp2_with (first | (refine ⟨trivial, fun _ => (by omega), ?_⟩; gi_at_call 44; refine (open_in (n - 1) a _).mono ?_; rintro e w' ⟨rfl, rfl⟩))
  have bL := (Boxed.new w 3 (.int .i64 0)).alloc (.cells #[.pointer a] 31)
  have bP := Boxed.new (w.alloc (.cells #[.int .i64 0] 3)) 31 (.pointer a)
  have hB0 := (((Below.refl w.heap.size w).alloc (Nat.le_refl _) (.cells #[.int .i64 0] 3))).alloc (by simp) (.cells #[.pointer a] 31)
  have hsz : ((w.alloc (.cells #[.int .i64 0] 3)).alloc (.cells #[.pointer a] 31)).heap.size = w.heap.size + 2 := by simp
  simp only [World.size_alloc] at bP
  obtain ⟨W0, hW0⟩ : ∃ W0, (w.alloc (.cells #[.int .i64 0] 3)).alloc (.cells #[.pointer a] 31) = W0 := ⟨_, rfl⟩
  rw [hW0] at bL bP hB0 hsz ⊢
  clear hW0
  have hM0 := hM.low hB0
  refine wpIn_rangeFunc_ownH rfl (by omega) (gf := 52) (lb := #[.pointer (some ⟨w.heap.size + 1, 0, none⟩)]) rfl trivial (enters_of Try.func52 (by kernel_rfl) rfl)
    (open_stops (n - 1) (by omega) (w.heap.size + 1) w.heap.size a R W0 (by omega) hM0 bP) Kq.trans (Kq.put (by omega)) (Below.refl _ _) (fun _ => rfl)
    (fun pre W => ((Boxed W w.heap.size 3 (.int .i64 (pre.length : Int)) ∧ pre = List.range pre.length) ∧ Boxed W (w.heap.size + 1) 31 (.pointer a)) ∧ Below w.heap.size w W)
    (fun c pre W => ((∃ f : Int, Boxed W w.heap.size 3 (.int .i64 f) ∧ c = .exit 0 ∧ ∃ (ini : List Nat) (x : Nat), pre = ini ++ [x] ∧ f = (ini.length : Int) ∧ ini = List.range ini.length ∧ x ≠ ini.length)) ∧ Below w.heap.size w W)
    (OwnFrom.and (OwnFrom.and (OwnFrom.and (Own.from (boxed_own _ _ (fun (pre : List Nat) => Value.int .i64 (pre.length : Int))) _) (ownFrom_pure _ _)) (Own.from (boxed_own _ _ _) _)) (ownFrom_below (Nat.le_refl _) (by omega)))
    (fun c => OwnFrom.and (fun s X Y row ⟨f, h1, h2⟩ hg hr => ⟨f, Own.from (boxed_own _ _ (fun (_ : Unit) => Value.int .i64 f)) _ () X Y row h1 hg hr, h2⟩) (ownFrom_below (Nat.le_refl _) (by omega)))
    ⟨⟨⟨by simpa using bL, rfl⟩, bP⟩, hB0⟩
    (fun x a' W => a' = { tmps := #[.pointer a, undef, .int .i64 0, .pointer (some ⟨w.heap.size, 0, none⟩), .int .i64 (x : Int), .pointer a, .func (.func 52) #[] #[.pointer (some ⟨w.heap.size + 1, 0, none⟩)], .int .i64 (x : Int), undef, undef, undef, undef, undef, undef], defers := [] })
    (fun x a' => ownFrom_pure _ (fun _ : Unit => _))
    ?assign ?body ?done ?stop
  case assign =>
    rintro l pre x W K hI hK
    dsimp only [encs]
    gi_wp2
    exact hK _ _ ((KeepsOthers.refl _).from _) (Kq.refl _ _ _) hI (by simp)
  case body =>
    rintro l pre x a' W hl ⟨rr, hr⟩ ⟨⟨⟨hL, hgp⟩, hP⟩, hB⟩ rfl hlt
    have cL := hL.cell
    have fL := hL.frozen
    have hsW := hB.size
    have hl64 : pre.length < 64 := hlt
    by_cases he : x = pre.length
    · have HX : Hid (pre ++ [x] = List.range (pre ++ [x]).length) := Lib.hid (by
        rw [List.length_append, List.length_singleton, List.range_succ, ← hgp, he])
      have HLn : Hid (((pre ++ [x]).length : Int) = (pre.length : Int) + 1) := Lib.hid (by simp)
      have HBo := Lib.hid (And.intro hL hP)
      have HB := Lib.hid hB
      rw [he]
      rw [he] at HX HLn
      obtain ⟨f, hf⟩ : ∃ f : Int, (pre.length : Int) = f := ⟨_, rfl⟩
      have hf0 : 0 ≤ f := by omega
      have hf1 : f ≤ 64 := by omega
      rw [hf] at cL ⊢
      have HF := Lib.hid hf
      clear hgp hf hL hP hB hlt hl64
      gi_wp2
      exact ⟨(KeepsOthers.setCell _ _ _).from _, ⟨(Below.refl _ _).setCell (p := ⟨w.heap.size, 0, none⟩) (Nat.le_refl _) _, fun v hv => hv.other (by omega) _⟩, ⟨⟨by rw [HLn.out, HF.out]; exact HBo.out.1.set _, HX.out⟩, HBo.out.2.other (by omega) _⟩, HB.out.setCell (p := ⟨w.heap.size, 0, none⟩) (Nat.le_refl _) _⟩
    · have HX : Hid (pre = List.range pre.length ∧ x ≠ pre.length) := Lib.hid ⟨hgp, he⟩
      have hd : ((x : Int) == (pre.length : Int)) = false := by simp; omega
      have HBo := Lib.hid hL
      have HB := Lib.hid hB
      clear hgp he hL hP hB hlt
      gi_wp2
      exact ⟨(KeepsOthers.refl _).from _, ⟨_, HBo.out, rfl, pre, x, rfl, rfl, HX.out.1, HX.out.2⟩, HB.out⟩
  case done =>
    rintro D ys W hD rfl ⟨⟨⟨hL, hgp⟩, hP⟩, hB⟩ hK
    have cL := hL.cell
    have hh := done_is hgp
    have hl := usd_len R 64
    have HBl := Lib.hid (hB.trans (belowK_b (w := w) (Nat.le_refl _) W D _ (.deferred none) (by omega) hK rfl rfl))
    generalize (usd R 64).length = L at *
    have HH := Lib.hid hh
    clear hgp hh hL hP hB
    gi_wp2
    refine ⟨by simp, .inl ⟨_, _, rfl, run_takeDeferred hK, ?_⟩⟩
    refine ⟨.int .i64 (L : Int), ?_, by rw [HH.out], HBl.out⟩
    simp [results, go_sem]
  case stop =>
    rintro D c pre W hD ⟨k, hk, hpre⟩ ⟨⟨f, hL, rfl, ini, x, rfl, rfl, hgp, hx⟩, hB⟩ hK
    have cL := hL.cell
    have hh := stop_is hk hpre hgp hx
    have HBl := Lib.hid (hB.trans (belowK_b (w := w) (Nat.le_refl _) W D _ (.deferred none) (by omega) hK rfl rfl))
    have HH := Lib.hid hh
    clear hgp hh hL hB hx hpre
    gi_wp2
    refine ⟨by simp, .inl ⟨_, _, rfl, run_takeDeferred hK, ?_⟩⟩
    refine ⟨.int .i64 (ini.length : Int), ?_, by rw [HH.out], HBl.out⟩
    simp [results, go_sem]
theorem least_any (a : Option Addr) (R : Nat → Nat) (w : World) (hM : Ats w.heap.size w (.pointer a) R) :
    Calls Try.prog 49 #[.pointer a] w fun e w' => e = .returned (.int .i64 (lst R 64 : Int)) ∧ Below w.heap.size w w' := (callsIn_wide (n := 4)).1 (least_in 4 (Nat.le_refl _) a R w hM)
end Go.Proofs.Ytmdldehdlggpkaa.Ji
