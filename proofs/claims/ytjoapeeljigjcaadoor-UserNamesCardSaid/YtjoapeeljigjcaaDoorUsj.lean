/-
  The iterator bytesFrom: it tells bytes from an address on, each with whether it is mapped, to any loop body that keeps what lay there.
-/
import Derived.Test.YtjoapeeljigjcaaDoorUsh
namespace Go.Proofs.YtjoapeeljigjcaaDoor.Usj
open Go Go.RowKit Go.Shelf Kit Bk
set_option linter.unusedVariables false
attribute [local go_sem] Oper.semAt_some

def encs (F : Nat → Nat × Bool) (x : Nat) : Array Value := #[.int .u8 ((F x).1 : Int), .bool (F x).2]
/-- The address of the x-th byte. -/
def adr (a x : Nat) : Nat := (a + x) % 4294967296
/-- What Byte answers, of each of the addresses, wherever what lay below n₀ is as it was. -/
def Bytes (n₀ : Nat) (w : World) (q a k : Nat) (F : Nat → Nat × Bool) : Prop :=
  ∀ W, Below n₀ w W → ∀ x, x < k → Calls Tryd.prog 51 #[.pointer (some ⟨q, 0, none⟩), .int .u32 ((adr a x : Nat) : Int)] W fun e W' => e = .returned (.tuple #[.int .u8 ((F x).1 : Int), .bool (F x).2]) ∧ Below W.heap.size W W'
/-- What a round that goes on keeps: what lay below n₀, and the iterator's own boxes. -/
def Kq (n₀ B1 B2 B3 : Nat) (W W' : World) : Prop := Below n₀ W W' ∧ (∀ v, Boxed W B1 3 v → Boxed W' B1 3 v) ∧ (∀ v, Boxed W B2 22 v → Boxed W' B2 22 v) ∧ (∀ v, Boxed W B3 25 v → Boxed W' B3 25 v)
theorem Kq.trans {n₀ B1 B2 B3 : Nat} {A B C : World} (h : Kq n₀ B1 B2 B3 A B) (k : Kq n₀ B1 B2 B3 B C) : Kq n₀ B1 B2 B3 A C :=
  ⟨h.1.trans k.1, fun v hv => k.2.1 v (h.2.1 v hv), fun v hv => k.2.2.1 v (h.2.2.1 v hv), fun v hv => k.2.2.2 v (h.2.2.2 v hv)⟩
theorem bx_put {T : TypeId} {W : World} {Bb l : Nat} {o o' : Obj} (h : W.heap[l]? = some o) (hc : o.isCells = false) (v : Value) (hv : Boxed W Bb T v) : Boxed (W.putObj l o') Bb T v := hv.kept (grownBy_putObj' W l o') (fun e => by
    cases e
    rw [show W.heap[Bb]? = _ from hv] at h
    cases h
    cases hc)
theorem Kq.put {n₀ B1 B2 B3 : Nat} {w : World} (hn : n₀ ≤ w.heap.size) (W : World) (l : Nat) (o o' : Obj) (hl : w.heap.size ≤ l) (h : W.heap[l]? = some o) (hc : o.isCells = false) (hw : o.isWalk = false) : Kq n₀ B1 B2 B3 W (W.putObj l o') :=
  ⟨belowK_b hn W l o o' hl h hc hw, bx_put h hc, bx_put h hc, bx_put h hc⟩
theorem Kq.refl (n₀ B1 B2 B3 : Nat) (W : World) : Kq n₀ B1 B2 B3 W W := ⟨Below.refl _ _, fun _ h => h, fun _ h => h, fun _ h => h⟩
theorem Kq.below {n₀ B1 B2 B3 : Nat} {W W' : World} (h : Below W.heap.size W W') (hn : n₀ ≤ W.heap.size) : Kq n₀ B1 B2 B3 W W' := ⟨h.mono hn, fun v hv => (h.block B1 hv.lt).trans hv, fun v hv => (h.block B2 hv.lt).trans hv, fun v hv => (h.block B3 hv.lt).trans hv⟩
theorem grown_below {w w' : World} (h : Below w.heap.size w w') : w.grownBy w' none := ⟨h.1, h.2, h.3, h.size, fun k hk _ => h.block k hk⟩

set_option maxRecDepth 100000 in
set_option maxHeartbeats 2000000 in
theorem bytes1_in (n : Nat) (hn : 1 ≤ n) (l B1 B2 B3 n₀ q a k : Nat) (F : Nat → Nat × Bool) (hk : k ≤ 100000) (ha : a < 4294967296) (w0 : World) (hBy : Bytes n₀ w0 q a k F) (J Jx : List Nat → World → Prop) (W : World) (hJ : AbidesFrom W.heap.size J)
    (hY : ∀ pre x W, J pre W → pre.length < k → YieldAt Fence.wide (n - 1) Tryd.prog l (encs F x) W fun e W' =>
      (e = .returned (.bool true) ∧ J (pre ++ [x]) W' ∧ Kq n₀ B1 B2 B3 W W') ∨ (e = .returned (.bool false) ∧ Jx (pre ++ [x]) W'))
    (hn₀ : n₀ ≤ W.heap.size) (hb0 : Below n₀ w0 W) (h1 : Boxed W B1 3 (.int .i64 (k : Int))) (h2 : Boxed W B2 22 (.pointer (some ⟨q, 0, none⟩))) (h3 : Boxed W B3 25 (.int .u32 (a : Int))) (h0 : J [] W) :
    CallsIn Fence.wide n Tryd.prog 50 #[.func (.yield l) #[] #[], .pointer (some ⟨B1, 0, none⟩), .pointer (some ⟨B2, 0, none⟩), .pointer (some ⟨B3, 0, none⟩)] W fun e W' => (∃ v, e = .returned v) ∧
      ((∃ ys, ys = List.range k ∧ J ys W') ∨ (∃ pre, (∃ j, j ≤ k ∧ pre = List.range j) ∧ Jx pre W')) := by
  have c1 := h1.cell
  refine callsIn_of_wp Tryd.func50 rfl trivial ?_ rfl
  simp only [Tryd.ntmps50, List.size_toArray, List.length_cons, List.length_nil, Nat.reduceAdd, Nat.reduceSub, Array.replicate_succ, Array.replicate_zero, List.push_toArray, List.append_toArray, List.nil_append, List.cons_append]
  gi_wp2
  clear c1
  gi_loopw [9] (fun i wr => ∃ (j : Nat), j ≤ k ∧ i = .int .i64 (j : Int) ∧ J (List.range j) wr ∧ Kq n₀ B1 B2 B3 W wr)
    (fun i _ => k - (intOf i).toNat)
  case atStart => exact ⟨0, Nat.zero_le _, rfl, h0, Kq.refl _ _ _ _ _⟩
  case round =>
    obtain ⟨j, hj, rfl, hJs, hnx⟩ := hrel
    have hsz := hnx.1.size
    have hsz' : n₀ ≤ wr.heap.size := Nat.le_trans hn₀ hsz
    by_cases hlt : j < k
    · have hlt' : (j : Int) < (k : Int) := by omega
      have c2 := (hnx.2.2.1 _ h2).cell
      have c3 := (hnx.2.2.2 _ h3).cell
      have hw1 : IntKind.u32.wrap (j : Int) = (j : Int) := by simp [IntKind.wrap, IntKind.bits, IntKind.signed]; omega
      have hw2 : IntKind.u32.wrap ((a : Int) + (j : Int)) = ((adr a j : Nat) : Int) := by simp [IntKind.wrap, IntKind.bits, IntKind.signed, adr]
      have HB := Lib.hid ((callsIn_wide (n := n - 1)).2 (hBy wr (hb0.trans hnx.1) j hlt))
      have HY := Lib.hid (fun W' (hb : Below wr.heap.size wr W') => hY (List.range j) j W' (hJ _ _ _ none hJs (grown_below hb) (fun r e => by cases e)) (by rw [List.length_range]; exact hlt))
      have HNX := Lib.hid hnx
      obtain ⟨z, hz⟩ : ∃ z, adr a j = z := ⟨_, rfl⟩
      rw [hz] at hw2 HB
      clear hJs hnx hY hBy hz
      gi_wp2_with (first | (refine ⟨trivial, ?_⟩; refine HB.out.mono ?_; rintro e w9 ⟨rfl, hb9⟩; obtain ⟨fn, tmps, assign, body, hy, hR⟩ := HY.out w9 hb9; dsimp only [encs] at hy; have HR := Lib.hid hR; have HB9 := Lib.hid hb9; clear hR hb9))
      refine HR.out.mono ?_
      rintro e W3 (⟨rfl, hJ3, hk3⟩ | ⟨rfl, hJx3⟩)
      · have hkk := (HNX.out.trans (Kq.below HB9.out hsz')).trans hk3
        clear hk3
        gi_wp2
        go_roundw
        case rel => exact ⟨j + 1, by omega, by go_num, by rw [List.range_succ]; exact hJ3, hkk⟩
        case measure => simp [intOf]; omega
      · gi_wp2
        refine bodyPost_ret (results_none rfl _ _ _) rfl ?_
        exact ⟨⟨_, rfl⟩, .inr ⟨_, ⟨j + 1, by omega, (List.range_succ).symm⟩, hJx3⟩⟩
    · obtain rfl : j = k := by omega
      gi_wp2
      go_end0
      exact ⟨⟨_, rfl⟩, .inl ⟨_, rfl, hJs⟩⟩
set_option maxHeartbeats 1000000 in
theorem from_in (n q : Nat) (a k : Int) (w : World) :
    CallsIn Fence.wide n Tryd.prog 28 #[.pointer (some ⟨q, 0, none⟩), .int .u32 a, .int .i64 k] w fun e w' => e = .returned (.func (.func 50) #[] #[.pointer (some ⟨w.heap.size + 1 + 1, 0, none⟩), .pointer (some ⟨w.heap.size, 0, none⟩), .pointer (some ⟨w.heap.size + 1, 0, none⟩)]) ∧
      w' = ((w.alloc (.cells #[.pointer (some ⟨q, 0, none⟩)] 22)).alloc (.cells #[.int .u32 a] 25)).alloc (.cells #[.int .i64 k] 3) := by
  refine callsIn_of_wp Tryd.func28 rfl trivial ?_ rfl
  simp only [Tryd.ntmps28, List.size_toArray, List.length_cons, List.length_nil, Nat.reduceAdd, Nat.reduceSub, Array.replicate_succ, Array.replicate_zero, List.push_toArray, List.append_toArray, List.nil_append, List.cons_append]
  gi_wp2
  go_ret
  exact ⟨rfl, rfl⟩
/-- All bytes come in their order, or a first part of them. n₀: what lay there when the loop's function began. -/
theorem bytes_stops (n : Nat) (hn : 1 ≤ n) (B1 B2 B3 n₀ q a k : Nat) (F : Nat → Nat × Bool) (hk : k ≤ 100000) (ha : a < 4294967296) (w0 w : World) (hBy : Bytes n₀ w0 q a k F) (hn₀ : n₀ ≤ w.heap.size) (hb0 : Below n₀ w0 w)
    (h1 : Boxed w B1 3 (.int .i64 (k : Int))) (h2 : Boxed w B2 22 (.pointer (some ⟨q, 0, none⟩))) (h3 : Boxed w B3 25 (.int .u32 (a : Int))) :
    SeqStopsK Fence.wide n Tryd.prog 50 #[.pointer (some ⟨B1, 0, none⟩), .pointer (some ⟨B2, 0, none⟩), .pointer (some ⟨B3, 0, none⟩)] (encs F) (Kq n₀ B1 B2 B3) (fun ys => ys = List.range k) (fun pre => ∃ j, j ≤ k ∧ pre = List.range j) k w := fun l J Jx W hW hJ _ hY hJ0 =>
  bytes1_in n hn l B1 B2 B3 n₀ q a k F hk ha w0 hBy J Jx W hJ hY (Nat.le_trans hn₀ hW.size) (hb0.trans (hW.mono hn₀)) ((hW.block B1 h1.lt).trans h1) ((hW.block B2 h2.lt).trans h2) ((hW.block B3 h3.lt).trans h3) hJ0
end Go.Proofs.YtjoapeeljigjcaaDoor.Usj

/-
  Text: the bytes from an address on, ahead of the first one that is 0.
-/
namespace Go.Proofs.YtjoapeeljigjcaaDoor.Usk
open Go Go.RowKit Go.Shelf Kit Bk Usj
open BackNums (bstr)
set_option linter.unusedVariables false
attribute [local go_sem] Oper.semAt_some
attribute [local go_sem ↓] Tl.app_wrap

/-- A byte that Text goes on behind. -/
def good (F : Nat → Nat × Bool) (x : Nat) : Prop := (F x).2 = true ∧ (F x).1 ≠ 0
def cd (F : Nat → Nat × Bool) (pre : List Nat) : Int := if (F (pre.getLastD 0)).2 then 0 else 14
theorem cd_no {F : Nat → Nat × Bool} {pre : List Nat} {x : Nat} (h : (F x).2 = false) : cd F (pre ++ [x]) = 14 := by unfold cd; rw [List.getLastD_concat, h]; rfl
theorem cd_yes {F : Nat → Nat × Bool} {pre : List Nat} {x : Nat} (h : (F x).2 = true) : cd F (pre ++ [x]) = 0 := by unfold cd; rw [List.getLastD_concat, h]; rfl
/-- What Text answers: d bytes are gone on behind. -/
def TextR (F : Nat → Nat × Bool) (k : Nat) (w : World) (e : Ending) (W : World) : Prop := Below w.heap.size w W ∧ ∃ d, d ≤ k ∧ (∀ x, x < d → good F x) ∧
  ((d = k ∧ e = .returned (.tuple #[.string ⟨#[]⟩, .int .i64 22])) ∨ (d < k ∧ (F d).2 = false ∧ e = .returned (.tuple #[.string ⟨#[]⟩, .int .i64 14])) ∨ (d < k ∧ (F d).2 = true ∧ (F d).1 = 0 ∧ e = .returned (.tuple #[.string (bstr ((List.range d).map fun x => (F x).1)), .int .i64 0])))

set_option maxRecDepth 100000 in
set_option maxHeartbeats 4000000 in
theorem text_in (n : Nat) (hn : 4 ≤ n) (w : World) (q a k : Nat) (F : Nat → Nat × Bool) (hk : 1 ≤ k ∧ k ≤ 4096) (ha : a < 4294967296) (hBy : Bytes w.heap.size w q a k F) :
    CallsIn Fence.wide n Tryd.prog 11 #[.pointer (some ⟨q, 0, none⟩), .int .u32 (a : Int), .int .i64 (k : Int)] w (TextR F k w) := by
  have d1 : decide ((k : Int) < 1) = false := decide_eq_false (by omega)
  have d2 : decide ((4096 : Int) < (k : Int)) = false := decide_eq_false (by omega)
  have hkz : (k : Int) ≤ 4096 := by omega
  refine callsIn_of_wp_marks Tryd.func11 rfl trivial ?_ rfl
  simp only [Tryd.ntmps11, List.size_toArray, List.length_cons, List.length_nil, Nat.reduceAdd, Nat.reduceSub, Array.replicate_succ, Array.replicate_zero, List.push_toArray, List.append_toArray, List.nil_append, List.cons_append]
  gi_wp2
  refine wpIn_wide.2 (wp_scope_straight ((wpIn_wide (n := n)).1 ?_))
  gi_wp2
  refine wpIn_label ?_
  gi_wp2_with (first | (refine ⟨trivial, fun _ => (by omega), ?_⟩; gi_at_call 28; refine (from_in (n - 1) _ _ _ _).mono ?_; rintro e w' ⟨rfl, rfl⟩) | fail)
  have bT := ((((Boxed.new w 37 (.slice none 0 0)).alloc (.cells #[.int .i64 22] 3)).alloc (.cells #[.pointer (some ⟨q, 0, none⟩)] 22)).alloc (.cells #[.int .u32 (a : Int)] 25)).alloc (.cells #[.int .i64 (k : Int)] 3)
  have bC := (((Boxed.new (w.alloc (.cells #[.slice none 0 0] 37)) 3 (.int .i64 22)).alloc (.cells #[.pointer (some ⟨q, 0, none⟩)] 22)).alloc (.cells #[.int .u32 (a : Int)] 25)).alloc (.cells #[.int .i64 (k : Int)] 3)
  have b2 := ((Boxed.new ((w.alloc (.cells #[.slice none 0 0] 37)).alloc (.cells #[.int .i64 22] 3)) 22 (.pointer (some ⟨q, 0, none⟩))).alloc (.cells #[.int .u32 (a : Int)] 25)).alloc (.cells #[.int .i64 (k : Int)] 3)
  have b3 := (Boxed.new (((w.alloc (.cells #[.slice none 0 0] 37)).alloc (.cells #[.int .i64 22] 3)).alloc (.cells #[.pointer (some ⟨q, 0, none⟩)] 22)) 25 (.int .u32 (a : Int))).alloc (.cells #[.int .i64 (k : Int)] 3)
  have b1 := Boxed.new ((((w.alloc (.cells #[.slice none 0 0] 37)).alloc (.cells #[.int .i64 22] 3)).alloc (.cells #[.pointer (some ⟨q, 0, none⟩)] 22)).alloc (.cells #[.int .u32 (a : Int)] 25)) 3 (.int .i64 (k : Int))
  have hB0 : Below w.heap.size w (((((w.alloc (.cells #[.slice none 0 0] 37)).alloc (.cells #[.int .i64 22] 3)).alloc (.cells #[.pointer (some ⟨q, 0, none⟩)] 22)).alloc (.cells #[.int .u32 (a : Int)] 25)).alloc (.cells #[.int .i64 (k : Int)] 3)) := (((((Below.refl _ w).alloc (Nat.le_refl _) _).alloc (by simp) _).alloc (by simp; omega) _).alloc (by simp; omega) _).alloc (by simp; omega) _
  have hsz : (((((w.alloc (.cells #[.slice none 0 0] 37)).alloc (.cells #[.int .i64 22] 3)).alloc (.cells #[.pointer (some ⟨q, 0, none⟩)] 22)).alloc (.cells #[.int .u32 (a : Int)] 25)).alloc (.cells #[.int .i64 (k : Int)] 3)).heap.size = w.heap.size + 5 := by simp
  simp only [World.size_alloc] at bT bC b2 b3 b1
  obtain ⟨W0, hW0⟩ : ∃ W0, ((((w.alloc (.cells #[.slice none 0 0] 37)).alloc (.cells #[.int .i64 22] 3)).alloc (.cells #[.pointer (some ⟨q, 0, none⟩)] 22)).alloc (.cells #[.int .u32 (a : Int)] 25)).alloc (.cells #[.int .i64 (k : Int)] 3) = W0 := ⟨_, rfl⟩
  rw [hW0] at bT bC b2 b3 b1 hB0 hsz ⊢
  clear hW0
  refine wpIn_rangeFunc_ownH rfl (by omega) (gf := 50) (lb := #[.pointer (some ⟨w.heap.size + 1 + 1 + 1 + 1, 0, none⟩), .pointer (some ⟨w.heap.size + 1 + 1, 0, none⟩), .pointer (some ⟨w.heap.size + 1 + 1 + 1, 0, none⟩)]) rfl trivial (enters_of Tryd.func50 (by kernel_rfl) rfl)
    (bytes_stops (n - 1) (by omega) (w.heap.size + 1 + 1 + 1 + 1) (w.heap.size + 1 + 1) (w.heap.size + 1 + 1 + 1) w.heap.size q a k F (by omega) ha w W0 hBy hB0.size hB0 b1 b2 b3) Kq.trans (Kq.put (by omega)) (Below.refl _ _) (fun _ => rfl)
    (fun pre W => ((∃ v, Boxed W w.heap.size 37 v ∧ W.ownsRow w.heap.size 5 1 v pre.length (Bytes.u8s (pre.map fun x => (F x).1)) ∧ True) ∧ Boxed W (w.heap.size + 1) 3 (.int .i64 22)) ∧ ((∀ x ∈ pre, good F x) ∧ Below w.heap.size w W))
    (fun c pre W => ((∃ v, Boxed W w.heap.size 37 v ∧ W.ownsRow w.heap.size 5 1 v pre.dropLast.length (Bytes.u8s (pre.dropLast.map fun x => (F x).1)) ∧ True) ∧ Boxed W (w.heap.size + 1) 3 (.int .i64 (cd F pre))) ∧ ((c = .exit 0 ∧ pre ≠ [] ∧ (∀ x ∈ pre.dropLast, good F x) ∧ ¬ good F (pre.getLastD 0)) ∧ Below w.heap.size w W))
    (OwnFrom.and (OwnFrom.and (Own.from (holdsRow_own w.heap.size w.heap.size 37 5 1 (fun (pre : List Nat) => pre.length) (fun (pre : List Nat) => Bytes.u8s (pre.map fun x => (F x).1)) (fun _ _ => True)) _) (Own.from (boxed_own _ _ _) _)) (OwnFrom.and (ownFrom_pure _ _) (ownFrom_below (Nat.le_refl _) (by omega))))
    (fun c => OwnFrom.and (OwnFrom.and (Own.from (holdsRow_own w.heap.size w.heap.size 37 5 1 (fun (pre : List Nat) => pre.dropLast.length) (fun (pre : List Nat) => Bytes.u8s (pre.dropLast.map fun x => (F x).1)) (fun _ _ => True)) _) (Own.from (boxed_own _ _ fun (pre : List Nat) => .int .i64 (cd F pre)) _)) (OwnFrom.and (ownFrom_pure _ _) (ownFrom_below (Nat.le_refl _) (by omega))))
    ⟨⟨⟨_, bT, World.ownsRow_nil _ _ _ _, trivial⟩, bC⟩, by simp, hB0⟩
    (fun x a' W => a' = { tmps := #[.pointer (some ⟨q, 0, none⟩), .int .u32 (a : Int), .int .i64 (k : Int), undef, undef, undef, .string ⟨#[]⟩, .int .i64 0, .pointer (some ⟨w.heap.size, 0, none⟩), .pointer (some ⟨w.heap.size + 1, 0, none⟩), .int .u8 ((F x).1 : Int), .bool (F x).2, .int .i64 (k : Int), .bool false, .bool false, .int .i64 (k : Int), .bool false, .bool false, .pointer (some ⟨q, 0, none⟩), .int .u32 (a : Int), .int .i64 (k : Int), .func (.func 50) #[] #[.pointer (some ⟨w.heap.size + 1 + 1 + 1 + 1, 0, none⟩), .pointer (some ⟨w.heap.size + 1 + 1, 0, none⟩), .pointer (some ⟨w.heap.size + 1 + 1 + 1, 0, none⟩)], .int .u8 ((F x).1 : Int), .bool (F x).2, undef, undef, undef, undef, undef, undef, undef, undef, undef, undef, undef, undef, undef, undef, undef], defers := [] })
    (fun x a' => ownFrom_pure _ _)
    ?assign ?body ?done ?stop
  case assign =>
    rintro l pre x W K hI hK
    dsimp only [encs]
    gi_wp2
    exact hK _ _ ⟨Nat.le_refl _, fun _ _ _ h _ => h⟩ (Kq.refl _ _ _ _ _) hI rfl
  case body =>
    rintro l pre x a' W hl ⟨rr, hr⟩ ⟨⟨⟨v, hv, hrow, -⟩, hC⟩, hall, hB⟩ rfl hlt
    have cT := hv.cell
    have fT := hv.frozen
    have cC := hC.cell
    have fC := hC.frozen
    have hsW := hB.size
    have hnr := hC.not_row (by decide) hrow
    have hbelow : ∀ u, Below w.heap.size w (W.setCell ⟨w.heap.size + 1, 0, none⟩ u) := fun u => hB.setCell (p := ⟨w.heap.size + 1, 0, none⟩) (by simp) u
    cases hok : (F x).2 with
    | false =>
      gi_wp2
      refine ⟨(KeepsOthers.setCell _ _ _).from _, ⟨⟨v, hv.other (by omega) _, by rw [List.dropLast_concat]; exact hrow.kept (grownBy_setCell' W _ _) (.inr hnr.symm), trivial⟩, by rw [cd_no hok]; exact hC.set _⟩, ⟨rfl, by simp, by rw [List.dropLast_concat]; exact hall, by rw [List.getLastD_concat]; exact fun h => by rw [h.1] at hok; cases hok⟩, hbelow _⟩
    | true =>
      by_cases h0 : (F x).1 = 0
      · have hz : (((F x).1 : Int) == 0) = true := by simp [h0]
        have hz2 : ((F x).1 == 0) = true := by simp [h0]
        gi_wp2
        refine ⟨(KeepsOthers.setCell _ _ _).from _, ⟨⟨v, hv.other (by omega) _, by rw [List.dropLast_concat]; exact hrow.kept (grownBy_setCell' W _ _) (.inr hnr.symm), trivial⟩, by rw [cd_yes hok]; exact hC.set _⟩, ⟨rfl, by simp, by rw [List.dropLast_concat]; exact hall, by rw [List.getLastD_concat]; exact fun h => h.2 h0⟩, hbelow _⟩
      · have hz : (((F x).1 : Int) == 0) = false := by simp; omega
        have hz2 : ((F x).1 == 0) = false := by simp; omega
        have hlen : pre.length ≤ 4096 := by omega
        obtain ⟨y, hy⟩ : ∃ y, (F x).1 = y := ⟨_, rfl⟩
        have HY := Lib.hid (And.intro hy (And.intro hok h0))
        rw [hy] at hz hz2 ⊢
        clear hok h0 hy
        obtain ⟨i0, hi, hz0, hz1, hz2'⟩ := info_parts Ush.info8
        obtain ⟨v', w2, hrun, hown', hgrow, -⟩ := run_append_own (P := Tryd.prog) (w := W.alloc (.cells #[.int .u8 (y : Int)] 5)) w.heap.size 37 37 5 i0 (.int .u8 0) 1 1 Tryd.underlying37 hi hz0 hz1 hz2' rfl (by decide) v pre.length (Bytes.u8s (pre.map fun x => (F x).1)) (hrow.alloc _) ⟨W.heap.size, 0, none⟩ 1 1 [.int .u8 (y : Int)] rfl
          (by intro j u hj; have hj0 : j = 0 := (by cases j with | zero => rfl | succ j => simp at hj); subst hj0; simp at hj; subst hj; simp [Addr.add]) (by simp [Value.oneCell']) (by unfold maxLen; omega) (by omega) (by simp; omega)
        obtain ⟨g', cap', rfl⟩ := ownsRow_succ hown'
        have hrun' : (Tl.appO #[37, 37] 37 #[v, .slice (some ⟨W.heap.size, 0, none⟩) 1 1]).run Tryd.prog (W.alloc (.cells #[.int .u8 (y : Int)] 5)) = .ok (.slice (some ⟨g', 0, none⟩) (pre.length + 1) cap') w2 := hrun
        clear hrun
        have hkeep : ∀ (B : Nat) (t : TypeId) (u : Value), t ≠ 5 → B ≠ w.heap.size → Boxed W B t u → Boxed (w2.setCell ⟨w.heap.size, 0, none⟩ (.slice (some ⟨g', 0, none⟩) (pre.length + 1) cap')) B t u := fun B t u ht hne h =>
          Boxed.other (Boxed.kept (show Boxed (W.alloc (.cells #[.int .u8 (y : Int)] 5)) B t u from h.alloc _) hgrow (h.not_row ht hrow)) hne _
        obtain ⟨hv1, hv2, hr2, hk2, hb2⟩ := hv.appended (by decide) hrow (by omega) (Nat.le_refl _) hown' hgrow
        have hc1 := hv1.cell
        have hf1 := hv1.frozen
        have hcl : ∀ o, (W.alloc o).cell? ⟨w.heap.size, 0, none⟩ = some v := fun o => (hv.alloc o).cell
        gi_wp2
        exact ⟨hk2.from _, ⟨hb2, fun u hu => hkeep _ _ u (by decide) (by omega) hu, fun u hu => hkeep _ _ u (by decide) (by omega) hu, fun u hu => hkeep _ _ u (by decide) (by omega) hu⟩,
            ⟨⟨_, hv2, by simpa [Bytes.u8s, HY.out.1] using hr2, trivial⟩, hkeep _ _ _ (by decide) (by omega) hC⟩, fun k hk => (List.mem_append.1 hk).elim (hall k) (fun e => by simp at e; subst e; exact HY.out.2), hB.trans hb2⟩
  case done =>
    rintro D ys W hD rfl ⟨⟨⟨v, hv, hrow, -⟩, hC⟩, hall, hB⟩ hK
    have cT := hv.cell
    have cC := hC.cell
    gi_wp2
    gi_region
    gi_wp2
    rw [Exit.noGoto_ret]
    have hKd : W.drew.heap[D]? = some (.deferred (some [])) := hK
    refine ⟨by simp, .inl ⟨_, _, rfl, run_takeDeferred hKd, ?_⟩⟩
    have hb' : Below w.heap.size w ((W.drew).putObj D (.deferred none)) := hB.drew.trans (belowK_b (w := w) (Nat.le_refl _) W.drew D _ _ (by omega) hKd rfl rfl)
    refine ⟨.tuple #[.string ⟨#[]⟩, .int .i64 22], ?_, hb', k, Nat.le_refl _, fun x hx => hall x (List.mem_range.2 hx), .inl ⟨rfl, rfl⟩⟩
    simp [results, go_sem]
  case stop =>
    rintro D c pre W hD ⟨j, hj, rfl⟩ ⟨⟨⟨v, hv, hrow, -⟩, hC⟩, ⟨rfl, hne, hall, hno⟩, hB⟩ hK
    have cT := hv.cell
    obtain ⟨d, rfl⟩ : ∃ d, j = d + 1 := ⟨j - 1, by cases j with | zero => simp at hne | succ d => rfl⟩
    rw [List.range_succ] at hC hrow hall hno
    rw [List.dropLast_concat] at hrow hall
    rw [List.getLastD_concat] at hno
    cases hok : (F d).2 with
    | false =>
      rw [cd_no hok] at hC
      have cC := hC.cell
      gi_wp2
      gi_region
      gi_wp2
      rw [Exit.noGoto_ret]
      have hKd : W.drew.heap[D]? = some (.deferred (some [])) := hK
      refine ⟨by simp, .inl ⟨_, _, rfl, run_takeDeferred hKd, ?_⟩⟩
      have hb' : Below w.heap.size w ((W.drew).putObj D (.deferred none)) := hB.drew.trans (belowK_b (w := w) (Nat.le_refl _) W.drew D _ _ (by omega) hKd rfl rfl)
      refine ⟨.tuple #[.string ⟨#[]⟩, .int .i64 14], ?_, hb', d, by omega, fun x hx => hall x (List.mem_range.2 hx), .inr (.inl ⟨by omega, hok, rfl⟩)⟩
      simp [results, go_sem]
    | true =>
      rw [cd_yes hok] at hC
      have cC := hC.cell
      have h0 : (F d).1 = 0 := by
        apply Classical.byContradiction
        intro h
        exact hno ⟨hok, h⟩
      have hcv := BackNums.slc_string (BackNums.own_slc8 hrow)
      gi_wp2
      rw [Exit.noGoto_ret]
      refine ⟨by simp, .inl ⟨_, _, rfl, run_takeDeferred hK, ?_⟩⟩
      have hb' : Below w.heap.size w (W.putObj D (.deferred none)) := hB.trans (belowK_b (w := w) (Nat.le_refl _) W D _ _ (by omega) hK rfl rfl)
      refine ⟨.tuple #[.string (bstr ((List.range d).map fun x => (F x).1)), .int .i64 0], ?_, hb', d, by omega, fun x hx => hall x (List.mem_range.2 hx), .inr (.inr ⟨by omega, hok, h0, rfl⟩)⟩
      simp [results, go_sem]
theorem text_any (w : World) (q a k : Nat) (F : Nat → Nat × Bool) (hk : 1 ≤ k ∧ k ≤ 4096) (ha : a < 4294967296) (hBy : Bytes w.heap.size w q a k F) :
    Calls Tryd.prog 11 #[.pointer (some ⟨q, 0, none⟩), .int .u32 (a : Int), .int .i64 (k : Int)] w (TextR F k w) := (callsIn_wide (n := 4)).1 (text_in 4 (Nat.le_refl _) w q a k F hk ha hBy)
end Go.Proofs.YtjoapeeljigjcaaDoor.Usk
