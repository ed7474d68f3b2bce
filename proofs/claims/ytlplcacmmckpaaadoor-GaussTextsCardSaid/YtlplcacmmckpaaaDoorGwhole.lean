/-
  whole of package gauss: the parts of any complex128, or noughts of none; the loop is left by its label where a part is none.
-/
import Derived.Test.YtlplcacmmckpaaaDoorGparts
import Derived.Maps.AppendAt
namespace Go.Proofs.YtlplcacmmckpaaaDoor.Gwhole
open Go Go.RowKit Go.Shelf Kit Fl Whole Gleaf Gparts
set_option linter.unusedVariables false

attribute [local go_sem] Oper.semAt_some

/-- Is it a number? Its parts; noughts of none. -/
def isN (a b : Nat) : Bool := (whl a).isSome && (whl b).isSome
def pv (b : Nat) : Int := (whl b).getD 0
def re (a b : Nat) : Int := if isN a b then pv a else 0
def im (a b : Nat) : Int := if isN a b then pv b else 0

/-- What l holds when some parts have come. -/
def lcs (a b : Nat) (pre : List Bool) : Array Value := #[.int .i64 (if pre.contains false then pv a else 0), .int .i64 (if pre.contains true then pv b else 0)]

theorem block_own {β : Type} (B : Nat) (t : TypeId) (cs : β → Array Value) : Own (fun (s : β) W => W.heap[B]? = some (.cells (cs s) t (0, 0))) := fun s X Y row hs hg hrow => by
  have hlt : B < X.heap.size := (Array.getElem?_eq_some_iff.1 hs).1
  refine (hg.block B hlt (fun e' => ?_)).trans hs
  obtain ⟨o, ho, hc⟩ := hrow B e'.symm
  rw [hs] at ho; cases ho; cases hc

def WholeR (a b : Nat) (w : World) (e : Ending) (W' : World) : Prop :=
  e = .returned (.tuple #[.agg #[.int .i64 (re a b), .int .i64 (im a b)], .bool (isN a b)]) ∧ Below w.heap.size w W'

set_option maxRecDepth 100000 in
set_option maxHeartbeats 4000000 in
theorem whole_in (n : Nat) (hn : 4 ≤ n) (a b : Nat) (w : World) :
    CallsIn Fence.wide n Tryd.prog 28 #[.complex .f64 a b] w (WholeR a b w) := by
  refine callsIn_of_wp_marks Tryd.func28 rfl trivial ?_ rfl
  simp only [Tryd.ntmps28, List.size_toArray, List.length_cons, List.length_nil, Nat.reduceAdd, Nat.reduceSub, Array.replicate_succ, Array.replicate_zero, List.push_toArray, List.append_toArray, List.nil_append, List.cons_append]
  gi_wp2
  refine wpIn_wide.2 (wp_scope_straight ((wpIn_wide (n := n)).1 ?_))
  gi_wp2
  refine wpIn_label ?_
  gi_wp2_with (first | (refine ⟨trivial, fun _ => (by omega), ?_⟩; gi_at_call 37; refine (parts_in (n - 1) _ _ _).mono ?_; rintro e w' ⟨rfl, rfl⟩) | fail)
  have hsz : ((((w.alloc (.cells #[.int .i64 0, .int .i64 0] 55)).alloc (.cells #[.int .i64 0, .int .i64 0] 55)).alloc (.cells #[.bool true] 4)).alloc (.cells #[.complex .f64 a b] 24)).heap.size = w.heap.size + 4 := by simp
  have bZ := Boxed.new (((w.alloc (.cells #[.int .i64 0, .int .i64 0] 55)).alloc (.cells #[.int .i64 0, .int .i64 0] 55)).alloc (.cells #[.bool true] 4)) 24 (.complex .f64 a b)
  have bO := (Boxed.new ((w.alloc (.cells #[.int .i64 0, .int .i64 0] 55)).alloc (.cells #[.int .i64 0, .int .i64 0] 55)) 4 (.bool true)).alloc (.cells #[.complex .f64 a b] 24)
  simp only [World.size_alloc] at bZ bO
  have hB0 : Below w.heap.size w ((((w.alloc (.cells #[.int .i64 0, .int .i64 0] 55)).alloc (.cells #[.int .i64 0, .int .i64 0] 55)).alloc (.cells #[.bool true] 4)).alloc (.cells #[.complex .f64 a b] 24)) :=
    ((((Below.refl _ w).alloc (Nat.le_refl _) _).alloc (by simp) _).alloc (by simp; omega) _).alloc (by simp; omega) _
  have hR0 : ((((w.alloc (.cells #[.int .i64 0, .int .i64 0] 55)).alloc (.cells #[.int .i64 0, .int .i64 0] 55)).alloc (.cells #[.bool true] 4)).alloc (.cells #[.complex .f64 a b] 24)).heap[w.heap.size]? = some (.cells #[.int .i64 0, .int .i64 0] 55 (0, 0)) := by
    rw [Below.heap_alloc _ _ _ (by simp; omega), Below.heap_alloc _ _ _ (by simp; omega), Below.heap_alloc _ _ _ (by simp), World.alloc_heap_new]
  have hL0 : ((((w.alloc (.cells #[.int .i64 0, .int .i64 0] 55)).alloc (.cells #[.int .i64 0, .int .i64 0] 55)).alloc (.cells #[.bool true] 4)).alloc (.cells #[.complex .f64 a b] 24)).heap[w.heap.size + 1]? = some (.cells #[.int .i64 0, .int .i64 0] 55 (0, 0)) := by
    rw [Below.heap_alloc _ _ _ (by simp), Below.heap_alloc _ _ _ (by simp), show w.heap.size + 1 = (w.alloc (.cells #[.int .i64 0, .int .i64 0] 55)).heap.size from by simp, World.alloc_heap_new]
  obtain ⟨W0, hW0⟩ : ∃ W0, (((w.alloc (.cells #[.int .i64 0, .int .i64 0] 55)).alloc (.cells #[.int .i64 0, .int .i64 0] 55)).alloc (.cells #[.bool true] 4)).alloc (.cells #[.complex .f64 a b] 24) = W0 := ⟨_, rfl⟩
  rw [hW0] at bZ bO hB0 hR0 hL0 hsz ⊢
  clear hW0
  refine wpIn_rangeFunc_ownH rfl (by omega) (gf := 48) (lb := #[.pointer (some ⟨w.heap.size + 1 + 1 + 1, 0, none⟩)]) rfl trivial (enters_of Tryd.func48 (by kernel_rfl) rfl)
    (parts_stops (n - 1) (by omega) (w.heap.size + 1 + 1 + 1) w.heap.size a b W0 bZ) Kp.trans (Kp.put (by omega)) (Below.refl _ _) (fun _ => rfl)
    (fun pre W => ((W.heap[w.heap.size]? = some (.cells #[.int .i64 0, .int .i64 0] 55 (0, 0)) ∧ W.heap[w.heap.size + 1]? = some (.cells (lcs a b pre) 55 (0, 0))) ∧ (Boxed W (w.heap.size + 1 + 1) 4 (.bool true) ∧ Boxed W (w.heap.size + 1 + 1 + 1) 24 (.complex .f64 a b))) ∧ ((∀ x ∈ pre, (whl (pt a b x)).isSome = true) ∧ Below w.heap.size w W))
    (fun c pre W => ((W.heap[w.heap.size]? = some (.cells #[.int .i64 0, .int .i64 0] 55 (0, 0)) ∧ W.heap[w.heap.size + 1]? = some (.cells #[.int .i64 0, .int .i64 0] 55 (0, 0))) ∧ Boxed W (w.heap.size + 1 + 1) 4 (.bool false)) ∧ ((c = .exit 0 ∧ ∃ x, whl (pt a b x) = none) ∧ Below w.heap.size w W))
    (OwnFrom.and (OwnFrom.and (OwnFrom.and (Own.from (block_own _ _ (fun _ => #[.int .i64 0, .int .i64 0])) _) (Own.from (block_own _ _ (lcs a b)) _)) (OwnFrom.and (Own.from (boxed_own _ _ _) _) (Own.from (boxed_own _ _ _) _))) (OwnFrom.and (ownFrom_pure _ _) (ownFrom_below (Nat.le_refl _) (by omega))))
    (fun c => OwnFrom.and (OwnFrom.and (OwnFrom.and (Own.from (block_own _ _ (fun _ => #[.int .i64 0, .int .i64 0])) _) (Own.from (block_own _ _ (fun _ => #[.int .i64 0, .int .i64 0])) _)) (Own.from (boxed_own _ _ _) _)) (OwnFrom.and (ownFrom_pure _ _) (ownFrom_below (Nat.le_refl _) (by omega))))
    ⟨⟨⟨hR0, hL0⟩, bO, bZ⟩, by simp, hB0⟩
    (fun x a' W => a' = { tmps := #[.complex .f64 a b, undef, .pointer (some ⟨w.heap.size, 0, none⟩), .bool false, .pointer (some ⟨w.heap.size + 1, 0, none⟩), .pointer (some ⟨w.heap.size + 1 + 1, 0, none⟩), .int .i64 (ix x), .float .f64 (pt a b x), .complex .f64 a b, .func (.func 48) #[] #[.pointer (some ⟨w.heap.size + 1 + 1 + 1, 0, none⟩)], .int .i64 (ix x), .float .f64 (pt a b x), undef, undef, undef, undef, undef, undef, undef, undef, undef, undef], defers := [] })
    (fun x a' _ X Y row hs hg hr => hs)
    ?assign ?body ?done ?stop
  case assign =>
    rintro l pre x W K hi hK
    dsimp only [encs]
    gi_wp2
    exact hK _ _ ((KeepsOthers.refl _).from _) (Kp.refl _ _ _) hi rfl
  case body =>
    rintro l pre x a' W hl ⟨rr, hr⟩ ⟨⟨⟨hR, hL⟩, hO, hZ⟩, hall, hB⟩ rfl hlt
    have hlb := hO.lt
    have cO := hO.cell
    have fO := hO.frozen
    have c0 : W.cell? ⟨w.heap.size + 1, 0, none⟩ = some (.int .i64 (if pre.contains false then pv a else 0)) := by simp [World.cell?, hL, lcs]
    have c1 : W.cell? ⟨w.heap.size + 1, 1, none⟩ = some (.int .i64 (if pre.contains true then pv b else 0)) := by simp [World.cell?, hL, lcs]
    have f0 : W.frozen? ⟨w.heap.size + 1, 0, none⟩ = false := by simp [World.frozen?, hL]
    have f1 : W.frozen? ⟨w.heap.size + 1, 1, none⟩ = false := by simp [World.frozen?, hL]
    cases hx : whl (pt a b x) with
    | some v =>
      have HX := Lib.hid hx
      have hcv : ∀ wx, (convert 22 2 (.float .f64 (pt a b x))).run Tryd.prog wx = .ok (.int .i64 v) wx := fun wx => conv_of hx wx
      have hp : ∀ wx, Calls Tryd.prog 38 #[.float .f64 (pt a b x)] wx fun e w' => e = .returned (.bool true) ∧ wx = w' := fun wx => by have := isPart_any (pt a b x) wx; rwa [hx] at this
      have HP := Lib.hid hp
      clear hp hx
      cases x
      · simp only [ix_f, pt_f] at *
        gi_wp2_with (first | (refine ⟨trivial, fun _ => (by omega), ?_⟩; gi_at_call 38; refine (CallsIn.inRound l (callsIn_wide.2 (HP.out _))).mono ?_; rintro e w' ⟨rfl, rfl⟩) | fail)
        have hE := HX.out
        refine ⟨(KeepsOthers.setCell _ _ _).from _, ⟨(Below.refl _ W).setCell (p := ⟨w.heap.size + 1, 0, none⟩) (Nat.le_succ _) _, fun u hu => (heap_setCell_other W _ _ _ (by dsimp only; omega)).trans hu⟩, ⟨⟨(heap_setCell_other W _ _ _ (by dsimp only; omega)).trans hR, ?_⟩, (heap_setCell_other W _ _ _ (by dsimp only; omega)).trans hO, (heap_setCell_other W _ _ _ (by dsimp only; omega)).trans hZ⟩, ?_, hB.setCell (p := ⟨w.heap.size + 1, 0, none⟩) (Nat.le_succ _) _⟩
        · rw [heap_setCell_same W _ _ _ _ _ hL]
          simp [lcs, pv, hE]
        · intro y hy
          rcases List.mem_append.1 hy with h | h
          · exact hall y h
          · obtain rfl : y = false := by simpa using h
            rw [pt_f, hE]
            rfl
      · simp only [ix_t, pt_t] at *
        gi_wp2_with (first | (refine ⟨trivial, fun _ => (by omega), ?_⟩; gi_at_call 38; refine (CallsIn.inRound l (callsIn_wide.2 (HP.out _))).mono ?_; rintro e w' ⟨rfl, rfl⟩) | fail)
        have hE := HX.out
        refine ⟨(KeepsOthers.setCell _ _ _).from _, ⟨(Below.refl _ W).setCell (p := ⟨w.heap.size + 1, 1, none⟩) (Nat.le_succ _) _, fun u hu => (heap_setCell_other W _ _ _ (by dsimp only; omega)).trans hu⟩, ⟨⟨(heap_setCell_other W _ _ _ (by dsimp only; omega)).trans hR, ?_⟩, (heap_setCell_other W _ _ _ (by dsimp only; omega)).trans hO, (heap_setCell_other W _ _ _ (by dsimp only; omega)).trans hZ⟩, ?_, hB.setCell (p := ⟨w.heap.size + 1, 1, none⟩) (Nat.le_succ _) _⟩
        · rw [heap_setCell_same W _ _ _ _ _ hL]
          simp [lcs, pv, hE]
        · intro y hy
          rcases List.mem_append.1 hy with h | h
          · exact hall y h
          · obtain rfl : y = true := by simpa using h
            rw [pt_t, hE]
            rfl
    | none =>
      have HX := Lib.hid hx
      have hp : ∀ wx, Calls Tryd.prog 38 #[.float .f64 (pt a b x)] wx fun e w' => e = .returned (.bool false) ∧ wx = w' := fun wx => by have := isPart_any (pt a b x) wx; rwa [hx] at this
      have HP := Lib.hid hp
      clear hp hx
      obtain ⟨i, hi⟩ : ∃ i, ix x = i := ⟨_, rfl⟩
      rw [hi]
      clear hi
      gi_wp2_with (first | (refine ⟨trivial, fun _ => (by omega), ?_⟩; gi_at_call 38; refine (CallsIn.inRound l (callsIn_wide.2 (HP.out _))).mono ?_; rintro e w' ⟨rfl, rfl⟩) | fail)
      refine ⟨(((KeepsOthers.setCell _ _ _).trans (KeepsOthers.setCell _ _ _)).trans (KeepsOthers.setCell _ _ _)).from _, ⟨⟨(heap_setCell_other _ _ _ _ (by dsimp only; omega)).trans ((heap_setCell_other _ _ _ _ (by dsimp only; omega)).trans ((heap_setCell_other W _ _ _ (by dsimp only; omega)).trans hR)), ?_⟩, ?_⟩, ⟨rfl, x, HX.out⟩, ((hB.setCell (p := ⟨w.heap.size + 1, 0, none⟩) (Nat.le_succ _) _).setCell (p := ⟨w.heap.size + 1, 1, none⟩) (Nat.le_succ _) _).setCell (p := ⟨w.heap.size + 1 + 1, 0, none⟩) (by dsimp only; omega) _⟩
      · rw [heap_setCell_other _ _ _ _ (by dsimp only; omega), heap_setCell_same _ _ _ _ _ _ (heap_setCell_same W _ _ _ _ _ hL)]
        simp [lcs]
      · exact (Boxed.set (.bool false) (show Boxed _ _ _ (.bool true) from (heap_setCell_other _ _ _ _ (by dsimp only; omega)).trans ((heap_setCell_other W _ _ _ (by dsimp only; omega)).trans hO)))
  case done =>
    rintro D ys W hD rfl ⟨⟨⟨hR, hL⟩, hO, hZ⟩, hall, hB⟩ hK
    have cO := hO.cell
    have hl1 := hO.lt
    have rO : W.frozen? ⟨w.heap.size, 0, none⟩ = false := by simp [World.frozen?, hR]
    have rP : W.frozen? ⟨w.heap.size, 1, none⟩ = false := by simp [World.frozen?, hR]
    have r0 : W.cell? ⟨w.heap.size, 0, none⟩ = some (.int .i64 0) := by simp [World.cell?, hR]
    have r1 : W.cell? ⟨w.heap.size, 1, none⟩ = some (.int .i64 0) := by simp [World.cell?, hR]
    have c0 : W.cell? ⟨w.heap.size + 1, 0, none⟩ = some (.int .i64 (pv a)) := by simp [World.cell?, hL, lcs]
    have c1 : W.cell? ⟨w.heap.size + 1, 1, none⟩ = some (.int .i64 (pv b)) := by simp [World.cell?, hL, lcs]
    gi_wp2
    gi_region
    gi_wp2
    rw [Exit.noGoto_ret]
    have hN : isN a b = true := by
      have h1 := hall false (by simp)
      have h2 := hall true (by simp)
      rw [pt_f] at h1
      rw [pt_t] at h2
      simp [isN, h1, h2]
    have hR2 : ((W.setCell ⟨w.heap.size, 0, none⟩ (.int .i64 (pv a))).setCell ⟨w.heap.size, 1, none⟩ (.int .i64 (pv b))).drew.heap[w.heap.size]? = some (.cells #[.int .i64 (pv a), .int .i64 (pv b)] 55 (0, 0)) :=
      heap_setCell_same _ _ _ _ _ _ (heap_setCell_same W _ _ _ _ _ hR)
    have hKd : ((W.setCell ⟨w.heap.size, 0, none⟩ (.int .i64 (pv a))).setCell ⟨w.heap.size, 1, none⟩ (.int .i64 (pv b))).drew.heap[D]? = some (.deferred (some [])) :=
      (heap_setCell_other _ _ _ _ (by dsimp only; omega)).trans ((heap_setCell_other W _ _ _ (by dsimp only; omega)).trans hK)
    have hb2 : Below w.heap.size w ((W.setCell ⟨w.heap.size, 0, none⟩ (.int .i64 (pv a))).setCell ⟨w.heap.size, 1, none⟩ (.int .i64 (pv b))).drew :=
      ((hB.setCell (p := ⟨w.heap.size, 0, none⟩) (Nat.le_refl _) _).setCell (p := ⟨w.heap.size, 1, none⟩) (Nat.le_refl _) _).drew
    obtain ⟨W2, hW2⟩ : ∃ W2, ((W.setCell ⟨w.heap.size, 0, none⟩ (.int .i64 (pv a))).setCell ⟨w.heap.size, 1, none⟩ (.int .i64 (pv b))).drew = W2 := ⟨_, rfl⟩
    rw [hW2] at hR2 hKd hb2 ⊢
    clear hW2
    refine ⟨by simp, .inl ⟨_, _, rfl, run_takeDeferred hKd, ?_⟩⟩
    have hb' : Below w.heap.size w (W2.putObj D (.deferred none)) := hb2.trans (belowK_b (w := w) (Nat.le_refl _) W2 D _ _ (by omega) hKd rfl rfl)
    have hR3 : (W2.putObj D (.deferred none)).heap[w.heap.size]? = some (.cells #[.int .i64 (pv a), .int .i64 (pv b)] 55 (0, 0)) :=
      ((grownBy_putObj' W2 D (.deferred none)).block _ (Array.getElem?_eq_some_iff.1 hR2).1 (fun e => by cases e; omega)).trans hR2
    have k0 : (W2.putObj D (.deferred none)).cell? ⟨w.heap.size, 0, none⟩ = some (.int .i64 (pv a)) := by simp [World.cell?, hR3]
    have k1 : (W2.putObj D (.deferred none)).cell? ⟨w.heap.size, 1, none⟩ = some (.int .i64 (pv b)) := by simp [World.cell?, hR3]
    refine ⟨.tuple #[.agg #[.int .i64 (pv a), .int .i64 (pv b)], .bool true], ?_, ?_, hb'⟩
    · simp [results, go_sem, k0, k1]
    · simp [re, im, hN]
  case stop =>
    rintro D c pre W hD hp ⟨⟨⟨hR, hL⟩, hO⟩, ⟨rfl, x, hx⟩, hB⟩ hK
    have cO := hO.cell
    have hl1 := hO.lt
    have rO : W.frozen? ⟨w.heap.size, 0, none⟩ = false := by simp [World.frozen?, hR]
    have rP : W.frozen? ⟨w.heap.size, 1, none⟩ = false := by simp [World.frozen?, hR]
    have r0 : W.cell? ⟨w.heap.size, 0, none⟩ = some (.int .i64 0) := by simp [World.cell?, hR]
    have r1 : W.cell? ⟨w.heap.size, 1, none⟩ = some (.int .i64 0) := by simp [World.cell?, hR]
    have c0 : W.cell? ⟨w.heap.size + 1, 0, none⟩ = some (.int .i64 0) := by simp [World.cell?, hL]
    have c1 : W.cell? ⟨w.heap.size + 1, 1, none⟩ = some (.int .i64 0) := by simp [World.cell?, hL]
    gi_wp2
    gi_region
    gi_wp2
    rw [Exit.noGoto_ret]
    have hN : isN a b = false := by
      cases x
      · rw [pt_f] at hx
        simp [isN, hx]
      · rw [pt_t] at hx
        simp [isN, hx]
    have hR2 : ((W.setCell ⟨w.heap.size, 0, none⟩ (.int .i64 0)).setCell ⟨w.heap.size, 1, none⟩ (.int .i64 0)).drew.heap[w.heap.size]? = some (.cells #[.int .i64 0, .int .i64 0] 55 (0, 0)) :=
      heap_setCell_same _ _ _ _ _ _ (heap_setCell_same W _ _ _ _ _ hR)
    have hKd : ((W.setCell ⟨w.heap.size, 0, none⟩ (.int .i64 0)).setCell ⟨w.heap.size, 1, none⟩ (.int .i64 0)).drew.heap[D]? = some (.deferred (some [])) :=
      (heap_setCell_other _ _ _ _ (by dsimp only; omega)).trans ((heap_setCell_other W _ _ _ (by dsimp only; omega)).trans hK)
    have hb2 : Below w.heap.size w ((W.setCell ⟨w.heap.size, 0, none⟩ (.int .i64 0)).setCell ⟨w.heap.size, 1, none⟩ (.int .i64 0)).drew :=
      ((hB.setCell (p := ⟨w.heap.size, 0, none⟩) (Nat.le_refl _) _).setCell (p := ⟨w.heap.size, 1, none⟩) (Nat.le_refl _) _).drew
    obtain ⟨W2, hW2⟩ : ∃ W2, ((W.setCell ⟨w.heap.size, 0, none⟩ (.int .i64 0)).setCell ⟨w.heap.size, 1, none⟩ (.int .i64 0)).drew = W2 := ⟨_, rfl⟩
    rw [hW2] at hR2 hKd hb2 ⊢
    clear hW2
    refine ⟨by simp, .inl ⟨_, _, rfl, run_takeDeferred hKd, ?_⟩⟩
    have hb' : Below w.heap.size w (W2.putObj D (.deferred none)) := hb2.trans (belowK_b (w := w) (Nat.le_refl _) W2 D _ _ (by omega) hKd rfl rfl)
    have hR3 : (W2.putObj D (.deferred none)).heap[w.heap.size]? = some (.cells #[.int .i64 0, .int .i64 0] 55 (0, 0)) :=
      ((grownBy_putObj' W2 D (.deferred none)).block _ (Array.getElem?_eq_some_iff.1 hR2).1 (fun e => by cases e; omega)).trans hR2
    have k0 : (W2.putObj D (.deferred none)).cell? ⟨w.heap.size, 0, none⟩ = some (.int .i64 0) := by simp [World.cell?, hR3]
    have k1 : (W2.putObj D (.deferred none)).cell? ⟨w.heap.size, 1, none⟩ = some (.int .i64 0) := by simp [World.cell?, hR3]
    refine ⟨.tuple #[.agg #[.int .i64 0, .int .i64 0], .bool false], ?_, ?_, hb'⟩
    · simp [results, go_sem, k0, k1]
    · simp [re, im, hN]

theorem whole_any (a b : Nat) (w : World) :
    Calls Tryd.prog 28 #[.complex .f64 a b] w fun e w' => e = .returned (.tuple #[.agg #[.int .i64 (re a b), .int .i64 (im a b)], .bool (isN a b)]) ∧ Below w.heap.size w w' :=
  (callsIn_wide (n := 4)).1 (whole_in 4 (Nat.le_refl _) a b w)
end Go.Proofs.YtlplcacmmckpaaaDoor.Gwhole
