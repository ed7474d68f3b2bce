/-
  Parts and Hole of a table of pages.
-/
import Derived.Test.YtcmlcepdcpbdaaaTd
namespace Go.Proofs.Ytcmlcepdcpbdaaa.Tq
open Go Go.RowKit Go.Shelf Kit Bk Tm Ts Tc Ti Td
set_option linter.unusedVariables false

attribute [local go_sem] Oper.semAt_some

set_option maxRecDepth 100000 in
set_option maxHeartbeats 2000000 in
theorem parts_in (n : Nat) (hn : 4 ≤ n) (a : Option Addr) (T : Nat → Option En) (w : World) (hM : Gets w.heap.size w (.pointer a) T) :
    CallsIn Fence.wide n Try.prog 24 #[.pointer a] w fun e w' => e = .returned (.int .i64 (parts T)) ∧ Below w.heap.size w w' := by
  refine callsIn_of_wp_marks Try.func24 rfl trivial ?_ rfl
  simp only [Try.ntmps24, List.size_toArray, List.length_cons, List.length_nil, Nat.reduceAdd, Nat.reduceSub, Array.replicate_succ, Array.replicate_zero, List.push_toArray, List.append_toArray, List.nil_append, List.cons_append]
  gi_wp2_with (first | (refine ⟨trivial, fun _ => (by omega), ?_⟩; gi_at_call 37; refine (entries_in (n - 1) a _).mono ?_; rintro e w' ⟨rfl, rfl⟩))
  have bN := ((Boxed.new w 3 (.int .i64 0)).alloc (.cells #[.int .i64 (-1)] 3)).alloc (.cells #[.pointer a] 23)
  have bL := (Boxed.new (w.alloc (.cells #[.int .i64 0] 3)) 3 (.int .i64 (-1))).alloc (.cells #[.pointer a] 23)
  have bP := Boxed.new ((w.alloc (.cells #[.int .i64 0] 3)).alloc (.cells #[.int .i64 (-1)] 3)) 23 (.pointer a)
  have hB0 := ((((Below.refl w.heap.size w).alloc (Nat.le_refl _) (.cells #[.int .i64 0] 3))).alloc (by simp) (.cells #[.int .i64 (-1)] 3)).alloc (by simp; omega) (.cells #[.pointer a] 23)
  have hsz : (((w.alloc (.cells #[.int .i64 0] 3)).alloc (.cells #[.int .i64 (-1)] 3)).alloc (.cells #[.pointer a] 23)).heap.size = w.heap.size + 3 := by simp
  simp only [World.size_alloc] at bP bL
  obtain ⟨W0, hW0⟩ : ∃ W0, ((w.alloc (.cells #[.int .i64 0] 3)).alloc (.cells #[.int .i64 (-1)] 3)).alloc (.cells #[.pointer a] 23) = W0 := ⟨_, rfl⟩
  rw [hW0] at bN bL bP hB0 hsz ⊢
  clear hW0
  have hM0 := hM.low hB0
  refine wpIn_rangeFunc_ownH rfl (by omega) (gf := 41) (lb := #[.pointer (some ⟨w.heap.size + 1 + 1, 0, none⟩)]) rfl trivial (enters_of Try.func41 (by kernel_rfl) rfl)
    (entries_stops (n - 1) (by omega) (w.heap.size + 1 + 1) w.heap.size (.pointer a) T encp encp_of W0 (by omega) hM0 bP) Kq.trans (Kq.put (by omega)) (Below.refl _ _) (fun _ => rfl)
    (fun pre W => ((Boxed W w.heap.size 3 (.int .i64 (pf pre).1) ∧ Boxed W (w.heap.size + 1) 3 (.int .i64 (pf pre).2)) ∧ Boxed W (w.heap.size + 1 + 1) 23 (.pointer a)) ∧ Below w.heap.size w W)
    (fun c pre W => False)
    (OwnFrom.and (OwnFrom.and (OwnFrom.and (Own.from (boxed_own _ _ (fun (pre : List (Nat × En)) => Value.int .i64 (pf pre).1)) _) (Own.from (boxed_own _ _ (fun (pre : List (Nat × En)) => Value.int .i64 (pf pre).2)) _)) (Own.from (boxed_own _ _ _) _)) (ownFrom_below (Nat.le_refl _) (by omega)))
    (fun c => ownFrom_pure _ _)
    ⟨⟨⟨bN, bL⟩, by simpa using bP⟩, hB0⟩
    (fun x a' W => a' = { tmps := #[.pointer a, undef, .int .i64 0, .pointer (some ⟨w.heap.size, 0, none⟩), .pointer (some ⟨w.heap.size + 1, 0, none⟩), .int .i64 (pg x : Int), .pointer a, .func (.func 41) #[] #[.pointer (some ⟨w.heap.size + 1 + 1, 0, none⟩)], .int .i64 (pg x : Int), ev x.2, undef, undef, undef, undef, undef, undef, undef, undef, undef], defers := [] })
    (fun x a' => ownFrom_pure _ (fun _ : Unit => _))
    ?assign ?body ?done ?stop
  case assign =>
    rintro l pre x W K hI hK
    dsimp only [encp]
    gi_wp2
    exact hK _ _ ((KeepsOthers.refl _).from _) (Kq.refl _ _ _) hI (by simp)
  case body =>
    rintro l pre x a' W hl ⟨rr, hr⟩ ⟨⟨⟨hN, hL⟩, hP⟩, hB⟩ rfl hlt
    have cN := hN.cell
    have cL := hL.cell
    have fN := hN.frozen
    have fL := hL.frozen
    have hsW := hB.size
    have hbd := pf_bd pre
    have hpg := pg_le x
    have hpa := pf_app pre x
    obtain ⟨k, hk⟩ : ∃ k, pg x = k := ⟨_, rfl⟩
    rw [hk] at hpg
    unfold pstep at hpa
    rw [hk] at hpa
    rw [hk]
    clear hk
    obtain ⟨u, hu⟩ : ∃ u, (pf pre).1 = u := ⟨_, rfl⟩
    obtain ⟨v, hv⟩ : ∃ v, (pf pre).2 = v := ⟨_, rfl⟩
    rw [hu] at cN hpa hbd hN
    rw [hv] at cL hpa hbd hL
    have hq : (k : Int) / 8 = ((k / 8 : Nat) : Int) := rfl
    have hwr : wrap64 ((k : Int) / 8) = (k : Int) / 8 := by rw [wrap64]; omega
    have hk63 : (k : Int) ≤ 63 := by omega
    have hu0 : 0 ≤ u := hbd.1
    have hu1 : u ≤ 64 := by omega
    by_cases he : ((k / 8 : Nat) : Int) = v
    · have hd2 : ((k : Int) / 8 == v) = true := beq_iff_eq.2 (hq.trans he)
      rw [if_pos he] at hpa
      have HPA : Hid ((pf (pre ++ [x])).1 = u ∧ (pf (pre ++ [x])).2 = v) := Lib.hid ⟨by rw [hpa]; exact hu, by rw [hpa]; exact hv⟩
      clear hpa hu hv hbd he hpg hlt hq
      gi_wp2
      exact ⟨(KeepsOthers.refl _).from _, Kq.refl _ _ _, ⟨⟨by rw [HPA.out.1]; exact hN, by rw [HPA.out.2]; exact hL⟩, hP⟩, hB⟩
    · have hd2 : ((k : Int) / 8 == v) = false := beq_eq_false_iff_ne.2 (fun e => he (hq.symm.trans e))
      rw [if_neg he] at hpa
      have HPA : Hid ((pf (pre ++ [x])).1 = u + 1 ∧ (pf (pre ++ [x])).2 = (k : Int) / 8) := Lib.hid ⟨by rw [hpa], by rw [hpa]; rfl⟩
      clear hpa hu hv hbd he hpg hlt hq
      gi_wp2
      exact ⟨((KeepsOthers.setCell _ _ _).trans (KeepsOthers.setCell _ _ _)).from _, ⟨((Below.refl _ _).setCell (p := ⟨w.heap.size, 0, none⟩) (Nat.le_refl _) _).setCell (p := ⟨w.heap.size + 1, 0, none⟩) (by simp) _, fun v hv => (hv.other (by omega) _).other (by omega) _⟩, ⟨⟨by rw [HPA.out.1]; exact (hN.set _).other (by omega) _, by rw [HPA.out.2]; exact (hL.other (by omega) _).set _⟩, (hP.other (by omega) _).other (by omega) _⟩, (hB.setCell (p := ⟨w.heap.size, 0, none⟩) (Nat.le_refl _) _).setCell (p := ⟨w.heap.size + 1, 0, none⟩) (by simp) _⟩
  case done =>
    rintro D ys W hD rfl ⟨⟨⟨hN, hL⟩, hP⟩, hB⟩ hK
    have cN := hN.cell
    gi_wp2
    refine ⟨by simp, .inl ⟨_, _, rfl, run_takeDeferred hK, ?_⟩⟩
    refine ⟨.int .i64 (parts T), ?_, rfl, hB.trans (belowK_b (w := w) (Nat.le_refl _) W D _ _ (by omega) hK rfl rfl)⟩
    simp [results, go_sem, parts]
  case stop =>
    rintro D c pre W hD hm hF hK
    exact hF.elim
theorem parts_any (w : World) (a : Option Addr) (T : Nat → Option En) (hM : Gets w.heap.size w (.pointer a) T) :
    Calls Try.prog 24 #[.pointer a] w fun e w' => e = .returned (.int .i64 (parts T)) ∧ Below w.heap.size w w' := (callsIn_wide (n := 4)).1 (parts_in 4 (Nat.le_refl _) a T w hM)
end Go.Proofs.Ytcmlcepdcpbdaaa.Tq
