/-
  Is a core one of a mask; the core of a mask with the fewest.
-/
import Derived.Test.YtkjmpkoogjbjnaaQuc
namespace Go.Proofs.Ytkjmpkoogjbjnaa.Qud
open Go Go.RowKit Go.Shelf Kit Bk Qua Qub Quc
set_option linter.unusedVariables false
attribute [local go_sem] Oper.semAt_some

theorem within_in (n : Nat) (ad : Option Addr) (m : Nat) (w : World) :
    CallsIn Fence.wide n Try.prog 41 #[.pointer ad, .int .u32 (m : Int)] w fun e w' => e = .returned (.func (.func 45) #[] #[.pointer (some ⟨w.heap.size, 0, none⟩), .pointer (some ⟨w.heap.size + 1, 0, none⟩)]) ∧ w' = (w.alloc (.cells #[.pointer ad] 24)).alloc (.cells #[.int .u32 (m : Int)] 23) := by
  refine callsIn_of_wp Try.func41 rfl trivial ?_ rfl
  simp only [Try.ntmps41, List.size_toArray, List.length_cons, List.length_nil, Nat.reduceAdd, Nat.reduceSub, Array.replicate_succ, Array.replicate_zero, List.push_toArray, List.append_toArray, List.nil_append, List.cons_append]
  gi_wp2
  go_ret
  exact ⟨rfl, rfl⟩
/-- All cores of the mask come, rising, or a first part of them. n₀: what lay there when the loop's function began. -/
theorem within_stops (n : Nat) (hn : 1 ≤ n) (Bb Mb n₀ : Nat) (ad : Option Addr) (c m : Nat) (hc8 : c ≤ 8) (hm : m < 4294967296) (w : World) (hn₀ : n₀ ≤ w.heap.size) (hC : Cs n₀ w ad c)
    (hB : Boxed w Bb 24 (.pointer ad)) (hM : Boxed w Mb 23 (.int .u32 (m : Int))) :
    SeqStopsK Fence.wide n Try.prog 45 #[.pointer (some ⟨Bb, 0, none⟩), .pointer (some ⟨Mb, 0, none⟩)] (encs (c := c)) (Kq n₀ Bb Mb) (fun ys => vals ys = ws c m) (fun pre => ∃ k, k ≤ c ∧ vals pre = ws k m) 8 w := fun l J Jx W hW hJ _ hY hJ0 =>
  within1_in n hn l Bb Mb n₀ ad c m hc8 hm J Jx W hJ hY (Nat.le_trans hn₀ hW.size) (hC.low (hW.mono hn₀)) ((hW.block Bb hB.lt).trans hB) ((hW.block Mb hM.lt).trans hM) hJ0

theorem hasC_of {c m : Nat} {z : Int} {k x : Nat} (hk : k ≤ c) (hx : x ∈ ws k m) (h : (x : Int) = z) : hasC c m z = true :=
  hasC_iff.2 ⟨x, by have := (ws_mem.1 hx).1; omega, (ws_mem.1 hx).2, h⟩
theorem hasC_not {c m : Nat} {z : Int} (h : ∀ x, x ∈ ws c m → (x : Int) ≠ z) : hasC c m z = false := by
  rw [Bool.eq_false_iff]
  intro e
  obtain ⟨k, h1, h2, h3⟩ := hasC_iff.1 e
  exact h k (ws_mem.2 ⟨h1, h2⟩) h3

set_option maxRecDepth 100000 in
set_option maxHeartbeats 2000000 in
theorem has_in (n : Nat) (hn : 4 ≤ n) (ad : Option Addr) (c m : Nat) (hc8 : c ≤ 8) (hm : m < 4294967296) (z : Int) (w : World) (hC : Cs w.heap.size w ad c) :
    CallsIn Fence.wide n Try.prog 30 #[.pointer ad, .int .u32 (m : Int), .int .i64 z] w fun e w' => e = .returned (.bool (hasC c m z)) ∧ Below w.heap.size w w' := by
  refine callsIn_of_wp_marks Try.func30 rfl trivial ?_ rfl
  simp only [Try.ntmps30, List.size_toArray, List.length_cons, List.length_nil, Nat.reduceAdd, Nat.reduceSub, Array.replicate_succ, Array.replicate_zero, List.push_toArray, List.append_toArray, List.nil_append, List.cons_append]
  gi_wp2_with (first | (refine ⟨trivial, fun _ => (by omega), ?_⟩; gi_at_call 41; refine (within_in (n - 1) ad m _).mono ?_; rintro e w' ⟨rfl, rfl⟩))
  have b1 := (Below.refl w.heap.size w).alloc (Nat.le_refl _) (.cells #[.int .i64 z] 3)
  have b2 := b1.alloc b1.size (.cells #[.bool false] 4)
  have b3 := b2.alloc b2.size (.cells #[.pointer ad] 24)
  have hB0 := b3.alloc b3.size (.cells #[.int .u32 (m : Int)] 23)
  have bZ := (((Boxed.new w 3 (.int .i64 z)).alloc (.cells #[.bool false] 4)).alloc (.cells #[.pointer ad] 24)).alloc (.cells #[.int .u32 (m : Int)] 23)
  have bR := ((Boxed.new (w.alloc (.cells #[.int .i64 z] 3)) 4 (.bool false)).alloc (.cells #[.pointer ad] 24)).alloc (.cells #[.int .u32 (m : Int)] 23)
  have bP := (Boxed.new ((w.alloc (.cells #[.int .i64 z] 3)).alloc (.cells #[.bool false] 4)) 24 (.pointer ad)).alloc (.cells #[.int .u32 (m : Int)] 23)
  have bM := Boxed.new (((w.alloc (.cells #[.int .i64 z] 3)).alloc (.cells #[.bool false] 4)).alloc (.cells #[.pointer ad] 24)) 23 (.int .u32 (m : Int))
  have hsz : ((((w.alloc (.cells #[.int .i64 z] 3)).alloc (.cells #[.bool false] 4)).alloc (.cells #[.pointer ad] 24)).alloc (.cells #[.int .u32 (m : Int)] 23)).heap.size = w.heap.size + 4 := by simp
  simp only [World.size_alloc] at bR bP bM
  obtain ⟨W0, hW0⟩ : ∃ W0, (((w.alloc (.cells #[.int .i64 z] 3)).alloc (.cells #[.bool false] 4)).alloc (.cells #[.pointer ad] 24)).alloc (.cells #[.int .u32 (m : Int)] 23) = W0 := ⟨_, rfl⟩
  clear b1 b2 b3
  rw [hW0] at bZ bR bP bM hB0 hsz ⊢
  clear hW0
  have hC0 := hC.low hB0
  refine wpIn_rangeFunc_ownH rfl (by omega) (gf := 45) (lb := #[.pointer (some ⟨w.heap.size + 1 + 1, 0, none⟩), .pointer (some ⟨w.heap.size + 1 + 1 + 1, 0, none⟩)]) rfl trivial (enters_of Try.func45 (by kernel_rfl) rfl)
    (within_stops (n - 1) (by omega) (w.heap.size + 1 + 1) (w.heap.size + 1 + 1 + 1) w.heap.size ad c m hc8 hm W0 (by omega) hC0 bP bM) Kq.trans (Kq.put (by omega)) (Below.refl _ _) (fun _ => rfl)
    (fun pre W => ((Boxed W w.heap.size 3 (.int .i64 z) ∧ Boxed W (w.heap.size + 1) 4 (.bool false)) ∧ (∀ x ∈ vals pre, (x : Int) ≠ z)) ∧ Below w.heap.size w W)
    (fun c' pre W => (Boxed W (w.heap.size + 1) 4 (.bool true) ∧ (c' = .ret ∧ ∃ x ∈ vals pre, (x : Int) = z)) ∧ Below w.heap.size w W)
    (OwnFrom.and (OwnFrom.and (OwnFrom.and (Own.from (boxed_own _ _ (fun (pre : List (Cr c)) => Value.int .i64 z)) _) (Own.from (boxed_own _ _ (fun (pre : List (Cr c)) => Value.bool false)) _)) (ownFrom_pure _ _)) (ownFrom_below (Nat.le_refl _) (by omega)))
    (fun c' => OwnFrom.and (OwnFrom.and (Own.from (boxed_own _ _ (fun (pre : List (Cr c)) => Value.bool true)) _) (ownFrom_pure _ _)) (ownFrom_below (Nat.le_refl _) (by omega)))
    ⟨⟨⟨bZ, bR⟩, (fun x h => by cases h)⟩, hB0⟩
    (fun x a' W => a' = { tmps := #[.pointer ad, .int .u32 (m : Int), .int .i64 z, undef, undef, .pointer (some ⟨w.heap.size, 0, none⟩), .pointer (some ⟨w.heap.size + 1, 0, none⟩), .int .i64 (x.val : Int), .pointer ad, .int .u32 (m : Int), .func (.func 45) #[] #[.pointer (some ⟨w.heap.size + 1 + 1, 0, none⟩), .pointer (some ⟨w.heap.size + 1 + 1 + 1, 0, none⟩)], .int .i64 (x.val : Int), undef, undef, undef], defers := [] })
    (fun x a' => ownFrom_pure _ (fun _ : Unit => _))
    ?assign ?body ?done ?stop
  case assign =>
    rintro l pre x W K hI hK
    dsimp only [encs]
    gi_wp2
    exact hK _ _ ((KeepsOthers.refl _).from _) (Kq.refl _ _ _ _) hI (by simp)
  case body =>
    rintro l pre ⟨x, hxc⟩ a' W hl ⟨rr, hr⟩ ⟨⟨⟨hN, hv⟩, hbl⟩, hB⟩ rfl hlt
    dsimp only at *
    have cN := hN.cell
    have fL := hv.frozen
    have cL := hv.cell
    have hsW := hB.size
    by_cases he : (x : Int) = z
    · have hd : ((x : Int) == z) = true := by simp [he]
      have HX := Lib.hid (And.intro hB (And.intro hv he))
      clear hN hv hbl hB he hlt
      gi_wp2
      exact ⟨(KeepsOthers.setCell _ _ _).from _, ⟨HX.out.2.1.set _, rfl, x, by rw [vals_app]; simp, HX.out.2.2⟩, HX.out.1.setCell (p := ⟨w.heap.size + 1, 0, none⟩) (Nat.le_succ _) _⟩
    · have hd : ((x : Int) == z) = false := by simp [he]
      have HX := Lib.hid (And.intro hN (And.intro hv (And.intro hbl (And.intro hB he))))
      clear hN hv hbl hB he hlt
      gi_wp2
      refine ⟨(KeepsOthers.refl _).from _, Kq.refl _ _ _ _, ⟨⟨HX.out.1, HX.out.2.1⟩, fun v hv => ?_⟩, HX.out.2.2.2.1⟩
      rw [vals_app] at hv
      rcases List.mem_append.1 hv with h | h
      · exact HX.out.2.2.1 v h
      · rw [List.mem_singleton] at h; subst h; exact HX.out.2.2.2.2
  case done =>
    rintro D ys W hD hys ⟨⟨⟨hN, hv⟩, hbl⟩, hB⟩ hK
    rw [hys] at hbl
    have cL := hv.cell
    have fL := hv.frozen
    have hK' := (KeepsOthers.setCell W ⟨w.heap.size + 1, 0, none⟩ (.bool false)).same D _ hK rfl
    have hc5 := cell_kept (hv.set (.bool false)).cell (grownBy_putObj' _ D (.deferred none)) (fun r e => by cases e; exact ⟨_, hK', rfl⟩)
    have HX := Lib.hid (And.intro (hasC_not hbl) hB)
    clear hbl hB hN
    gi_wp2
    refine ⟨by simp, .inl ⟨_, _, rfl, run_takeDeferred hK', ?_⟩⟩
    refine ⟨.bool false, ?_, by rw [HX.out.1], (HX.out.2.setCell (p := ⟨w.heap.size + 1, 0, none⟩) (by simp) _).trans (belowK_b (w := w) (Nat.le_refl _) _ D _ _ (by omega) hK' rfl rfl)⟩
    simp [results, go_sem, hc5]
  case stop =>
    rintro D c' pre W hD ⟨k, hk, hpre⟩ ⟨⟨hv, rfl, x, hx, he⟩, hB⟩ hK
    rw [hpre] at hx
    have hc5 := cell_kept hv.cell (grownBy_putObj' _ D (.deferred none)) (fun r e => by cases e; exact ⟨_, hK, rfl⟩)
    have HX := Lib.hid (And.intro (hasC_of hk hx he) hB)
    clear hB hx he
    gi_wp2
    refine ⟨by simp, .inl ⟨_, _, rfl, run_takeDeferred hK, ?_⟩⟩
    refine ⟨.bool true, ?_, by rw [HX.out.1], HX.out.2.trans (belowK_b (w := w) (Nat.le_refl _) W D _ _ (by omega) hK rfl rfl)⟩
    simp [results, go_sem, hc5]
theorem has_any (ad : Option Addr) (c m : Nat) (hc8 : c ≤ 8) (hm : m < 4294967296) (z : Int) (w : World) (hC : Cs w.heap.size w ad c) :
    Calls Try.prog 30 #[.pointer ad, .int .u32 (m : Int), .int .i64 z] w fun e w' => e = .returned (.bool (hasC c m z)) ∧ Below w.heap.size w w' := (callsIn_wide (n := 4)).1 (has_in 4 (Nat.le_refl _) ad c m hc8 hm z w hC)
end Go.Proofs.Ytkjmpkoogjbjnaa.Qud
