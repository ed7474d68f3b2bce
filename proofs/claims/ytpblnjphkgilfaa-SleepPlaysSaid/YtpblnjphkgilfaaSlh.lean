/-
  Tick, walked.
-/
import Derived.Test.YtpblnjphkgilfaaSlg
namespace Go.Proofs.Ytpblnjphkgilfaa.Slh
open Go Go.RowKit Go.Shelf Kit Bk Sla Slb Slc Sld Sle Slf Slg
set_option linter.unusedVariables false
attribute [local go_sem] Oper.semAt_some
attribute [local go_sem ↓] app_wrap

theorem wrap_down {n : Nat} (h1 : 1 ≤ n) (h2 : n < 4294967296) : IntKind.u32.wrap ((n : Int) - 1) = ((n - 1 : Nat) : Int) := by
  simp only [IntKind.wrap, IntKind.bits, IntKind.signed]
  simp only [Bool.false_and, Bool.false_eq_true, if_false]
  omega
set_option maxRecDepth 100000 in
set_option maxHeartbeats 4000000 in
theorem tick_in (n : Nat) (hn : 8 ≤ n) {w : World} {q : Nat} {m : Option Nat} {L : St} (h : Sv w q m L) (ho : Ok L) (hl : L.length < 80000) :
    CallsIn Fence.wide n Try.prog 10 #[pv q] w fun e w' => Kp (fr q m) w w' ∧ Sv w' q m (tkL L) ∧ ∃ u, e = .returned u ∧ w'.ownsRow w.heap.size 3 1 u (tkW L).length (ints (tkW L)) := by
  have hq := h.blk.lt
  have hb := h.map.lt
  have hAs : ∀ W, Below w.heap.size w W → Calls Try.prog 25 #[pv q] W fun e w' => e = .returned (.map m) ∧ W = w' := fun W hW => asleep_any W q m (Sv.cell (h.below hW))
  refine callsIn_of_wp_marks Try.func10 rfl trivial ?_ rfl
  simp only [Try.ntmps10, List.size_toArray, List.length_cons, List.length_nil, Nat.reduceAdd, Nat.reduceSub, Array.replicate_succ, Array.replicate_zero, List.push_toArray, List.append_toArray, List.nil_append, List.cons_append]
  gi_wp2_with (first | (refine ⟨trivial, ?_⟩; gi_at_call 24; refine (rising_in (n - 1) _ _).mono ?_; rintro e w' ⟨rfl, rfl⟩) | (refine ⟨trivial, fun _ => (by omega), ?_⟩; gi_at_call 24; refine (rising_in (n - 1) _ _).mono ?_; rintro e w' ⟨rfl, rfl⟩))
  have b1 := (Below.refl w.heap.size w).alloc (Nat.le_refl _) (.cells #[pv q] 23)
  have b2 := b1.alloc b1.size (.cells #[.slice none 0 0] 37)
  have hB0 := b2.alloc b2.size (.cells #[pv q] 23)
  have bS := ((Boxed.new w 23 (pv q)).alloc (.cells #[.slice none 0 0] 37)).alloc (.cells #[pv q] 23)
  have bR := (Boxed.new (w.alloc (.cells #[pv q] 23)) 37 (.slice none 0 0)).alloc (.cells #[pv q] 23)
  have bI := Boxed.new ((w.alloc (.cells #[pv q] 23)).alloc (.cells #[.slice none 0 0] 37)) 23 (pv q)
  have hsz : (((w.alloc (.cells #[pv q] 23)).alloc (.cells #[.slice none 0 0] 37)).alloc (.cells #[pv q] 23)).heap.size = w.heap.size + 3 := by simp
  have hrow0 := World.ownsRow_nil (((w.alloc (.cells #[pv q] 23)).alloc (.cells #[.slice none 0 0] 37)).alloc (.cells #[pv q] 23)) (w.heap.size + 3) 3 1
  simp only [World.size_alloc] at bR bI
  obtain ⟨W0, hW0⟩ : ∃ W0, ((w.alloc (.cells #[pv q] 23)).alloc (.cells #[.slice none 0 0] 37)).alloc (.cells #[pv q] 23) = W0 := ⟨_, rfl⟩
  clear b1 b2
  rw [hW0] at bS bR bI hB0 hsz hrow0 ⊢
  clear hW0
  have hs0 := h.below hB0
  have hT0 : Ti w q m L 0 W0 := ⟨bS, ⟨_, bR, hrow0⟩, hs0, Kp.of_below hB0, by omega⟩
  refine rising_loop (by omega) (w.heap.size + 1 + 1) (w.heap.size + 1) m (some ⟨q, 0, none⟩) L ho (by omega) rfl (fun W hW => hAs W (hB0.trans (hW.mono hB0.size))) hs0.map bI ?_ (by omega)
    (fun i W => Ti w q m L i W) (fun _ _ _ => False) ?_ (fun i X Y hk hi => hi.kz (by omega) hb hk) (fun _ _ _ _ _ e => e) hT0
    (fun i => { tmps := #[pv q, .pointer (some ⟨w.heap.size, 0, none⟩), .slice none 0 0, .pointer (some ⟨w.heap.size + 1, 0, none⟩), .int .i64 (pd L i), uv (tc L i), pv q, .func (.func 27) #[] #[.pointer (some ⟨w.heap.size + 1 + 1, 0, none⟩)], .int .i64 (pd L i), uv (tc L i), undef, undef, undef, undef, undef, undef, undef, undef, undef, undef, undef, undef, undef, undef, undef, undef, undef, undef, undef], defers := [] })
    ?assign ?body ?done ?stop
  · rintro k (e | e | ⟨v, T, z, e1, e2⟩)
    · omega
    · have := hb k e.symm; omega
    · rw [show W0.heap[w.heap.size + 1]? = _ from bR] at e1
      cases e1
      cases e2
  · intro i X hi hT
    obtain ⟨b, rfl, h1, h2⟩ := hT.look ho hi
    exact ⟨q, rfl, h1, h2⟩
  case assign =>
    intro l i W K hK
    gi_wp2
    exact hK
  case body =>
    rintro l i W hlw hT hi
    have cS : W.cell? ⟨w.heap.size, 0, none⟩ = some (pv q) := hT.bs.cell 0
    have cq := Sv.cell hT.sv
    obtain ⟨b, rfl, h1, h2⟩ := hT.look ho hi
    have hw := wrap_down (tc_lt ho hi).1 (tc_lt ho hi).2
    by_cases h1 : tc L i = 1
    · obtain ⟨w1, v, w2, g', cap', w4, q1, ⟨q2, q2'⟩, q3, q4, q5, ⟨q6, q6'⟩, HE⟩ := hT.wake ho hl hi h1 (hb b rfl) hsz
      have d1 : ((tc L i : Int) == 1) = true := by rw [h1]; rfl
      have d2 : (tc L i == 1) = true := by rw [h1]; rfl
      replace HE := Lib.hid HE
      clear hT hs0 hT0 h1
      generalize tc L i = t at *
      generalize pd L i = p at *
      gi_wp2
      exact HE.out
    · obtain ⟨w1, q1, HE⟩ := hT.down ho hl hi h1 (hb b rfl) hsz
      have d1 : ((tc L i : Int) == 1) = false := by simp; omega
      have d2 : (tc L i == 1) = false := by simp; omega
      replace HE := Lib.hid HE
      clear hT hs0 hT0 h1
      generalize tc L i = t at *
      generalize pd L i = p at *
      gi_wp2
      exact HE.out
  case done =>
    rintro D W hD hT hK
    obtain ⟨v, r1, r2⟩ := hT.row
    have cR : W.cell? ⟨w.heap.size + 1, 0, none⟩ = some v := r1.cell 0
    have HT := Lib.hid hT
    have HR := Lib.hid r2
    clear hT r1 r2
    gi_wp2
    refine ⟨by simp, .inl ⟨_, _, rfl, run_takeDeferred hK, ?_⟩⟩
    have hk := Kz.putObj (B0 := W0.heap.size) hD hK rfl (.deferred none)
    have hT2 := HT.out.kz (B0 := W0.heap.size) (by omega) hb hk
    have hs2 := hT2.sv
    have hr2 := own_kz HR.out hk
    rw [List.take_length, List.drop_length, List.append_nil] at hs2
    rw [List.take_length] at hr2
    exact ⟨_, results_tmp rfl _ _ _, hT2.kp, hs2, _, rfl, own_base hr2 (by omega)⟩
  case stop =>
    rintro D c i W _ _ hx
    exact hx.elim
theorem tick_any {w : World} {q : Nat} {m : Option Nat} {L : St} (h : Sv w q m L) (ho : Ok L) (hl : L.length < 80000) :
    Calls Try.prog 10 #[pv q] w fun e w' => Kp (fr q m) w w' ∧ Sv w' q m (tkL L) ∧ ∃ u, e = .returned u ∧ w'.ownsRow w.heap.size 3 1 u (tkW L).length (ints (tkW L)) :=
  callsIn_wide.1 (tick_in 8 (Nat.le_refl _) h ho hl)
end Go.Proofs.Ytpblnjphkgilfaa.Slh
