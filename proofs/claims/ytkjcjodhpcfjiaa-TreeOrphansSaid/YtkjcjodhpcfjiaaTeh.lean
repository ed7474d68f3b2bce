/-
  Children; within; Tree.
-/
import Derived.Test.YtkjcjodhpcfjiaaTeg
namespace Go.Proofs.Ytkjcjodhpcfjiaa.Teh
open Go Go.RowKit Go.Shelf Kit Bk Tea Teb Tec Ted Tee Tef Teg
set_option linter.unusedVariables false
attribute [local go_sem] Oper.semAt_some
attribute [local go_sem ↓] app_wrap

variable {B : Nat} {w : World} {q b : Nat} {v : Value} {rm : Nat} {L : St} {S : List Bool} {p : Int}
theorem kids_next {i : Nat} (hi : i < (kl L p).length) : (kids L p).take (i + 1) = (kids L p).take i ++ [pd (kl L p) i] := by
  rw [kids_kl, List.take_succ_eq_append_getElem (by simpa [pids] using hi), pd_at hi]
  simp [pids]
theorem kl_len (L : St) (p : Int) : (kids L p).length = (kl L p).length := by simp [kids_kl, pids]
theorem kl_le (L : St) (p : Int) : (kl L p).length ≤ L.length := List.length_filter_le _ _
set_option maxRecDepth 100000 in
set_option maxHeartbeats 4000000 in
theorem kids_in (n : Nat) (hn : 8 ≤ n) (h : Tb B w q b v rm L S) (ho : Ok L) (hl : L.length < 80000) :
    CallsIn Fence.wide n Try.prog 21 #[pv q, .int .i64 p] w fun e w' => Below w.heap.size w w' ∧ ∃ u, e = .returned u ∧ w'.ownsRow w.heap.size 3 1 u (kids L p).length (ints (kids L p)) := by
  have hfr := h.fr_lt
  have hkl := kl_le L p
  refine callsIn_of_wp_marks Try.func21 rfl trivial ?_ rfl
  simp only [Try.ntmps21, List.size_toArray, List.length_cons, List.length_nil, Nat.reduceAdd, Nat.reduceSub, Array.replicate_succ, Array.replicate_zero, List.push_toArray, List.append_toArray, List.nil_append, List.cons_append]
  gi_wp2_with (first | (refine ⟨trivial, ?_⟩; gi_at_call 28; refine (children_in (n - 1) _ _ _).mono ?_; rintro e w' ⟨rfl, rfl⟩) | (refine ⟨trivial, fun _ => (by omega), ?_⟩; gi_at_call 28; refine (children_in (n - 1) _ _ _).mono ?_; rintro e w' ⟨rfl, rfl⟩))
  have b1 := (Below.refl w.heap.size w).alloc (Nat.le_refl _) (.cells #[.slice none 0 0] 24)
  have b2 := b1.alloc b1.size (.cells #[pv q] 22)
  have hB0 := b2.alloc b2.size (.cells #[.int .i64 p] 3)
  have bR := ((Boxed.new w 24 (.slice none 0 0)).alloc (.cells #[pv q] 22)).alloc (.cells #[.int .i64 p] 3)
  have bT := (Boxed.new (w.alloc (.cells #[.slice none 0 0] 24)) 22 (pv q)).alloc (.cells #[.int .i64 p] 3)
  have bP := Boxed.new ((w.alloc (.cells #[.slice none 0 0] 24)).alloc (.cells #[pv q] 22)) 3 (.int .i64 p)
  have hsz : (((w.alloc (.cells #[.slice none 0 0] 24)).alloc (.cells #[pv q] 22)).alloc (.cells #[.int .i64 p] 3)).heap.size = w.heap.size + 3 := by simp
  have hrow0 := World.ownsRow_nil (((w.alloc (.cells #[.slice none 0 0] 24)).alloc (.cells #[pv q] 22)).alloc (.cells #[.int .i64 p] 3)) (w.heap.size + 3) 3 1
  simp only [World.size_alloc] at bT bP ⊢
  obtain ⟨W0, hW0⟩ : ∃ W0, ((w.alloc (.cells #[.slice none 0 0] 24)).alloc (.cells #[pv q] 22)).alloc (.cells #[.int .i64 p] 3) = W0 := ⟨_, rfl⟩
  clear b1 b2
  rw [hW0] at bR bT bP hB0 hsz hrow0 ⊢
  clear hW0
  have hT0 : Ro B w w.heap.size (w.heap.size + 3) q b v rm L S ((kids L p).take 0) W0 := ⟨⟨_, bR, hrow0⟩, h.below hB0, hB0, by omega⟩
  have hb0 := h.map.lt
  have hmine : ∀ X, Below W0.heap.size W0 X → ∀ k, Mine (fun k => k = w.heap.size) b X k → k = w.heap.size ∨ k = b := fun X hX k e => by
    rcases e with e | e | ⟨g2, rfl, v', T, z, e1, e2⟩
    · exact .inl e
    · exact .inr e
    · rw [hX.block _ bR.lt, show W0.heap[w.heap.size]? = _ from bR] at e1
      cases e1
      cases e2
  refine tells_loop (by omega) eg_children (c := (kl L p).length) (v1 := fun i => .int .i64 (pd (kl L p) i)) (v2 := fun i => rv (rc (kl L p) i)) (E := Ec q b L p) (P := fun k => k = w.heap.size) (b := b) (fv := #[.pointer (some ⟨w.heap.size + 1, 0, none⟩), .pointer (some ⟨w.heap.size + 1 + 1, 0, none⟩)]) rfl (fun k hk => by omega)
    (fun W1 hW1 hs1 => children_tells (h.below (hB0.trans (hW1.mono hB0.size))) ho.up (by omega) ((hW1.block _ bT.lt).trans bT) ((hW1.block _ bP.lt).trans bP) (fun k hk => by
      have := hmine W1 hW1 k hk
      omega))
    (fun i X => Ro B w w.heap.size (w.heap.size + 3) q b v rm L S ((kids L p).take i) X) (fun _ _ _ => False)
    (fun i X hi k hk => Tb.er hi.tb ho k) (fun i X Y hk hi => hi.kz (by omega) (by omega) hk) (fun _ _ _ _ _ e => e)
    (fun s0 i a' X => a' = { tmps := #[pv q, .int .i64 p, undef, undef, .slice none 0 0, .pointer (some ⟨w.heap.size, 0, none⟩), .int .i64 (pd (kl L p) i), pv q, .int .i64 p, .func (.func 40) #[] #[.pointer (some ⟨w.heap.size + 1, 0, none⟩), .pointer (some ⟨w.heap.size + 1 + 1, 0, none⟩)], .int .i64 (pd (kl L p) i), rv (rc (kl L p) i), undef, undef, undef, undef, undef], defers := [] })
    (fun _ _ _ _ _ _ e => e) hT0 ?assign ?body ?done ?stop
  case assign =>
    intro l i W K _ _ _ hK
    gi_wp2
    exact hK _ _ (Below.refl _ _) rfl
  case body =>
    rintro l i s0 a' W hlw hT rfl hi _ _
    have hti := kids_next hi
    have hlen : ((kids L p).take i).length = i := by rw [List.length_take, kl_len]; omega
    obtain ⟨u, g', cap', w4, q1, q2, ⟨q3, q4⟩, HE⟩ := hT.push (B0 := W0.heap.size) (by rw [hlen]; omega) (pd (kl L p) i) (Nat.le_refl _) (by omega) (by omega) hfr
    rw [← hti] at HE
    rw [hlen] at q2 HE
    replace HE := Lib.hid HE
    clear hT hT0 hti hlen hmine
    generalize rv (rc (kl L p) i) = x at *
    generalize pd (kl L p) i = y at *
    gi_wp2
    exact ⟨HE.out.1, StayB.of HE.out.2.1, HE.out.2.2⟩
  case done =>
    rintro D W hD hT hK
    rw [← kl_len, List.take_length] at hT
    obtain ⟨u, r1, r2⟩ := hT.row
    have cR : W.cell? ⟨w.heap.size, 0, none⟩ = some u := r1.cell 0
    have HT := Lib.hid hT
    have HR := Lib.hid r2
    clear hT r1 r2 hmine
    gi_wp2
    refine ⟨by simp, .inl ⟨_, _, rfl, run_takeDeferred hK, ?_⟩⟩
    have hk := Kz.putObj (B0 := W0.heap.size) hD hK rfl (.deferred none)
    exact ⟨_, results_tmp rfl _ _ _, (HT.out.kz (B0 := W0.heap.size) (by omega) (by omega) hk).bel, _, rfl, own_base (own_kz HR.out hk) (by omega)⟩
  case stop =>
    rintro D c i W _ _ hx
    exact hx.elim
theorem kids_any (h : Tb B w q b v rm L S) (ho : Ok L) (hl : L.length < 80000) :
    Calls Try.prog 21 #[pv q, .int .i64 p] w fun e w' => Below w.heap.size w w' ∧ ∃ u, e = .returned u ∧ w'.ownsRow w.heap.size 3 1 u (kids L p).length (ints (kids L p)) :=
  callsIn_wide.1 (kids_in 8 (Nat.le_refl _) h ho hl)

set_option maxRecDepth 100000 in
set_option maxHeartbeats 2000000 in
theorem within_any {top : Int} (h : Tb B w q b v rm L S) (ho : Ok L) (hp : hs L p = true) :
    Calls Try.prog 39 #[pv q, .int .i64 p, .int .i64 top] w fun e w' => e = .returned (.bool (wi L top p)) ∧ w = w' := by
  obtain ⟨dp, d0, d1, d2, _⟩ := ho.depth
  have HP := Lib.hid (fun (z : Int) (hz : (Lit.int .i64 z).wf = true) => parent_any h hz)
  have HO := Lib.hid ho
  have H1 := Lib.hid d1
  have H2 := Lib.hid d2
  have HW : Hid (hs L p = true) := Lib.hid hp
  clear h ho d1 d2 hp
  go_enter Try.func39, Try.ntmps39
  go_wp2
  go_loopw [1] (fun i wr => ∃ z : Int, i = .int .i64 z ∧ (z = 0 ∨ hs L z = true) ∧ wi L top z = wi L top p ∧ w = wr) (fun i _ => dp (intOf i))
  case atStart => exact ⟨p, rfl, .inr HW.out, rfl, rfl⟩
  case round =>
    obtain ⟨z, rfl, hz, hwi, rfl⟩ := hrel
    by_cases ht : z = top
    · subst ht
      have HE : Hid (wi L z p = true) := Lib.hid (by
        rw [← hwi]
        rcases hz with rfl | hz
        · rw [wi_zero HO.out]; rfl
        · exact wi_self HO.out hz)
      clear hwi hz
      go_wp2
      go_ret
      exact ⟨by rw [HE.out]; rfl, rfl⟩
    · have d3 : (z != top) = true := by simpa using ht
      have d3' : (z == top) = false := by simpa using ht
      by_cases h0 : z = 0
      · subst h0
        have HE : Hid (wi L top p = false) := Lib.hid (by rw [← hwi, wi_zero HO.out]; simpa using ht)
        clear hwi hz ht
        go_wp2
        go_ret
        exact ⟨by rw [HE.out]; rfl, rfl⟩
      · have d4 : (z != 0) = true := by simpa using h0
        have hz2 : hs L z = true := hz.resolve_left h0
        have hbd := HO.out.pid z hz2
        have HPz := Lib.hid (HP.out z (wf64 (by omega)))
        have HE : Hid (((gt L z).par = 0 ∨ hs L (gt L z).par = true) ∧ wi L top (gt L z).par = wi L top p) := Lib.hid ⟨HO.out.par_in hz2, by rw [← hwi, wi_in HO.out top hz2, d3', Bool.false_or]⟩
        have HM := Lib.hid (H2.out z hz2)
        clear hwi hz ht h0 hz2 hbd
        generalize (gt L z).par = y at *
        go_wp2_with (go_at_call 24; (with_reducible refine HPz.out.mono ?_); rintro e w1 ⟨rfl, rfl⟩)
        go_roundw
        case rel => exact ⟨y, rfl, HE.out.1, HE.out.2, trivial⟩
        case measure => exact HM.out

/-- The tree, as far as it has gone. -/
def tl (L : St) (p : Int) (i : Nat) : List Int := pids ((L.take i).filter fun x => wi L p x.1)
theorem tl_yes {i : Nat} (hi : i < L.length) (h : wi L p (pd L i) = true) : tl L p (i + 1) = tl L p i ++ [pd L i] := by
  unfold tl
  rw [List.take_succ_eq_append_getElem hi, List.filter_append]
  rw [pd_at hi] at h ⊢
  simp [pids, h]
theorem tl_no {i : Nat} (hi : i < L.length) (h : wi L p (pd L i) = false) : tl L p (i + 1) = tl L p i := by
  unfold tl
  rw [List.take_succ_eq_append_getElem hi, List.filter_append]
  rw [pd_at hi] at h
  simp [pids, h]
theorem tl_all (h : hs L p = true) : tl L p L.length = tr L p := by unfold tl tr; rw [List.take_length, if_pos h]
theorem tl_len (i : Nat) : (tl L p i).length ≤ i := by
  unfold tl pids
  rw [List.length_map]
  exact Nat.le_trans (List.length_filter_le _ _) (List.length_take_le _ _)
theorem tr_none (h : hs L p = false) : tr L p = [] := by unfold tr; rw [if_neg (by rw [h]; decide)]

set_option maxRecDepth 100000 in
set_option maxHeartbeats 4000000 in
theorem tree_no (h : Tb B w q b v rm L S) (ho : Ok L) (hp : (Lit.int .i64 p).wf = true) (hn : hs L p = false) :
    Calls Try.prog 22 #[pv q, .int .i64 p] w fun e w' => e = .returned (.slice none 0 0) ∧ Below w.heap.size w w' := by
  have b1 := (Below.refl w.heap.size w).alloc (Nat.le_refl _) (.cells #[pv q] 22)
  have b2 := b1.alloc b1.size (.cells #[.int .i64 p] 3)
  have b3 := b2.alloc b2.size (.cells #[.slice none 0 0] 24)
  have hS := state_any (h.below b3) hp
  rw [(ho.st0 p).1 hn] at hS
  have HS := Lib.hid hS
  have HB := Lib.hid b3
  clear h ho hn hp b1 b2 b3 hS
  go_enter Try.func22, Try.ntmps22
  go_wp2_with (go_at_call 25; (with_reducible refine HS.out.mono ?_); rintro e w' ⟨rfl, rfl⟩)
  go_ret
  exact ⟨rfl, HB.out⟩
set_option maxRecDepth 100000 in
set_option maxHeartbeats 4000000 in
theorem tree_in (n : Nat) (hn : 8 ≤ n) (h : Tb B w q b v rm L S) (ho : Ok L) (hl : L.length < 80000) (hp : hs L p = true) :
    CallsIn Fence.wide n Try.prog 22 #[pv q, .int .i64 p] w fun e w' => Below w.heap.size w w' ∧ ∃ u, e = .returned u ∧ w'.ownsRow w.heap.size 3 1 u (tr L p).length (ints (tr L p)) := by
  have hfr := h.fr_lt
  have hpb := ho.pid p hp
  have hb1 := (Below.refl w.heap.size w).alloc (Nat.le_refl _) (.cells #[pv q] 22)
  have hb2 := hb1.alloc hb1.size (.cells #[.int .i64 p] 3)
  have hb3 := hb2.alloc hb2.size (.cells #[.slice none 0 0] 24)
  have HS := Lib.hid (state_any (h.below hb3) (wf64 (p := p) (by omega)))
  have hst := (ho.st p hp).1
  have dst : ((gt L p).st == 0) = false := beq_eq_false_iff_ne.2 (by omega)
  refine callsIn_of_wp_marks Try.func22 rfl trivial ?_ rfl
  simp only [Try.ntmps22, List.size_toArray, List.length_cons, List.length_nil, Nat.reduceAdd, Nat.reduceSub, Array.replicate_succ, Array.replicate_zero, List.push_toArray, List.append_toArray, List.nil_append, List.cons_append]
  gi_wp2_with (first
    | (refine ⟨trivial, ?_⟩; gi_at_call 25; refine (callsIn_wide.2 HS.out).mono ?_; rintro e w' ⟨rfl, rfl⟩)
    | (refine ⟨trivial, fun _ => (by omega), ?_⟩; gi_at_call 25; refine (callsIn_wide.2 HS.out).mono ?_; rintro e w' ⟨rfl, rfl⟩)
    | (refine ⟨trivial, ?_⟩; gi_at_call 38; refine (rising_in (n - 1) _ _).mono ?_; rintro e w' ⟨rfl, rfl⟩)
    | (refine ⟨trivial, fun _ => (by omega), ?_⟩; gi_at_call 38; refine (rising_in (n - 1) _ _).mono ?_; rintro e w' ⟨rfl, rfl⟩))
  clear HS
  have hB0 := hb3.alloc hb3.size (.cells #[pv q] 22)
  have bT := (((Boxed.new w 22 (pv q)).alloc (.cells #[.int .i64 p] 3)).alloc (.cells #[.slice none 0 0] 24)).alloc (.cells #[pv q] 22)
  have bP := ((Boxed.new (w.alloc (.cells #[pv q] 22)) 3 (.int .i64 p)).alloc (.cells #[.slice none 0 0] 24)).alloc (.cells #[pv q] 22)
  have bR := (Boxed.new ((w.alloc (.cells #[pv q] 22)).alloc (.cells #[.int .i64 p] 3)) 24 (.slice none 0 0)).alloc (.cells #[pv q] 22)
  have bI := Boxed.new (((w.alloc (.cells #[pv q] 22)).alloc (.cells #[.int .i64 p] 3)).alloc (.cells #[.slice none 0 0] 24)) 22 (pv q)
  have hsz : ((((w.alloc (.cells #[pv q] 22)).alloc (.cells #[.int .i64 p] 3)).alloc (.cells #[.slice none 0 0] 24)).alloc (.cells #[pv q] 22)).heap.size = w.heap.size + 4 := by simp
  have hrow0 := World.ownsRow_nil ((((w.alloc (.cells #[pv q] 22)).alloc (.cells #[.int .i64 p] 3)).alloc (.cells #[.slice none 0 0] 24)).alloc (.cells #[pv q] 22)) (w.heap.size + 4) 3 1
  simp only [World.size_alloc] at bP bR bI ⊢
  obtain ⟨W0, hW0⟩ : ∃ W0, (((w.alloc (.cells #[pv q] 22)).alloc (.cells #[.int .i64 p] 3)).alloc (.cells #[.slice none 0 0] 24)).alloc (.cells #[pv q] 22) = W0 := ⟨_, rfl⟩
  clear hb1 hb2 hb3
  rw [hW0] at bT bP bR bI hB0 hsz hrow0 ⊢
  clear hW0
  have hT0 : Ro B w (w.heap.size + 1 + 1) (w.heap.size + 4) q b v rm L S (tl L p 0) W0 := ⟨⟨_, bR, hrow0⟩, h.below hB0, hB0, by omega⟩
  have hb0 := h.map.lt
  have hmine : ∀ X, Below W0.heap.size W0 X → ∀ k, Mine (fun k => k = w.heap.size + 1 + 1) b X k → k = w.heap.size + 1 + 1 ∨ k = b := fun X hX k e => by
    rcases e with e | e | ⟨g2, rfl, v', T, z, e1, e2⟩
    · exact .inl e
    · exact .inr e
    · rw [hX.block _ bR.lt, show W0.heap[w.heap.size + 1 + 1]? = _ from bR] at e1
      cases e1
      cases e2
  have xT : Bx (fun k => k = w.heap.size + 1 + 1) b W0 w.heap.size 22 (pv q) := ⟨bT, fun e => by have := hmine W0 (Below.refl _ _) _ e; omega⟩
  have xP : Bx (fun k => k = w.heap.size + 1 + 1) b W0 (w.heap.size + 1) 3 (.int .i64 p) := ⟨bP, fun e => by have := hmine W0 (Below.refl _ _) _ e; omega⟩
  refine tells_loop (by omega) eg_rising (c := L.length) (v1 := fun i => .int .i64 (pd L i)) (v2 := fun i => rv (rc L i)) (E := Er q b L) (P := fun k => k = w.heap.size + 1 + 1) (b := b) (fv := #[.pointer (some ⟨w.heap.size + 1 + 1 + 1, 0, none⟩)]) rfl (fun k hk => by omega)
    (fun W1 hW1 hs1 => rising_tells (h.below (hB0.trans (hW1.mono hB0.size))) ho.up (by omega) ((hW1.block _ bI.lt).trans bI) (fun k hk => by
      have := hmine W1 hW1 k hk
      omega))
    (fun i X => Ro B w (w.heap.size + 1 + 1) (w.heap.size + 4) q b v rm L S (tl L p i) X ∧ Bx (fun k => k = w.heap.size + 1 + 1) b X w.heap.size 22 (pv q) ∧ Bx (fun k => k = w.heap.size + 1 + 1) b X (w.heap.size + 1) 3 (.int .i64 p)) (fun _ _ _ => False)
    (fun i X hi => Tb.er hi.1.tb ho i) (fun i X Y hk hi => ⟨hi.1.kz (by omega) (by omega) hk, hi.2.1.kz hk (fun k e => by have := hi.1.lo; omega), hi.2.2.kz hk (fun k e => by have := hi.1.lo; omega)⟩) (fun _ _ _ _ _ e => e)
    (fun s0 i a' X => a' = { tmps := #[pv q, .int .i64 p, .pointer (some ⟨w.heap.size, 0, none⟩), .pointer (some ⟨w.heap.size + 1, 0, none⟩), .slice none 0 0, .pointer (some ⟨w.heap.size + 1 + 1, 0, none⟩), .int .i64 (pd L i), pv q, .int .i64 p, .int .i64 (gt L p).st, .bool false, undef, pv q, .func (.func 44) #[] #[.pointer (some ⟨w.heap.size + 1 + 1 + 1, 0, none⟩)], .int .i64 (pd L i), rv (rc L i), undef, undef, undef, undef, undef, undef, undef, undef, undef], defers := [] })
    (fun _ _ _ _ _ _ e => e) ⟨hT0, xT, xP⟩ ?assign ?body ?done ?stop
  case assign =>
    intro l i W K _ _ _ hK
    gi_wp2
    exact hK _ _ (Below.refl _ _) rfl
  case body =>
    rintro l i s0 a' W hlw ⟨hT, xTi, xPi⟩ rfl hi _ _
    have cT := xTi.1.cell
    have cP := xPi.1.cell
    have HX := Lib.hid (And.intro xTi xPi)
    have hlen := tl_len (L := L) (p := p) i
    cases hw : wi L p (pd L i)
    · have HN := within_any (top := p) hT.tb ho (pd_in ho.up hi).1
      rw [hw] at HN
      have HN2 := Lib.hid HN
      have ht := tl_no hi hw
      rw [← ht] at hT
      have HE := Lib.hid hT
      clear hT hT0 ht hlen hmine xTi xPi xT xP bT bP bR bI HN hw dst hst
      generalize rv (rc L i) = x at *
      generalize pd L i = y at *
      generalize (gt L p).st = z at *
      gi_wp2_with (first
        | (refine ⟨trivial, ?_⟩; gi_at_call 39; refine (CallsIn.inRound l (callsIn_wide.2 HN2.out)).mono ?_; rintro e w9 ⟨rfl, rfl⟩)
        | (refine ⟨trivial, fun _ => (by omega), ?_⟩; gi_at_call 39; refine (CallsIn.inRound l (callsIn_wide.2 HN2.out)).mono ?_; rintro e w9 ⟨rfl, rfl⟩))
      exact ⟨KeepsFrom.refl _ _, StayB.of (Stay.refl _ _ _), HE.out, HX.out.1, HX.out.2⟩
    · have HN := within_any (top := p) hT.tb ho (pd_in ho.up hi).1
      rw [hw] at HN
      have HN2 := Lib.hid HN
      have ht := tl_yes hi hw
      obtain ⟨u, g', cap', w4, q1, q2, ⟨q3, q4⟩, e1, e2, e3⟩ := hT.push (B0 := W0.heap.size) (by omega) (pd L i) (by omega) (by omega) (by omega) hfr
      rw [← ht] at e3
      have HE := Lib.hid (And.intro e1 (And.intro e2 (And.intro e3 (And.intro (xTi.stay e2) (xPi.stay e2)))))
      clear hT hT0 ht hmine xTi xPi xT xP bT bP bR bI HN hw dst hst e1 e2 e3
      generalize (tl L p i).length = m at *
      generalize rv (rc L i) = x at *
      generalize pd L i = y at *
      generalize (gt L p).st = z at *
      gi_wp2_with (first
        | (refine ⟨trivial, ?_⟩; gi_at_call 39; refine (CallsIn.inRound l (callsIn_wide.2 HN2.out)).mono ?_; rintro e w9 ⟨rfl, rfl⟩)
        | (refine ⟨trivial, fun _ => (by omega), ?_⟩; gi_at_call 39; refine (CallsIn.inRound l (callsIn_wide.2 HN2.out)).mono ?_; rintro e w9 ⟨rfl, rfl⟩))
      exact ⟨HE.out.1, StayB.of HE.out.2.1, HE.out.2.2⟩
  case done =>
    rintro D W hD ⟨hT, -, -⟩ hK
    rw [tl_all hp] at hT
    obtain ⟨u, r1, r2⟩ := hT.row
    have cR : W.cell? ⟨w.heap.size + 1 + 1, 0, none⟩ = some u := r1.cell 0
    have HT := Lib.hid hT
    have HR := Lib.hid r2
    clear hT r1 r2 hmine dst hst
    generalize (gt L p).st = z at *
    gi_wp2
    refine ⟨by simp, .inl ⟨_, _, rfl, run_takeDeferred hK, ?_⟩⟩
    have hk := Kz.putObj (B0 := W0.heap.size) hD hK rfl (.deferred none)
    exact ⟨_, results_tmp rfl _ _ _, (HT.out.kz (B0 := W0.heap.size) (by omega) (by omega) hk).bel, _, rfl, own_base (own_kz HR.out hk) (by omega)⟩
  case stop =>
    rintro D c i W _ _ hx
    exact hx.elim
theorem tree_any (h : Tb B w q b v rm L S) (ho : Ok L) (hl : L.length < 80000) (hp : (Lit.int .i64 p).wf = true) :
    Calls Try.prog 22 #[pv q, .int .i64 p] w fun e w' => Below w.heap.size w w' ∧ ∃ u, e = .returned u ∧ w'.ownsRow w.heap.size 3 1 u (tr L p).length (ints (tr L p)) := by
  cases hs : hs L p
  · refine (tree_no h ho hp hs).mono ?_
    rintro e w' ⟨rfl, hb⟩
    rw [tr_none hs]
    exact ⟨hb, _, rfl, own_base (World.ownsRow_nil w' w'.heap.size 3 1) hb.size⟩
  · exact callsIn_wide.1 (tree_in 8 (Nat.le_refl _) h ho hl hs)
end Go.Proofs.Ytkjcjodhpcfjiaa.Teh
