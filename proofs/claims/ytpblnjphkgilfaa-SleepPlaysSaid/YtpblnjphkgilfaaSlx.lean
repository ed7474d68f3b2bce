/-
  The document's own Tick.
-/
import Derived.Test.YtpblnjphkgilfaaSlw
namespace Go.Proofs.Ytpblnjphkgilfaa.Slx
open Go Go.RowKit Go.Shelf Kit Bk Sla Slb Slc Sld Sle Slf Slg Slh Sli Slj Slk Sll Sln Slo Slp Slq Slr Sls Slv Slw
set_option linter.unusedVariables false
attribute [local go_sem ↓] app_wrap

/-- Two rows that are being made: those who wake, those who sleep on. -/
structure Gt (w W : World) (r : Nat) (D : St) (o : Value) (O : List Int) (u : Value) (E : St) : Prop where
  gb : Gb w W r D u E
  out : W.ownsRow w.heap.size 3 1 o O.length (ints O)
variable {w W : World} {r : Nat} {D E : St} {o u : Value} {O : List Int}
theorem Gt.alloc (h : Gt w W r D o O u E) (x : Obj) : Gt w (W.alloc x) r D o O u E := by
  have hb : Below W.heap.size W (W.alloc x) := (Below.refl _ _).alloc (Nat.le_refl _) _
  exact ⟨⟨h.gb.bel.trans (hb.mono h.gb.bel.size), h.gb.rs.below hb, own_below h.gb.row hb⟩, own_below h.out hb⟩
theorem Gt.wake (h : Gt w W r D o O u E) (hl : O.length ≤ 90000) (hr : Rs w r D) (p : Int) : ∃ o' w2, (appO #[37, 37] 37 #[o, .slice (some ⟨W.heap.size, 0, none⟩) 1 1]).run Try.prog (W.alloc (.cells #[.int .i64 p] 3)) = .ok o' w2 ∧ Gt w w2 r D o' (O ++ [p]) u E := by
  obtain ⟨g', cap', w2, q1, q2, q3⟩ := grow1 p h.out h.gb.bel.size hl
  have hb : Below w.heap.size w w2 := h.gb.bel.trans (q3.below h.gb.bel.size (fun j e => (own_cells h.out e).1))
  refine ⟨_, w2, q1, ⟨hb, hr.below hb, own_kept h.gb.row q3 (fun g hg e => ?_)⟩, ?_⟩
  · obtain ⟨_, cs, hc⟩ := own_cells h.gb.row hg
    obtain ⟨_, ds, hd⟩ := own_cells h.out e
    rw [hc] at hd
    cases hd
  · rw [List.length_append, ints_app]
    exact q2
theorem Gt.keep (h : Gt w W r D o O u E) (hl : E.length ≤ 90000) (hr : Rs w r D) (p : Int) (k : Nat) : ∃ u' w2, (appO #[28, 28] 28 #[u, .slice (some ⟨W.heap.size, 0, none⟩) 1 1]).run Try.prog (W.alloc (.cells #[.int .i64 p, uv k] 54)) = .ok u' w2 ∧ Gt w w2 r D o O u' (E ++ [(p, k)]) := by
  obtain ⟨u', w2, q1, q2, q3⟩ := grow2 p k h.gb.row h.gb.bel.size hl
  have hb : Below w.heap.size w w2 := h.gb.bel.trans (q3.below h.gb.bel.size (fun j e => (own_cells h.gb.row e).1))
  refine ⟨u', w2, q1, ⟨hb, hr.below hb, ?_⟩, own_kept h.out q3 (fun g hg e => ?_)⟩
  · rw [List.length_append, ics_app]
    simpa [ics] using q2
  · obtain ⟨_, cs, hc⟩ := own_cells h.out hg
    obtain ⟨_, ds, hd⟩ := own_cells h.gb.row e
    rw [hc] at hd
    cases hd
theorem Gt.done (h : Gt w W r D o O u E) (hr : r < w.heap.size) : Rs (W.setCell ⟨r, 0, none⟩ u) r E ∧ Kp (fun j => j = r) w (W.setCell ⟨r, 0, none⟩ u) ∧ (W.setCell ⟨r, 0, none⟩ u).ownsRow w.heap.size 3 1 o O.length (ints O) := by
  obtain ⟨h1, h2⟩ := h.gb.done hr
  exact ⟨h1, h2, own_kept h.out (Kp.set (S := fun j => j = r) _ _ _ _ rfl) (fun g e e2 => by have := (own_cells h.out e).1; omega)⟩
theorem len_tkW (L : St) : (tkW L).length ≤ L.length := by unfold tkW; rw [List.length_map]; exact List.length_filter_le _ _
set_option maxRecDepth 100000 in
set_option maxHeartbeats 2000000 in
theorem rtick_any (h : Rs w r D) (ho : Ok D) (hl : D.length ≤ 80000) : Calls Try.prog 12 #[pv r] w fun e w' => Rs w' r (tkL D) ∧ Kp (fun j => j = r) w w' ∧ ∃ u, e = .returned u ∧ w'.ownsRow w.heap.size 3 1 u (tkW D).length (ints (tkW D)) := by
  have HG : Hid (Gt w w r D (.slice none 0 0) [] (.slice none 0 0) []) := Lib.hid ⟨Gb.start h, World.ownsRow_nil _ _ _ _⟩
  have HR := Lib.hid h
  have HO := Lib.hid ho
  have hrl := h.lt
  have hlI : (D.length : Int) ≤ 80000 := by omega
  clear h ho
  go_enter Try.func12, Try.ntmps12
  go_wp2
  go_loopw [3, 4, 5] (fun ov u i wr => ∃ (j : Nat) (o' u' : Value), o' = ov ∧ u' = u ∧ j ≤ D.length ∧ i = .int .i64 (j : Int) ∧ Gt w wr r D o' (tkW (D.take j)) u' (tkL (D.take j))) (fun _ _ i _ => D.length - (intOf i).toNat)
  case atStart => exact ⟨0, _, _, rfl, rfl, Nat.zero_le _, rfl, HG.out⟩
  case round =>
    obtain ⟨j, o', u', rfl, rfl, hj, rfl, hg⟩ := hrel
    obtain ⟨a, c, hc, ⟨hc1, hc2⟩, hrow⟩ := hg.gb.rs.open
    by_cases hlt : j < D.length
    · have hltI : (j : Int) < (D.length : Int) := by omega
      obtain ⟨g, rfl, c0, c1⟩ := hrow j hlt
      have hw := wrap_down (tc_lt HO.out hlt).1 (tc_lt HO.out hlt).2
      have h1 := (tc_lt HO.out hlt).1
      have hnx := tk_next hlt
      have hga := hg.alloc (.cells #[.int .i64 (pd D j), uv (tc D j - 1)] 54)
      have hl1 : (tkW (D.take j)).length ≤ 90000 := by have := len_tkW (D.take j); rw [List.length_take] at this; omega
      have hl2 : (tkL (D.take j)).length ≤ 90000 := by have := len_tkL (D.take j); rw [List.length_take] at this; omega
      by_cases ht : tc D j = 1
      · have d1 : (((tc D j - 1 : Nat) : Int) == 0) = true := by rw [ht]; rfl
        have d2 : (tc D j - 1 == 0) = true := by rw [ht]; rfl
        obtain ⟨o2, w2, q1, hg2⟩ := hga.wake hl1 HR.out (pd D j)
        rw [World.size_alloc] at q1
        have HGn : Hid (Gt w w2 r D o2 (tkW (D.take (j + 1))) u' (tkL (D.take (j + 1)))) := Lib.hid (by rw [hnx.1, hnx.2, if_pos ht, if_pos ht, List.append_nil]; exact hg2)
        clear ht h1 hnx hg hga hg2 hl1 hl2 hrow hc1 hc2
        generalize htt : tc D j - 1 = t1 at *
        generalize tc D j = t at *
        generalize pd D j = x at *
        clear htt
        go_wp2
        go_roundw
        case rel => exact ⟨j + 1, _, _, rfl, rfl, by omega, by go_num, HGn.out⟩
        case measure => simp [intOf]; omega
      · have d1 : (((tc D j - 1 : Nat) : Int) == 0) = false := by simp; omega
        have d2 : (tc D j - 1 == 0) = false := by simp; omega
        obtain ⟨u2, w2, q1, hg2⟩ := hga.keep hl2 HR.out (pd D j) (tc D j - 1)
        rw [World.size_alloc] at q1
        have HGn : Hid (Gt w w2 r D o' (tkW (D.take (j + 1))) u2 (tkL (D.take (j + 1)))) := Lib.hid (by rw [hnx.1, hnx.2, if_neg ht, if_neg ht, List.append_nil]; exact hg2)
        clear ht h1 hnx hg hga hg2 hl1 hl2 hrow hc1 hc2
        generalize htt : tc D j - 1 = t1 at *
        generalize tc D j = t at *
        generalize pd D j = x at *
        clear htt
        go_wp2
        go_roundw
        case rel => exact ⟨j + 1, _, _, rfl, rfl, by omega, by go_num, HGn.out⟩
        case measure => simp [intOf]; omega
    · obtain rfl : j = D.length := by omega
      rw [List.take_length] at hg
      obtain ⟨ua, uc, rfl⟩ := own_form hg.gb.row
      have HE := Lib.hid (hg.done hrl)
      have hf : wr.frozen? ⟨r, 0, none⟩ = false := by obtain ⟨v, h1, _⟩ := hg.gb.rs; exact h1.free 0
      clear hg hrow hc1 hc2
      go_wp2
      go_ret
      exact ⟨HE.out.1, HE.out.2.1, _, rfl, HE.out.2.2⟩
end Go.Proofs.Ytpblnjphkgilfaa.Slx
