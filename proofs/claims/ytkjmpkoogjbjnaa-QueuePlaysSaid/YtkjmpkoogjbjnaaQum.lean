/-
  Sort, All; a list that was answered, as a row.
-/
import Derived.Test.YtkjmpkoogjbjnaaQul
namespace Go.Proofs.Ytkjmpkoogjbjnaa.Qum
open Go Go.RowKit Go.Shelf Kit Bk Qua Qub Quc Qud Que Quf Qug Quh Qui Quj Quk Qul
set_option linter.unusedVariables false
attribute [local go_sem ↓] app_wrap

theorem srt_len (x : List Int) : (srt x).length = x.length := List.length_mergeSort x
theorem srt_perm (x : List Int) : (srt x).Perm x := List.mergeSort_perm x _
theorem sort_any (w : World) (v : Value) (G : Option Nat) (x : List Int) (h : Rw w v G x) (hl : x.length ≤ 90000) :
    Calls Try.prog 39 #[v] w fun e w' => e = .returned (.tuple #[]) ∧ Rw w' v G (srt x) ∧ Kp (fun j => some j = G) w w' := by
  rcases h with ⟨rfl, rfl, rfl⟩ | ⟨g, o, cap, cs, rfl, rfl, hb, h1, h2, h3, h4⟩
  · refine (Shl.slices_Sort_int_none none 0 w).mono ?_
    rintro e w' ⟨rfl, rfl⟩
    exact ⟨rfl, .inl ⟨rfl, by simp [srt], rfl⟩, Kp.refl _ _⟩
  · refine (Shl.slices_Sort_int g o cap x w (Rw.holds hb h4) hb.lt (by omega)).mono ?_
    rintro e w' ⟨rfl, n, os, rfl⟩
    have hk := put_kp w n g o (srt x).toArray
    have hb2 := put_blk w n g o (srt x).toArray hb
    have hg : Kp (fun _ => False) (Sort.putRow (Value.int .i64) (Sort.ahead w n) g o (srt x).toArray) (Sort.grow (Sort.putRow (Value.int .i64) (Sort.ahead w n) g o (srt x).toArray) os) :=
      ⟨rfl, rfl, rfl, by simp [Sort.grow], fun k hk _ => Sort.heap_grow_old _ _ hk⟩
    refine ⟨rfl, .inr ⟨g, o, cap, _, by rw [srt_len], rfl, hb2.kept hg (fun e => e), by rw [srt_len]; exact h1, h2, by simp [Sort.putCells]; exact h3, fun i hi => ?_⟩, (hk.mono (fun j _ e => by rw [e])).trans hg (fun j e => e.elim)⟩
    rw [put_at' o _ cs i (by simpa using hi) (by rw [srt_len] at hi; omega)]
    congr 2
    simp [List.getD, hi]
theorem all_nil (w : World) : Calls Try.prog 22 #[.pointer none] w fun e w' => e = .returned (.slice none 0 0) ∧ w = w' := by
  go_enter Try.func22, Try.ntmps22
  go_wp2
  go_ret
  exact ⟨rfl, rfl⟩
theorem all_any (w : World) (q c : Nat) (S : Nat → Prop) (l : Ls) (h : Qs w q S c l) (hl : (flat l).length ≤ 90000) :
    Calls Try.prog 22 #[pv q] w fun e w' => Below w.heap.size w w' ∧ ∃ u G, e = .returned u ∧ Rw w' u G (al l) ∧ ∀ g, G = some g → w.heap.size ≤ g := by
  obtain ⟨vs, G, h⟩ := h
  have HC := Lib.hid (concat_any w q c S l vs G h hl)
  have HS : Hid (∀ (w1 : World) (u : Value) (G' : Option Nat), Below w.heap.size w w1 → Rw w1 u G' (flat l) → (∀ g, G' = some g → w.heap.size ≤ g) → Calls Try.prog 39 #[u] w1 fun e w' => e = .returned (.tuple #[]) ∧ Hid (Below w.heap.size w w' ∧ Rw w' u G' (al l) ∧ ∀ g, G' = some g → w.heap.size ≤ g)) := Lib.hid (fun w1 u G' hb hr hg => (sort_any w1 u G' _ hr hl).mono (by
    rintro e w' ⟨rfl, h1, h2⟩
    exact ⟨rfl, Lib.hid ⟨hb.trans (h2.below hb.size (fun i e => hg i e.symm)), h1, hg⟩⟩))
  clear h hl
  go_enter Try.func22, Try.ntmps22
  go_wp2_with (first | (go_at_call 38; (with_reducible refine HC.out.mono ?_); rintro e w1 ⟨hb, u, G', rfl, hr, hg⟩; have HD := Lib.hid (HS.out w1 u G' hb hr hg); clear hb hr hg) | (go_at_call 39; (with_reducible refine HD.out.mono ?_); rintro e w2 ⟨rfl, HE⟩))
  go_ret
  exact ⟨HE.out.1, _, G', rfl, HE.out.2.1, HE.out.2.2⟩

theorem own_rw {w : World} {B : Nat} {u : Value} {x : List Int} (h : w.ownsRow B 3 1 u x.length (ints x)) : ∃ G, Rw w u G x ∧ ∀ g, G = some g → B ≤ g := by
  have hh := id h
  rcases h.2 with ⟨rfl, h0⟩ | ⟨g, cap, cur, rfl, hg, hb, h3, h4, h5, h6⟩
  · exact ⟨none, .inl ⟨rfl, List.eq_nil_of_length_eq_zero h0, rfl⟩, fun g e => (by cases e)⟩
  · refine ⟨some g, .inr ⟨g, 0, cap, cur, rfl, rfl, hb, h3, h4, by omega, fun i hi => ?_⟩, fun g' e => by cases e; exact hg⟩
    have hb' : Blk w g cur 3 := hb
    rw [Nat.zero_add, ← hb'.cell i, World.ownsRow.cellAt hh i (by omega), ints_get _ _ hi]
theorem list_row (w : World) (q c : Nat) (S : Nat → Prop) (l : Ls) (h : Qs w q S c l) (hl : ∀ k, (l k).length ≤ 90000) (z : Int) : Calls Try.prog 24 #[pv q, .int .i64 z] w fun e w' => Below w.heap.size w w' ∧ ∃ u G, e = .returned u ∧ Rw w' u G (lst c l z) ∧ ∀ g, G = some g → w.heap.size ≤ g :=
  (qlist_any h hl z).mono (by
    rintro e w' ⟨hb, u, rfl, ho⟩
    obtain ⟨G, h1, h2⟩ := own_rw ho
    exact ⟨hb, u, G, rfl, h1, h2⟩)

/-- Two lists held against each other. -/
theorem same_any (w : World) (u v : Value) (G G2 : Option Nat) (a b : List Int) (h : Rw w u G a) (h2 : Rw w v G2 b) :
    Calls Try.prog 21 #[u, v] w fun e w' => e = .returned (.bool (decide (a = b))) ∧ Below w.heap.size w w' := by
  obtain ⟨a1, c1, rfl, e1, e2, e3⟩ := Rw.cells h
  obtain ⟨a2, c2, rfl, f1, f2, f3⟩ := Rw.cells h2
  unfold maxLen at e2 f2
  by_cases hlen : a.length = b.length
  · have d0 : ((a.length : Int) == (b.length : Int)) = true := by simp [hlen]
    have d0' : (a.length == b.length) = true := by simp [hlen]
    have E3 := Lib.hid e3
    have F3 := Lib.hid f3
    have HI : (b.length : Int) ≤ 9223372036854775807 := by omega
    have HL := Lib.hid hlen
    clear h h2 e1 e2 e3 f1 f2 f3
    rw [hlen] at d0 d0' ⊢
    clear hlen
    go_enter Try.func21, Try.ntmps21
    go_wp2
    go_loopw [5] (fun i wr => ∃ j : Nat, j ≤ b.length ∧ i = .int .i64 (j : Int) ∧ (∀ m, m < j → a.getD m 0 = b.getD m 0) ∧ Below w.heap.size w wr) (fun i _ => b.length - (intOf i).toNat)
    case atStart => exact ⟨0, Nat.zero_le _, rfl, fun m hm => absurd hm (Nat.not_lt_zero _), Below.refl _ _⟩
    case round =>
      obtain ⟨j, hj, rfl, hall, hb⟩ := hrel
      by_cases hlt : j < b.length
      · have hltI : (j : Int) < (b.length : Int) := by omega
        obtain ⟨g1, o1, rfl, c1'⟩ := E3.out j (by rw [HL.out]; exact hlt)
        obtain ⟨g2, o2, rfl, c2'⟩ := F3.out j hlt
        replace c1' := (hb.cell (p := ⟨g1, o1 + j, none⟩) (cell_lt c1')).trans c1'
        replace c2' := (hb.cell (p := ⟨g2, o2 + j, none⟩) (cell_lt c2')).trans c2'
        have HB := Lib.hid hb
        have HA := Lib.hid hall
        have HD : Hid (Below w.heap.size w wr.drew) := Lib.hid hb.drew
        by_cases he : a.getD j 0 = b.getD j 0
        · have HE := Lib.hid he
          have d1 : (a.getD j 0 != b.getD j 0) = false := by simpa using he
          generalize hx : a.getD j 0 = x at *
          generalize hy : b.getD j 0 = y at *
          clear hall he hb
          go_wp2
          go_region
          go_wp2
          go_roundw
          case rel => exact ⟨j + 1, by omega, by go_num, fun m hm => by
            by_cases e : m = j
            · subst e; rw [hx, hy]; exact HE.out
            · exact HA.out m (by omega), HD.out⟩
          case measure => simp [intOf]; omega
        · have HE : Hid (decide (a = b) = false) := Lib.hid (decide_eq_false (fun e => he (by rw [e])))
          have d1 : (a.getD j 0 != b.getD j 0) = true := by simpa using he
          generalize a.getD j 0 = x at *
          generalize b.getD j 0 = y at *
          clear hall he hb
          go_wp2
          go_region
          go_wp2
          go_ret
          exact ⟨by rw [HE.out]; rfl, HD.out⟩
      · obtain rfl : j = b.length := by omega
        have HE : Hid (decide (a = b) = true) := Lib.hid (decide_eq_true (by
          apply List.ext_getElem HL.out
          intro i h1 h2
          have := hall i h2
          simpa [List.getD, h1, h2] using this))
        have HB := Lib.hid hb
        clear hall hb
        go_wp2
        go_ret
        exact ⟨by rw [HE.out]; rfl, HB.out⟩
  · have d0 : ((a.length : Int) == (b.length : Int)) = false := beq_eq_false_iff_ne.2 (by omega)
    have d0' : (a.length == b.length) = false := beq_eq_false_iff_ne.2 hlen
    have HE : Hid (decide (a = b) = false) := Lib.hid (decide_eq_false (fun e => hlen (by rw [e])))
    generalize a.length = n1 at *
    generalize b.length = n2 at *
    clear h h2 e3 f3 hlen
    go_enter Try.func21, Try.ntmps21
    go_wp2
    go_ret
    exact ⟨by rw [HE.out]; rfl, Below.refl _ _⟩
end Go.Proofs.Ytkjmpkoogjbjnaa.Qum
