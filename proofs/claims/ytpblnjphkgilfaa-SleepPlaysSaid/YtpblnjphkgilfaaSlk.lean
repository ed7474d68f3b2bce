/-
  Lists held against each other.
-/
import Derived.Test.YtpblnjphkgilfaaSlj
import Derived.DeepKeys
import Derived.Deep.RegionLawGrows
namespace Go.Proofs.Ytpblnjphkgilfaa.Slk
open Go Go.RowKit Go.Shelf Kit Bk Sla Slb Slc Sld Sle Slf Slg Slh Sli Slj
set_option linter.unusedVariables false

/-- A slice that reads as numbers; as records. -/
abbrev Nr (w : World) (u : Value) (l : List Int) : Prop := w.ownsRow 0 3 1 u l.length (ints l)
abbrev Sr (w : World) (u : Value) (L : St) : Prop := w.ownsRow 0 54 2 u L.length (ics L)
theorem nr_cells {w : World} {u : Value} {l : List Int} (h : Nr w u l) : ∃ a c, u = .slice a l.length c ∧ c ≤ maxLen ∧ l.length ≤ c ∧ ∀ i (hi : i < l.length), ∃ r, a = some ⟨r, 0, none⟩ ∧ w.cell? ⟨r, i, none⟩ = some (.int .i64 l[i]) := by
  rcases h.2 with ⟨rfl, h0⟩ | ⟨g, cap, cur, rfl, hg, hh, h3, h4, h5, h6⟩
  · exact ⟨none, 0, by rw [h0], Nat.zero_le _, by omega, fun i hi => by omega⟩
  · refine ⟨_, cap, rfl, h4, h3, fun i hi => ⟨g, rfl, ?_⟩⟩
    rw [h.cellAt i (by omega)]
    simp [ints, hi]
theorem sr_cells {w : World} {u : Value} {L : St} (h : Sr w u L) : ∃ a c, u = .slice a L.length c ∧ c ≤ maxLen ∧ L.length ≤ c ∧ ∀ i (hi : i < L.length), ∃ r, a = some ⟨r, 0, none⟩ ∧ w.cell? ⟨r, i * 2, none⟩ = some (.int .i64 L[i].1) ∧ w.cell? ⟨r, i * 2 + 1, none⟩ = some (uv L[i].2) := by
  rcases h.2 with ⟨rfl, h0⟩ | ⟨g, cap, cur, rfl, hg, hh, h3, h4, h5, h6⟩
  · exact ⟨none, 0, by rw [h0], Nat.zero_le _, by omega, fun i hi => by omega⟩
  · refine ⟨_, cap, rfl, h4, h3, fun i hi => ⟨g, rfl, ?_, ?_⟩⟩
    · have := h.cellAt (i * 2) (by omega)
      rw [this]
      have := ics_cell L i hi 0 (by omega)
      simpa [ic] using this
    · have := h.cellAt (i * 2 + 1) (by omega)
      rw [this]
      have := ics_cell L i hi 1 (by omega)
      simpa [ic] using this
set_option maxRecDepth 100000 in
set_option maxHeartbeats 2000000 in
theorem same_ints (w : World) (u v : Value) (a b : List Int) (h : Nr w u a) (h2 : Nr w v b) :
    Calls Try.prog 11 #[u, v] w fun e w' => e = .returned (.bool (decide (a = b))) ∧ Below w.heap.size w w' := by
  obtain ⟨a1, c1, rfl, e1, e2, e3⟩ := nr_cells h
  obtain ⟨a2, c2, rfl, f1, f2, f3⟩ := nr_cells h2
  unfold maxLen at e1 f1
  by_cases hlen : a.length = b.length
  · have d0 : ((a.length : Int) != (b.length : Int)) = false := by simp [hlen]
    have d0' : (a.length != b.length) = false := by simp [hlen]
    have E3 := Lib.hid e3
    have F3 := Lib.hid f3
    have HI : (b.length : Int) ≤ 9223372036854775807 := by omega
    have HL := Lib.hid hlen
    clear h h2 e1 e2 e3 f1 f2 f3
    rw [hlen] at d0 d0' ⊢
    clear hlen
    go_enter Try.func11, Try.ntmps11
    go_wp2
    go_loopw [5] (fun i wr => ∃ j : Nat, j ≤ b.length ∧ i = .int .i64 (j : Int) ∧ (∀ m, m < j → a.getD m 0 = b.getD m 0) ∧ Below w.heap.size w wr) (fun i _ => b.length - (intOf i).toNat)
    case atStart => exact ⟨0, Nat.zero_le _, rfl, fun m hm => absurd hm (Nat.not_lt_zero _), Below.refl _ _⟩
    case round =>
      obtain ⟨j, hj, rfl, hall, hb⟩ := hrel
      by_cases hlt : j < b.length
      · have hltI : (j : Int) < (b.length : Int) := by omega
        obtain ⟨g1, rfl, c1'⟩ := E3.out j (by rw [HL.out]; exact hlt)
        obtain ⟨g2, rfl, c2'⟩ := F3.out j hlt
        replace c1' := (hb.cell (p := ⟨g1, j, none⟩) (cell_lt c1')).trans c1'
        replace c2' := (hb.cell (p := ⟨g2, j, none⟩) (cell_lt c2')).trans c2'
        have ha : a[j]'(by rw [HL.out]; exact hlt) = a.getD j 0 := by simp [List.getD, HL.out, hlt]
        have hbb : b[j] = b.getD j 0 := by simp [List.getD, hlt]
        rw [ha] at c1'
        rw [hbb] at c2'
        clear ha hbb
        have HB := Lib.hid hb
        have HA := Lib.hid hall
        have HD : Hid (Below w.heap.size w wr.drew) := Lib.hid hb.drew
        by_cases he : a.getD j 0 = b.getD j 0
        · have HE := Lib.hid he
          have d1 : (a.getD j 0 != b.getD j 0) = false := by simpa using he
          generalize hx : a.getD j 0 = x at *
          generalize hy : b.getD j 0 = y at *
          clear hall he hb
          go_wp2
          go_region
          go_wp2
          go_roundw
          case rel => exact ⟨j + 1, by omega, by go_num, fun m hm => by
            by_cases e : m = j
            · subst e; rw [hx, hy]; exact HE.out
            · exact HA.out m (by omega), HD.out⟩
          case measure => simp [intOf]; omega
        · have HE : Hid (decide (a = b) = false) := Lib.hid (decide_eq_false (fun e => he (by rw [e])))
          have d1 : (a.getD j 0 != b.getD j 0) = true := by simpa using he
          generalize a.getD j 0 = x at *
          generalize b.getD j 0 = y at *
          clear hall he hb
          go_wp2
          go_region
          go_wp2
          go_ret
          exact ⟨by rw [HE.out]; rfl, HD.out⟩
      · obtain rfl : j = b.length := by omega
        have HE : Hid (decide (a = b) = true) := Lib.hid (decide_eq_true (by
          apply List.ext_getElem HL.out
          intro i h1 h2
          have := hall i h2
          simpa [List.getD, h1, h2] using this))
        have HB := Lib.hid hb
        clear hall hb
        go_wp2
        go_ret
        exact ⟨by rw [HE.out]; rfl, HB.out⟩
  · have d0 : ((a.length : Int) != (b.length : Int)) = true := by simp; omega
    have d0' : (a.length != b.length) = true := by simp; omega
    have HE : Hid (decide (a = b) = false) := Lib.hid (decide_eq_false (fun e => hlen (by rw [e])))
    clear h h2 e3 f3 hlen
    generalize a.length = n1 at *
    generalize b.length = n2 at *
    go_enter Try.func11, Try.ntmps11
    go_wp2
    go_ret
    exact ⟨by rw [HE.out]; rfl, Below.refl _ _⟩

/-- Records held against each other. -/
theorem sl_lits (p : Int) (n : Nat) (hp : (Lit.int .i64 p).wf = true) (hn : n < 4294967296) : Try.prog.keyLits 2 54 [.int .i64 p, uv n] = some [.int .i64 p, .int .u32 (n : Int)] := by
  have hc : Try.prog.cellsOf 54 = 2 := by kernel_rfl
  have hc1 : Try.prog.cellsOf 3 = 1 := by kernel_rfl
  have hc2 : Try.prog.cellsOf 31 = 1 := by kernel_rfl
  have h1 : Try.prog.keyLits 1 3 [.int .i64 p] = some [.int .i64 p] := by
    rw [Program.keyLits.eq_def]
    simp only [Try.underlying3]
    simp [hp]
  have h2 : Try.prog.keyLits 1 31 [uv n] = some [.int .u32 (n : Int)] := by
    rw [Program.keyLits.eq_def]
    simp only [Try.underlying31]
    simp [wf32 hn]
  rw [Program.keyLits.eq_def]
  simp only [Try.underlying54]
  rw [if_pos ⟨by rw [hc]; rfl, by kernel_rfl⟩]
  simp [hc1, hc2, h1, h2]
theorem run_sl (p p' : Int) (n n' : Nat) (hp : (Lit.int .i64 p).wf = true) (hp' : (Lit.int .i64 p').wf = true) (hn : n < 4294967296) (hn' : n' < 4294967296) (w : World) : (Op.equalIn 10000 54 (.agg #[.int .i64 p, uv n]) (.agg #[.int .i64 p', uv n'])).run Try.prog w = .ok (decide ((p, n) = (p', n'))) w := by
  have hf : ∀ (a : Int) (b : Nat), (Value.agg #[.int .i64 a, uv b]).formed Try.prog 54 = true := fun a b => by
    unfold Value.formed
    rw [Try.underlying54]
    kernel_rfl
  obtain ⟨r, h1, h2⟩ := run_equalIn_deep (P := Try.prog) 9998 2 54 (by kernel_rfl) w 2 2 (.agg #[.int .i64 p, uv n]) (.agg #[.int .i64 p', uv n']) _ _ (hf p n) (hf p' n') (sl_lits p n hp hn) (sl_lits p' n' hp' hn')
  rw [h1]
  congr 1
  rw [Bool.eq_iff_iff, h2]
  simp
  intro _
  omega
theorem ok_wf {L : St} (ho : Ok L) {i : Nat} (hi : i < L.length) : (Lit.int .i64 L[i].1).wf = true ∧ L[i].2 < 4294967296 := by
  have := ho.each L[i] (List.getElem_mem hi)
  exact ⟨wf64 (by omega), this.2.2⟩
set_option maxRecDepth 100000 in
set_option maxHeartbeats 2000000 in
theorem same_sleepers (w : World) (u v : Value) (a b : St) (h : Sr w u a) (h2 : Sr w v b) (oa : Ok a) (ob : Ok b) :
    Calls Try.prog 21 #[u, v] w fun e w' => e = .returned (.bool (decide (a = b))) ∧ Below w.heap.size w w' := by
  obtain ⟨a1, c1, rfl, e1, e2, e3⟩ := sr_cells h
  obtain ⟨a2, c2, rfl, f1, f2, f3⟩ := sr_cells h2
  unfold maxLen at e1 f1
  by_cases hlen : a.length = b.length
  · have d0 : ((a.length : Int) != (b.length : Int)) = false := by simp [hlen]
    have d0' : (a.length != b.length) = false := by simp [hlen]
    have E3 := Lib.hid e3
    have F3 := Lib.hid f3
    have HI : (b.length : Int) ≤ 9223372036854775807 := by omega
    have HL := Lib.hid hlen
    clear h h2 e1 e2 e3 f1 f2 f3
    rw [hlen] at d0 d0' ⊢
    clear hlen
    go_enter Try.func21, Try.ntmps21
    go_wp2
    go_loopw [5] (fun i wr => ∃ j : Nat, j ≤ b.length ∧ i = .int .i64 (j : Int) ∧ (∀ m, m < j → a[m]? = b[m]?) ∧ Below w.heap.size w wr) (fun i _ => b.length - (intOf i).toNat)
    case atStart => exact ⟨0, Nat.zero_le _, rfl, fun m hm => absurd hm (Nat.not_lt_zero _), Below.refl _ _⟩
    case round =>
      obtain ⟨j, hj, rfl, hall, hb⟩ := hrel
      by_cases hlt : j < b.length
      · have hltI : (j : Int) < (b.length : Int) := by omega
        have hlta : j < a.length := by rw [HL.out]; exact hlt
        obtain ⟨g1, rfl, c1', c1''⟩ := E3.out j hlta
        obtain ⟨g2, rfl, c2', c2''⟩ := F3.out j hlt
        replace c1' := (hb.cell (p := ⟨g1, j * 2, none⟩) (cell_lt c1')).trans c1'
        replace c2' := (hb.cell (p := ⟨g2, j * 2, none⟩) (cell_lt c2')).trans c2'
        replace c1'' := (hb.cell (p := ⟨g1, j * 2 + 1, none⟩) (cell_lt c1'')).trans c1''
        replace c2'' := (hb.cell (p := ⟨g2, j * 2 + 1, none⟩) (cell_lt c2'')).trans c2''
        have hr := run_sl a[j].1 b[j].1 a[j].2 b[j].2 (ok_wf oa hlta).1 (ok_wf ob hlt).1 (ok_wf oa hlta).2 (ok_wf ob hlt).2
        have hja : a[j]? = some a[j] := List.getElem?_eq_getElem hlta
        have hjb : b[j]? = some b[j] := List.getElem?_eq_getElem hlt
        have HB := Lib.hid hb
        have HA := Lib.hid hall
        have HD : Hid (Below w.heap.size w wr.drew) := Lib.hid hb.drew
        by_cases he : a[j] = b[j]
        · have HE : Hid (a[j]? = b[j]?) := Lib.hid (by rw [hja, hjb, he])
          have hd : decide ((a[j].1, a[j].2) = (b[j].1, b[j].2)) = true := decide_eq_true he
          rw [hd] at hr
          clear hall he hb hd hja hjb oa ob
          generalize a[j].1 = x1 at *
          generalize a[j].2 = x2 at *
          generalize b[j].1 = y1 at *
          generalize b[j].2 = y2 at *
          clear hlta
          go_wp2
          go_region
          go_wp2
          go_roundw
          case rel => exact ⟨j + 1, by omega, by go_num, fun m hm => by
            by_cases e : m = j
            · subst e; exact HE.out
            · exact HA.out m (by omega), HD.out⟩
          case measure => simp [intOf]; omega
        · have HE : Hid (decide (a = b) = false) := Lib.hid (decide_eq_false (fun e => he (by subst e; rfl)))
          have hd : decide ((a[j].1, a[j].2) = (b[j].1, b[j].2)) = false := decide_eq_false he
          rw [hd] at hr
          clear hall he hb hd hja hjb oa ob
          generalize a[j].1 = x1 at *
          generalize a[j].2 = x2 at *
          generalize b[j].1 = y1 at *
          generalize b[j].2 = y2 at *
          clear hlta
          go_wp2
          go_region
          go_wp2
          go_ret
          exact ⟨by rw [HE.out]; rfl, HD.out⟩
      · obtain rfl : j = b.length := by omega
        have HE : Hid (decide (a = b) = true) := Lib.hid (decide_eq_true (by
          apply List.ext_getElem HL.out
          intro i h1 h2
          have := hall i h2
          rw [List.getElem?_eq_getElem h1, List.getElem?_eq_getElem h2] at this
          exact Option.some.inj this))
        have HB := Lib.hid hb
        clear hall hb
        go_wp2
        go_ret
        exact ⟨by rw [HE.out]; rfl, HB.out⟩
  · have d0 : ((a.length : Int) != (b.length : Int)) = true := by simp; omega
    have d0' : (a.length != b.length) = true := by simp; omega
    have HE : Hid (decide (a = b) = false) := Lib.hid (decide_eq_false (fun e => hlen (by rw [e])))
    clear h h2 e3 f3 hlen
    generalize a.length = n1 at *
    generalize b.length = n2 at *
    go_enter Try.func21, Try.ntmps21
    go_wp2
    go_ret
    exact ⟨by rw [HE.out]; rfl, Below.refl _ _⟩
end Go.Proofs.Ytpblnjphkgilfaa.Slk
