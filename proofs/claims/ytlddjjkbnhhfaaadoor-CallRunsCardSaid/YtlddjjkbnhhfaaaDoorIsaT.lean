/-
  From the row's listed variables to the table of instructions, the powers of ten, and the library's size: cell for cell; they stay whatever new is made.
-/
import Derived.Test.YtlddjjkbnhhfaaaDoorIsaM
import Derived.Test.YtlddjjkbnhhfaaaDoorKit
import Derived.Lib.LaidU8T
import Derived.MakeChecks
import Derived.Stop.LaidErr
import Derived.WalkSmall
namespace Go.Proofs.YtlddjjkbnhhfaaaDoor.IsaT
open Go Go.RowKit Go.Shelf Kit IsaM
set_option linter.unusedVariables false

def rowVs (k : Nat) : List Value := [.string ⟨(nm k).toArray⟩, .int .i64 (mA k), .int .i64 (mB k), .int .i64 (mI k)]
def rowsL : List Value := (List.range 30).flatMap rowVs
def rowsC : Array Value := rowsL.toArray
def rowD (k : Nat) : DataW Unit := .agg [.lit (.string (nm k)), .agg [.lit (.int .i64 (mA k)), .lit (.int .i64 (mB k)), .lit (.int .i64 (mI k))]]

theorem gRows : Tryd.prog.globalNamed "carryall/isa.rows" = some 2 := by kernel_rfl
theorem gPow : Tryd.prog.globalNamed "internal/strconv.uint64pow10" = some 3 := by kernel_rfl
theorem rows_data : (Rows.laid_carryall_isa_rows : DataW Unit) = .agg ((List.range 30).map rowD) := by kernel_rfl

structure Tabs (w : World) : Prop where
  rows : ∃ t fr, w.heap[(2 : Nat)]? = some (.cells rowsC t fr)
def Pow (w : World) : Prop := Lib.TabIs Tryd.prog w "internal/strconv.uint64pow10" .u64 Lib.pow10Tab

theorem var_lt {w : World} {n : String} {g : Nat} {cs : Array Value} {v : Value} (hg : Tryd.prog.globalNamed n = some g) (h : w.var? Tryd.prog n = some cs) (h0 : cs[0]? = some v) : g < w.heap.size := by
  have hc := World.var?_cell hg h 0
  rw [h0] at hc
  exact World.block_lt_of_cell? _ _ hc
theorem Tabs.lt {w : World} (h : Tabs w) : (2 : Nat) < w.heap.size := by
  obtain ⟨t, fr, h⟩ := h.rows
  exact (Array.getElem?_eq_some_iff.1 h).1
theorem Tabs.below {w w' : World} (h : Tabs w) (hb : Below w.heap.size w w') : Tabs w' := by
  have hl := h.lt
  obtain ⟨t, fr, h⟩ := h.rows
  exact ⟨t, fr, (hb.block _ hl).trans h⟩
theorem Pow.below {w w' : World} (h : Pow w) (hb : Below w.heap.size w w') : Pow w' := by
  unfold Pow at h ⊢
  exact var?_below hb gPow (var_lt (v := .int .u64 1) gPow h (by kernel_rfl)) h
theorem Tabs.drewN {w : World} (h : Tabs w) (n : Nat) : Tabs (w.drewN n) := h.below ((Below.refl _ w).trans ⟨rfl, rfl, rfl, Nat.le_refl _, fun _ _ => rfl⟩)
theorem rows_at : ∀ k : Fin 30, rowsC[4 * k.val]? = some (.string ⟨(nm k.val).toArray⟩) ∧ rowsC[4 * k.val + 1]? = some (.int .i64 (mA k.val)) ∧ rowsC[4 * k.val + 2]? = some (.int .i64 (mB k.val)) ∧ rowsC[4 * k.val + 3]? = some (.int .i64 (mI k.val))
  | ⟨k, hk⟩ => by
    have e : ∀ (n k j : Nat), k < n → j < 4 → ((List.range n).flatMap rowVs)[4 * k + j]? = (rowVs k)[j]? := by
      intro n
      induction n with
      | zero => intro k j h; omega
      | succ n ih =>
        intro k j h hj
        have hl : ∀ m, ((List.range m).flatMap rowVs).length = 4 * m := fun m => by
          induction m with
          | zero => rfl
          | succ m ih => rw [List.range_succ, List.flatMap_append, List.length_append, ih]; simp [rowVs]; try omega
        rw [List.range_succ, List.flatMap_append]
        by_cases hn : k < n
        · rw [List.getElem?_append_left (by rw [hl]; omega)]
          exact ih k j hn hj
        · obtain rfl : k = n := by omega
          rw [List.getElem?_append_right (by rw [hl]; omega), hl]
          simp
    have e0 := e 30 k 0 hk (by omega)
    have e1 := e 30 k 1 hk (by omega)
    have e2 := e 30 k 2 hk (by omega)
    have e3 := e 30 k 3 hk (by omega)
    unfold rowsC rowsL
    simp only [List.getElem?_toArray]
    exact ⟨e0, e1, e2, e3⟩
theorem Tabs.cells {w : World} (h : Tabs w) (k : Nat) (hk : k < 30) :
    w.cell? ⟨2, k * 4, none⟩ = some (.string ⟨(nm k).toArray⟩) ∧ w.cell? ⟨2, k * 4 + 1, none⟩ = some (.int .i64 (mA k)) ∧ w.cell? ⟨2, k * 4 + 2, none⟩ = some (.int .i64 (mB k)) ∧ w.cell? ⟨2, k * 4 + 3, none⟩ = some (.int .i64 (mI k)) := by
  obtain ⟨t, fr, h⟩ := h.rows
  have hr := rows_at ⟨k, hk⟩
  have hc : ∀ j, w.cell? ⟨2, j, none⟩ = rowsC[j]? := fun j => by simp [World.cell?, h]
  rw [hc, hc, hc, hc, Nat.mul_comm k 4]
  exact hr

theorem c62 : Tryd.prog.cellsOf 117 = 3 := by kernel_rfl
theorem c65 : Tryd.prog.cellsOf 120 = 4 := by kernel_rfl
theorem c66 : Tryd.prog.cellsOf 121 = 120 := by kernel_rfl
theorem c3 : Tryd.prog.cellsOf 3 = 1 := by kernel_rfl
theorem c9 : Tryd.prog.cellsOf 9 = 1 := by kernel_rfl

theorem fields_of {w : World} {n : Nat} {cs : List Value} {a b c : Int} {p : List MemPlace} (h : DataW.trod (fun _ => ()) Tryd.prog w 0 (fun _ => true) false n 117 cs = some (.agg [.lit (.int .i64 a), .lit (.int .i64 b), .lit (.int .i64 c)], p)) :
    cs = [.int .i64 a, .int .i64 b, .int .i64 c] :=
  Lib.cells_of_tab (zs := [a, b, c]) (k := .i64) Tryd.underlying117 Tryd.underlying3 c3 c62 h

theorem row_of {L : List Value} {a b c d : Value} (h : L.length = 4) (h0 : (L.drop 0).take 1 = [a]) (h1 : (L.drop 1).take 3 = [b, c, d]) : L = [a, b, c, d] := by
  match L, h with
  | [y0, y1, y2, y3], _ => simp_all

theorem tabs_of {w : World} (hR : Lib.VarReads Tryd.prog w "carryall/isa.rows" (Rows.laid_carryall_isa_rows : DataW Unit)) : Tabs w := by
  refine ⟨?_⟩
  rw [rows_data] at hR
  obtain ⟨g, t, cs, fuel, p, hg, hty, hvar, hd⟩ := hR
  obtain rfl := Option.some.inj (gRows.symm.trans hg)
  obtain rfl : 121 = t := Option.some.inj ((show (Tryd.prog.globals[(2 : Nat)]?).map (·.type) = some 121 by kernel_rfl).symm.trans hty)
  have hcs : cs = rowsC := by
    have hlen : cs.toList.length = 120 := by
      cases fuel with
      | zero => simp [DataW.trod] at hd
      | succ fuel =>
        simp only [DataW.trod, Tryd.underlying121, c65, c66] at hd
        split at hd
        · assumption
        · cases hd
    have hk : ∀ k, k < 30 → (cs.toList.drop (4 * k)).take 4 = rowVs k := fun k hk => by
      obtain ⟨fuel', d, q, hdi, he⟩ := Lib.array_elem Tryd.underlying121 hd k hk
      simp only [List.getElem?_map, List.getElem?_range hk, Option.map_some, Option.some.injEq] at hdi
      subst hdi
      rw [c65, Nat.mul_comm] at he
      generalize hL4 : (cs.toList.drop (4 * k)).take 4 = L at he ⊢
      obtain ⟨xs, n, rfl, hx, hl, hxl, hall⟩ := DataW.trod_struct Tryd.underlying120 he
      have h0 : DataW.trod (fun _ => ()) Tryd.prog w 0 (fun _ => true) false n 9 ((L.drop 0).take (Tryd.prog.cellsOf 9)) = xs[0]? := hall 0 _ rfl
      have h1 : DataW.trod (fun _ => ()) Tryd.prog w 0 (fun _ => true) false n 117 ((L.drop 1).take (Tryd.prog.cellsOf 117)) = xs[1]? := hall 1 _ rfl
      have hxs : xs.map (·.1) = [.lit (.string (nm k)), .agg [.lit (.int .i64 (mA k)), .lit (.int .i64 (mB k)), .lit (.int .i64 (mI k))]] := by
        have := congrArg Prod.fst hx
        simpa [rowD] using this.symm
      match xs, hxs with
      | [x0, x1], hxs =>
        simp only [List.map_cons, List.map_nil, List.cons.injEq, and_true] at hxs
        obtain ⟨hx0, hx1⟩ := hxs
        simp only [List.getElem?_cons_zero, List.getElem?_cons_succ] at h0 h1
        obtain ⟨a0, b0⟩ := x0
        obtain ⟨a1, b1⟩ := x1
        subst hx0
        subst hx1
        rw [c9] at h0
        rw [c62] at h1
        obtain ⟨s, hs, hs2, _⟩ := DataW.trod_string Tryd.underlying9 h0
        have h2 := fields_of h1
        rw [c65] at hl
        have hs3 : s = ⟨(nm k).toArray⟩ := by
          have : nm k = s.data.toList := by
            have := congrArg Prod.fst hs2
            simpa using this
          rw [this]
        rw [hs3] at hs
        exact row_of hl hs h2
    apply Array.ext_getElem?
    intro j
    by_cases hj : j < 120
    · have hr := rows_at ⟨j / 4, by omega⟩
      have h1 := hk (j / 4) (by omega)
      have h2 := congrArg (·[j % 4]?) h1
      simp only [List.getElem?_take, List.getElem?_drop] at h2
      rw [if_pos (by omega), show 4 * (j / 4) + j % 4 = j by omega] at h2
      rw [← Array.getElem?_toList, h2]
      have hm : j % 4 = 0 ∨ j % 4 = 1 ∨ j % 4 = 2 ∨ j % 4 = 3 := by omega
      rcases hm with e | e | e | e <;> rw [e]
      · rw [show j = 4 * (j / 4) by omega]; simpa [rowVs, show 4 * (j / 4) / 4 = j / 4 by omega] using hr.1.symm
      · rw [show j = 4 * (j / 4) + 1 by omega]; simpa [rowVs, show (4 * (j / 4) + 1) / 4 = j / 4 by omega] using hr.2.1.symm
      · rw [show j = 4 * (j / 4) + 2 by omega]; simpa [rowVs, show (4 * (j / 4) + 2) / 4 = j / 4 by omega] using hr.2.2.1.symm
      · rw [show j = 4 * (j / 4) + 3 by omega]; simpa [rowVs, show (4 * (j / 4) + 3) / 4 = j / 4 by omega] using hr.2.2.2.symm
    · rw [Array.getElem?_eq_none (by rw [← Array.length_toList]; omega), Array.getElem?_eq_none (by show 120 ≤ j; omega)]
  subst hcs
  unfold World.var? at hvar
  rw [gRows] at hvar
  simp only [Option.bind_some] at hvar
  split at hvar
  · rename_i cs t fr hh
    obtain rfl := Option.some.inj hvar
    exact ⟨t, fr, hh⟩
  · cases hvar
theorem tabs_runs {w : World} (h : laidMetH Tryd.prog Rows.callRunsRow.laid w) : Tabs w := by
  rw [MakeChecks.laidMetH_plain _ _ _ (by kernel_rfl)] at h
  have hL : laidMet Tryd.prog [("math/bits.deBruijn32tab", Rows.laid_math_bits_deBruijn32tab), ("math/bits.deBruijn64tab", Rows.laid_math_bits_deBruijn64tab), ("internal/strconv.uint64pow10", Rows.laid_internal_strconv_uint64pow10), ("unicode/utf8.acceptRanges", Rows.laid_unicode_utf8_acceptRanges), ("carryall/call.rows", Rows.laid_carryall_call_rows), ("carryall/call.codes", Rows.laid_carryall_call_codes), ("carryall/isa.rows", Rows.laid_carryall_isa_rows), ("unicode/utf8.first", Rows.laid_unicode_utf8_first)] w := h
  exact tabs_of (Lib.laidMet.reads hL (by simp))
end Go.Proofs.YtlddjjkbnhhfaaaDoor.IsaT
