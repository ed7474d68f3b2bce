/-
  The tables of calls and codes, the powers of ten, strconv's two errors, cell for cell; they stay whatever new is made.
-/
import Derived.Test.YtlddjjkbnhhfaaaDoorCla
import Derived.Test.YtlddjjkbnhhfaaaDoorKit
import Derived.Lib.LaidTab
import Derived.MakeChecks
import Derived.Stop.LaidErr
import Derived.WalkSmall
import Derived.Shelf.Abstract
namespace Go.Proofs.YtlddjjkbnhhfaaaDoor.Clt
open Go Go.RowKit Go.Shelf Kit IsaM Cla
set_option linter.unusedVariables false

def rowVs (k : Nat) : List Value := [.string (tx (wd k)), .int .i64 (mn k : Int)]
def rowsC : Array Value := ((List.range 23).flatMap rowVs).toArray
def rowD (k : Nat) : DataW Unit := .agg [.lit (.string (wd k)), .lit (.int .i64 (mn k : Int))]
def codesC : Array Value := ((List.range 61).map fun k => Value.string (tx (cd k))).toArray
def codeD (k : Nat) : DataW Unit := .lit (.string (cd k))

theorem gRows : Tryd.prog.globalNamed "carryall/call.rows" = some 0 := by kernel_rfl
theorem gCodes : Tryd.prog.globalNamed "carryall/call.codes" = some 1 := by kernel_rfl
theorem gPow : Tryd.prog.globalNamed "internal/strconv.uint64pow10" = some 3 := by kernel_rfl
theorem gSyn : Tryd.prog.globalNamed "strconv.ErrSyntax" = some 5 := by kernel_rfl
theorem gRng : Tryd.prog.globalNamed "strconv.ErrRange" = some 6 := by kernel_rfl
theorem rows_data : (Rows.laid_carryall_call_rows : DataW Unit) = .agg ((List.range 23).map rowD) := by kernel_rfl
theorem codes_data : (Rows.laid_carryall_call_codes : DataW Unit) = .agg ((List.range 61).map codeD) := by kernel_rfl

/-- The table of calls; that of codes; the powers of ten; the two errors. -/
def Rw (w : World) : Prop := ∃ t fr, w.heap[(0 : Nat)]? = some (.cells rowsC t fr)
def Cd (w : World) : Prop := ∃ t fr, w.heap[(1 : Nat)]? = some (.cells codesC t fr)
def Pow (w : World) : Prop := Lib.TabIs Tryd.prog w "internal/strconv.uint64pow10" .u64 Lib.pow10Tab
structure Ers (w : World) : Prop where
  syn : ∃ tp p, w.var? Tryd.prog "strconv.ErrSyntax" = some #[.iface tp p]
  rng : ∃ tp p, w.var? Tryd.prog "strconv.ErrRange" = some #[.iface tp p]

theorem var_lt {w : World} {n : String} {g : Nat} {cs : Array Value} {v : Value} (hg : Tryd.prog.globalNamed n = some g) (h : w.var? Tryd.prog n = some cs) (h0 : cs[0]? = some v) : g < w.heap.size := by
  have hc := World.var?_cell hg h 0
  rw [h0] at hc
  exact World.block_lt_of_cell? _ _ hc
theorem Rw.lt {w : World} (h : Rw w) : (0 : Nat) < w.heap.size := by
  obtain ⟨t, fr, h⟩ := h
  exact (Array.getElem?_eq_some_iff.1 h).1
theorem Rw.below {w w' : World} (h : Rw w) (hb : Below w.heap.size w w') : Rw w' := by
  have hl := h.lt
  obtain ⟨t, fr, h⟩ := h
  exact ⟨t, fr, (hb.block _ hl).trans h⟩
theorem Cd.lt {w : World} (h : Cd w) : (1 : Nat) < w.heap.size := by
  obtain ⟨t, fr, h⟩ := h
  exact (Array.getElem?_eq_some_iff.1 h).1
theorem Cd.below {w w' : World} (h : Cd w) (hb : Below w.heap.size w w') : Cd w' := by
  have hl := h.lt
  obtain ⟨t, fr, h⟩ := h
  exact ⟨t, fr, (hb.block _ hl).trans h⟩
theorem Pow.below {w w' : World} (h : Pow w) (hb : Below w.heap.size w w') : Pow w' := by
  unfold Pow at h ⊢
  exact var?_below hb gPow (var_lt (v := .int .u64 1) gPow h (by kernel_rfl)) h
theorem Ers.below {w w' : World} (h : Ers w) (hb : Below w.heap.size w w') : Ers w' := by
  refine ⟨?_, ?_⟩
  · obtain ⟨tp, p, hv⟩ := h.syn
    exact ⟨tp, p, var?_below hb gSyn (var_lt gSyn hv rfl) hv⟩
  · obtain ⟨tp, p, hv⟩ := h.rng
    exact ⟨tp, p, var?_below hb gRng (var_lt gRng hv rfl) hv⟩

/-- internal/bytealg's variable holds a number. -/
def Ml (w : World) : Prop := ∃ m, w.cell? ⟨4, 0, none⟩ = some (.int .i64 m)
theorem Ml.below {w w' : World} (h : Ml w) (hb : Below w.heap.size w w') : Ml w' := by
  obtain ⟨m, hm⟩ := h
  exact ⟨m, (hb.cell (World.block_lt_of_cell? _ _ hm)).trans hm⟩
theorem flat_at {vs : Nat → List Value} {m : Nat} (hm : ∀ k, (vs k).length = m) : ∀ (n k j : Nat), k < n → j < m → ((List.range n).flatMap vs)[m * k + j]? = (vs k)[j]? := by
  intro n
  have hl : ∀ q, ((List.range q).flatMap vs).length = m * q := fun q => by
    induction q with
    | zero => rfl
    | succ q ih => rw [List.range_succ, List.flatMap_append, List.length_append, ih]; simp [hm, Nat.mul_succ]
  induction n with
  | zero => intro k j h; omega
  | succ n ih =>
    intro k j h hj
    rw [List.range_succ, List.flatMap_append]
    by_cases hn : k < n
    · rw [List.getElem?_append_left (by
        rw [hl]
        have : m * (k + 1) ≤ m * n := Nat.mul_le_mul_left _ hn
        rw [Nat.mul_succ] at this
        omega)]
      exact ih k j hn hj
    · obtain rfl : k = n := by omega
      rw [List.getElem?_append_right (by rw [hl]; omega), hl]
      simp
theorem rows_at {k : Nat} (h : k < 23) : rowsC[2 * k]? = some (.string (tx (wd k))) ∧ rowsC[2 * k + 1]? = some (.int .i64 (mn k : Int)) := by
  have e0 := flat_at (vs := rowVs) (m := 2) (fun _ => rfl) 23 k 0 h (by omega)
  have e1 := flat_at (vs := rowVs) (m := 2) (fun _ => rfl) 23 k 1 h (by omega)
  unfold rowsC
  simp only [List.getElem?_toArray]
  exact ⟨e0, e1⟩
theorem codes_at {k : Nat} (h : k < 61) : codesC[k]? = some (.string (tx (cd k))) := by
  unfold codesC
  simp only [List.getElem?_toArray, List.getElem?_map, List.getElem?_range h]
  rfl
theorem rows_size : rowsC.size = 46 := by decide +kernel
theorem codes_size : codesC.size = 61 := by simp [codesC]
theorem Rw.cells {w : World} (h : Rw w) {k : Nat} (hk : k < 23) :
    w.cell? ⟨0, k * 2, none⟩ = some (.string (tx (wd k))) ∧ w.cell? ⟨0, k * 2 + 1, none⟩ = some (.int .i64 (mn k : Int)) := by
  obtain ⟨t, fr, h⟩ := h
  have hr := rows_at hk
  have hc : ∀ j, w.cell? ⟨0, j, none⟩ = rowsC[j]? := fun j => by simp [World.cell?, h]
  rw [hc, hc, Nat.mul_comm k 2]
  exact hr
theorem Cd.cell {w : World} (h : Cd w) {k : Nat} (hk : k < 61) : w.cell? ⟨1, k, none⟩ = some (.string (tx (cd k))) := by
  obtain ⟨t, fr, h⟩ := h
  have hr := codes_at hk
  have hc : ∀ j, w.cell? ⟨1, j, none⟩ = codesC[j]? := fun j => by simp [World.cell?, h]
  rw [hc]
  exact hr

end Go.Proofs.YtlddjjkbnhhfaaaDoor.Clt
