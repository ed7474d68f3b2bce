/-
  What the listed variables of Go's library give: the table of powers of ten, the two tables of unicode/utf8, and that strconv's two errors lie in their variables; it stays so whatever new is made.
-/
import Derived.Test.YtlplcacmmckpaaaDoorGnums
import Derived.Lib.LaidU8T
import Derived.Stop.LaidErr
import Derived.MakeChecks
import Derived.WalkSmall
import Derived.Lib.ItoaNum
namespace Go.Proofs.YtlplcacmmckpaaaDoor.Tabs
open Go Go.RowKit Go.Shelf Gnums
set_option linter.unusedVariables false

structure Tabs (w : World) : Prop where
  pow : Lib.TabIs Tryd.prog w "internal/strconv.uint64pow10" .u64 Lib.pow10Tab
  utf : Lib.Utf8Tabs 4 5 w
  syn : ∃ tp p, w.var? Tryd.prog "strconv.ErrSyntax" = some #[.iface tp p]
  rng : ∃ tp p, w.var? Tryd.prog "strconv.ErrRange" = some #[.iface tp p]

def rho : Ren := ⟨fun n => n, fun | 5 => 5 | 119 => 115 | 138 => 117 | 139 => 118 | n => n, fun | 3 => 4 | 4 => 5 | n => n⟩
theorem types : U8Types Tryd.prog rho := { t5 := Tryd.underlying5, t119 := Tryd.underlying115, t138 := Tryd.underlying117, t139 := Tryd.underlying118 }
theorem extra : U8Extra Tryd.prog rho := { n3 := by kernel_rfl, n4 := by kernel_rfl, y3 := by kernel_rfl, y4 := by kernel_rfl, c5 := by kernel_rfl, c119 := by kernel_rfl, c138 := by kernel_rfl }

theorem gPow : Tryd.prog.globalNamed "internal/strconv.uint64pow10" = some 0 := by kernel_rfl
theorem gSyn : Tryd.prog.globalNamed "strconv.ErrSyntax" = some 2 := by kernel_rfl
theorem gRng : Tryd.prog.globalNamed "strconv.ErrRange" = some 3 := by kernel_rfl

theorem var_lt {w : World} {n : String} {g : Nat} {cs : Array Value} {v : Value} (hg : Tryd.prog.globalNamed n = some g) (h : w.var? Tryd.prog n = some cs) (h0 : cs[0]? = some v) : g < w.heap.size := by
  have hc := World.var?_cell hg h 0
  rw [h0] at hc
  exact World.block_lt_of_cell? _ _ hc

theorem Tabs.below {w w' : World} (h : Tabs w) (hb : Below w.heap.size w w') : Tabs w' := by
  refine ⟨?_, ?_, ?_, ?_⟩
  · exact var?_below hb gPow (var_lt (v := .int .u64 1) gPow h.pow (by kernel_rfl)) h.pow
  · obtain ⟨h1, h2⟩ := h.utf
    exact ⟨fun c hc => (hb.cell (World.block_lt_of_cell? _ _ (h1 c hc))).trans (h1 c hc), fun i hi => ⟨(hb.cell (World.block_lt_of_cell? _ _ (h2 i hi).1)).trans (h2 i hi).1, (hb.cell (World.block_lt_of_cell? _ _ (h2 i hi).2)).trans (h2 i hi).2⟩⟩
  · obtain ⟨tp, p, hv⟩ := h.syn
    exact ⟨tp, p, var?_below hb gSyn (var_lt gSyn hv rfl) hv⟩
  · obtain ⟨tp, p, hv⟩ := h.rng
    exact ⟨tp, p, var?_below hb gRng (var_lt gRng hv rfl) hv⟩
theorem Tabs.drewN {w : World} (h : Tabs w) (n : Nat) : Tabs (w.drewN n) := h.below ((Below.refl _ w).trans ⟨rfl, rfl, rfl, Nat.le_refl _, fun _ _ => rfl⟩)

theorem star : "*" ++ "errors.errorString" = "*errors.errorString" := by decide
/-- The one row of that name. -/
theorem rowErr (u : TypeId) (h : Tryd.prog.typeName? 3 u = some "*errors.errorString") : u = 120 :=
  typeName_ptr_named (nm := "errors.errorString") (by rw [star]; kernel_rfl) (by kernel_rfl) (by decide) u (by rw [star]; exact h)

theorem tabs_of_laid {w : World} (h : laidMetH Tryd.prog Rows.gaussTextsRow.laid w) : Tabs w := by
  rw [MakeChecks.laidMetH_plain _ _ _ (by kernel_rfl)] at h
  have hL : laidMet Tryd.prog [("math/bits.deBruijn32tab", Rows.laid_math_bits_deBruijn32tab), ("math/bits.deBruijn64tab", Rows.laid_math_bits_deBruijn64tab), ("internal/strconv.uint64pow10", Rows.laid_internal_strconv_uint64pow10), ("unicode/utf8.acceptRanges", Rows.laid_unicode_utf8_acceptRanges), ("strconv.ErrRange", Rows.laid_strconv_ErrRange), ("strconv.ErrSyntax", Rows.laid_strconv_ErrSyntax), ("unicode/utf8.first", Rows.laid_unicode_utf8_first)] w := h
  have e1 : (Rows.laid_internal_strconv_uint64pow10 : DataW Unit) = Lib.tabData .u64 Lib.pow10Tab := by kernel_rfl
  have e2 : (Rows.laid_unicode_utf8_acceptRanges : DataW Unit) = Lib.acceptData := by kernel_rfl
  have e3 : (Rows.laid_unicode_utf8_first : DataW Unit) = Lib.firstData := by kernel_rfl
  have hP := hL.tail.tail
  rw [e1] at hP
  refine ⟨Lib.tabIs_of_head gPow (t := 105) (e := 42) (by kernel_rfl) Tryd.underlying105 Tryd.underlying42 (by kernel_rfl) (by kernel_rfl) hP, ?_, ?_, ?_⟩
  · refine utf8Tabs_of_readsT types extra (Lib.laidMet.reads hL ?_) (Lib.laidMet.reads hL ?_)
    · rw [← e3]
      simp
    · rw [← e2]
      simp
  · obtain ⟨a1, s1, hv1, -, -, -⟩ := laid_sentinel hL.tail.tail.tail.tail.tail gSyn (ti := 67) (tp := 120) (by kernel_rfl) Tryd.underlying67 rowErr Tryd.underlying120 Tryd.underlying122 rfl rfl Tryd.underlying9 (by kernel_rfl) (by kernel_rfl)
    exact ⟨_, _, hv1⟩
  · obtain ⟨a1, s1, hv1, -, -, -⟩ := laid_sentinel hL.tail.tail.tail.tail gRng (ti := 67) (tp := 120) (by kernel_rfl) Tryd.underlying67 rowErr Tryd.underlying120 Tryd.underlying122 rfl rfl Tryd.underlying9 (by kernel_rfl) (by kernel_rfl)
    exact ⟨_, _, hv1⟩
end Go.Proofs.YtlplcacmmckpaaaDoor.Tabs
