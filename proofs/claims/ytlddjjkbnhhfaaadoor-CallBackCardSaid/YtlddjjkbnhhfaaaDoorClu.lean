/-
  From the row's listed variables to the tables of calls and codes.
-/
import Derived.Test.YtlddjjkbnhhfaaaDoorClt
import Derived.Lib.LaidU8
import Derived.Lib.LaidTab
namespace Go.Proofs.YtlddjjkbnhhfaaaDoor.Clu
open Go Go.RowKit Go.Shelf Kit IsaM Cla Clt
set_option linter.unusedVariables false

theorem cRow : Tryd.prog.cellsOf 63 = 2 := by kernel_rfl
theorem cRows : Tryd.prog.cellsOf 64 = 46 := by kernel_rfl
theorem cCodes : Tryd.prog.cellsOf 65 = 61 := by kernel_rfl
theorem c3 : Tryd.prog.cellsOf 3 = 1 := by kernel_rfl
theorem c9 : Tryd.prog.cellsOf 9 = 1 := by kernel_rfl
theorem two_of {L : List Value} {a b : Value} (h : L.length = 2) (h0 : (L.drop 0).take 1 = [a]) (h1 : (L.drop 1).take 1 = [b]) : L = [a, b] := by
  match L, h with
  | [y0, y1], _ => simp_all
theorem rw_of {w : World} (hR : Lib.VarReads Tryd.prog w "carryall/call.rows" (Rows.laid_carryall_call_rows : DataW Unit)) : Rw w := by
  rw [rows_data] at hR
  obtain ⟨g, t, cs, fuel, p, hg, hty, hvar, hd⟩ := hR
  obtain rfl := Option.some.inj (gRows.symm.trans hg)
  obtain rfl : 64 = t := Option.some.inj ((show (Tryd.prog.globals[(0 : Nat)]?).map (·.type) = some 64 by kernel_rfl).symm.trans hty)
  have hcs : cs = rowsC := by
    have hlen : cs.toList.length = 46 := by
      cases fuel with
      | zero => simp [DataW.trod] at hd
      | succ fuel =>
        simp only [DataW.trod, Tryd.underlying64, cRow, cRows] at hd
        split at hd
        · assumption
        · cases hd
    have hk : ∀ k, k < 23 → (cs.toList.drop (2 * k)).take 2 = rowVs k := fun k hk => by
      obtain ⟨fuel', d, q, hdi, he⟩ := Lib.array_elem Tryd.underlying64 hd k hk
      simp only [List.getElem?_map, List.getElem?_range hk, Option.map_some, Option.some.injEq] at hdi
      subst hdi
      rw [cRow, Nat.mul_comm] at he
      generalize hL4 : (cs.toList.drop (2 * k)).take 2 = L at he ⊢
      obtain ⟨xs, n, rfl, hx, hl, hxl, hall⟩ := DataW.trod_struct Tryd.underlying63 he
      have h0 : DataW.trod (fun _ => ()) Tryd.prog w 0 (fun _ => true) false n 9 ((L.drop 0).take (Tryd.prog.cellsOf 9)) = xs[0]? := hall 0 _ rfl
      have h1 : DataW.trod (fun _ => ()) Tryd.prog w 0 (fun _ => true) false n 3 ((L.drop 1).take (Tryd.prog.cellsOf 3)) = xs[1]? := hall 1 _ rfl
      have hxs : xs.map (·.1) = [.lit (.string (wd k)), .lit (.int .i64 (mn k : Int))] := by
        have := congrArg Prod.fst hx
        simpa [rowD] using this.symm
      match xs, hxs with
      | [x0, x1], hxs =>
        simp only [List.map_cons, List.map_nil, List.cons.injEq, and_true] at hxs
        obtain ⟨hx0, hx1⟩ := hxs
        simp only [List.getElem?_cons_zero, List.getElem?_cons_succ] at h0 h1
        obtain ⟨a0, b0⟩ := x0
        obtain ⟨a1, b1⟩ := x1
        subst hx0
        subst hx1
        rw [c9] at h0
        rw [c3] at h1
        obtain ⟨s, hs, hs2, _⟩ := DataW.trod_string Tryd.underlying9 h0
        obtain ⟨z, hz, hz2, _⟩ := DataW.trod_int Tryd.underlying3 h1
        rw [cRow] at hl
        have hs3 : s = tx (wd k) := by
          have : wd k = s.data.toList := by
            have := congrArg Prod.fst hs2
            simpa using this
          rw [this, tx_mk]
        have hz3 : z = (mn k : Int) := by
          have := congrArg Prod.fst hz2
          simp at this
          omega
        rw [hs3] at hs
        rw [hz3] at hz
        exact two_of hl hs hz
    apply Array.ext_getElem?
    intro j
    by_cases hj : j < 46
    · have hr := rows_at (k := j / 2) (by omega)
      have h1 := hk (j / 2) (by omega)
      have h2 := congrArg (·[j % 2]?) h1
      simp only [List.getElem?_take, List.getElem?_drop] at h2
      rw [if_pos (by omega), show 2 * (j / 2) + j % 2 = j by omega] at h2
      rw [← Array.getElem?_toList, h2]
      have hm : j % 2 = 0 ∨ j % 2 = 1 := by omega
      rcases hm with e | e <;> rw [e]
      · rw [show j = 2 * (j / 2) by omega]; simpa [rowVs, show 2 * (j / 2) / 2 = j / 2 by omega] using hr.1.symm
      · rw [show j = 2 * (j / 2) + 1 by omega]; simpa [rowVs, show (2 * (j / 2) + 1) / 2 = j / 2 by omega] using hr.2.symm
    · rw [Array.getElem?_eq_none (by rw [← Array.length_toList]; omega), Array.getElem?_eq_none (by rw [rows_size]; omega)]
  subst hcs
  unfold World.var? at hvar
  rw [gRows] at hvar
  simp only [Option.bind_some] at hvar
  split at hvar
  · rename_i cs t fr hh
    obtain rfl := Option.some.inj hvar
    exact ⟨t, fr, hh⟩
  · cases hvar
theorem cd_of {w : World} (hR : Lib.VarReads Tryd.prog w "carryall/call.codes" (Rows.laid_carryall_call_codes : DataW Unit)) : Cd w := by
  rw [codes_data] at hR
  obtain ⟨g, t, cs, fuel, p, hg, hty, hvar, hd⟩ := hR
  obtain rfl := Option.some.inj (gCodes.symm.trans hg)
  obtain rfl : 65 = t := Option.some.inj ((show (Tryd.prog.globals[(1 : Nat)]?).map (·.type) = some 65 by kernel_rfl).symm.trans hty)
  have hcs : cs = codesC := by
    have hlen : cs.toList.length = 61 := by
      cases fuel with
      | zero => simp [DataW.trod] at hd
      | succ fuel =>
        simp only [DataW.trod, Tryd.underlying65, c9, cCodes] at hd
        split at hd
        · assumption
        · cases hd
    have hk : ∀ k, k < 61 → (cs.toList.drop k).take 1 = [.string (tx (cd k))] := fun k hk => by
      obtain ⟨fuel', d, q, hdi, he⟩ := Lib.array_elem Tryd.underlying65 hd k hk
      simp only [List.getElem?_map, List.getElem?_range hk, Option.map_some, Option.some.injEq] at hdi
      subst hdi
      rw [c9, Nat.mul_one] at he
      obtain ⟨s, hs, hs2, _⟩ := DataW.trod_string Tryd.underlying9 he
      have hs3 : s = tx (cd k) := by
        have : cd k = s.data.toList := by
          have := congrArg Prod.fst hs2
          simpa [codeD] using this
        rw [this, tx_mk]
      rw [hs3] at hs
      exact hs
    apply Array.ext_getElem?
    intro j
    by_cases hj : j < 61
    · have h1 := hk j hj
      have h2 := congrArg (·[0]?) h1
      simp only [List.getElem?_take, List.getElem?_drop] at h2
      rw [if_pos (by omega), Nat.add_zero] at h2
      rw [← Array.getElem?_toList, h2, codes_at hj]
      rfl
    · rw [Array.getElem?_eq_none (by rw [← Array.length_toList]; omega), Array.getElem?_eq_none (by rw [codes_size]; omega)]
  subst hcs
  unfold World.var? at hvar
  rw [gCodes] at hvar
  simp only [Option.bind_some] at hvar
  split at hvar
  · rename_i cs t fr hh
    obtain rfl := Option.some.inj hvar
    exact ⟨t, fr, hh⟩
  · cases hvar
theorem star : "*" ++ "errors.errorString" = "*errors.errorString" := by decide
/-- The one row of that name. -/
theorem rowErr (u : TypeId) (h : Tryd.prog.typeName? 3 u = some "*errors.errorString") : u = 159 :=
  typeName_ptr_named (nm := "errors.errorString") (by rw [star]; kernel_rfl) (by kernel_rfl) (by decide) u (by rw [star]; exact h)
theorem pow_of {w : World} {rest : List (String × DataW Unit)} (h : laidMet Tryd.prog (("internal/strconv.uint64pow10", Rows.laid_internal_strconv_uint64pow10) :: rest) w) : Pow w := by
  have e1 : (Rows.laid_internal_strconv_uint64pow10 : DataW Unit) = Lib.tabData .u64 Lib.pow10Tab := by kernel_rfl
  rw [e1] at h
  exact Lib.tabIs_of_head gPow (t := 146) (e := 74) (by kernel_rfl) Tryd.underlying146 Tryd.underlying74 (by kernel_rfl) (by kernel_rfl) h
theorem ers_of {w : World} {rest : List (String × DataW Unit)} (h : laidMet Tryd.prog (("strconv.ErrRange", Rows.laid_strconv_ErrRange) :: ("strconv.ErrSyntax", Rows.laid_strconv_ErrSyntax) :: rest) w) : Ers w := by
  refine ⟨?_, ?_⟩
  · obtain ⟨a1, s1, hv1, -, -, -⟩ := laid_sentinel h.tail gSyn (ti := 80) (tp := 159) (by kernel_rfl) Tryd.underlying80 rowErr Tryd.underlying159 Tryd.underlying161 rfl rfl Tryd.underlying9 (by kernel_rfl) (by kernel_rfl)
    exact ⟨_, _, hv1⟩
  · obtain ⟨a1, s1, hv1, -, -, -⟩ := laid_sentinel h gRng (ti := 80) (tp := 159) (by kernel_rfl) Tryd.underlying80 rowErr Tryd.underlying159 Tryd.underlying161 rfl rfl Tryd.underlying9 (by kernel_rfl) (by kernel_rfl)
    exact ⟨_, _, hv1⟩
theorem of_callTells {w : World} (h : laidMetH Tryd.prog Rows.callTellsRow.laid w) : Rw w ∧ Cd w := by
  rw [MakeChecks.laidMetH_plain _ _ _ (by kernel_rfl)] at h
  have hL : laidMet Tryd.prog [("carryall/call.rows", Rows.laid_carryall_call_rows), ("carryall/call.codes", Rows.laid_carryall_call_codes)] w := h
  exact ⟨rw_of (Lib.laidMet.reads hL (by simp)), cd_of (Lib.laidMet.reads hL (by simp))⟩
theorem of_callNames {w : World} (h : laidMetH Tryd.prog Rows.callNamesRow.laid w) : Rw w ∧ Cd w ∧ Pow w ∧ Ers w := by
  rw [MakeChecks.laidMetH_plain _ _ _ (by kernel_rfl)] at h
  have hL : laidMet Tryd.prog [("math/bits.deBruijn32tab", Rows.laid_math_bits_deBruijn32tab), ("math/bits.deBruijn64tab", Rows.laid_math_bits_deBruijn64tab), ("internal/strconv.uint64pow10", Rows.laid_internal_strconv_uint64pow10), ("unicode/utf8.acceptRanges", Rows.laid_unicode_utf8_acceptRanges), ("strconv.ErrRange", Rows.laid_strconv_ErrRange), ("strconv.ErrSyntax", Rows.laid_strconv_ErrSyntax), ("carryall/call.rows", Rows.laid_carryall_call_rows), ("carryall/call.codes", Rows.laid_carryall_call_codes), ("unicode/utf8.first", Rows.laid_unicode_utf8_first)] w := h
  exact ⟨rw_of (Lib.laidMet.reads hL (by simp)), cd_of (Lib.laidMet.reads hL (by simp)), pow_of hL.tail.tail, ers_of hL.tail.tail.tail.tail⟩
theorem of_callBack {w : World} (h : laidMetH Tryd.prog Rows.callBackRow.laid w) : Rw w ∧ Cd w ∧ Pow w ∧ Ers w := by
  rw [MakeChecks.laidMetH_plain _ _ _ (by kernel_rfl)] at h
  have hL : laidMet Tryd.prog [("math/bits.deBruijn32tab", Rows.laid_math_bits_deBruijn32tab), ("math/bits.deBruijn64tab", Rows.laid_math_bits_deBruijn64tab), ("internal/strconv.uint64pow10", Rows.laid_internal_strconv_uint64pow10), ("unicode/utf8.acceptRanges", Rows.laid_unicode_utf8_acceptRanges), ("strconv.ErrRange", Rows.laid_strconv_ErrRange), ("strconv.ErrSyntax", Rows.laid_strconv_ErrSyntax), ("carryall/call.rows", Rows.laid_carryall_call_rows), ("carryall/call.codes", Rows.laid_carryall_call_codes), ("unicode/utf8.first", Rows.laid_unicode_utf8_first)] w := h
  exact ⟨rw_of (Lib.laidMet.reads hL (by simp)), cd_of (Lib.laidMet.reads hL (by simp)), pow_of hL.tail.tail, ers_of hL.tail.tail.tail.tail⟩
theorem of_callLines {w : World} (h : laidMetH Tryd.prog Rows.callLinesRow.laid w) : Rw w ∧ Pow w ∧ Ers w := by
  rw [MakeChecks.laidMetH_plain _ _ _ (by kernel_rfl)] at h
  have hL : laidMet Tryd.prog [("math/bits.deBruijn32tab", Rows.laid_math_bits_deBruijn32tab), ("math/bits.deBruijn64tab", Rows.laid_math_bits_deBruijn64tab), ("internal/strconv.uint64pow10", Rows.laid_internal_strconv_uint64pow10), ("unicode/utf8.acceptRanges", Rows.laid_unicode_utf8_acceptRanges), ("strconv.ErrRange", Rows.laid_strconv_ErrRange), ("strconv.ErrSyntax", Rows.laid_strconv_ErrSyntax), ("carryall/call.rows", Rows.laid_carryall_call_rows), ("unicode/utf8.first", Rows.laid_unicode_utf8_first)] w := h
  exact ⟨rw_of (Lib.laidMet.reads hL (by simp)), pow_of hL.tail.tail, ers_of hL.tail.tail.tail.tail⟩
theorem of_callRuns {w : World} (h : laidMetH Tryd.prog Rows.callRunsRow.laid w) : Rw w ∧ Cd w ∧ Pow w := by
  rw [MakeChecks.laidMetH_plain _ _ _ (by kernel_rfl)] at h
  have hL : laidMet Tryd.prog [("math/bits.deBruijn32tab", Rows.laid_math_bits_deBruijn32tab), ("math/bits.deBruijn64tab", Rows.laid_math_bits_deBruijn64tab), ("internal/strconv.uint64pow10", Rows.laid_internal_strconv_uint64pow10), ("unicode/utf8.acceptRanges", Rows.laid_unicode_utf8_acceptRanges), ("carryall/call.rows", Rows.laid_carryall_call_rows), ("carryall/call.codes", Rows.laid_carryall_call_codes), ("carryall/isa.rows", Rows.laid_carryall_isa_rows), ("unicode/utf8.first", Rows.laid_unicode_utf8_first)] w := h
  exact ⟨rw_of (Lib.laidMet.reads hL (by simp)), cd_of (Lib.laidMet.reads hL (by simp)), pow_of hL.tail.tail⟩
theorem of_callRegs {w : World} (h : laidMetH Tryd.prog Rows.callRegsRow.laid w) : Rw w ∧ Cd w ∧ Pow w := by
  rw [MakeChecks.laidMetH_plain _ _ _ (by kernel_rfl)] at h
  have hL : laidMet Tryd.prog [("math/bits.deBruijn32tab", Rows.laid_math_bits_deBruijn32tab), ("math/bits.deBruijn64tab", Rows.laid_math_bits_deBruijn64tab), ("internal/strconv.uint64pow10", Rows.laid_internal_strconv_uint64pow10), ("carryall/call.rows", Rows.laid_carryall_call_rows), ("carryall/call.codes", Rows.laid_carryall_call_codes)] w := h
  exact ⟨rw_of (Lib.laidMet.reads hL (by simp)), cd_of (Lib.laidMet.reads hL (by simp)), pow_of hL.tail.tail⟩
end Go.Proofs.YtlddjjkbnhhfaaaDoor.Clu
