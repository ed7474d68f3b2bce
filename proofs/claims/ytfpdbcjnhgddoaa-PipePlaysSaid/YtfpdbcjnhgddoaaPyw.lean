/-
  PipePlays: all ways together.
-/
import Derived.Test.YtfpdbcjnhgddoaaPyp
namespace Go.Proofs.Ytfpdbcjnhgddoaa.Walk
open Go Go.RowKit Kit Pop Pac Psd Pn Pya Pyp
theorem pipePlays (st : Str) (bv v : Value) (l : List Opr) (W : World) (h0 : Slc .u8 W bv st.xs) (_ : (Lit.int .i64 st.c).wf = true) (_ : (Lit.int .i64 st.r).wf = true) (_ : (Lit.int .i64 st.u).wf = true) (h1 : OpsAt W v l) :
    Calls Try.prog 3 #[.agg #[.int .i64 st.c, bv, .int .i64 st.r, .int .i64 st.u], v] W fun e w' => e = .returned (.bool true) ∧ Below W.heap.size W w' := by
  by_cases hf : Fine l
  · by_cases hl : st.xs.length ≤ 200
    · by_cases hg : 1 ≤ st.c ∧ st.c ≤ 64 ∧ (st.xs.length : Int) ≤ st.c
      · obtain ⟨C, hC⟩ := Int.eq_ofNat_of_zero_le (show 0 ≤ st.c by omega)
        have hC2 : st.c = (C : Int) := hC
        by_cases hm : Mays st.r st.u
        · obtain ⟨R, hR⟩ := Int.eq_ofNat_of_zero_le hm.1
          obtain ⟨U, hU⟩ := Int.eq_ofNat_of_zero_le hm.2.2.1
          have hR2 : st.r = (R : Int) := hR
          have hU2 : st.u = (U : Int) := hU
          exact plays_fine st bv v l W h0 h1 hf hl C ⟨st.xs, R, U⟩ hC2 ⟨by omega, by omega⟩ (by omega) rfl hR2 hU2 (by rw [← hR2, ← hU2]; exact hm)
        · exact plays_bad2 st bv v l W h0 h1 hf hl C hC2 ⟨by omega, by omega⟩ (by omega) hm
      · exact plays_bad1 st bv v l W h0 h1 hf hl hg
    · exact plays_far st bv v l W h0 h1 hf (by omega)
  · exact plays_great st bv v l W h1 hf
end Go.Proofs.Ytfpdbcjnhgddoaa.Walk
