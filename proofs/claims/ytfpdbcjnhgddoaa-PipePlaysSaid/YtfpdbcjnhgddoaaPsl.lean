/-
  Parts of rows of bytes; what PipeStreams leans on, in plain words.
-/
import Derived.Test.YtfpdbcjnhgddoaaPac
namespace Go.Proofs.Ytfpdbcjnhgddoaa.Psl
open Go Go.RowKit Go.Shelf Kit Bk Rgm Rgt Rgw Rgp Rgn Rst
set_option linter.unusedVariables false

/-- A slice expression, behind a name that a walk does not open. -/
def slO (t : TypeId) (x : Value) (lo hi mx : Option Value) : Sem Value := Instr.sliceAt t x lo hi mx
theorem sl_wrap (t : TypeId) (x : Value) (lo hi mx : Option Value) : Instr.sliceAt t x lo hi mx = slO t x lo hi mx := rfl
theorem elemB : Try.prog.underlying 22 = some (.slice (Try.prog.elem 22)) := by kernel_rfl
theorem sizeB (W : World) : (sizeOf (Try.prog.elem 22)).run Try.prog W = .ok 1 W := by
  have he : Try.prog.elem 22 = 5 := by kernel_rfl
  rw [he]
  have hi : (Try.prog.info? 5).map (·.size) = some 1 := by kernel_rfl
  cases hq : Try.prog.info? 5 with
  | none => rw [hq] at hi; cases hi
  | some i => rw [hq] at hi; simp [sizeOf, typeInfo, hq]; simpa using hi
theorem sub_any {w : World} {v : Value} {ys : List Nat} (h : Slc .u8 w v ys) (lo hi : Nat) (h1 : lo ≤ hi) (h2 : hi ≤ ys.length) :
    ∃ V, (∀ W, (slO 22 v (some (.int .i64 (lo : Int))) (some (.int .i64 (hi : Int))) none).run Try.prog W = .ok V W) ∧ Slc .u8 w V ((ys.drop lo).take (hi - lo)) := by
  obtain ⟨a, cap, rfl, h3, h4, h5⟩ := h
  have hl : ((ys.drop lo).take (hi - lo)).length = hi - lo := by simp; omega
  refine ⟨.slice (if cap = lo then a else a.map (·.add lo)) (hi - lo) (cap - lo), fun W => ?_, ?_⟩
  · unfold slO
    unfold maxLen at h4
    rw [run_sliceAt_slice (P := Try.prog) (w := W) _ _ _ _ _ elemB, run_slice_lh (P := Try.prog) (w := W) 22 a ys.length cap elemB .i64 .i64 (lo : Int) (hi : Int) (by omega) (by omega) (by omega), sizeB]
    simp only [Result.andThen_ok, sliced, Int.toNat_natCast, Nat.mul_one]
  · refine ⟨_, _, by rw [hl], by rw [hl]; omega, by omega, ?_⟩
    by_cases h0 : hi - lo = 0
    · left
      exact List.eq_nil_of_length_eq_zero (by rw [hl, h0])
    · right
      rcases h5 with rfl | ⟨b, off, rfl, hlt, hc⟩
      · simp at h2; omega
      · rw [if_neg (by omega)]
        refine ⟨b, off + lo, by simp [Addr.add_mid], hlt, fun i hi2 => ?_⟩
        rw [hl] at hi2
        rw [Nat.add_assoc, hc (lo + i) (by omega), List.getElem?_take, if_pos hi2, List.getElem?_drop]
theorem to_any {w : World} {v : Value} {ys : List Nat} (h : Slc .u8 w v ys) (hi : Nat) (h2 : hi ≤ ys.length) :
    ∃ V, (∀ W, (slO 22 v none (some (.int .i64 (hi : Int))) none).run Try.prog W = .ok V W) ∧ Slc .u8 w V (ys.take hi) := by
  obtain ⟨a, cap, rfl, h3, h4, h5⟩ := h
  have hl : (ys.take hi).length = hi := by simp; omega
  refine ⟨.slice (if cap = 0 then a else a.map (·.add 0)) (hi - 0) (cap - 0), fun W => ?_, ?_⟩
  · unfold slO
    unfold maxLen at h4
    rw [run_sliceAt_slice (P := Try.prog) (w := W) _ _ _ _ _ elemB, run_slice_h (P := Try.prog) (w := W) 22 a ys.length cap elemB .i64 (hi : Int) (by omega) (by omega), sizeB]
    simp only [Result.andThen_ok, sliced, Int.toNat_natCast, Nat.mul_one]
  · refine ⟨_, _, by rw [hl, Nat.sub_zero], by rw [hl]; omega, by omega, ?_⟩
    by_cases h0 : hi = 0
    · left
      exact List.eq_nil_of_length_eq_zero (by rw [hl, h0])
    · right
      rcases h5 with rfl | ⟨b, off, rfl, hlt, hc⟩
      · simp at h2; omega
      · rw [if_neg (by omega)]
        refine ⟨b, off, by simp [Addr.add_mid], hlt, fun i hi2 => ?_⟩
        rw [hl] at hi2
        rw [hc i (by omega), List.getElem?_take, if_pos hi2]
theorem bstr_take (l : List Nat) (m : Nat) : (bstr l).extract 0 m = bstr (l.take m) := by
  apply ByteArray.ext
  apply Array.toList_inj.1
  simp [bstr, strOfNums, List.map_take]
/-- The beginning of a text. -/
theorem run_head (W : World) (l : List Nat) (m : Nat) (hm : m ≤ l.length) (hl : l.length ≤ 1000) : (slO 9 (.string (bstr l)) none (some (.int .i64 (m : Int))) none).run Try.prog W = .ok (.string (bstr (l.take m))) W := by
  have hs := bstr_size l
  have hss : (m : Int) ≤ ((bstr l).size : Int) := by omega
  have ht := bstr_take l m
  unfold slO
  rw [run_sliceAt_string (P := Try.prog) (w := W) _ _ _ _ _ Try.underlying9]
  generalize bstr l = S at *
  generalize bstr (l.take m) = S2 at *
  go_simp
/-- A piece goes in. -/
theorem into {out xs ys : List Nat} {A n C : Nat} (h : out ++ xs = ys.take A) (hA : A ≤ ys.length) :
    out ++ (xs ++ ((ys.drop A).take (min ys.length (A + n) - A)).take (C - xs.length)) = ys.take (A + min (min ys.length (A + n) - A) (C - xs.length)) ∧ A + min (min ys.length (A + n) - A) (C - xs.length) ≤ ys.length := by
  constructor
  · rw [← List.append_assoc, h, List.take_take, ← List.take_add, Nat.min_comm]
  · omega
/-- A piece comes out. -/
theorem outof {out xs ys : List Nat} {A : Nat} (n : Nat) (h : out ++ xs = ys.take A) : (out ++ xs.take n) ++ xs.drop n = ys.take A := by
  rw [List.append_assoc, List.take_append_drop, h]
end Go.Proofs.Ytfpdbcjnhgddoaa.Psl
