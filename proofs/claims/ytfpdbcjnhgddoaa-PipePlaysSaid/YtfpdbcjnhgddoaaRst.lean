/-
  Rows of bytes as texts.
-/
import Derived.Test.YtfpdbcjnhgddoaaRgn
import Derived.Lib.SmallJoins
import Derived.Lib.SlBytesConst
namespace Go.Proofs.Ytfpdbcjnhgddoaa.Rst
open Go Go.RowKit Go.Shelf Kit Bk Rgm Rgt Rgw Rgp Rgn
set_option linter.unusedVariables false

/-- A text of bytes. -/
def bstr (l : List Nat) : ByteArray := strOfNums (l.map fun (x : Nat) => (x : Int))
theorem slc_string {w : World} {v : Value} {l : List Nat} (h : Slc .u8 w v l) : (convert 22 9 v).run Try.prog w = .ok (.string (bstr l)) w := by
  obtain ⟨a, cap, rfl, h1, h2, h3⟩ := h
  rcases h3 with rfl | ⟨b, off, rfl, hlt, hc⟩
  · cases a with
    | none =>
      refine (run_convert_bytes_nil w 22 5 Try.underlying22 Try.underlying5 0 cap 9 Try.underlying9).trans ?_
      rfl
    | some a =>
      obtain ⟨b, off, sp⟩ := a
      refine (run_convert_bytes_arg w 22 5 Try.underlying22 Try.underlying5 b off 0 cap [] (by simp) (fun i hi => by omega) 9 Try.underlying9).trans ?_
      rfl
  · refine run_convert_bytes_arg w 22 5 Try.underlying22 Try.underlying5 b off l.length cap (l.map fun (x : Nat) => (x : Int)) (by simp) (fun i hi => ?_) 9 Try.underlying9
    rw [hc i hi]
    simp [List.getD, List.getElem?_eq_getElem hi]
theorem own_slc {w : World} {base : Nat} {r : Value} {n : Nat} {l : List Nat} (h : w.ownsRow base 5 1 r n (u8s l)) : Slc .u8 w r l := by
  have hl : l.length = n := by have := h.1; simpa [u8s] using this
  rcases h.2 with ⟨rfl, rfl⟩ | ⟨g, cap, cur, rfl, hg, hh, h1, h2, h3, h4⟩
  · obtain rfl : l = [] := List.eq_nil_of_length_eq_zero hl
    exact ⟨none, 0, rfl, Nat.le_refl _, Nat.zero_le _, .inl rfl⟩
  · subst hl
    refine ⟨some ⟨g, 0, none⟩, cap, rfl, h1, h2, .inr ⟨g, 0, rfl, (Array.getElem?_eq_some_iff.1 hh).1, fun i hi => ?_⟩⟩
    rw [Nat.zero_add, cell_of_row w g i cur _ _ hh]
    have := congrArg (fun z => z[i]?) h4
    simp only [List.getElem?_take, Nat.mul_one, hi, if_true, Array.getElem?_toList] at this
    rw [this, u8s_at l i hi]
/-- A row of the call's own is a source beside the ring. -/
theorem own_src {w : World} {base p : Nat} {r : Value} {n C : Nat} {l xs : List Nat} (h : w.ownsRow base 5 1 r n (u8s l)) (hr : Rg w p C xs) : Src w p r l := by
  have hs := own_slc h
  rcases h.2 with ⟨rfl, h2⟩ | ⟨g, cap, cur, rfl, hg, hh, _⟩
  · obtain ⟨a, c, h1, h2, h3, h4⟩ := hs
    refine ⟨a, c, h1, h2, h3, .inl ?_⟩
    rcases h4 with h4 | ⟨b, off, e, _⟩
    · exact h4
    · rw [e] at h1; cases h1
  · obtain ⟨a, c, h1, h2, h3, h4⟩ := hs
    refine ⟨a, c, h1, h2, h3, h4.imp id ?_⟩
    rintro ⟨b, off, e, hlt, hc⟩
    refine ⟨b, off, e, ?_, hlt, hc⟩
    rw [e] at h1
    cases h1
    obtain ⟨cs, f, hb, _⟩ := hr
    exact Blk.ne (T := 5) (U := 83) hh hb (by decide)
theorem bstr_append (l r : List Nat) : bstr l ++ bstr r = bstr (l ++ r) := by
  apply ByteArray.ext
  simp [bstr, strOfNums, ByteArray.data_append]
theorem bstr_size (l : List Nat) : (bstr l).size = l.length := by unfold bstr; rw [strOfNums_size, List.length_map]
theorem bstr_nil : bstr [] = ⟨#[]⟩ := rfl
/-- A literal row of bytes: it lies beside a ring that was there. -/
theorem lit_src {w : World} {p n : Nat} {l : List Nat} {cs : Array Value} {fr : Nat × Nat} (hp : p < w.heap.size) (hn : l.length = n) (hcs : cs = (u8s l).toArray) (hl : l.length ≤ maxLen) :
    Src (w.alloc (.cells cs 5 fr)) p (.slice (some ⟨w.heap.size, 0, none⟩) n n) l := by
  subst hn
  refine ⟨_, _, rfl, Nat.le_refl _, hl, .inr ⟨w.heap.size, 0, rfl, by omega, by simp, fun i hi => ?_⟩⟩
  rw [Nat.zero_add, World.cell?_alloc_mark, hcs, List.getElem?_toArray, u8s_at l i hi]
theorem lit_slc {w : World} {n : Nat} {l : List Nat} {cs : Array Value} {fr : Nat × Nat} (hn : l.length = n) (hcs : cs = (u8s l).toArray) (hl : l.length ≤ maxLen) :
    Slc .u8 (w.alloc (.cells cs 5 fr)) (.slice (some ⟨w.heap.size, 0, none⟩) n n) l := by
  subst hn
  refine ⟨_, _, rfl, Nat.le_refl _, hl, .inr ⟨w.heap.size, 0, rfl, by simp, fun i hi => ?_⟩⟩
  rw [Nat.zero_add, World.cell?_alloc_mark, hcs, List.getElem?_toArray, u8s_at l i hi]
end Go.Proofs.Ytfpdbcjnhgddoaa.Rst
