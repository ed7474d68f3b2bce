/-
  The chapter's first examples: alive answers true.
-/
import Derived.Test.YthacghmgkpbdoaaBytes
import Derived.Test.YthacghmgkpbdoaaText
namespace Go.Proofs.Ythacghmgkpbdoaa.Alive
open Go Go.RowKit Nums Kit Leaf Text Bytes
set_option linter.unusedVariables false

/-- Bytes as a string. -/
def bstr (l : List Nat) : ByteArray := strOfNums (l.map fun (x : Nat) => (x : Int))
theorem own_string {w : World} {base : Nat} {r : Value} {n : Nat} {l : List Nat} (h : w.ownsRow base 5 1 r n (u8s l)) :
    (convert 24 9 r).run Try.prog w = .ok (.string (bstr l)) w := by
  have hl : l.length = n := by have := h.1; simp [u8s] at this; exact this
  rcases h.2 with ⟨rfl, rfl⟩ | ⟨g, cap, cur, rfl, hg, hh, h1, h2, h3, h4⟩
  · obtain rfl : l = [] := List.eq_nil_of_length_eq_zero hl
    rw [run_convert_bytes_nil w 24 5 Try.underlying24 Try.underlying5 0 0 9 Try.underlying9]
    rfl
  · refine run_convert_bytes_arg w 24 5 Try.underlying24 Try.underlying5 g 0 n cap (l.map fun (x : Nat) => (x : Int)) (by simpa using hl) (fun i hi => ?_) 9 Try.underlying9
    have hc := h.cells (g := g) rfl i (.int .u8 ((l[i]'(by omega) : Nat) : Int)) (by simp [u8s, List.getElem?_eq_getElem (show i < l.length by omega)])
    rw [add_zero_off] at hc
    rw [Nat.zero_add, hc]
    simp [List.getD, List.getElem?_eq_getElem (show i < l.length by omega)]

theorem alive_any (w : World) :
    Calls Try.prog 30 #[] w fun e w' => e = .returned (.bool true) ∧ Below w.heap.size w w' := by
  have hB : isB ((8 : Nat) : Int) ((12 : Nat) : Int) = true := by decide
  have hF := fun w => field_any 305419896 8 12 w (by decide) hB
  rw [show field 305419896 8 12 = 1110 from by decide] at hF
  have HF := Lib.hid hF
  have e1 : (bstr (bs 258)).toList = [2, 1, 0, 0] := by rw [ByteArray.toList_eq]; decide
  have e2 : (txtS 258).toList = [48, 48, 48, 48, 48, 49, 48, 50] := by rw [ByteArray.toList_eq]; decide
  clear hF hB
  go_enter Try.func30, Try.ntmps30
  go_wp2_with (first | (go_at_call 20; go_must (refine (HF.out _).mono ?_); rintro e w1 ⟨rfl, k, rfl⟩) | (go_at_call 16; go_must (refine (bytes_any 258 _ (by decide)).mono ?_); rintro e w2 ⟨r, rfl, hown, hb2⟩; have hcv := own_string hown) | (go_at_call 28; go_must (refine (text_any 258 _ (by decide)).mono ?_); rintro e w3 ⟨rfl, hb3⟩))
  go_ret
  exact ⟨rfl, (below_drewN (Below.refl _ w) k).trans (hb2.trans (hb3.mono hb2.size))⟩
end Go.Proofs.Ythacghmgkpbdoaa.Alive
