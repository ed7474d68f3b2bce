/-
  The walk of WordTexts: Text and Parse beside the document's answers, for any word and any string.
-/
import Derived.Test.YthacghmgkpbdoaaRefText
namespace Go.Proofs.Ythacghmgkpbdoaa.Walk
open Go Go.RowKit Nums Kit Leaf Text RefText
set_option linter.unusedVariables false

theorem wordTexts (a0 : Int) (s : ByteArray) (w : World) (w0 : (Lit.int .u32 a0).wf = true) (w1 : s.size ≤ maxLen) :
    Calls Try.prog 5 #[.int .u32 a0, .string s] w fun e w' => e = .returned (.bool true) ∧ Below w.heap.size w w' := by
  obtain ⟨v, rfl, hv⟩ := u32_nat w0
  clear w0
  have hmax := w1
  unfold maxLen at hmax
  by_cases hlen : s.size ≤ 100
  · by_cases h8 : s.size = 8
    · have H8 := Lib.hid h8
      clear h8
      by_cases hd : allDig s 8 = true
      · have hp := parseR_yes hd
        clear hd
        go_enter Try.func5, Try.ntmps5
        go_wp2_with (first | (go_at_call 26; refine (parse_any _ _ H8.out).mono ?_; rintro e w' ⟨rfl, rfl⟩) | (go_at_call 27; refine (rparse_any _ _ H8.out).mono ?_; rintro e w1 ⟨rfl, b1⟩) | (go_at_call 28; refine (text_any _ _ hv).mono ?_; rintro e w2 ⟨rfl, b2⟩) | (go_at_call 29; refine (rtext_any _ _ hv).mono ?_; rintro e w3 ⟨rfl, b3⟩))
        go_ret
        exact ⟨rfl, b1.trans ((b2.trans (b3.mono b2.size)).mono b1.size)⟩
      · have hp : parseR s = .tuple #[.int .u32 0, .int .i64 10] := by unfold parseR; rw [if_neg hd]
        clear hd
        go_enter Try.func5, Try.ntmps5
        go_wp2_with (first | (go_at_call 26; refine (parse_any _ _ H8.out).mono ?_; rintro e w' ⟨rfl, rfl⟩) | (go_at_call 27; refine (rparse_any _ _ H8.out).mono ?_; rintro e w1 ⟨rfl, b1⟩) | (go_at_call 28; refine (text_any _ _ hv).mono ?_; rintro e w2 ⟨rfl, b2⟩) | (go_at_call 29; refine (rtext_any _ _ hv).mono ?_; rintro e w3 ⟨rfl, b3⟩))
        go_ret
        exact ⟨rfl, b1.trans ((b2.trans (b3.mono b2.size)).mono b1.size)⟩
    · go_enter Try.func5, Try.ntmps5
      go_wp2_with (first | (go_at_call 26; refine (parse_len _ _ w1 h8).mono ?_; rintro e w' ⟨rfl, rfl⟩) | (go_at_call 27; refine (rparse_len _ _ w1 h8).mono ?_; rintro e w' ⟨rfl, rfl⟩) | (go_at_call 28; refine (text_any _ _ hv).mono ?_; rintro e w2 ⟨rfl, b2⟩) | (go_at_call 29; refine (rtext_any _ _ hv).mono ?_; rintro e w3 ⟨rfl, b3⟩))
      go_ret
      exact ⟨rfl, b2.trans (b3.mono b2.size)⟩
  · go_enter Try.func5, Try.ntmps5
    go_wp2
    go_ret
    exact ⟨rfl, Below.refl _ _⟩
end Go.Proofs.Ythacghmgkpbdoaa.Walk
