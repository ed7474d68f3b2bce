/-
  The walk of WordBytes, whole.
-/
import Derived.Test.YthacghmgkpbdoaaWBytesMany
import Derived.Test.YthacghmgkpbdoaaWBytesOne
namespace Go.Proofs.Ythacghmgkpbdoaa.Walk
open Go Go.RowKit Nums Kit Leaf Alive Bytes Join Quads Words BackNums RefWords
set_option linter.unusedVariables false

theorem wordBytes_big (v : Int) (a0 a1 : Option Addr) (cap0 cap1 : Nat) (ls xs : List Nat) (w : World) (hl : Slc .u32 w (.slice a0 ls.length cap0) ls) (hx : Slc .u8 w (.slice a1 xs.length cap1) xs)
    (h : 400 < ls.length ∨ (ls.length ≤ 400 ∧ 1600 < xs.length)) :
    Calls Try.prog 3 #[.int .u32 v, .slice a0 ls.length cap0, .slice a1 xs.length cap1] w fun e w' => e = .returned (.bool true) ∧ Below w.heap.size w w' := by
  obtain ⟨a, cap, he, hcap, hmax, -⟩ := hl
  cases he
  obtain ⟨a, cap, he, hcapx, hmaxx, -⟩ := hx
  cases he
  unfold maxLen at hmax hmaxx
  rcases h with h | ⟨h, h'⟩
  · go_enter Try.func3, Try.ntmps3
    go_wp2
    go_ret
    exact ⟨rfl, Below.refl _ w⟩
  · go_enter Try.func3, Try.ntmps3
    go_wp2
    go_ret
    exact ⟨rfl, Below.refl _ w⟩

theorem wordBytes (a0 : Int) (a1 : Option Addr) (len1 cap1 : Nat) (z1 : List Int) (a2 : Option Addr) (len2 cap2 : Nat) (z2 : List Int) (w : World) (w0 : (Lit.int .u32 a0).wf = true) (w1 : IsRow .u32 w a1 len1 cap1 z1) (w2 : IsRow .u8 w a2 len2 cap2 z2) :
    Calls Try.prog 3 #[.int .u32 a0, .slice a1 len1 cap1, .slice a2 len2 cap2] w fun e w' => e = .returned (.bool true) ∧ Below w.heap.size w w' := by
  obtain ⟨v, rfl, hv⟩ := u32_nat w0
  obtain ⟨ls, rfl, hl, hlw⟩ := w1.slc nn_u32
  obtain ⟨xs, rfl, hx, hxw⟩ := w2.slc nn_u8
  by_cases h1 : ls.length ≤ 400
  · by_cases h2 : xs.length ≤ 1600
    · by_cases h4 : xs.length % 4 = 0
      · by_cases h5 : xs.length = 4
        · exact wordBytes_one v a1 a2 cap1 cap2 ls xs w hv hl hx (u32_lt hlw) (u8_lt hxw) h1 h2 h5
        · exact wordBytes_many v a1 a2 cap1 cap2 ls xs w hv hl hx (u32_lt hlw) (u8_lt hxw) h1 h2 ⟨h4, h5⟩
      · exact wordBytes_no v a1 a2 cap1 cap2 ls xs w hv hl hx (u32_lt hlw) (u8_lt hxw) h1 h2 h4
    · exact wordBytes_big v a1 a2 cap1 cap2 ls xs w hl hx (.inr ⟨h1, by omega⟩)
  · exact wordBytes_big v a1 a2 cap1 cap2 ls xs w hl hx (.inl (by omega))
end Go.Proofs.Ythacghmgkpbdoaa.Walk
