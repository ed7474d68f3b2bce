/-
  The walk of WordBytes where the bytes are whole words: none or several.
-/
import Derived.Test.YthacghmgkpbdoaaWBytesWalk
namespace Go.Proofs.Ythacghmgkpbdoaa.Walk
open Go Go.RowKit Nums Kit Leaf Alive Bytes Join Quads Words BackNums RefWords
set_option linter.unusedVariables false

set_option maxRecDepth 100000 in
set_option maxHeartbeats 8000000 in
theorem wordBytes_many (v : Nat) (a0 a1 : Option Addr) (cap0 cap1 : Nat) (ls xs : List Nat) (w : World) (hv : v < 4294967296) (hl : Slc .u32 w (.slice a0 ls.length cap0) ls) (hx : Slc .u8 w (.slice a1 xs.length cap1) xs)
    (hlb : ∀ x ∈ ls, x < 4294967296) (hxb : ∀ x ∈ xs, x < 256) (hl4 : ls.length ≤ 400) (hx4 : xs.length ≤ 1600) (h4 : xs.length % 4 = 0 ∧ ¬ xs.length = 4) :
    Calls Try.prog 3 #[.int .u32 (v : Int), .slice a0 ls.length cap0, .slice a1 xs.length cap1] w fun e w' => e = .returned (.bool true) ∧ Below w.heap.size w w' := by
  have HLB := Lib.hid hlb
  have HXB := Lib.hid hxb
  have H4 := Lib.hid h4
  clear hlb hxb h4
  obtain ⟨B1, hB1⟩ : ∃ B, bstr (bs v) = B := ⟨_, rfl⟩
  obtain ⟨B2, hB2⟩ : ∃ B, bstr (allB ls) = B := ⟨_, rfl⟩
  have hq1 : (B1.toList == B1.toList) = true := by simp
  have hq2 : (B2.toList == B2.toList) = true := by simp
  have hq3 : (B1.toList != B1.toList) = false := by simp
  have hq4 : (B2.toList != B2.toList) = false := by simp
  have HB1 := Lib.hid hB1
  have HB2 := Lib.hid hB2
  clear hB1 hB2
  obtain ⟨ys, hys⟩ : ∃ ys, wordsOf xs = ys := ⟨_, rfl⟩
  have hyl : ys.length = xs.length / 4 := by rw [← hys]; exact wordsOf_length xs
  have hy4 : ys.length ≤ 400 ∧ ¬ ys.length = 1 := by have := H4.out; omega
  have hm1 : (((ys.length : Nat) : Int) != 1) = true := by simp; omega
  have HYS := Lib.hid hys
  clear hys hyl
  go_enter Try.func3, Try.ntmps3
  go_wp2_with (first
    | (go_at_call 12; refine (read_len _ xs _ hx H4.out.2).mono ?_; rintro e w1 ⟨rfl, rfl⟩)
    | (go_at_call 13; refine (words_ys _ xs ys _ HYS.out hx HXB.out (by omega) H4.out.1).mono ?_; rintro e w2 ⟨m2, rfl, hr2, hb2⟩)
    | (go_at_call 14; refine (rwords_ys _ xs ys _ HYS.out (hx.below hb2) HXB.out (by omega) H4.out.1).mono ?_; rintro e w3 ⟨a3, k3, rfl, hr3, hk3, hb3⟩; have h3 := bel hb2 hb3))
  first | (go_region_held (fun _ => True) (trivial) (first
    | (go_at_call 15; refine (same_let _ _ ys _ (hr2.below hb3.drew) (hr3.below (Below.refl _ w3).drew)).mono ?_; rintro e w4 ⟨rfl, hb4⟩; have h4 := bel (Below.refl _ w3).drew hb4)
    | (go_at_call 16; refine (bytes_let v B1 _ hv HB1.out).mono ?_; rintro e w5 ⟨r5, rfl, hc5, hb5⟩; have h5 := bel h4 hb5; have hd5 := hc5 w5 (Below.refl _ w5))
    | (go_at_call 17; refine (rbytes_let v B1 _ hv HB1.out).mono ?_; rintro e w6 ⟨r6, rfl, hc6, hb6⟩; have h6 := bel h5 hb6; have hd6 := hc5 w6 hb6)
    | (go_at_call 18; refine (all_let _ ls B2 _ (hl.below (bel h3 h6)) HLB.out (by omega) HB2.out).mono ?_; rintro e w7 ⟨r7, rfl, hc7, hb7⟩; have h7 := bel h6 hb7; have hd7 := hc7 w7 (Below.refl _ w7))
    | (go_at_call 19; refine (rall_let _ ls B2 _ (hl.below (bel h3 h7)) HLB.out (by omega) HB2.out).mono ?_; rintro e w8 ⟨r8, rfl, hc8, hb8⟩; have h8 := bel h7 hb8; have hd8 := hc7 w8 hb8))) | fail
  all_goals go_wp2
  all_goals go_ret
  all_goals exact ⟨rfl, bel h3 h8⟩
end Go.Proofs.Ythacghmgkpbdoaa.Walk
