/-
  The walk of WordBytes where the bytes are whole words: one.
-/
import Derived.Test.YthacghmgkpbdoaaWBytesWalk
namespace Go.Proofs.Ythacghmgkpbdoaa.Walk
open Go Go.RowKit Nums Kit Leaf Alive Bytes Join Quads Words BackNums RefWords
set_option linter.unusedVariables false

/-- Read of a word's bytes, and the document's words of them. -/
theorem read_four (v : Value) (xs : List Nat) (X : Nat) (w : World) (hx : Slc .u8 w v xs) (hb : ∀ x ∈ xs, x < 256) (h4 : xs.length = 4) (hX : wd xs 0 = X) :
    Calls Try.prog 12 #[v] w fun e w' => e = .returned (.tuple #[.int .u32 (X : Int), .int .i64 0]) ∧ Below w.heap.size w w' := by
  rw [← hX]
  exact read_any v xs w hx h4 hb
theorem wordsOf_four {xs : List Nat} {X : Nat} (h4 : xs.length = 4) (hX : wd xs 0 = X) : wordsOf xs = [X] := by
  unfold wordsOf; rw [h4, ← hX]; rfl
theorem rwords_one (v : Value) (xs : List Nat) (X : Nat) (w : World) (hx : Slc .u8 w v xs) (hb : ∀ x ∈ xs, x < 256) (h4 : xs.length = 4) (hX : wd xs 0 = X) :
    Calls Try.prog 14 #[v] w fun e w' => ∃ b off cap, e = .returned (.tuple #[.slice (some ⟨b, off, none⟩) 1 cap, .int .i64 0]) ∧ Slc .u32 w' (.slice (some ⟨b, off, none⟩) 1 cap) [X] ∧ 1 ≤ cap ∧ b < w'.heap.size ∧ w'.cell? ⟨b, off, none⟩ = some (.int .u32 (X : Int)) ∧ Below w.heap.size w w' :=
  (rwords_ys v xs [X] w (wordsOf_four h4 hX) hx hb (by omega) (by omega)).mono fun e w' ⟨a, cap, he, hs, hk, hB⟩ => by
    obtain ⟨a', cap', he', h1, h2, h3⟩ := id hs
    cases he'
    rcases h3 with h3 | ⟨b, off, rfl, hlt, hc⟩
    · cases h3
    · exact ⟨b, off, cap, he, hs, hk, hlt, hc 0 (by simp), hB⟩

set_option maxRecDepth 100000 in
set_option maxHeartbeats 8000000 in
theorem wordBytes_one (v : Nat) (a0 a1 : Option Addr) (cap0 cap1 : Nat) (ls xs : List Nat) (w : World) (hv : v < 4294967296) (hl : Slc .u32 w (.slice a0 ls.length cap0) ls) (hx : Slc .u8 w (.slice a1 xs.length cap1) xs)
    (hlb : ∀ x ∈ ls, x < 4294967296) (hxb : ∀ x ∈ xs, x < 256) (hl4 : ls.length ≤ 400) (hx4 : xs.length ≤ 1600) (h4 : xs.length = 4) :
    Calls Try.prog 3 #[.int .u32 (v : Int), .slice a0 ls.length cap0, .slice a1 xs.length cap1] w fun e w' => e = .returned (.bool true) ∧ Below w.heap.size w w' := by
  have HLB := Lib.hid hlb
  have HXB := Lib.hid hxb
  have H4 := Lib.hid h4
  clear hlb hxb h4
  obtain ⟨B1, hB1⟩ : ∃ B, bstr (bs v) = B := ⟨_, rfl⟩
  obtain ⟨B2, hB2⟩ : ∃ B, bstr (allB ls) = B := ⟨_, rfl⟩
  have hq1 : (B1.toList == B1.toList) = true := by simp
  have hq2 : (B2.toList == B2.toList) = true := by simp
  have hq3 : (B1.toList != B1.toList) = false := by simp
  have hq4 : (B2.toList != B2.toList) = false := by simp
  have HB1 := Lib.hid hB1
  have HB2 := Lib.hid hB2
  clear hB1 hB2
  obtain ⟨X, hX⟩ : ∃ X, wd xs 0 = X := ⟨_, rfl⟩
  have HX := Lib.hid hX
  obtain ⟨ys, hys⟩ : ∃ ys, ys = [X] := ⟨_, rfl⟩
  have HYS := Lib.hid hys
  clear hX hys
  go_enter Try.func3, Try.ntmps3
  go_wp2_with (first
    | (go_at_call 12; refine (read_four _ xs X _ hx HXB.out H4.out HX.out).mono ?_; rintro e w1 ⟨rfl, hb1⟩)
    | (go_at_call 13; refine (words_ys _ xs ys _ ((wordsOf_four H4.out HX.out).trans HYS.out.symm) (hx.below hb1) HXB.out (by omega) (by have := H4.out; omega)).mono ?_; rintro e w2 ⟨m2, rfl, hr2, hb2⟩)
    | (go_at_call 14; refine (rwords_one _ xs X _ (hx.below (bel hb1 hb2)) HXB.out H4.out HX.out).mono ?_; rintro e w3 ⟨b3, o3, k3, rfl, hr3, hk3, hl3, hc3, hb3⟩; have h3 := bel (bel hb1 hb2) hb3; rw [← HYS.out] at hr3))
  first | (go_region_held (fun _ => True) (trivial) (first
    | (go_at_call 15; refine (same_let _ _ ys _ (hr2.below hb3.drew) (hr3.below (Below.refl _ w3).drew)).mono ?_; rintro e w4 ⟨rfl, hb4⟩; have h4 := bel (Below.refl _ w3).drew hb4)
    | (go_at_call 16; refine (bytes_let v B1 _ hv HB1.out).mono ?_; rintro e w5 ⟨r5, rfl, hc5, hb5⟩; have h5 := bel h4 hb5; have hd5 := hc5 w5 (Below.refl _ w5))
    | (go_at_call 17; refine (rbytes_let v B1 _ hv HB1.out).mono ?_; rintro e w6 ⟨r6, rfl, hc6, hb6⟩; have h6 := bel h5 hb6; have hd6 := hc5 w6 hb6)
    | (go_at_call 18; refine (all_let _ ls B2 _ (hl.below (bel h3 h6)) HLB.out (by omega) HB2.out).mono ?_; rintro e w7 ⟨r7, rfl, hc7, hb7⟩; have h7 := bel h6 hb7; have hd7 := hc7 w7 (Below.refl _ w7))
    | (go_at_call 19; refine (rall_let _ ls B2 _ (hl.below (bel h3 h7)) HLB.out (by omega) HB2.out).mono ?_; rintro e w8 ⟨r8, rfl, hc8, hb8⟩; have h8 := bel h7 hb8; have hd8 := hc7 w8 hb8; have hz8 := (h8.cell (p := ⟨b3, o3, none⟩) hl3).trans hc3))) | fail
  all_goals go_wp2
  all_goals go_ret
  all_goals exact ⟨rfl, bel h3 h8⟩
end Go.Proofs.Ythacghmgkpbdoaa.Walk
