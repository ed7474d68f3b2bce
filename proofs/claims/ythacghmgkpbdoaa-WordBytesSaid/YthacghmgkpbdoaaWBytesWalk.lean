/-
  The walk of WordBytes: bytes of a word and of words, and words of bytes, are the document's.
-/
import Derived.Test.YthacghmgkpbdoaaRefWords
import Derived.WalkSpells
import Derived.BigRegion
import Derived.BigCall
import Derived.BigQuiet
import Derived.Deep.RegionHeld
namespace Go.Proofs.Ythacghmgkpbdoaa.Walk
open Go Go.RowKit Nums Kit Leaf Alive Bytes Join Quads Words BackNums RefWords
set_option linter.unusedVariables false

/-- The words of whole bytes. -/
def wordsOf (xs : List Nat) : List Nat := (List.range (xs.length / 4)).map (wd xs)
theorem wordsOf_length (xs : List Nat) : (wordsOf xs).length = xs.length / 4 := by simp [wordsOf]
theorem words_ys (v : Value) (xs ys : List Nat) (w : World) (hy : wordsOf xs = ys) (hx : Slc .u8 w v xs) (hb : ∀ x ∈ xs, x < 256) (hlen : xs.length ≤ 2000) (h4 : xs.length % 4 = 0) :
    Calls Try.prog 13 #[v] w fun e w' => ∃ m, e = .returned (.tuple #[m, .int .i64 0]) ∧ Slc .u32 w' m ys ∧ Below w.heap.size w w' := by
  rw [← hy]
  exact words_let v xs w hx hb hlen h4
theorem rwords_ys (v : Value) (xs ys : List Nat) (w : World) (hy : wordsOf xs = ys) (hx : Slc .u8 w v xs) (hb : ∀ x ∈ xs, x < 256) (hlen : xs.length ≤ 2000) (h4 : xs.length % 4 = 0) :
    Calls Try.prog 14 #[v] w fun e w' => ∃ a cap, e = .returned (.tuple #[.slice a ys.length cap, .int .i64 0]) ∧ Slc .u32 w' (.slice a ys.length cap) ys ∧ ys.length ≤ cap ∧ Below w.heap.size w w' := by
  rw [← hy]
  exact (rwords_yes v xs w hx hb (by omega) h4).mono fun e w' ⟨m, he, hown, hB⟩ => by
    have hs := own_slc32 hown
    obtain ⟨a, cap, rfl, h1, h2⟩ := id hs
    exact ⟨a, cap, he, hs, h1, hB⟩
theorem same_let (va vb : Value) (xs : List Nat) (w : World) (ha : Slc .u32 w va xs) (hb : Slc .u32 w vb xs) :
    Calls Try.prog 15 #[va, vb] w fun e w' => e = .returned (.bool true) ∧ Below w.heap.size w w' :=
  (Same.same_any va vb xs w ha hb).mono fun e w' ⟨he, k, hk⟩ => ⟨he, by rw [hk]; exact below_drewN (Below.refl _ w) k⟩
theorem bytes_let (v : Nat) (B : ByteArray) (w : World) (hv : v < 4294967296) (hB : bstr (bs v) = B) :
    Calls Try.prog 16 #[.int .u32 (v : Int)] w fun e w' => ∃ r, e = .returned r ∧ (∀ w2, Below w'.heap.size w' w2 → (convert 24 9 r).run Try.prog w2 = .ok (.string B) w2) ∧ Below w.heap.size w w' :=
  (bytes_slc v w hv).mono fun e w' ⟨a, cap, he, hs, h⟩ => ⟨_, he, fun w2 h2 => by rw [← hB]; exact slc_string (hs.below h2), h⟩
theorem rbytes_let (v : Nat) (B : ByteArray) (w : World) (hv : v < 4294967296) (hB : bstr (bs v) = B) :
    Calls Try.prog 17 #[.int .u32 (v : Int)] w fun e w' => ∃ r, e = .returned r ∧ (convert 24 9 r).run Try.prog w' = .ok (.string B) w' ∧ Below w.heap.size w w' :=
  (Same.rbytes_any v w hv).mono fun e w' ⟨he, hw⟩ => by
    have hs : Slc .u8 w' (.slice (some ⟨w.heap.size, 0, none⟩) 4 4) (bs v) := by
      rw [hw]
      refine ⟨_, 4, rfl, Nat.le_refl _, by decide, .inr ⟨w.heap.size, 0, rfl, by simp, fun i hi => ?_⟩⟩
      have h := Same.news_cells w v 5 i (.int .u8 (((bs v)[i]?.getD 0 : Nat) : Int)) (by simp [u8s, List.getElem?_eq_getElem hi])
      rw [add_zero_off] at h
      rw [Nat.zero_add]
      exact h
    exact ⟨_, he, by rw [← hB]; exact slc_string hs, by rw [hw]; exact (Below.refl _ w).alloc (Nat.le_refl _) _⟩
theorem all_let (v : Value) (xs : List Nat) (B : ByteArray) (w : World) (hx : Slc .u32 w v xs) (hb : ∀ x ∈ xs, x < 4294967296) (hn : xs.length ≤ 1000) (hB : bstr (allB xs) = B) :
    Calls Try.prog 18 #[v] w fun e w' => ∃ r, e = .returned r ∧ (∀ w2, Below w'.heap.size w' w2 → (convert 24 9 r).run Try.prog w2 = .ok (.string B) w2) ∧ Below w.heap.size w w' :=
  (all_slc v xs w hx hb hn).mono fun e w' ⟨a, cap, he, hs, h⟩ => ⟨_, he, fun w2 h2 => by rw [← hB]; exact slc_string (hs.below h2), h⟩
theorem rall_let (v : Value) (xs : List Nat) (B : ByteArray) (w : World) (hx : Slc .u32 w v xs) (hb : ∀ x ∈ xs, x < 4294967296) (hn : xs.length ≤ 1000) (hB : bstr (allB xs) = B) :
    Calls Try.prog 19 #[v] w fun e w' => ∃ r, e = .returned r ∧ (convert 24 9 r).run Try.prog w' = .ok (.string B) w' ∧ Below w.heap.size w w' :=
  (rall_slc v xs w hx hb hn).mono fun e w' ⟨a, cap, he, hs, h⟩ => ⟨_, he, by rw [← hB]; exact slc_string hs, h⟩

set_option maxRecDepth 100000 in
set_option maxHeartbeats 8000000 in
theorem wordBytes_no (v : Nat) (a0 a1 : Option Addr) (cap0 cap1 : Nat) (ls xs : List Nat) (w : World) (hv : v < 4294967296) (hl : Slc .u32 w (.slice a0 ls.length cap0) ls) (hx : Slc .u8 w (.slice a1 xs.length cap1) xs)
    (hlb : ∀ x ∈ ls, x < 4294967296) (hxb : ∀ x ∈ xs, x < 256) (hl4 : ls.length ≤ 400) (hx4 : xs.length ≤ 1600) (h4 : xs.length % 4 ≠ 0) :
    Calls Try.prog 3 #[.int .u32 (v : Int), .slice a0 ls.length cap0, .slice a1 xs.length cap1] w fun e w' => e = .returned (.bool true) ∧ Below w.heap.size w w' := by
  have HLB := Lib.hid hlb
  have HXB := Lib.hid hxb
  have H4 := Lib.hid h4
  clear hlb hxb h4
  obtain ⟨B1, hB1⟩ : ∃ B, bstr (bs v) = B := ⟨_, rfl⟩
  obtain ⟨B2, hB2⟩ : ∃ B, bstr (allB ls) = B := ⟨_, rfl⟩
  have hq1 : (B1.toList == B1.toList) = true := by simp
  have hq2 : (B2.toList == B2.toList) = true := by simp
  have hq3 : (B1.toList != B1.toList) = false := by simp
  have hq4 : (B2.toList != B2.toList) = false := by simp
  have HB1 := Lib.hid hB1
  have HB2 := Lib.hid hB2
  clear hB1 hB2
  have hne : ¬ xs.length = 4 := by have := H4.out; omega
  have HNE := Lib.hid hne
  clear hne
  go_enter Try.func3, Try.ntmps3
  go_wp2_with (first
    | (go_at_call 12; refine (read_len _ xs _ hx HNE.out).mono ?_; rintro e w1 ⟨rfl, rfl⟩)
    | (go_at_call 13; refine (words_no _ xs _ hx HXB.out (by omega) H4.out).mono ?_; rintro e w2 ⟨rfl, hb2⟩)
    | (go_at_call 14; refine (rwords_no _ xs _ (hx.below hb2) (by omega) H4.out).mono ?_; rintro e w3 ⟨rfl, rfl⟩))
  first | (go_region_held (fun _ => True) (trivial) (first
    | (go_at_call 15; refine (same_let (.slice none 0 0) (.slice none 0 0) [] _ ⟨none, 0, rfl, Nat.le_refl _, Nat.zero_le _, .inl rfl⟩ ⟨none, 0, rfl, Nat.le_refl _, Nat.zero_le _, .inl rfl⟩).mono ?_; rintro e w4 ⟨rfl, hb4⟩; have h4 := bel (hb2).drew hb4)
    | (go_at_call 16; refine (bytes_let v B1 _ hv HB1.out).mono ?_; rintro e w5 ⟨r5, rfl, hc5, hb5⟩; have h5 := bel h4 hb5; have hd5 := hc5 w5 (Below.refl _ w5))
    | (go_at_call 17; refine (rbytes_let v B1 _ hv HB1.out).mono ?_; rintro e w6 ⟨r6, rfl, hc6, hb6⟩; have h6 := bel h5 hb6; have hd6 := hc5 w6 hb6)
    | (go_at_call 18; refine (all_let _ ls B2 _ (hl.below h6) HLB.out (by omega) HB2.out).mono ?_; rintro e w7 ⟨r7, rfl, hc7, hb7⟩; have h7 := bel h6 hb7; have hd7 := hc7 w7 (Below.refl _ w7))
    | (go_at_call 19; refine (rall_let _ ls B2 _ (hl.below h7) HLB.out (by omega) HB2.out).mono ?_; rintro e w8 ⟨r8, rfl, hc8, hb8⟩; have h8 := bel h7 hb8; have hd8 := hc7 w8 hb8))) | fail
  all_goals go_wp2
  all_goals go_ret
  all_goals exact ⟨rfl, h8⟩
end Go.Proofs.Ythacghmgkpbdoaa.Walk
