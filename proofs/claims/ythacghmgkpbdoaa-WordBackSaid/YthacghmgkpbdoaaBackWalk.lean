/-
  The walk of WordBack: words are read from their bytes and texts as they were; what is read of any bytes, and of any text, has these.
-/
import Derived.Test.YthacghmgkpbdoaaBackNums
import Derived.WalkSpells
import Derived.BigRegion
import Derived.BigQuiet
import Derived.Deep.QuietTactic
import Derived.Deep.RegionHeld
import Derived.BigCall
namespace Go.Proofs.Ythacghmgkpbdoaa.Walk
open Go Go.RowKit Nums Kit Leaf Text RefText TextNums Alive Bytes Join Quads Words BackNums
set_option linter.unusedVariables false

/-- What Parse says of a text: the word whose text it is, or nothing. -/
theorem parse_all (s : ByteArray) (hs : s.size ≤ maxLen) :
    (∃ W : Nat, W < 4294967296 ∧ txtS W = s ∧ ∀ wx, Calls Try.prog 26 #[.string s] wx fun e w' => e = .returned (.tuple #[.int .u32 (W : Int), .int .i64 0]) ∧ wx = w') ∨
    ∀ wx, Calls Try.prog 26 #[.string s] wx fun e w' => e = .returned (.tuple #[.int .u32 0, .int .i64 10]) ∧ wx = w' := by
  by_cases h8 : s.size = 8
  · by_cases hd : allDig s 8 = true
    · refine .inl ⟨hv s 8, hv8_lt s, txt_hv h8 hd, fun wx => ?_⟩
      have := parse_any s wx h8
      rwa [parseR_yes hd] at this
    · refine .inr fun wx => ?_
      have := parse_any s wx h8
      have hd' : allDig s 8 = false := by simpa using hd
      rwa [show parseR s = .tuple #[.int .u32 0, .int .i64 10] from by unfold parseR; rw [hd']; rfl] at this
  · exact .inr fun wx => parse_len s wx hs h8

set_option maxRecDepth 100000 in
set_option maxHeartbeats 8000000 in
theorem wordBack_of (a0 a1 : Option Addr) (cap0 cap1 : Nat) (s : ByteArray) (ls xs : List Nat) (w : World) (hl : Slc .u32 w (.slice a0 ls.length cap0) ls) (hx : Slc .u8 w (.slice a1 xs.length cap1) xs)
    (hlb : ∀ x ∈ ls, x < 4294967296) (hxb : ∀ x ∈ xs, x < 256) (hl4 : ls.length ≤ 400) (hx4 : xs.length ≤ 1600) (hs : s.size ≤ 100) :
    Calls Try.prog 7 #[.slice a0 ls.length cap0, .slice a1 xs.length cap1, .string s] w fun e w' => e = .returned (.bool true) ∧ Below w.heap.size w w' := by
  have HLB := Lib.hid hlb
  have HXB := Lib.hid hxb
  clear hlb hxb
  go_enter Try.func7, Try.ntmps7
  go_wp2_with (first
    | (go_at_call 30; refine (alive_any _).mono ?_; rintro e w1 ⟨rfl, hb1⟩)
    | (go_at_call 18; refine (all_slc _ ls _ (hl.below hb1) HLB.out (by omega)).mono ?_; rintro e w2 ⟨c2, k2, rfl, hr2, hb2⟩)
    | (go_at_call 13; refine (words_all _ ls _ hr2 HLB.out (by omega)).mono ?_; rintro e w3 ⟨c3, k3, rfl, hr3, hb3⟩)
    | (go_at_call 15; refine (Same.same_any _ _ ls _ hr3 (hl.below (bel (bel hb1 hb2) hb3))).mono ?_; rintro e w4 ⟨rfl, d4, rfl⟩))
  have hb4 : Below w.heap.size w (w3.drewN d4) := bel_drew (bel (bel hb1 hb2) hb3) d4
  obtain ⟨W4, hW4⟩ : ∃ W4, w3.drewN d4 = W4 := ⟨_, rfl⟩
  rw [hW4] at hb4 ⊢
  clear hW4 hr3 hr2 hb1 hb2 hb3
  go_loopw [54] (fun i wr => ∃ k : Nat, k ≤ ls.length ∧ i = .int .i64 k ∧ Below w.heap.size w wr) (fun i _ => ls.length - (intOf i).toNat)
  case atStart => exact ⟨0, Nat.zero_le _, rfl, hb4⟩
  case round =>
    clear hb4
    obtain ⟨k, hk, rfl, hbw⟩ := hrel
    by_cases hlt : k < ls.length
    · obtain ⟨a, cap, he, hcap, hmax, hread⟩ := id hl
      rcases hread with h0 | ⟨b, off, ha, hblt, hcells⟩
      · rw [h0] at hlt; simp at hlt
      · cases he
        subst ha
        have hc : wr.cell? ⟨b, off + k, none⟩ = some (.int .u32 ((ls[k]?.getD 0 : Nat) : Int)) := (hbw.cell (p := ⟨b, off + k, none⟩) hblt).trans (hcells k hlt)
        have hxk : ls[k]?.getD 0 < 4294967296 := by rw [List.getElem?_eq_getElem hlt]; exact HLB.out _ (List.getElem_mem _)
        obtain ⟨x, hx'⟩ : ∃ x, ls[k]?.getD 0 = x := ⟨_, rfl⟩
        rw [hx'] at hc hxk
        clear hx' hcells
        have hP := fun wx => parse_any (txtS x) wx (txtS_size x)
        rw [parse_txt hxk] at hP
        have HP := Lib.hid hP
        clear hP
        go_wp2_with (first
          | (go_at_call 16; refine (bytes_slc x _ hxk).mono ?_; rintro e w5 ⟨c5, k5, rfl, hr5, hb5⟩)
          | (go_at_call 12; refine (read_bs _ x _ hxk hr5).mono ?_; rintro e w6 ⟨rfl, hb6⟩; have hc6 := ((bel hb5 hb6).cell (p := ⟨b, off + k, none⟩) (Nat.lt_of_lt_of_le hblt hbw.size)).trans hc)
          | (go_at_call 28; refine (text_any x _ hxk).mono ?_; rintro e w7 ⟨rfl, hb7⟩; have hc7 := (hb7.cell (p := ⟨b, off + k, none⟩) (Nat.lt_of_lt_of_le hblt (Nat.le_trans hbw.size (bel hb5 hb6).size))).trans hc6)
          | (go_at_call 26; ((with_reducible refine (HP.out _).mono ?_); rintro e w' ⟨rfl, rfl⟩)))
        go_roundw
        case rel => exact ⟨k + 1, by omega, by go_num, bel hbw (bel (bel hb5 hb6) hb7)⟩
        case measure => simp [intOf]; omega
    · obtain rfl : k = ls.length := by omega
      obtain ⟨B, hBx⟩ : ∃ B, bstr xs = B := ⟨_, rfl⟩
      have hS : ∀ wx, Below w.heap.size w wx → (convert 24 9 (.slice a1 xs.length cap1)).run Try.prog wx = .ok (.string B) wx := fun wx hb => by rw [← hBx]; exact slc_string (hx.below hb)
      have HS := Lib.hid hS
      clear hS
      have hBB : (B.toList == B.toList) = true := by simp
      have hss : (s.toList == s.toList) = true := by simp
      rcases parse_all s (by unfold maxLen; omega) with ⟨W, hW, hT, hP⟩ | hP
      · have hT' : ∀ wx, Calls Try.prog 28 #[.int .u32 (W : Int)] wx fun e w' => e = .returned (.string s) ∧ Below wx.heap.size wx w' := fun wx => by rw [← hT]; exact text_any W wx hW
        have HT := Lib.hid hT'
        have HP := Lib.hid hP
        clear hT' hP hT hW hl
        by_cases h4 : xs.length % 4 = 0
        · have H4 := Lib.hid h4
          clear h4
          go_wp2_with (first
            | (go_at_call 13; refine (words_let _ xs _ (hx.below hbw) HXB.out (by omega) H4.out).mono ?_; rintro e w5 ⟨m5, rfl, hr5, hb5⟩; have hd5 := (bel hbw hb5).drew)
            | (go_at_call 26; ((with_reducible refine (HP.out _).mono ?_); rintro e w' ⟨rfl, rfl⟩)))
          go_wp2_with fail
          first | (go_region_held (fun w' => (convert 24 9 (.slice a1 xs.length cap1)).run Try.prog w' = .ok (.string B) w') (exact HS.out _ (by first | exact hd7 | exact hd6 | exact hd5)) (first | (go_at_call 18; refine (all_str _ xs _ (hr5.below (Below.refl _ w5).drew) HXB.out (by omega) H4.out).mono ?_; rintro e w6 ⟨m6, rfl, hcv0, hb6⟩; have hd6 := bel hd5 hb6; have hcv := hcv0; rw [hBx] at hcv; clear hcv0) | (go_at_call 28; ((with_reducible refine (HT.out _).mono ?_); rintro e w7 ⟨rfl, hb7⟩; have hd7 := bel hd6 hb7)))) | fail
          all_goals go_wp2
          all_goals go_ret
          all_goals exact ⟨rfl, hd7⟩
        · have H4 := Lib.hid h4
          clear h4
          go_wp2_with (first
            | (go_at_call 13; refine (words_no _ xs _ (hx.below hbw) HXB.out (by omega) H4.out).mono ?_; rintro e w5 ⟨rfl, hb5⟩; have hd5 := (bel hbw hb5).drew)
            | (go_at_call 26; ((with_reducible refine (HP.out _).mono ?_); rintro e w' ⟨rfl, rfl⟩)))
          go_wp2_with fail
          first | (go_region_held (fun _ => True) (trivial) (first | (go_at_call 28; ((with_reducible refine (HT.out _).mono ?_); rintro e w7 ⟨rfl, hb7⟩; have hd7 := bel hd5 hb7)))) | fail
          all_goals go_wp2
          all_goals go_ret
          all_goals exact ⟨rfl, hd7⟩
      · have HP := Lib.hid hP
        clear hP hl
        by_cases h4 : xs.length % 4 = 0
        · have H4 := Lib.hid h4
          clear h4
          go_wp2_with (first
            | (go_at_call 13; refine (words_let _ xs _ (hx.below hbw) HXB.out (by omega) H4.out).mono ?_; rintro e w5 ⟨m5, rfl, hr5, hb5⟩; have hd5 := (bel hbw hb5).drew)
            | (go_at_call 26; ((with_reducible refine (HP.out _).mono ?_); rintro e w' ⟨rfl, rfl⟩)))
          go_wp2_with fail
          first | (go_region_held (fun w' => (convert 24 9 (.slice a1 xs.length cap1)).run Try.prog w' = .ok (.string B) w') (exact HS.out _ (by first | exact hd7 | exact hd6 | exact hd5)) (first | (go_at_call 18; refine (all_str _ xs _ (hr5.below (Below.refl _ w5).drew) HXB.out (by omega) H4.out).mono ?_; rintro e w6 ⟨m6, rfl, hcv0, hb6⟩; have hd6 := bel hd5 hb6; have hcv := hcv0; rw [hBx] at hcv; clear hcv0))) | fail
          all_goals go_wp2
          all_goals go_ret
          all_goals exact ⟨rfl, hd6⟩
        · have H4 := Lib.hid h4
          clear h4
          go_wp2_with (first
            | (go_at_call 13; refine (words_no _ xs _ (hx.below hbw) HXB.out (by omega) H4.out).mono ?_; rintro e w5 ⟨rfl, hb5⟩; have hd5 := (bel hbw hb5).drew)
            | (go_at_call 26; ((with_reducible refine (HP.out _).mono ?_); rintro e w' ⟨rfl, rfl⟩)))
          go_wp2_with fail
          go_quiet (fail)
          all_goals go_wp2
          all_goals go_ret
          all_goals exact ⟨rfl, bel_drew (bel hbw hb5) _⟩

theorem wordBack_big (a0 a1 : Option Addr) (cap0 cap1 : Nat) (s : ByteArray) (ls xs : List Nat) (w : World) (hl : Slc .u32 w (.slice a0 ls.length cap0) ls) (hx : Slc .u8 w (.slice a1 xs.length cap1) xs)
    (hs : s.size ≤ maxLen) (h : 400 < ls.length ∨ (ls.length ≤ 400 ∧ 1600 < xs.length) ∨ (ls.length ≤ 400 ∧ xs.length ≤ 1600 ∧ 100 < s.size)) :
    Calls Try.prog 7 #[.slice a0 ls.length cap0, .slice a1 xs.length cap1, .string s] w fun e w' => e = .returned (.bool true) ∧ Below w.heap.size w w' := by
  obtain ⟨a, cap, he, hcap, hmax, -⟩ := hl
  cases he
  obtain ⟨a, cap, he, hcapx, hmaxx, -⟩ := hx
  cases he
  unfold maxLen at hmax hmaxx hs
  rcases h with h | ⟨h, h'⟩ | ⟨h, h', h''⟩
  · go_enter Try.func7, Try.ntmps7
    go_wp2_with (go_at_call 30; refine (alive_any _).mono ?_; rintro e w1 ⟨rfl, hb1⟩)
    go_ret
    exact ⟨rfl, hb1⟩
  · go_enter Try.func7, Try.ntmps7
    go_wp2_with (go_at_call 30; refine (alive_any _).mono ?_; rintro e w1 ⟨rfl, hb1⟩)
    go_ret
    exact ⟨rfl, hb1⟩
  · go_enter Try.func7, Try.ntmps7
    go_wp2_with (go_at_call 30; refine (alive_any _).mono ?_; rintro e w1 ⟨rfl, hb1⟩)
    go_ret
    exact ⟨rfl, hb1⟩

theorem wordBack (a0 : Option Addr) (len0 cap0 : Nat) (z0 : List Int) (a1 : Option Addr) (len1 cap1 : Nat) (z1 : List Int) (s : ByteArray) (w : World) (w0 : IsRow .u32 w a0 len0 cap0 z0) (w1 : IsRow .u8 w a1 len1 cap1 z1) (w2 : s.size ≤ maxLen) :
    Calls Try.prog 7 #[.slice a0 len0 cap0, .slice a1 len1 cap1, .string s] w fun e w' => e = .returned (.bool true) ∧ Below w.heap.size w w' := by
  obtain ⟨ls, rfl, hl, hlw⟩ := w0.slc nn_u32
  obtain ⟨xs, rfl, hx, hxw⟩ := w1.slc nn_u8
  by_cases h1 : ls.length ≤ 400
  · by_cases h2 : xs.length ≤ 1600
    · by_cases h3 : s.size ≤ 100
      · exact wordBack_of a0 a1 cap0 cap1 s ls xs w hl hx (u32_lt hlw) (u8_lt hxw) h1 h2 h3
      · exact wordBack_big a0 a1 cap0 cap1 s ls xs w hl hx w2 (.inr (.inr ⟨h1, h2, by omega⟩))
    · exact wordBack_big a0 a1 cap0 cap1 s ls xs w hl hx w2 (.inr (.inl ⟨h1, by omega⟩))
  · exact wordBack_big a0 a1 cap0 cap1 s ls xs w hl hx w2 (.inl (by omega))
end Go.Proofs.Ythacghmgkpbdoaa.Walk
