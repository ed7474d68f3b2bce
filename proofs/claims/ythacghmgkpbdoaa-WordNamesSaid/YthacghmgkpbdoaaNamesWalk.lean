/-
  The walk of WordNames: the chapter's examples.
-/
import Derived.Test.YthacghmgkpbdoaaTextNums
import Derived.Test.YthacghmgkpbdoaaAlive
import Derived.Test.YthacghmgkpbdoaaWords
import Derived.WalkSpells
import Derived.BigRegion
namespace Go.Proofs.Ythacghmgkpbdoaa.Walk
open Go Go.RowKit Nums Kit Leaf Text RefText TextNums Alive Bytes Join Quads Words
set_option linter.unusedVariables false

theorem slc_nil (k : IntKind) (w : World) : Slc k w (.slice none 0 0) [] := ⟨none, 0, rfl, Nat.le_refl _, Nat.zero_le _, .inl rfl⟩
theorem own_slice {w : World} {b : Nat} {e : TypeId} {size : Nat} {v : Value} {n : Nat} {xs : List Value} (h : w.ownsRow b e size v n xs) : ∃ a cap, v = .slice a n cap := by
  rcases h.2 with ⟨rfl, rfl⟩ | ⟨g, cap, cur, rfl, h3⟩
  · exact ⟨none, 0, rfl⟩
  · exact ⟨_, cap, rfl⟩
theorem words_nil (w : World) :
    Calls Try.prog 13 #[.slice none 0 0] w fun e w' => (∃ a cap, e = .returned (.tuple #[.slice a 0 cap, .int .i64 0])) ∧ Below w.heap.size w w' :=
  (words_any (.slice none 0 0) [] w (slc_nil _ _) (fun i k => by simp [qb, bt]) (by decide)).mono fun e w' ⟨hb, hr⟩ => by
    rcases hr with ⟨_, r, rfl, hown⟩ | ⟨h, _⟩
    · obtain ⟨a, cap, rfl⟩ := own_slice hown
      exact ⟨⟨a, cap, rfl⟩, hb⟩
    · exact absurd rfl h
theorem read_three (w : World) :
    Calls Try.prog 12 #[.slice (some ⟨w.heap.size, 0, none⟩) 3 3] (w.alloc (.cells #[.int .u8 1, .int .u8 2, .int .u8 3] 5)) fun e w' => e = .returned (.tuple #[.int .u32 0, .int .i64 10]) ∧ w.alloc (.cells #[.int .u8 1, .int .u8 2, .int .u8 3] 5) = w' :=
  read_len _ [1, 2, 3] _ ⟨_, 3, rfl, by decide, by decide, .inr ⟨w.heap.size, 0, rfl, by simp, fun i hi => by
    have h3 : i < 3 := hi
    match i, h3 with
    | 0, _ => (unfold World.cell?; rw [World.alloc_heap_new]; rfl)
    | 1, _ => (unfold World.cell?; rw [World.alloc_heap_new]; rfl)
    | 2, _ => (unfold World.cell?; rw [World.alloc_heap_new]; rfl)⟩⟩ (by decide)
theorem i64b {a : Int} (h : -9223372036854775808 ≤ a ∧ a ≤ 9223372036854775807 := by decide) : -9223372036854775808 ≤ a ∧ a ≤ 9223372036854775807 := h

set_option maxHeartbeats 2000000 in
theorem wordNames (w : World) :
    Calls Try.prog 6 #[] w fun e w' => e = .returned (.bool true) ∧ Below w.heap.size w w' := by
  have P1 : Hid (∀ wx, Calls Try.prog 22 #[.int .u32 0, .int .i64 4, .int .i64 4, .int .u32 15] wx fun e w' => e = .returned (.tuple #[.int .u32 240, .int .i64 0]) ∧ ∃ k, w' = wx.drewN k) := Lib.hid (fun wx => put_any 0 15 4 4 wx (by decide) (by decide) (by decide))
  have P2 : Hid (∀ wx, Calls Try.prog 22 #[.int .u32 0, .int .i64 4, .int .i64 4, .int .u32 16] wx fun e w' => e = .returned (.tuple #[.int .u32 0, .int .i64 10]) ∧ wx = w') := Lib.hid (fun wx => put_great 0 16 4 4 wx (by decide) (by decide))
  have S1 : Hid (∀ wx, Calls Try.prog 24 #[.int .u32 65535, .int .i64 16] wx fun e w' => e = .returned (.tuple #[.int .i32 (-1), .int .i64 0]) ∧ wx = w') := Lib.hid (fun wx => sign_int 65535 16 wx (by decide) (-1) (by decide))
  have S2 : Hid (∀ wx, Calls Try.prog 24 #[.int .u32 32767, .int .i64 16] wx fun e w' => e = .returned (.tuple #[.int .i32 32767, .int .i64 0]) ∧ wx = w') := Lib.hid (fun wx => sign_int 32767 16 wx (by decide) 32767 (by decide))
  have S3 := Lib.hid (fun wx => sign_none 1 0 wx (by decide))
  have F1 := Lib.hid (fun wx => field_none 1 31 2 wx (by decide) (by decide) (by decide))
  have F2 := Lib.hid (fun wx => field_none 1 (-1) 2 wx (by decide) (by decide) (by decide))
  have F3 : Hid (∀ wx, Calls Try.prog 20 #[.int .u32 4294967295, .int .i64 0, .int .i64 32] wx fun e w' => e = .returned (.tuple #[.int .u32 4294967295, .int .i64 0]) ∧ ∃ k, w' = wx.drewN k) := Lib.hid (fun wx => field_int 4294967295 0 32 wx (by decide) (by decide))
  have s1 : (⟨#[48, 48, 48, 48, 48, 49, 48, 71]⟩ : ByteArray).size = 8 := rfl
  have s2 : parseR (⟨#[48, 48, 48, 48, 48, 49, 48, 71]⟩ : ByteArray) = .tuple #[.int .u32 0, .int .i64 10] := parseR_no (k := 7) (by decide) (by decide)
  have T1 := Lib.hid (fun wx => parse_any (⟨#[48, 48, 48, 48, 48, 49, 48, 71]⟩ : ByteArray) wx s1)
  rw [s2] at T1
  have T2 := Lib.hid (fun wx => parse_len (⟨#[48, 48, 48, 48, 48, 49, 48]⟩ : ByteArray) wx (by decide) (by decide))
  clear s1 s2
  go_enter Try.func6, Try.ntmps6
  go_wp2_with (first
    | (go_at_call 30; refine (alive_any _).mono ?_; rintro e w5 ⟨rfl, hb5⟩)
    | (go_at_call 12; refine (read_three _).mono ?_; rintro e w1 ⟨rfl, rfl⟩)
    | (go_at_call 13; refine (words_nil _).mono ?_; rintro e w4 ⟨⟨a, cap, rfl⟩, hb4⟩)
    | (go_at_call 22; ((with_reducible refine (P1.out _).mono ?_); rintro e w2 ⟨rfl, k2, rfl⟩))
    | (go_at_call 22; ((with_reducible refine (P2.out _).mono ?_); rintro e w' ⟨rfl, rfl⟩))
    | (go_at_call 24; ((with_reducible refine (S1.out _).mono ?_); rintro e w' ⟨rfl, rfl⟩))
    | (go_at_call 24; ((with_reducible refine (S2.out _).mono ?_); rintro e w' ⟨rfl, rfl⟩))
    | (go_at_call 24; ((with_reducible refine (S3.out _).mono ?_); rintro e w' ⟨rfl, rfl⟩))
    | (go_at_call 20; ((with_reducible refine (F1.out _).mono ?_); rintro e w' ⟨rfl, rfl⟩))
    | (go_at_call 20; ((with_reducible refine (F2.out _).mono ?_); rintro e w' ⟨rfl, rfl⟩))
    | (go_at_call 20; ((with_reducible refine (F3.out _).mono ?_); rintro e w3 ⟨rfl, k3, rfl⟩))
    | (go_at_call 26; ((with_reducible refine (T1.out _).mono ?_); rintro e w' ⟨rfl, rfl⟩))
    | (go_at_call 26; ((with_reducible refine (T2.out _).mono ?_); rintro e w' ⟨rfl, rfl⟩)))
  go_ret
  have hA := below_drewN ((Below.refl w.heap.size w).alloc (Nat.le_refl _) (.cells #[.int .u8 1, .int .u8 2, .int .u8 3] 5)) (k2 + k3)
  exact ⟨rfl, hA.trans ((hb4.trans (hb5.mono hb4.size)).mono hA.size)⟩
end Go.Proofs.Ythacghmgkpbdoaa.Walk
