/-
  A ring of bytes, as it lies: its capacity, its bytes in their order; Len, Cap, Room, place.
-/
import Derived.Test.YtfpdbcjnhgddoaaBk
import Derived.BigQuiet
namespace Go.Proofs.Ytfpdbcjnhgddoaa.Rgm
open Go Go.RowKit Kit Bk
set_option linter.unusedVariables false

/-- The cells of a ring: the first byte's place, the capacity, the bytes in their order. -/
structure Lay (cs : Array Value) (f C : Nat) (xs : List Nat) : Prop where
  size : cs.size = 67
  byte : ∀ j, j < 64 → ∃ x : Int, cs[j]? = some (.int .u8 x)
  c64 : cs[64]? = some (.int .i64 (f : Int))
  c65 : cs[65]? = some (.int .i64 (xs.length : Int))
  c66 : cs[66]? = some (.int .i64 (C : Int))
  hf : f < 64
  hC : C ≤ 64
  hx : xs.length ≤ C
  at_ : ∀ i, i < xs.length → cs[(f + i) % 64]? = some (.int .u8 ((xs[i]?.getD 0 : Nat) : Int))
def Rg (w : World) (p C : Nat) (xs : List Nat) : Prop := ∃ cs f, Blk w p cs 83 ∧ Lay cs f C xs
theorem Rg.lt {w : World} {p C : Nat} {xs : List Nat} (h : Rg w p C xs) : p < w.heap.size := by
  obtain ⟨cs, f, h1, h2⟩ := h
  exact h1.lt
theorem Rg.kept {S : Nat → Prop} {w w' : World} {p C : Nat} {xs : List Nat} (h : Rg w p C xs) (hk : Kp S w w') (hp : ¬ S p) : Rg w' p C xs := by
  obtain ⟨cs, f, h1, h2⟩ := h
  exact ⟨cs, f, h1.kept hk hp, h2⟩
theorem Rg.below {w w' : World} {p C : Nat} {xs : List Nat} (h : Rg w p C xs) (hb : Below w.heap.size w w') : Rg w' p C xs := h.kept (S := fun _ => False) (.of_below hb) (fun e => e)
theorem Rg.low {w w' : World} {p C n₀ : Nat} {xs : List Nat} (h : Rg w p C xs) (hb : Below n₀ w w') (hp : p < n₀) : Rg w' p C xs := by
  obtain ⟨cs, f, h1, h2⟩ := h
  exact ⟨cs, f, (hb.block p hp).trans h1, h2⟩
theorem Rg.cap_le {w : World} {p C : Nat} {xs : List Nat} (h : Rg w p C xs) : C ≤ 64 ∧ xs.length ≤ C := by
  obtain ⟨cs, f, h1, h2⟩ := h
  exact ⟨h2.hC, h2.hx⟩

theorem len_nil (w : World) : Calls Try.prog 39 #[.pointer none] w fun e w' => e = .returned (.int .i64 0) ∧ w = w' := by
  go_enter Try.func39, Try.ntmps39
  go_wp2
  go_ret
  exact ⟨rfl, rfl⟩
theorem len_any (w : World) (p C : Nat) (xs : List Nat) (h : Rg w p C xs) : Calls Try.prog 39 #[.pointer (some ⟨p, 0, none⟩)] w fun e w' => e = .returned (.int .i64 (xs.length : Int)) ∧ w = w' := by
  obtain ⟨cs, f, h1, h2⟩ := h
  have c0 := (h1.cell 65).trans h2.c65
  clear h1 h2
  generalize xs.length = n at *
  go_enter Try.func39, Try.ntmps39
  go_wp2
  go_ret
  exact ⟨rfl, rfl⟩
theorem cap_nil (w : World) : Calls Try.prog 47 #[.pointer none] w fun e w' => e = .returned (.int .i64 0) ∧ w = w' := by
  go_enter Try.func47, Try.ntmps47
  go_wp2
  go_ret
  exact ⟨rfl, rfl⟩
theorem cap_any (w : World) (p C : Nat) (xs : List Nat) (h : Rg w p C xs) : Calls Try.prog 47 #[.pointer (some ⟨p, 0, none⟩)] w fun e w' => e = .returned (.int .i64 (C : Int)) ∧ w = w' := by
  obtain ⟨cs, f, h1, h2⟩ := h
  have c0 := (h1.cell 66).trans h2.c66
  clear h1 h2
  go_enter Try.func47, Try.ntmps47
  go_wp2
  go_ret
  exact ⟨rfl, rfl⟩
theorem room_nil (w : World) : Calls Try.prog 49 #[.pointer none] w fun e w' => e = .returned (.int .i64 0) ∧ w = w' := by
  go_enter Try.func49, Try.ntmps49
  go_wp2_with (first | (go_at_call 47; (with_reducible refine (cap_nil _).mono ?_); rintro e w1 ⟨rfl, rfl⟩) | (go_at_call 39; (with_reducible refine (len_nil _).mono ?_); rintro e w1 ⟨rfl, rfl⟩))
  go_ret
  exact ⟨rfl, rfl⟩
theorem room_any (w : World) (p C : Nat) (xs : List Nat) (h : Rg w p C xs) : Calls Try.prog 49 #[.pointer (some ⟨p, 0, none⟩)] w fun e w' => e = .returned (.int .i64 ((C - xs.length : Nat) : Int)) ∧ w = w' := by
  have HC := Lib.hid (cap_any w p C xs h)
  have HL := Lib.hid (len_any w p C xs h)
  obtain ⟨h1, h2⟩ := h.cap_le
  have e0 : ((C - xs.length : Nat) : Int) = (C : Int) - (xs.length : Int) := by omega
  rw [e0]
  have b1 : (C : Int) ≤ 64 := by omega
  have b2 : (xs.length : Int) ≤ (C : Int) := by omega
  clear h h1 h2 e0
  generalize xs.length = n at *
  go_enter Try.func49, Try.ntmps49
  go_wp2_with (first | (go_at_call 47; (with_reducible refine HC.out.mono ?_); rintro e w1 ⟨rfl, rfl⟩) | (go_at_call 39; (with_reducible refine HL.out.mono ?_); rintro e w1 ⟨rfl, rfl⟩))
  go_ret
  exact ⟨rfl, rfl⟩
/-- Where the byte behind i others stands. -/
theorem place_at (w : World) (p : Nat) (cs : Array Value) (f i : Nat) (h : Blk w p cs 83) (hc : cs[64]? = some (.int .i64 (f : Int))) (hf : f < 64) (hi : i ≤ 64) :
    Calls Try.prog 50 #[.pointer (some ⟨p, 0, none⟩), .int .i64 (i : Int)] w fun e w' => e = .returned (.int .i64 (((f + i) % 64 : Nat) : Int)) ∧ w = w' := by
  have c0 := (h.cell 64).trans hc
  have q : ((f : Int) + (i : Int)).tmod 64 = (((f + i) % 64 : Nat) : Int) := by rw [← Int.natCast_add]; rfl
  have b1 : (f : Int) ≤ 64 := by omega
  have b2 : (i : Int) ≤ 64 := by omega
  clear h hc hf hi
  go_enter Try.func50, Try.ntmps50
  go_wp2
  go_ret
  exact ⟨rfl, rfl⟩
end Go.Proofs.Ytfpdbcjnhgddoaa.Rgm
