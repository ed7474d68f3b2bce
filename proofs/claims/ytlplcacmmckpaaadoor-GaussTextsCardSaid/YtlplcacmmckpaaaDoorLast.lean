/-
  strings.LastIndexAny at the two signs: the last place of a sign in a text of ASCII bytes, or -1; of any text a place in it, or -1.
-/
import Derived.Test.YtlplcacmmckpaaaDoorIdx
import Derived.Lib.TrimU
import Derived.Lib.TrimAscii
import Derived.Lib.AsciiSet
import Derived.Deep.LoopGhost
namespace Go.Proofs.YtlplcacmmckpaaaDoor.LastG
open Go Go.RowKit Kit Gnums Tabs Idx
set_option linter.unusedVariables false

def isPm (b : UInt8) : Bool := b == 43 || b == 45
/-- The last place below k of a sign. -/
def lx (l : List UInt8) : Nat → Int
  | 0 => -1
  | k + 1 => if isPm (l.getD k 0) then (k : Int) else lx l k
theorem lx_lt (l : List UInt8) (k : Nat) : -1 ≤ lx l k ∧ lx l k < k := by
  induction k with
  | zero => exact ⟨by unfold lx; omega, by unfold lx; omega⟩
  | succ k ih =>
    unfold lx
    split <;> omega
def Asc (l : List UInt8) : Prop := ∀ b ∈ l, b.toNat < 128

/-- What the search answers. -/
def LastR (s : ByteArray) (e : Ending) : Prop := ∃ v : Int, e = .returned (.int .i64 v) ∧ -1 ≤ v ∧ v < s.size ∧ (Asc s.data.toList → v = lx s.data.toList s.size)

theorem idx_pm (c : UInt8) : decide (0 ≤ Lib.indexByte [43, 45] c) = isPm c := by
  unfold isPm Lib.indexByte Lib.indexByte Lib.indexByte
  by_cases h1 : c = 43
  · subst h1; decide
  · by_cases h2 : c = 45
    · subst h2; decide
    · have e1 : ((43 : UInt8) == c) = false := by simpa using fun h => h1 h.symm
      have e2 : ((45 : UInt8) == c) = false := by simpa using fun h => h2 h.symm
      have e3 : (c == 43) = false := by simpa using h1
      have e4 : (c == 45) = false := by simpa using h2
      simp [e1, e2, e3, e4]

/-- The rune's place among the signs: not below 0 just if it is one. -/
def iv (r : Int) : Int := if r < 128 then Lib.indexByte [43, 45] r.toNat.toUInt8 else -1
theorem iv_byte (b : UInt8) (h : b.toNat < 128) : decide (0 ≤ iv (b.toNat : Int)) = isPm b := by
  unfold iv
  rw [if_pos (by omega), ← idx_pm b]
  congr 2
  rw [Int.toNat_natCast]
  have : b.toNat.toUInt8 = b := by simp
  rw [this]
theorem idx_iv (r : Int) (h0 : 0 ≤ r) (h1 : r ≤ 2147483647) (w : World) :
    Calls Tryd.prog 41 #[.string ⟨#[43, 45]⟩, .int .i32 r] w fun e w' => e = .returned (.int .i64 (iv r)) ∧ Below w.heap.size w w' := idx_any r h0 h1 w

theorem last_0 (w : World) :
    Calls Tryd.prog 34 #[.string ⟨#[]⟩, .string ⟨#[43, 45]⟩] w fun e w' => LastR ⟨#[]⟩ e ∧ Below w.heap.size w w' := by
  have hr : LastR ⟨#[]⟩ (.returned (.int .i64 (-1))) := ⟨-1, rfl, by omega, by decide, fun _ => rfl⟩
  have HR := Lib.hid hr
  clear hr
  go_enter Tryd.func34, Tryd.ntmps34
  go_wp2_with (go_at_call 42; refine (Shl.strings_shouldUseASCIISet _ _).mono ?_; rintro e w' ⟨rfl, rfl⟩)
  refine wp_loop_rounds 1 ?_
  rw [rounds_succ]
  go_wp2
  go_ret
  exact ⟨HR.out, Below.refl _ _⟩

set_option maxRecDepth 100000 in
theorem last_1 (s : ByteArray) (h1 : s.size = 1) (w : World) :
    Calls Tryd.prog 34 #[.string s, .string ⟨#[43, 45]⟩] w fun e w' => LastR s e ∧ Below w.heap.size w w' := by
  obtain ⟨b, hb⟩ : ∃ b, s.data.toList = [b] := by
    have : s.data.toList.length = 1 := by simpa using h1
    exact List.length_eq_one_iff.1 this
  obtain rfl : s = ⟨#[b]⟩ := ByteArray.ext (Array.ext' hb)
  clear hb h1
  have hbl : b.toNat < 256 := b.toNat_lt
  have hat : ∀ q : 0 < (⟨#[b]⟩ : ByteArray).size, (⟨#[b]⟩ : ByteArray)[0]'q = b := fun _ => rfl
  by_cases hlt : b.toNat < 128
  · have hi := fun wx => idx_iv (b.toNat : Int) (by omega) (by omega) wx
    have HI := Lib.hid hi
    have hpm := iv_byte b hlt
    by_cases h0 : 0 ≤ iv (b.toNat : Int)
    · rw [decide_eq_true h0] at hpm
      have HR := Lib.hid (show LastR ⟨#[b]⟩ (.returned (.int .i64 0)) from ⟨0, rfl, by omega, (by show (0 : Int) < ((1 : Nat) : Int); omega), fun _ => by
        show 0 = lx [b] 1
        simp [lx, ← hpm]⟩)
      clear hpm hi
      go_enter Tryd.func34, Tryd.ntmps34
      go_wp2_with (go_at_call 41; ((with_reducible refine (HI.out _).mono ?_); rintro e w' ⟨rfl, hb⟩))
      go_ret
      exact ⟨HR.out, hb⟩
    · rw [decide_eq_false h0] at hpm
      have HR := Lib.hid (show LastR ⟨#[b]⟩ (.returned (.int .i64 (-1))) from ⟨-1, rfl, by omega, (by show (-1 : Int) < ((1 : Nat) : Int); omega), fun _ => by
        show -1 = lx [b] 1
        simp [lx, ← hpm]⟩)
      clear hpm hi
      go_enter Tryd.func34, Tryd.ntmps34
      go_wp2_with (go_at_call 41; ((with_reducible refine (HI.out _).mono ?_); rintro e w' ⟨rfl, hb⟩))
      go_ret
      exact ⟨HR.out, hb⟩
  · have hge : 128 ≤ b.toNat := by omega
    have hi := fun wx => idx_err wx
    have HI := Lib.hid hi
    have HR := Lib.hid (show LastR ⟨#[b]⟩ (.returned (.int .i64 (-1))) from ⟨-1, rfl, by omega, (by show (-1 : Int) < ((1 : Nat) : Int); omega), fun h => absurd (h b (by simp)) hlt⟩)
    clear hi
    go_enter Tryd.func34, Tryd.ntmps34
    go_wp2_with (go_at_call 41; ((with_reducible refine (HI.out _).mono ?_); rintro e w' ⟨rfl, hb⟩))
    go_ret
    exact ⟨HR.out, hb⟩
end Go.Proofs.YtlplcacmmckpaaaDoor.LastG
