/-
  strconv.FormatUint at base 10: a number's decimal digits.
-/
import Derived.Test.YtlddjjkbnhhfaaaDoorClf
import Derived.Test.YtlddjjkbnhhfaaaDoorShelf3
import Derived.BigCall
import Derived.BigGuard
import Derived.Lib.ItoaMem
namespace Go.Proofs.YtlddjjkbnhhfaaaDoor.Clg
open Go Go.RowKit Go.Shelf Go.Sort Kit IsaM Cla Clt Clf
set_option linter.unusedVariables false

theorem drew_below (h : Nat) (w : World) (n : Nat) : Below h w (w.drewN n) := (Below.refl _ w).trans ⟨rfl, rfl, rfl, Nat.le_refl _, fun _ _ => rfl⟩
set_option maxHeartbeats 6400000 in
set_option maxRecDepth 100000 in
theorem fu_int (u : Nat) (hu : u < 4294967296) (w : World) (hT : Pow w) :
    Calls Tryd.prog 67 #[.int .u64 (u : Int), .int .i64 10] w fun e w' => e = .returned (.string (tx (Lib.decDigits u))) ∧ Below w.heap.size w w' := by
  have htab := hT
  by_cases hs : u < 100
  · have hw : wrap64 (u : Int) = (u : Int) := IntWalk.wrap64_in _ (by omega)
    have hl : (u : Int) < 100 := by omega
    go_enter Tryd.func67, Tryd.ntmps67
    go_wp2_with (go_at_call 83; refine (Shl.internal_strconv_small u hs _).mono ?_; rintro e w' ⟨rfl, rfl⟩)
    go_ret
    exact ⟨rfl, Below.refl _ _⟩
  · have hu1 : 1 ≤ u := by omega
    have hu64 : u < 18446744073709551616 := by omega
    have hg : ¬ ((u : Int) < 100) := by omega
    have hnd20 : Lib.nDigits u ≤ 20 := by have := Lib.numDigits_eq u hu1 hu64; split at this <;> omega
    have hal : Tryd.prog.arrayLen 132 = 24 := by kernel_rfl
    have hsl1 : ∀ W, (Instr.sliceAt 132 (.pointer (some ⟨w.heap.size, 0, none⟩)) none (some (.int .i64 (Lib.nDigits u : Int))) none).run Tryd.prog W = .ok (.slice (some ⟨w.heap.size, 0, none⟩) (Lib.nDigits u) 24) W := fun W => by
      rw [run_sliceAt_array_h W 132 ⟨w.heap.size, 0, none⟩ (by kernel_rfl) .i64 (Lib.nDigits u : Int) (by omega) (by rw [hal]; omega)]
      go_simp
    have hH0 : Holds (fun (b : UInt8) => Value.int .u8 (b.toNat : Int)) (w.alloc (.cells Lib.zeros24 132)) w.heap.size 0 (Array.replicate (Lib.nDigits u) 0) := fun j hj => by
      rw [Array.size_replicate] at hj
      refine ⟨?_, World.frozen?_alloc_new _ _ _ _⟩
      rw [World.cell?_alloc_new, Nat.zero_add, Lib.zeros24_at j (by omega)]
      simp [hj]
    have hfmt := Shl.internal_strconv_formatBase10 w.heap.size 0 24 u (Array.replicate (Lib.nDigits u) 0) (w.alloc (.cells Lib.zeros24 132)) hH0 (by rw [Array.size_replicate]; exact Lib.lt_pow_nDigits u) hu64 (by rw [Array.size_replicate]; omega)
    rw [Array.size_replicate] at hfmt
    have HH0 := Lib.hid hH0
    clear hH0 hal
    go_enter Tryd.func67, Tryd.ntmps67
    go_wp2_with (first
      | (go_at_call 84; refine (Shl.internal_strconv_numDigits u hu1 hu64 _ (Lib.tabIs_alloc htab _)).mono ?_; rintro e w' ⟨rfl, rfl⟩))
    go_at_call 85
    refine hfmt.mono ?_
    rintro e w' ⟨rfl, k, v', dk, rfl, hF⟩
    have hcv : (convert 76 9 (.slice (some ⟨w.heap.size, 0, none⟩) (Lib.nDigits u) 24)).run Tryd.prog ((putRow (fun (b : UInt8) => Value.int .u8 (b.toNat : Int)) (w.alloc (.cells Lib.zeros24 132)) w.heap.size 0 dk).drewN k) = .ok (.string ⟨(Lib.decDigits u).toArray⟩) ((putRow (fun (b : UInt8) => Value.int .u8 (b.toNat : Int)) (w.alloc (.cells Lib.zeros24 132)) w.heap.size 0 dk).drewN k) := by
      have h := run_convert_bytes_back (P := Tryd.prog) ((putRow (fun (b : UInt8) => Value.int .u8 (b.toNat : Int)) (w.alloc (.cells Lib.zeros24 132)) w.heap.size 0 dk).drewN k) 76 9 5 ⟨w.heap.size, 0, none⟩ 24 (Lib.decDigits u) Tryd.underlying76 Tryd.underlying5 Tryd.underlying9 (fun j hj => by
        rw [Lib.row_is_numeral hF j hj, Lib.add_plain, World.cell?_drewN]
        exact cell?_putRow (fun (b : UInt8) => Value.int .u8 (b.toNat : Int)) _ w.heap.size 0 _ dk HH0.out (by rw [hF.size, Array.size_replicate]) j (by rw [hF.size]; rw [Lib.decDigits_length] at hj; exact hj))
      rw [Lib.decDigits_length] at h
      exact h
    go_wp2
    go_ret
    refine ⟨rfl, ?_⟩
    have hb0 : Below w.heap.size w (w.alloc (.cells Lib.zeros24 132)) := (Below.refl _ w).alloc (Nat.le_refl _) _
    refine (hb0.trans ?_).trans (drew_below _ _ _)
    exact ⟨rfl, rfl, rfl, by simp, fun k hk => by simp [putRow, mapBlock, Array.getElem?_modify]; omega⟩

theorem fu_in (u : Nat) (hu : u < 4294967296) (w : World) (hT : Pow w) :
    Calls Tryd.prog 50 #[.int .u64 (u : Int), .int .i64 10] w fun e w' => e = .returned (.string (tx (Lib.decDigits u))) ∧ Below w.heap.size w w' := by
  have HF := Lib.hid (fu_int u hu w hT)
  go_enter Tryd.func50, Tryd.ntmps50
  go_wp2_with (go_at_call 67; refine HF.out.mono ?_; rintro e w' ⟨rfl, hb⟩)
  go_ret
  exact ⟨rfl, hb⟩

theorem digits_any (u : Nat) (hu : u < 4294967296) (w : World) (hT : Pow w) :
    Calls Tryd.prog 36 #[.int .u32 (u : Int)] w fun e w' => e = .returned (.string (tx (Lib.decDigits u))) ∧ Below w.heap.size w w' := by
  have HF := Lib.hid (fu_in u hu w hT)
  have hlt : (u : Int) < 4294967296 := by omega
  go_enter Tryd.func36, Tryd.ntmps36
  go_wp2_with (go_at_call 50; refine HF.out.mono ?_; rintro e w' ⟨rfl, hb⟩)
  go_ret
  exact ⟨rfl, hb⟩
set_option maxHeartbeats 1000000 in
theorem load_any (r u : Nat) (hr : r < 10) (hu : u < 4294967296) (w : World) (hT : Pow w) :
    Calls Tryd.prog 42 #[.int .i64 (r : Int), .int .u32 (u : Int)] w fun e w' => e = .returned (.string (tx (liT r u))) ∧ Below w.heap.size w w' := by
  have HI : Hid (∀ wx, Calls Tryd.prog 54 #[.int .i64 (r : Int)] wx fun e w' => e = .returned (.string (tx (Lib.decDigits r))) ∧ wx = w') := Lib.hid (fun wx => (Shl.strconv_Itoa_small r (by omega) wx).mono fun e w' h => ⟨h.1, h.2.symm⟩)
  have HD := Lib.hid (fun wx => digits_any u hu wx)
  have HT := Lib.hid hT
  have e : tx (liT r u) = tx [108, 105, 32] ++ tx (Lib.decDigits r) ++ tx [32] ++ tx (Lib.decDigits u) ++ tx [10] := by simp only [tx_app]; rfl
  have s1 : (tx (Lib.decDigits r)).size ≤ 10 := by rw [tx_size]; exact dd10 (by omega)
  have s2 : (tx (Lib.decDigits u)).size ≤ 10 := by rw [tx_size]; exact dd10 hu
  rw [e]
  clear hT e
  generalize tx (Lib.decDigits r) = A at *
  generalize tx (Lib.decDigits u) = B at *
  go_enter Tryd.func42, Tryd.ntmps42
  go_wp2_with (first | (go_at_call 54; refine (HI.out _).mono ?_; rintro e w' ⟨rfl, rfl⟩) | (go_at_call 36; refine (HD.out _ HT.out).mono ?_; rintro e w' ⟨rfl, hb⟩))
  go_ret
  exact ⟨rfl, hb⟩
end Go.Proofs.YtlddjjkbnhhfaaaDoor.Clg
