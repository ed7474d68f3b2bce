/-
  The document's own words of an instruction: its name, what it names, how far a field goes.
-/
import Derived.Test.YtgnpbedhpkmkfaaDoorZIsaN
import Derived.BigQuiet
import Derived.Deep.QuietTactic
import Derived.Test.YtgnpbedhpkmkfaaDoorZIsaP
namespace Go.Proofs.YtgnpbedhpkmkfaaDoor.Ra
open Go Go.RowKit Kit IsaM IsaT IsaL IsaC IsaE IsaN
set_option linter.unusedVariables false

/-- What an instruction names. -/
def nms (k : Nat) : Tx := (if mA k = 0 then [] else [97]) ++ ((if mB k = 0 then [] else [98]) ++ (if mI k = 0 then [] else [105]))
def hasB (t : Tx) (c : UInt8) : Bool := t.any (fun d => d == c)
/-- How far a field goes. -/
def mst (op : Int) (c : Int) : Int := if op < 25 then 7 else if c = 98 ∧ op < 27 then 6 else 1
theorem nms_fin : ∀ k : Fin 30, (hasB (nms k) 97 = decide (mA k ≠ 0)) ∧ (hasB (nms k) 98 = decide (mB k ≠ 0)) ∧ (hasB (nms k) 105 = decide (mI k ≠ 0)) ∧ (mA k = 0 ∨ mA k = mst (k.val : Int) 97) ∧ (mB k = 0 ∨ mB k = mst (k.val : Int) 98) := by decide +kernel

theorem len_eq (s : ByteArray) : s.data.toList.length = s.size := by simp
set_option maxHeartbeats 1000000 in
theorem has_any (s : ByteArray) (c : UInt8) (z : Int) (hz : z = (c.toNat : Int)) (hs : s.size ≤ 1000) (w : World) :
    Calls Tryd.prog 72 #[.string s, .int .u8 z] w fun e w' => e = .returned (.bool (hasB s.data.toList c)) ∧ w = w' := by
  subst hz
  have hcb : c.toNat < 256 := c.toNat_lt
  obtain ⟨R, hR⟩ : ∃ R, hasB s.data.toList c = R := ⟨_, rfl⟩
  rw [hR]
  have HR := Lib.hid hR
  clear hR
  go_enter Tryd.func72, Tryd.ntmps72
  go_wp2
  go_loop [5] (fun i => ∃ k : Nat, k ≤ s.size ∧ i = .int .i64 (k : Int) ∧ Hid (∀ j (h : j < s.data.toList.length), j < k → s.data.toList[j]'h ≠ c)) (fun i => (s.size + 1 - (intOf i).toNat))
  case atStart => exact ⟨0, by omega, rfl, fun j h hj => by omega⟩
  case round =>
    obtain ⟨k, hk, rfl, HD⟩ := hrel
    by_cases hlt : k < s.size
    · obtain ⟨x, hx⟩ : ∃ x : UInt8, s[k]'hlt = x := ⟨_, rfl⟩
      have hxl : s.data.toList[k]'(by have := len_eq s; omega) = x := by rw [← hx]; rfl
      have hxb : x.toNat < 256 := x.toNat_lt
      have HX := Lib.hid hxl
      clear hxl
      by_cases hc : x = c
      · have hq : ((x.toNat : Int) == (c.toNat : Int)) = true := by rw [hc]; simp
        have hRt : R = true := by
          rw [← HR.out]
          unfold hasB
          rw [List.any_eq_true]
          exact ⟨x, by rw [← HX.out]; exact List.getElem_mem _, by simp [hc]⟩
        subst hRt
        go_wp2
        go_ret
        exact ⟨rfl, rfl⟩
      · have hq : ((x.toNat : Int) == (c.toNat : Int)) = false := by
          rw [beq_eq_false_iff_ne]
          intro e
          exact hc (UInt8.toNat_inj.1 (by omega))
        have HC := Lib.hid hc
        clear hc
        go_wp2
        go_round
        case rel =>
          refine ⟨k + 1, by omega, by go_num, fun j h hj => ?_⟩
          by_cases hjk : j < k
          · exact HD.out j h hjk
          · obtain rfl : j = k := by omega
            rw [HX.out]
            exact HC.out
        case measure => simp [intOf]; omega
    · have hRf : R = false := by
        rw [← HR.out]
        unfold hasB
        rw [List.any_eq_false]
        intro d hd
        obtain ⟨j, hj, rfl⟩ := List.mem_iff_getElem.1 hd
        have := HD.out j hj (by have := len_eq s; omega)
        simpa using this
      subst hRf
      go_wp2
      go_ret
      exact ⟨rfl, rfl⟩

theorem most_any (op : Int) (c : Nat) (hc : c < 256) (w : World) :
    Calls Tryd.prog 73 #[.int .i64 op, .int .u8 (c : Int)] w fun e w' => e = .returned (.int .i64 (mst op (c : Int))) ∧ w = w' := by
  by_cases h1 : op < 25
  · rw [show mst op (c : Int) = 7 by unfold mst; rw [if_pos h1]]
    go_enter Tryd.func73, Tryd.ntmps73
    go_wp2
    go_ret
    exact ⟨rfl, rfl⟩
  · by_cases h2 : c = 98
    · subst h2
      by_cases h3 : op < 27
      · rw [show mst op ((98 : Nat) : Int) = 6 by unfold mst; rw [if_neg h1, if_pos ⟨rfl, h3⟩]]
        go_enter Tryd.func73, Tryd.ntmps73
        go_wp2
        go_ret
        exact ⟨rfl, rfl⟩
      · rw [show mst op ((98 : Nat) : Int) = 1 by unfold mst; rw [if_neg h1, if_neg (fun h => h3 h.2)]]
        go_enter Tryd.func73, Tryd.ntmps73
        go_wp2
        go_ret
        exact ⟨rfl, rfl⟩
    · rw [show mst op (c : Int) = 1 by unfold mst; rw [if_neg h1, if_neg (fun h => h2 (by omega))]]
      have hq : ((c : Int) == 98) = false := by rw [beq_eq_false_iff_ne]; omega
      clear h2
      go_enter Tryd.func73, Tryd.ntmps73
      go_wp2
      go_ret
      exact ⟨rfl, rfl⟩

theorem names_0 (w : World) :
    Calls Tryd.prog 71 #[.int .i64 0] w fun e w' => e = .returned (.string (st (nms 0))) ∧ w = w' := by
  go_enter Tryd.func71, Tryd.ntmps71
  go_wp2
  go_ret
  exact ⟨rfl, rfl⟩
theorem names_1 (w : World) :
    Calls Tryd.prog 71 #[.int .i64 1] w fun e w' => e = .returned (.string (st (nms 1))) ∧ w = w' := by
  go_enter Tryd.func71, Tryd.ntmps71
  go_wp2
  go_ret
  exact ⟨rfl, rfl⟩
theorem names_2 (w : World) :
    Calls Tryd.prog 71 #[.int .i64 2] w fun e w' => e = .returned (.string (st (nms 2))) ∧ w = w' := by
  go_enter Tryd.func71, Tryd.ntmps71
  go_wp2
  go_ret
  exact ⟨rfl, rfl⟩
theorem names_3 (w : World) :
    Calls Tryd.prog 71 #[.int .i64 3] w fun e w' => e = .returned (.string (st (nms 3))) ∧ w = w' := by
  go_enter Tryd.func71, Tryd.ntmps71
  go_wp2
  go_ret
  exact ⟨rfl, rfl⟩
theorem names_4 (w : World) :
    Calls Tryd.prog 71 #[.int .i64 4] w fun e w' => e = .returned (.string (st (nms 4))) ∧ w = w' := by
  go_enter Tryd.func71, Tryd.ntmps71
  go_wp2
  go_ret
  exact ⟨rfl, rfl⟩
theorem names_5 (w : World) :
    Calls Tryd.prog 71 #[.int .i64 5] w fun e w' => e = .returned (.string (st (nms 5))) ∧ w = w' := by
  go_enter Tryd.func71, Tryd.ntmps71
  go_wp2
  go_ret
  exact ⟨rfl, rfl⟩
theorem names_6 (w : World) :
    Calls Tryd.prog 71 #[.int .i64 6] w fun e w' => e = .returned (.string (st (nms 6))) ∧ w = w' := by
  go_enter Tryd.func71, Tryd.ntmps71
  go_wp2
  go_ret
  exact ⟨rfl, rfl⟩
theorem names_7 (w : World) :
    Calls Tryd.prog 71 #[.int .i64 7] w fun e w' => e = .returned (.string (st (nms 7))) ∧ w = w' := by
  go_enter Tryd.func71, Tryd.ntmps71
  go_wp2
  go_ret
  exact ⟨rfl, rfl⟩
theorem names_8 (w : World) :
    Calls Tryd.prog 71 #[.int .i64 8] w fun e w' => e = .returned (.string (st (nms 8))) ∧ w = w' := by
  go_enter Tryd.func71, Tryd.ntmps71
  go_wp2
  go_ret
  exact ⟨rfl, rfl⟩
theorem names_9 (w : World) :
    Calls Tryd.prog 71 #[.int .i64 9] w fun e w' => e = .returned (.string (st (nms 9))) ∧ w = w' := by
  go_enter Tryd.func71, Tryd.ntmps71
  go_wp2
  go_ret
  exact ⟨rfl, rfl⟩
theorem names_10 (w : World) :
    Calls Tryd.prog 71 #[.int .i64 10] w fun e w' => e = .returned (.string (st (nms 10))) ∧ w = w' := by
  go_enter Tryd.func71, Tryd.ntmps71
  go_wp2
  go_ret
  exact ⟨rfl, rfl⟩
theorem names_11 (w : World) :
    Calls Tryd.prog 71 #[.int .i64 11] w fun e w' => e = .returned (.string (st (nms 11))) ∧ w = w' := by
  go_enter Tryd.func71, Tryd.ntmps71
  go_wp2
  go_ret
  exact ⟨rfl, rfl⟩
theorem names_12 (w : World) :
    Calls Tryd.prog 71 #[.int .i64 12] w fun e w' => e = .returned (.string (st (nms 12))) ∧ w = w' := by
  go_enter Tryd.func71, Tryd.ntmps71
  go_wp2
  go_ret
  exact ⟨rfl, rfl⟩
theorem names_13 (w : World) :
    Calls Tryd.prog 71 #[.int .i64 13] w fun e w' => e = .returned (.string (st (nms 13))) ∧ w = w' := by
  go_enter Tryd.func71, Tryd.ntmps71
  go_wp2
  go_ret
  exact ⟨rfl, rfl⟩
theorem names_14 (w : World) :
    Calls Tryd.prog 71 #[.int .i64 14] w fun e w' => e = .returned (.string (st (nms 14))) ∧ w = w' := by
  go_enter Tryd.func71, Tryd.ntmps71
  go_wp2
  go_ret
  exact ⟨rfl, rfl⟩
theorem names_15 (w : World) :
    Calls Tryd.prog 71 #[.int .i64 15] w fun e w' => e = .returned (.string (st (nms 15))) ∧ w = w' := by
  go_enter Tryd.func71, Tryd.ntmps71
  go_wp2
  go_ret
  exact ⟨rfl, rfl⟩
theorem names_16 (w : World) :
    Calls Tryd.prog 71 #[.int .i64 16] w fun e w' => e = .returned (.string (st (nms 16))) ∧ w = w' := by
  go_enter Tryd.func71, Tryd.ntmps71
  go_wp2
  go_ret
  exact ⟨rfl, rfl⟩
theorem names_17 (w : World) :
    Calls Tryd.prog 71 #[.int .i64 17] w fun e w' => e = .returned (.string (st (nms 17))) ∧ w = w' := by
  go_enter Tryd.func71, Tryd.ntmps71
  go_wp2
  go_ret
  exact ⟨rfl, rfl⟩
theorem names_18 (w : World) :
    Calls Tryd.prog 71 #[.int .i64 18] w fun e w' => e = .returned (.string (st (nms 18))) ∧ w = w' := by
  go_enter Tryd.func71, Tryd.ntmps71
  go_wp2
  go_ret
  exact ⟨rfl, rfl⟩
theorem names_19 (w : World) :
    Calls Tryd.prog 71 #[.int .i64 19] w fun e w' => e = .returned (.string (st (nms 19))) ∧ w = w' := by
  go_enter Tryd.func71, Tryd.ntmps71
  go_wp2
  go_ret
  exact ⟨rfl, rfl⟩
theorem names_20 (w : World) :
    Calls Tryd.prog 71 #[.int .i64 20] w fun e w' => e = .returned (.string (st (nms 20))) ∧ w = w' := by
  go_enter Tryd.func71, Tryd.ntmps71
  go_wp2
  go_ret
  exact ⟨rfl, rfl⟩
theorem names_21 (w : World) :
    Calls Tryd.prog 71 #[.int .i64 21] w fun e w' => e = .returned (.string (st (nms 21))) ∧ w = w' := by
  go_enter Tryd.func71, Tryd.ntmps71
  go_wp2
  go_ret
  exact ⟨rfl, rfl⟩
theorem names_22 (w : World) :
    Calls Tryd.prog 71 #[.int .i64 22] w fun e w' => e = .returned (.string (st (nms 22))) ∧ w = w' := by
  go_enter Tryd.func71, Tryd.ntmps71
  go_wp2
  go_ret
  exact ⟨rfl, rfl⟩
theorem names_23 (w : World) :
    Calls Tryd.prog 71 #[.int .i64 23] w fun e w' => e = .returned (.string (st (nms 23))) ∧ w = w' := by
  go_enter Tryd.func71, Tryd.ntmps71
  go_wp2
  go_ret
  exact ⟨rfl, rfl⟩
theorem names_24 (w : World) :
    Calls Tryd.prog 71 #[.int .i64 24] w fun e w' => e = .returned (.string (st (nms 24))) ∧ w = w' := by
  go_enter Tryd.func71, Tryd.ntmps71
  go_wp2
  go_ret
  exact ⟨rfl, rfl⟩
theorem names_25 (w : World) :
    Calls Tryd.prog 71 #[.int .i64 25] w fun e w' => e = .returned (.string (st (nms 25))) ∧ w = w' := by
  go_enter Tryd.func71, Tryd.ntmps71
  go_wp2
  go_ret
  exact ⟨rfl, rfl⟩
theorem names_26 (w : World) :
    Calls Tryd.prog 71 #[.int .i64 26] w fun e w' => e = .returned (.string (st (nms 26))) ∧ w = w' := by
  go_enter Tryd.func71, Tryd.ntmps71
  go_wp2
  go_ret
  exact ⟨rfl, rfl⟩
theorem names_27 (w : World) :
    Calls Tryd.prog 71 #[.int .i64 27] w fun e w' => e = .returned (.string (st (nms 27))) ∧ w = w' := by
  go_enter Tryd.func71, Tryd.ntmps71
  go_wp2
  go_ret
  exact ⟨rfl, rfl⟩
theorem names_28 (w : World) :
    Calls Tryd.prog 71 #[.int .i64 28] w fun e w' => e = .returned (.string (st (nms 28))) ∧ w = w' := by
  go_enter Tryd.func71, Tryd.ntmps71
  go_wp2
  go_ret
  exact ⟨rfl, rfl⟩
theorem names_29 (w : World) :
    Calls Tryd.prog 71 #[.int .i64 29] w fun e w' => e = .returned (.string (st (nms 29))) ∧ w = w' := by
  go_enter Tryd.func71, Tryd.ntmps71
  go_wp2
  go_ret
  exact ⟨rfl, rfl⟩
theorem names_in : ∀ (k : Nat), k < 30 → ∀ (w : World), Calls Tryd.prog 71 #[.int .i64 (k : Int)] w fun e w' => e = .returned (.string (st (nms k))) ∧ w = w'
  | 0, _, w => names_0 w
  | 1, _, w => names_1 w
  | 2, _, w => names_2 w
  | 3, _, w => names_3 w
  | 4, _, w => names_4 w
  | 5, _, w => names_5 w
  | 6, _, w => names_6 w
  | 7, _, w => names_7 w
  | 8, _, w => names_8 w
  | 9, _, w => names_9 w
  | 10, _, w => names_10 w
  | 11, _, w => names_11 w
  | 12, _, w => names_12 w
  | 13, _, w => names_13 w
  | 14, _, w => names_14 w
  | 15, _, w => names_15 w
  | 16, _, w => names_16 w
  | 17, _, w => names_17 w
  | 18, _, w => names_18 w
  | 19, _, w => names_19 w
  | 20, _, w => names_20 w
  | 21, _, w => names_21 w
  | 22, _, w => names_22 w
  | 23, _, w => names_23 w
  | 24, _, w => names_24 w
  | 25, _, w => names_25 w
  | 26, _, w => names_26 w
  | 27, _, w => names_27 w
  | 28, _, w => names_28 w
  | 29, _, w => names_29 w
  | k + 30, h, _ => by omega
def nmC : Array Value := #[.string ⟨#[110, 111, 112]⟩, .string ⟨#[108, 105]⟩, .string ⟨#[108, 117, 105]⟩, .string ⟨#[109, 111, 118]⟩, .string ⟨#[97, 100, 100]⟩, .string ⟨#[115, 117, 98]⟩, .string ⟨#[109, 117, 108]⟩, .string ⟨#[97, 110, 100]⟩, .string ⟨#[111, 114]⟩, .string ⟨#[120, 111, 114]⟩, .string ⟨#[115, 104, 108]⟩, .string ⟨#[115, 104, 114]⟩, .string ⟨#[97, 100, 100, 105]⟩, .string ⟨#[115, 108, 116]⟩, .string ⟨#[115, 101, 113]⟩, .string ⟨#[108, 119]⟩, .string ⟨#[115, 119]⟩, .string ⟨#[108, 98]⟩, .string ⟨#[115, 98]⟩, .string ⟨#[106, 109, 112]⟩, .string ⟨#[106, 122]⟩, .string ⟨#[106, 110, 122]⟩, .string ⟨#[106, 97, 108]⟩, .string ⟨#[106, 114]⟩, .string ⟨#[115, 121, 115]⟩, .string ⟨#[122, 115, 101, 116]⟩, .string ⟨#[122, 103, 101, 116]⟩, .string ⟨#[122, 97, 100, 100]⟩, .string ⟨#[122, 109, 117, 108]⟩, .string ⟨#[122, 99, 111, 110, 106]⟩]
theorem nmC_at : ∀ k : Nat, k < 30 → nmC[k]? = some (.string ⟨(nm k).toArray⟩)
  | 0, _ => rfl
  | 1, _ => rfl
  | 2, _ => rfl
  | 3, _ => rfl
  | 4, _ => rfl
  | 5, _ => rfl
  | 6, _ => rfl
  | 7, _ => rfl
  | 8, _ => rfl
  | 9, _ => rfl
  | 10, _ => rfl
  | 11, _ => rfl
  | 12, _ => rfl
  | 13, _ => rfl
  | 14, _ => rfl
  | 15, _ => rfl
  | 16, _ => rfl
  | 17, _ => rfl
  | 18, _ => rfl
  | 19, _ => rfl
  | 20, _ => rfl
  | 21, _ => rfl
  | 22, _ => rfl
  | 23, _ => rfl
  | 24, _ => rfl
  | 25, _ => rfl
  | 26, _ => rfl
  | 27, _ => rfl
  | 28, _ => rfl
  | 29, _ => rfl
  | k + 30, h => by omega
set_option maxHeartbeats 1000000 in
theorem rname_yes (k : Nat) (hk : k < 30) (w : World) :
    Calls Tryd.prog 70 #[.int .i64 (k : Int)] w fun e w' => e = .returned (.string ⟨(nm k).toArray⟩) ∧ Below w.heap.size w w' := by
  have hc : (w.alloc (.cells nmC 9)).cell? ⟨w.heap.size, k, none⟩ = some (.string ⟨(nm k).toArray⟩) := by
    rw [World.cell?_alloc_new]
    exact nmC_at k hk
  unfold nmC at hc
  go_enter Tryd.func70, Tryd.ntmps70
  go_wp2
  go_ret
  exact ⟨rfl, (Below.refl _ _).alloc (Nat.le_refl _) _⟩
theorem rname_no (op : Int) (h : ¬ (0 ≤ op ∧ op < 30)) (w : World) :
    Calls Tryd.prog 70 #[.int .i64 op] w fun e w' => e = .returned (.string ⟨#[]⟩) ∧ Below w.heap.size w w' := by
  by_cases h0 : op < 0
  · clear h
    go_enter Tryd.func70, Tryd.ntmps70
    go_wp2
    go_ret
    exact ⟨rfl, (Below.refl _ _).alloc (Nat.le_refl _) _⟩
  · have h3 : 30 ≤ op := by omega
    clear h
    go_enter Tryd.func70, Tryd.ntmps70
    go_wp2
    go_ret
    exact ⟨rfl, (Below.refl _ _).alloc (Nat.le_refl _) _⟩
end Go.Proofs.YtgnpbedhpkmkfaaDoor.Ra

/-
  The document's May: which instructions may be.
-/
namespace Go.Proofs.YtgnpbedhpkmkfaaDoor.Rb0
open Go Go.RowKit Go.Shelf Kit IsaM IsaT IsaL IsaC IsaE IsaN IsaP Ra
set_option linter.unusedVariables false

theorem fits_calc (k : Nat) (hk : k < 30) (a b i : Int) : Fits k a b i ↔ ((mA k ≠ 0 ∧ 0 ≤ a ∧ a ≤ mst (k : Int) 97) ∨ (mA k = 0 ∧ a = 0)) ∧ ((mB k ≠ 0 ∧ 0 ≤ b ∧ b ≤ mst (k : Int) 98) ∨ (mB k = 0 ∧ b = 0)) ∧ ((mI k ≠ 0 ∧ -32768 ≤ i ∧ i ≤ 32767) ∨ (mI k = 0 ∧ i = 0)) := by
  have h := nms_fin ⟨k, hk⟩
  simp only at h
  obtain ⟨-, -, -, hA, hB⟩ := h
  have cA := mA_cases hk
  have cB := mB_cases hk
  have cI := mI_cases hk
  constructor
  · rintro ⟨_, a0, a1, b0, b1, i0, i1⟩
    unfold lo at i0
    refine ⟨by omega, by omega, ?_⟩
    split at i0 <;> omega
  · rintro ⟨h1, h2, h3⟩
    refine ⟨hk, by omega, by omega, by omega, by omega, ?_, by omega⟩
    unfold lo
    split <;> omega
theorem nm_ne (k : Nat) (hk : k < 30) : (nm k).isEmpty = false := by
  have : ∀ k : Fin 30, (nm k.val).isEmpty = false := by decide +kernel
  exact this ⟨k, hk⟩
theorem nms_size (k : Nat) : (st (nms k)).size ≤ 3 := by rw [st_size]; unfold nms; split <;> split <;> split <;> simp

theorem hb (k : Nat) (c : Nat) (hc : c < 256) (x : Bool) (h : hasB (nms k) (UInt8.ofNat c) = x) (wx : World) : Calls Tryd.prog 72 #[.string (st (nms k)), .int .u8 (c : Int)] wx fun e w' => e = .returned (.bool x) ∧ wx = w' := by
  have := has_any (st (nms k)) (UInt8.ofNat c) (c : Int) (by simp; omega) (by have := nms_size k; omega) wx
  rwa [st_data, h] at this

end Go.Proofs.YtgnpbedhpkmkfaaDoor.Rb0
