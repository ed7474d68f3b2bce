/-
  The program's smallest functions: isOp, split, join, least, isJump, Name, find; and the document's: has, most, names, Name.
-/
import Derived.Test.YtlddjjkbnhhfaaaDoorIsaT
import Derived.Test.YtlddjjkbnhhfaaaDoorShelf3
import Derived.Laws.Rows
import Derived.Outline
namespace Go.Proofs.YtlddjjkbnhhfaaaDoor.IsaL
open Go Go.RowKit Kit IsaM IsaT
set_option linter.unusedVariables false

/-- An instruction, as a value. -/
def insV (op a b i : Int) : Value := .agg #[.int .i64 op, .int .i64 a, .int .i64 b, .int .i64 i]

theorem isOp_yes (k : Nat) (hk : k < 30) (w : World) :
    Calls Tryd.prog 64 #[.int .i64 (k : Int)] w fun e w' => e = .returned (.bool true) ∧ w = w' := by
  have hd : decide ((k : Int) < 30) = true := decide_eq_true (by omega)
  go_enter Tryd.func64, Tryd.ntmps64
  go_wp2
  go_ret
  exact ⟨rfl, rfl⟩
theorem isOp_no (op : Int) (h : ¬ (0 ≤ op ∧ op < 30)) (w : World) :
    Calls Tryd.prog 64 #[.int .i64 op] w fun e w' => e = .returned (.bool false) ∧ w = w' := by
  by_cases h0 : 0 ≤ op
  · have h1 : decide (op < 30) = false := decide_eq_false (fun hh => h ⟨h0, hh⟩)
    clear h
    go_enter Tryd.func64, Tryd.ntmps64
    go_wp2
    go_ret
    exact ⟨rfl, rfl⟩
  · have h1 : decide (0 ≤ op) = false := decide_eq_false h0
    clear h
    go_enter Tryd.func64, Tryd.ntmps64
    go_wp2
    go_ret
    exact ⟨rfl, rfl⟩
theorem split_any (op a b i : Int) (w : World) :
    Calls Tryd.prog 65 #[insV op a b i] w fun e w' => e = .returned (.agg #[.int .i64 a, .int .i64 b, .int .i64 i]) ∧ Below w.heap.size w w' := by
  unfold insV
  go_enter Tryd.func65, Tryd.ntmps65
  go_wp2
  exact bodyPost_ret (v := .agg #[.int .i64 a, .int .i64 b, .int .i64 i]) (by simp [results, Tryd.results65, go_sem]) rfl ⟨rfl, ((Below.refl _ _).alloc (Nat.le_refl _) _).alloc (by simp) _⟩
theorem join_any (k : Nat) (a b i : Int) (w : World) :
    Calls Tryd.prog 82 #[.int .i64 (k : Int), .agg #[.int .i64 a, .int .i64 b, .int .i64 i]] w fun e w' => e = .returned (insV k a b i) ∧ Below w.heap.size w w' := by
  go_enter Tryd.func82, Tryd.ntmps82
  go_wp2
  exact bodyPost_ret (v := insV k a b i) (by simp [results, Tryd.results82, go_sem, insV]) rfl ⟨rfl, ((Below.refl _ _).alloc (Nat.le_refl _) _).alloc (by simp) _⟩
theorem least_ab (j : Int) (h : j ≠ 2) (m : Int) (w : World) :
    Calls Tryd.prog 66 #[.int .i64 j, .int .i64 m] w fun e w' => e = .returned (.int .i64 0) ∧ w = w' := by
  have h1 : (j == 2) = false := by simpa using h
  go_enter Tryd.func66, Tryd.ntmps66
  go_wp2
  go_ret
  exact ⟨rfl, rfl⟩
theorem least_i (m : Int) (h0 : 0 ≤ m) (w : World) :
    Calls Tryd.prog 66 #[.int .i64 2, .int .i64 m] w fun e w' => e = .returned (.int .i64 (lo m)) ∧ w = w' := by
  by_cases h : m = 0
  · subst h
    go_enter Tryd.func66, Tryd.ntmps66
    go_wp2
    go_ret
    exact ⟨rfl, rfl⟩
  · have h1 : 0 < m := by omega
    have h2 : lo m = -32768 := by unfold lo; rw [if_neg h]
    rw [h2]
    clear h h0 h2
    go_enter Tryd.func66, Tryd.ntmps66
    go_wp2
    go_ret
    exact ⟨rfl, rfl⟩
theorem isJump_any (k : Nat) (w : World) :
    Calls Tryd.prog 80 #[.int .i64 (k : Int)] w fun e w' => e = .returned (.bool (isJ k)) ∧ w = w' := by
  by_cases h : k = 19 ∨ k = 20 ∨ k = 21 ∨ k = 22
  · rcases h with rfl | rfl | rfl | rfl <;>
    · go_enter Tryd.func80, Tryd.ntmps80
      go_wp2
      go_ret
      exact ⟨rfl, rfl⟩
  · have h1 : ((k : Int) == 19) = false := by simp; omega
    have h2 : ((k : Int) == 20) = false := by simp; omega
    have h3 : ((k : Int) == 21) = false := by simp; omega
    have h4 : ((k : Int) == 22) = false := by simp; omega
    have h5 : isJ k = false := by unfold isJ; simp; omega
    rw [h5]
    clear h h5
    go_enter Tryd.func80, Tryd.ntmps80
    go_wp2
    go_ret
    exact ⟨rfl, rfl⟩
def rowV (k : Nat) : Value := .agg #[.string ⟨(nm k).toArray⟩, .int .i64 (mA k), .int .i64 (mB k), .int .i64 (mI k)]
def rowsV : Value := .agg rowsC
theorem idx_fin : ∀ k : Nat, k < 30 → ∀ w, (Instr.index 121 rowsV (.int .i64 (k : Int))).run Tryd.prog w = .ok (rowV k) w
  | 0, _ => fun _ => by kernel_rfl
  | 1, _ => fun _ => by kernel_rfl
  | 2, _ => fun _ => by kernel_rfl
  | 3, _ => fun _ => by kernel_rfl
  | 4, _ => fun _ => by kernel_rfl
  | 5, _ => fun _ => by kernel_rfl
  | 6, _ => fun _ => by kernel_rfl
  | 7, _ => fun _ => by kernel_rfl
  | 8, _ => fun _ => by kernel_rfl
  | 9, _ => fun _ => by kernel_rfl
  | 10, _ => fun _ => by kernel_rfl
  | 11, _ => fun _ => by kernel_rfl
  | 12, _ => fun _ => by kernel_rfl
  | 13, _ => fun _ => by kernel_rfl
  | 14, _ => fun _ => by kernel_rfl
  | 15, _ => fun _ => by kernel_rfl
  | 16, _ => fun _ => by kernel_rfl
  | 17, _ => fun _ => by kernel_rfl
  | 18, _ => fun _ => by kernel_rfl
  | 19, _ => fun _ => by kernel_rfl
  | 20, _ => fun _ => by kernel_rfl
  | 21, _ => fun _ => by kernel_rfl
  | 22, _ => fun _ => by kernel_rfl
  | 23, _ => fun _ => by kernel_rfl
  | 24, _ => fun _ => by kernel_rfl
  | 25, _ => fun _ => by kernel_rfl
  | 26, _ => fun _ => by kernel_rfl
  | 27, _ => fun _ => by kernel_rfl
  | 28, _ => fun _ => by kernel_rfl
  | 29, _ => fun _ => by kernel_rfl
  | k + 30, h => absurd h (by omega)
def findV : Option Nat → Value
  | some k => .tuple #[.int .i64 (k : Int), .bool true]
  | none => .tuple #[.int .i64 0, .bool false]
theorem findFrom_at (t : Tx) : ∀ (l : List Tx) (b k : Nat), (∀ j, j < k → l.getD j [] ≠ t) → k < l.length → l.getD k [] = t → findFrom t b l = some (b + k)
  | [], _, _, _, h, _ => by simp at h
  | n :: r, b, 0, _, _, he => by unfold findFrom; rw [if_pos (by simpa using he)]; rfl
  | n :: r, b, k + 1, hn, hl, he => by
    unfold findFrom
    rw [if_neg (by simpa using hn 0 (by omega)), findFrom_at t r (b + 1) k (fun j hj => by simpa using hn (j + 1) (by omega)) (by simpa using hl) (by simpa using he)]
    congr 1
    omega
theorem findFrom_none (t : Tx) : ∀ (l : List Tx) (b : Nat), (∀ j, j < l.length → l.getD j [] ≠ t) → findFrom t b l = none
  | [], _, _ => rfl
  | n :: r, b, hn => by
    unfold findFrom
    rw [if_neg (by simpa using hn 0 (by simp)), findFrom_none t r (b + 1) (fun j hj => by simpa using hn (j + 1) (by simpa using hj))]
theorem nmT_len : nmT.length = 30 := by decide
theorem opOf_at {t : Tx} {k : Nat} (h : ∀ j, j < k → nm j ≠ t) (hk : k < 30) (he : nm k = t) : opOf t = some k := by
  unfold opOf
  rw [findFrom_at t nmT 0 k h (by rw [nmT_len]; exact hk) he, Nat.zero_add]
theorem opOf_none {t : Tx} (h : ∀ j, j < 30 → nm j ≠ t) : opOf t = none := findFrom_none t nmT 0 (fun j hj => h j (by rw [nmT_len] at hj; exact hj))
theorem st_eq {l : Tx} {s : ByteArray} : (⟨l.toArray⟩ : ByteArray) = s ↔ l = s.data.toList := by
  constructor
  · rintro rfl; simp
  · rintro rfl; simp

theorem toList_eq (s : ByteArray) : s.toList = s.data.toList := ByteArray.toList_eq s
set_option maxHeartbeats 1000000 in
theorem find_any (s : ByteArray) (w : World) (hT : Tabs w) :
    Calls Tryd.prog 79 #[.string s] w fun e w' => e = .returned (findV (opOf s.data.toList)) ∧ Below w.heap.size w w' := by
  obtain ⟨t, fr, hh⟩ := hT.rows
  have hh0 := Lib.hid hh
  clear hh
  go_enter Tryd.func79, Tryd.ntmps79
  go_wp2_with (refine wpList_load_row rfl 121 (.global 2) rfl 2 rfl t rowsC fr _ hh0.out Tryd.underlying121 rfl (by kernel_rfl) ?_)
  go_loopw [7] (fun i wr => ∃ k : Nat, k ≤ 30 ∧ i = .int .i64 (k : Int) ∧ Hid (∀ j, j < k → nm j ≠ s.data.toList) ∧ Below w.heap.size w wr) (fun i _ => 30 - (intOf i).toNat)
  case atStart => exact ⟨0, by omega, rfl, Lib.hid (fun j h => by omega), Below.refl _ _⟩
  case round =>
    obtain ⟨k, hk, rfl, hn, hb⟩ := hrel
    by_cases hlt : k < 30
    · have hix := fun wx => idx_fin k hlt wx
      unfold rowsV rowV at hix
      by_cases heq : nm k = s.data.toList
      · have HE := Lib.hid (opOf_at hn.out hlt heq)
        have hq : (nm k == s.toList) = true := by rw [toList_eq]; simpa using heq
        clear heq
        go_wp2
        go_ret2
        exact ⟨by rw [HE.out]; rfl, hb.alloc hb.size _⟩
      · have HE := Lib.hid heq
        have hq : (nm k == s.toList) = false := by rw [toList_eq]; simpa using heq
        clear heq
        go_wp2
        go_roundw
        case rel => exact ⟨k + 1, by omega, by go_num, Lib.hid (fun j h => by
            rcases Nat.lt_or_ge j k with h1 | h1
            · exact hn.out j h1
            · obtain rfl : j = k := by omega
              exact HE.out), hb.alloc hb.size _⟩
        case measure => simp [intOf]; omega
    · obtain rfl : k = 30 := by omega
      have HE := Lib.hid (opOf_none hn.out)
      clear hlt hk
      go_wp2
      go_ret2
      exact ⟨by rw [HE.out]; rfl, hb⟩
end Go.Proofs.YtlddjjkbnhhfaaaDoor.IsaL
