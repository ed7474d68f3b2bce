/-
  The program's smallest functions: isOp, split, join, least, isJump, Name, find; and the document's: has, most, names, Name.
-/
import Derived.Test.YtgnpbedhpkmkfaaDoorZImt
import Derived.Test.YtgnpbedhpkmkfaaDoorShelf3
import Derived.Laws.Rows
import Derived.Outline
import Derived.BigQuiet
import Derived.Deep.QuietTactic
import Derived.WalkSmall
import Derived.Test.YtgnpbedhpkmkfaaDoorNums
import Derived.IntWalk
namespace Go.Proofs.YtgnpbedhpkmkfaaDoor.IsaL
open Go Go.RowKit Kit IsaM IsaT
set_option linter.unusedVariables false

/-- An instruction, as a value. -/
def insV (op a b i : Int) : Value := .agg #[.int .i64 op, .int .i64 a, .int .i64 b, .int .i64 i]

theorem isOp_yes (k : Nat) (hk : k < 30) (w : World) :
    Calls Tryd.prog 67 #[.int .i64 (k : Int)] w fun e w' => e = .returned (.bool true) ∧ w = w' := by
  have hd : decide ((k : Int) < 30) = true := decide_eq_true (by omega)
  go_enter Tryd.func67, Tryd.ntmps67
  go_wp2
  go_ret
  exact ⟨rfl, rfl⟩
theorem isOp_no (op : Int) (h : ¬ (0 ≤ op ∧ op < 30)) (w : World) :
    Calls Tryd.prog 67 #[.int .i64 op] w fun e w' => e = .returned (.bool false) ∧ w = w' := by
  by_cases h0 : 0 ≤ op
  · have h1 : decide (op < 30) = false := decide_eq_false (fun hh => h ⟨h0, hh⟩)
    clear h
    go_enter Tryd.func67, Tryd.ntmps67
    go_wp2
    go_ret
    exact ⟨rfl, rfl⟩
  · have h1 : decide (0 ≤ op) = false := decide_eq_false h0
    clear h
    go_enter Tryd.func67, Tryd.ntmps67
    go_wp2
    go_ret
    exact ⟨rfl, rfl⟩
theorem split_any (op a b i : Int) (w : World) :
    Calls Tryd.prog 46 #[insV op a b i] w fun e w' => e = .returned (.agg #[.int .i64 a, .int .i64 b, .int .i64 i]) ∧ Below w.heap.size w w' := by
  unfold insV
  go_enter Tryd.func46, Tryd.ntmps46
  go_wp2
  exact bodyPost_ret (v := .agg #[.int .i64 a, .int .i64 b, .int .i64 i]) (by simp [results, Tryd.results46, go_sem]) rfl ⟨rfl, ((Below.refl _ _).alloc (Nat.le_refl _) _).alloc (by simp) _⟩
theorem join_any (k : Nat) (a b i : Int) (w : World) :
    Calls Tryd.prog 94 #[.int .i64 (k : Int), .agg #[.int .i64 a, .int .i64 b, .int .i64 i]] w fun e w' => e = .returned (insV k a b i) ∧ Below w.heap.size w w' := by
  go_enter Tryd.func94, Tryd.ntmps94
  go_wp2
  exact bodyPost_ret (v := insV k a b i) (by simp [results, Tryd.results94, go_sem, insV]) rfl ⟨rfl, ((Below.refl _ _).alloc (Nat.le_refl _) _).alloc (by simp) _⟩
theorem least_ab (j : Int) (h : j ≠ 2) (m : Int) (w : World) :
    Calls Tryd.prog 68 #[.int .i64 j, .int .i64 m] w fun e w' => e = .returned (.int .i64 0) ∧ w = w' := by
  have h1 : (j == 2) = false := by simpa using h
  go_enter Tryd.func68, Tryd.ntmps68
  go_wp2
  go_ret
  exact ⟨rfl, rfl⟩
theorem least_i (m : Int) (h0 : 0 ≤ m) (w : World) :
    Calls Tryd.prog 68 #[.int .i64 2, .int .i64 m] w fun e w' => e = .returned (.int .i64 (lo m)) ∧ w = w' := by
  by_cases h : m = 0
  · subst h
    go_enter Tryd.func68, Tryd.ntmps68
    go_wp2
    go_ret
    exact ⟨rfl, rfl⟩
  · have h1 : 0 < m := by omega
    have h2 : lo m = -32768 := by unfold lo; rw [if_neg h]
    rw [h2]
    clear h h0 h2
    go_enter Tryd.func68, Tryd.ntmps68
    go_wp2
    go_ret
    exact ⟨rfl, rfl⟩
theorem isJump_any (k : Nat) (w : World) :
    Calls Tryd.prog 92 #[.int .i64 (k : Int)] w fun e w' => e = .returned (.bool (isJ k)) ∧ w = w' := by
  by_cases h : k = 19 ∨ k = 20 ∨ k = 21 ∨ k = 22
  · rcases h with rfl | rfl | rfl | rfl <;>
    · go_enter Tryd.func92, Tryd.ntmps92
      go_wp2
      go_ret
      exact ⟨rfl, rfl⟩
  · have h1 : ((k : Int) == 19) = false := by simp; omega
    have h2 : ((k : Int) == 20) = false := by simp; omega
    have h3 : ((k : Int) == 21) = false := by simp; omega
    have h4 : ((k : Int) == 22) = false := by simp; omega
    have h5 : isJ k = false := by unfold isJ; simp; omega
    rw [h5]
    clear h h5
    go_enter Tryd.func92, Tryd.ntmps92
    go_wp2
    go_ret
    exact ⟨rfl, rfl⟩
def rowV (k : Nat) : Value := .agg #[.string ⟨(nm k).toArray⟩, .int .i64 (mA k), .int .i64 (mB k), .int .i64 (mI k)]
def rowsV : Value := .agg rowsC
theorem idx_fin : ∀ k : Nat, k < 30 → ∀ w, (Instr.index 102 rowsV (.int .i64 (k : Int))).run Tryd.prog w = .ok (rowV k) w
  | 0, _ => fun _ => by kernel_rfl
  | 1, _ => fun _ => by kernel_rfl
  | 2, _ => fun _ => by kernel_rfl
  | 3, _ => fun _ => by kernel_rfl
  | 4, _ => fun _ => by kernel_rfl
  | 5, _ => fun _ => by kernel_rfl
  | 6, _ => fun _ => by kernel_rfl
  | 7, _ => fun _ => by kernel_rfl
  | 8, _ => fun _ => by kernel_rfl
  | 9, _ => fun _ => by kernel_rfl
  | 10, _ => fun _ => by kernel_rfl
  | 11, _ => fun _ => by kernel_rfl
  | 12, _ => fun _ => by kernel_rfl
  | 13, _ => fun _ => by kernel_rfl
  | 14, _ => fun _ => by kernel_rfl
  | 15, _ => fun _ => by kernel_rfl
  | 16, _ => fun _ => by kernel_rfl
  | 17, _ => fun _ => by kernel_rfl
  | 18, _ => fun _ => by kernel_rfl
  | 19, _ => fun _ => by kernel_rfl
  | 20, _ => fun _ => by kernel_rfl
  | 21, _ => fun _ => by kernel_rfl
  | 22, _ => fun _ => by kernel_rfl
  | 23, _ => fun _ => by kernel_rfl
  | 24, _ => fun _ => by kernel_rfl
  | 25, _ => fun _ => by kernel_rfl
  | 26, _ => fun _ => by kernel_rfl
  | 27, _ => fun _ => by kernel_rfl
  | 28, _ => fun _ => by kernel_rfl
  | 29, _ => fun _ => by kernel_rfl
  | k + 30, h => absurd h (by omega)
def findV : Option Nat → Value
  | some k => .tuple #[.int .i64 (k : Int), .bool true]
  | none => .tuple #[.int .i64 0, .bool false]
theorem findFrom_at (t : Tx) : ∀ (l : List Tx) (b k : Nat), (∀ j, j < k → l.getD j [] ≠ t) → k < l.length → l.getD k [] = t → findFrom t b l = some (b + k)
  | [], _, _, _, h, _ => by simp at h
  | n :: r, b, 0, _, _, he => by unfold findFrom; rw [if_pos (by simpa using he)]; rfl
  | n :: r, b, k + 1, hn, hl, he => by
    unfold findFrom
    rw [if_neg (by simpa using hn 0 (by omega)), findFrom_at t r (b + 1) k (fun j hj => by simpa using hn (j + 1) (by omega)) (by simpa using hl) (by simpa using he)]
    congr 1
    omega
theorem findFrom_none (t : Tx) : ∀ (l : List Tx) (b : Nat), (∀ j, j < l.length → l.getD j [] ≠ t) → findFrom t b l = none
  | [], _, _ => rfl
  | n :: r, b, hn => by
    unfold findFrom
    rw [if_neg (by simpa using hn 0 (by simp)), findFrom_none t r (b + 1) (fun j hj => by simpa using hn (j + 1) (by simpa using hj))]
theorem nmT_len : nmT.length = 30 := by decide
theorem opOf_at {t : Tx} {k : Nat} (h : ∀ j, j < k → nm j ≠ t) (hk : k < 30) (he : nm k = t) : opOf t = some k := by
  unfold opOf
  rw [findFrom_at t nmT 0 k h (by rw [nmT_len]; exact hk) he, Nat.zero_add]
theorem opOf_none {t : Tx} (h : ∀ j, j < 30 → nm j ≠ t) : opOf t = none := findFrom_none t nmT 0 (fun j hj => h j (by rw [nmT_len] at hj; exact hj))
theorem st_eq {l : Tx} {s : ByteArray} : (⟨l.toArray⟩ : ByteArray) = s ↔ l = s.data.toList := by
  constructor
  · rintro rfl; simp
  · rintro rfl; simp

theorem toList_eq (s : ByteArray) : s.toList = s.data.toList := ByteArray.toList_eq s
set_option maxHeartbeats 1000000 in
theorem find_any (s : ByteArray) (w : World) (hT : Tabs w) :
    Calls Tryd.prog 91 #[.string s] w fun e w' => e = .returned (findV (opOf s.data.toList)) ∧ Below w.heap.size w w' := by
  obtain ⟨t, fr, hh⟩ := hT.rows
  have hh0 := Lib.hid hh
  clear hh
  go_enter Tryd.func91, Tryd.ntmps91
  go_wp2_with (refine wpList_load_row rfl 102 (.global 0) rfl 0 rfl t rowsC fr _ hh0.out Tryd.underlying102 rfl (by kernel_rfl) ?_)
  go_loopw [7] (fun i wr => ∃ k : Nat, k ≤ 30 ∧ i = .int .i64 (k : Int) ∧ Hid (∀ j, j < k → nm j ≠ s.data.toList) ∧ Below w.heap.size w wr) (fun i _ => 30 - (intOf i).toNat)
  case atStart => exact ⟨0, by omega, rfl, Lib.hid (fun j h => by omega), Below.refl _ _⟩
  case round =>
    obtain ⟨k, hk, rfl, hn, hb⟩ := hrel
    by_cases hlt : k < 30
    · have hix := fun wx => idx_fin k hlt wx
      unfold rowsV rowV at hix
      by_cases heq : nm k = s.data.toList
      · have HE := Lib.hid (opOf_at hn.out hlt heq)
        have hq : (nm k == s.toList) = true := by rw [toList_eq]; simpa using heq
        clear heq
        go_wp2
        go_ret2
        exact ⟨by rw [HE.out]; rfl, hb.alloc hb.size _⟩
      · have HE := Lib.hid heq
        have hq : (nm k == s.toList) = false := by rw [toList_eq]; simpa using heq
        clear heq
        go_wp2
        go_roundw
        case rel => exact ⟨k + 1, by omega, by go_num, Lib.hid (fun j h => by
            rcases Nat.lt_or_ge j k with h1 | h1
            · exact hn.out j h1
            · obtain rfl : j = k := by omega
              exact HE.out), hb.alloc hb.size _⟩
        case measure => simp [intOf]; omega
    · obtain rfl : k = 30 := by omega
      have HE := Lib.hid (opOf_none hn.out)
      clear hlt hk
      go_wp2
      go_ret2
      exact ⟨by rw [HE.out]; rfl, hb⟩
end Go.Proofs.YtgnpbedhpkmkfaaDoor.IsaL

/-
  Check: which instructions may be.
-/
namespace Go.Proofs.YtgnpbedhpkmkfaaDoor.IsaC
open Go Go.RowKit Kit IsaM IsaT IsaL
set_option linter.unusedVariables false

theorem bcell {W w1 : World} (hb : Below W.heap.size W w1) : (∀ b o, b < W.heap.size → w1.cell? ⟨b, o, none⟩ = W.cell? ⟨b, o, none⟩) ∧ (∀ b o, b < W.heap.size → w1.frozen? ⟨b, o, none⟩ = W.frozen? ⟨b, o, none⟩) :=
  ⟨fun b o h => hb.cell (p := ⟨b, o, none⟩) h, fun b o h => hb.frozen (p := ⟨b, o, none⟩) h⟩

theorem quiet {P : Program} {f : FuncId} {args : Array Value} {w : World} {n : Nat} {v : Value}
    (h : Calls P f args (w.drewN n) fun e w' => e = .returned v ∧ w.drewN n = w') : Calls P f args (w.drewN n) fun e w'' => e = .returned v ∧ ∃ m, w'' = w.drewN m :=
  Calls.quiet_of_same (h.mono fun _ _ h => ⟨h.1, h.2.symm⟩)

theorem ix0 (A B I : Int) (w : World) : (Instr.index 99 (.agg #[.int .i64 A, .int .i64 B, .int .i64 I]) (.int .i64 0)).run Tryd.prog w = .ok (.int .i64 A) w := by kernel_rfl
theorem ix1 (A B I : Int) (w : World) : (Instr.index 99 (.agg #[.int .i64 A, .int .i64 B, .int .i64 I]) (.int .i64 1)).run Tryd.prog w = .ok (.int .i64 B) w := by kernel_rfl
theorem ix2 (A B I : Int) (w : World) : (Instr.index 99 (.agg #[.int .i64 A, .int .i64 B, .int .i64 I]) (.int .i64 2)).run Tryd.prog w = .ok (.int .i64 I) w := by kernel_rfl

theorem drew_below (h : Nat) (w : World) (n : Nat) : Below h w (w.drewN n) := (Below.refl _ w).trans ⟨rfl, rfl, rfl, Nat.le_refl _, fun _ _ => rfl⟩
/-- The first j fields fit. -/
def Pre (k : Nat) (a b i : Int) (j : Int) : Prop := (1 ≤ j → 0 ≤ a ∧ a ≤ mA k) ∧ (2 ≤ j → 0 ≤ b ∧ b ≤ mB k) ∧ (3 ≤ j → lo (mI k) ≤ i ∧ i ≤ mI k)
theorem fits_of {k : Nat} {a b i : Int} (hk : k < 30) (h : Pre k a b i 3) : Fits k a b i :=
  ⟨hk, (h.1 (by omega)).1, (h.1 (by omega)).2, (h.2.1 (by omega)).1, (h.2.1 (by omega)).2, (h.2.2 (by omega)).1, (h.2.2 (by omega)).2⟩
def errOf (ok : Bool) : Int := if ok then 0 else 30

set_option maxRecDepth 100000 in
set_option maxHeartbeats 4000000 in
theorem check_in (k : Nat) (hk : k < 30) (a b i : Int) (w : World) (hT : Tabs w) :
    Calls Tryd.prog 45 #[insV k a b i] w fun e w' => e = .returned (.int .i64 (errOf (decide (Fits k a b i)))) ∧ Below w.heap.size w w' := by
  obtain ⟨c0, c1, c2, c3⟩ := hT.cells k hk
  have h0 := hT.lt
  have hmI := mI_cases hk
  clear c0
  have hI0 : 0 ≤ mI k := by omega
  have hN : ¬ Pre k a b i 1 ∨ ¬ Pre k a b i 2 ∨ ¬ Pre k a b i 3 → errOf (decide (Fits k a b i)) = 30 := fun h => by
    have : ¬ Fits k a b i := fun hf => by
      have hp : ∀ j, Pre k a b i j := fun j => ⟨fun _ => ⟨hf.a0, hf.a1⟩, fun _ => ⟨hf.b0, hf.b1⟩, fun _ => ⟨hf.i0, hf.i1⟩⟩
      rcases h with h | h | h <;> exact h (hp _)
    rw [decide_eq_false this]
    rfl
  have hY : Pre k a b i 3 → errOf (decide (Fits k a b i)) = 0 := fun h => by rw [decide_eq_true (fits_of hk h)]; rfl
  generalize hE : errOf (decide (Fits k a b i)) = E at *
  clear hE
  have HN := Lib.hid hN
  have HY := Lib.hid hY
  clear hN hY hmI
  generalize hA : mA k = A at *
  generalize hB : mB k = B at *
  generalize hI : mI k = I at *
  have HA := Lib.hid hA
  have HB := Lib.hid hB
  have HI := Lib.hid hI
  clear hA hB hI
  have hsp := fun wx => split_any k a b i wx
  unfold insV at hsp ⊢
  have HS := Lib.hid hsp
  clear hsp
  go_enter Tryd.func45, Tryd.ntmps45
  go_wp2_with (first
    | (go_at_call 67; refine (isOp_yes k hk _).mono ?_; rintro e w1 ⟨rfl, rfl⟩)
    | (go_at_call 46; refine (HS.out _).mono ?_; rintro e w1 ⟨rfl, hb⟩; obtain ⟨hc, hf⟩ := bcell hb; have hz : w.heap.size < w1.heap.size := (by have := hb.size; simp at this; omega); have hz0 : 0 < w1.heap.size := (by omega)))
  clear hc hf c1 c2 c3 hz0 h0
  go_loopw [17] (fun t wr => ∃ j : Int, 0 ≤ j ∧ j ≤ 3 ∧ t = .int .i64 j ∧ Hid (Pre k a b i j) ∧ wr.cell? ⟨w1.heap.size, 0, none⟩ = some (.int .i64 a) ∧ wr.cell? ⟨w1.heap.size, 1, none⟩ = some (.int .i64 b) ∧ wr.cell? ⟨w1.heap.size, 2, none⟩ = some (.int .i64 i) ∧ Below w.heap.size w wr) (fun t _ => 3 - (intOf t).toNat)
  case atStart => exact ⟨0, by omega, by omega, rfl, Lib.hid ⟨fun h => by omega, fun h => by omega, fun h => by omega⟩, by simp, by simp, by simp, (((Below.refl _ _).alloc (Nat.le_refl _) _).trans (hb.mono (by simp))).alloc (by omega) _⟩
  case round =>
    obtain ⟨j, hj0, hj, rfl, hp, d0, d1, d2, hbw⟩ := hrel
    clear hb hz
    have hcs : j = 0 ∨ j = 1 ∨ j = 2 ∨ j = 3 := by omega
    rcases hcs with rfl | rfl | rfl | rfl <;> clear hj0 hj
    · have D := Lib.hid d0
      have D1 := Lib.hid d1
      have D2 := Lib.hid d2
      clear d1 d2
      have i0 := fun wx => ix0 A B I wx
      have HC := Lib.hid (fun wx => least_ab 0 (by decide) A wx)
      have hM := HA.out
      by_cases hl : a < 0
      · have hd : decide (a < 0) = true := decide_eq_true hl
        have HR := Lib.hid (HN.out (.inl fun h => absurd (h.1 (by omega)) (by omega)))
        clear hM
        go_wp2
        go_quiet (((go_at_call 68; exact quiet (HC.out _))))
        go_wp2
        go_ret
        exact ⟨ret_int HR.out.symm, hbw.trans (drew_below _ _ _)⟩
      · have hd : decide (a < 0) = false := decide_eq_false hl
        by_cases hg : A < a
        · have hd2 : decide (A < a) = true := decide_eq_true hg
          have HR := Lib.hid (HN.out (.inl fun h => absurd (h.1 (by omega)) (by omega)))
          clear hM
          go_wp2
          go_quiet (((go_at_call 68; exact quiet (HC.out _))))
          go_wp2
          go_ret
          exact ⟨ret_int HR.out.symm, hbw.trans (drew_below _ _ _)⟩
        · have hd2 : decide (A < a) = false := decide_eq_false hg
          have HR : Hid (Pre k a b i 1) := Lib.hid (⟨fun _ => ⟨by omega, by omega⟩, fun h => by omega, fun h => by omega⟩)
          clear hM
          go_wp2
          go_quiet (((go_at_call 68; exact quiet (HC.out _))))
          go_wp2
          go_roundw
          case rel => exact ⟨1, by omega, by omega, rfl, HR, by simpa using d0, by simpa using D1.out, by simpa using D2.out, hbw.trans (drew_below _ _ _)⟩
          case measure => simp [intOf]
    · have D := Lib.hid d1
      have D0 := Lib.hid d0
      have D2 := Lib.hid d2
      clear d0 d2
      have i1 := fun wx => ix1 A B I wx
      have HC := Lib.hid (fun wx => least_ab 1 (by decide) B wx)
      have hM := HB.out
      by_cases hl : b < 0
      · have hd : decide (b < 0) = true := decide_eq_true hl
        have HR := Lib.hid (HN.out (.inr (.inl fun h => absurd (h.2.1 (by omega)) (by omega))))
        clear hM
        go_wp2
        go_quiet (((go_at_call 68; exact quiet (HC.out _))))
        go_wp2
        go_ret
        exact ⟨ret_int HR.out.symm, hbw.trans (drew_below _ _ _)⟩
      · have hd : decide (b < 0) = false := decide_eq_false hl
        by_cases hg : B < b
        · have hd2 : decide (B < b) = true := decide_eq_true hg
          have HR := Lib.hid (HN.out (.inr (.inl fun h => absurd (h.2.1 (by omega)) (by omega))))
          clear hM
          go_wp2
          go_quiet (((go_at_call 68; exact quiet (HC.out _))))
          go_wp2
          go_ret
          exact ⟨ret_int HR.out.symm, hbw.trans (drew_below _ _ _)⟩
        · have hd2 : decide (B < b) = false := decide_eq_false hg
          have HR : Hid (Pre k a b i 2) := Lib.hid (⟨fun h => hp.out.1 (by omega), fun _ => ⟨by omega, by omega⟩, fun h => by omega⟩)
          clear hM
          go_wp2
          go_quiet (((go_at_call 68; exact quiet (HC.out _))))
          go_wp2
          go_roundw
          case rel => exact ⟨2, by omega, by omega, rfl, HR, by simpa using D0.out, by simpa using d1, by simpa using D2.out, hbw.trans (drew_below _ _ _)⟩
          case measure => simp [intOf]
    · have D := Lib.hid d2
      have D0 := Lib.hid d0
      have D1 := Lib.hid d1
      clear d0 d1
      have i2 := fun wx => ix2 A B I wx
      have HC := Lib.hid (fun wx => least_i I hI0 wx)
      have hM := HI.out
      have hM2 : lo (mI k) = lo I := by rw [HI.out]
      by_cases hl : i < lo I
      · have hd : decide (i < lo I) = true := decide_eq_true hl
        have HR := Lib.hid (HN.out (.inr (.inr fun h => absurd (h.2.2 (by omega)) (by omega))))
        clear hM hM2
        go_wp2
        go_quiet (((go_at_call 68; exact quiet (HC.out _))))
        go_wp2
        go_ret
        exact ⟨ret_int HR.out.symm, hbw.trans (drew_below _ _ _)⟩
      · have hd : decide (i < lo I) = false := decide_eq_false hl
        by_cases hg : I < i
        · have hd2 : decide (I < i) = true := decide_eq_true hg
          have HR := Lib.hid (HN.out (.inr (.inr fun h => absurd (h.2.2 (by omega)) (by omega))))
          clear hM hM2
          go_wp2
          go_quiet (((go_at_call 68; exact quiet (HC.out _))))
          go_wp2
          go_ret
          exact ⟨ret_int HR.out.symm, hbw.trans (drew_below _ _ _)⟩
        · have hd2 : decide (I < i) = false := decide_eq_false hg
          have HR : Hid (Pre k a b i 3) := Lib.hid (⟨fun h => hp.out.1 (by omega), fun h => hp.out.2.1 (by omega), fun _ => ⟨by omega, by omega⟩⟩)
          clear hM hM2
          go_wp2
          go_quiet (((go_at_call 68; exact quiet (HC.out _))))
          go_wp2
          go_roundw
          case rel => exact ⟨3, by omega, by omega, rfl, HR, by simpa using D0.out, by simpa using D1.out, by simpa using d2, hbw.trans (drew_below _ _ _)⟩
          case measure => simp [intOf]
    · clear d0 d1 d2
      have HC := Lib.hid (HY.out hp.out)
      go_wp2
      go_ret
      exact ⟨ret_int HC.out.symm, hbw⟩
theorem check_out (op a b i : Int) (h : ¬ (0 ≤ op ∧ op < 30)) (w : World) :
    Calls Tryd.prog 45 #[insV op a b i] w fun e w' => e = .returned (.int .i64 30) ∧ Below w.heap.size w w' := by
  have H := Lib.hid h
  clear h
  unfold insV
  go_enter Tryd.func45, Tryd.ntmps45
  go_wp2_with (go_at_call 67; refine (isOp_no op H.out _).mono ?_; rintro e w1 ⟨rfl, rfl⟩)
  go_ret
  exact ⟨rfl, (Below.refl _ _).alloc (Nat.le_refl _) _⟩
/-- Check: no error just if the instruction may be. -/
theorem check_any (op a b i : Int) (w : World) (hT : Tabs w) :
    Calls Tryd.prog 45 #[insV op a b i] w fun e w' => e = .returned (.int .i64 (errOf (mayB op a b i))) ∧ Below w.heap.size w w' := by
  by_cases h : 0 ≤ op ∧ op < 30
  · obtain ⟨k, rfl⟩ := Int.eq_ofNat_of_zero_le h.1
    have e : mayB (k : Int) a b i = decide (Fits k a b i) := by
      rw [Bool.eq_iff_iff]
      simp [mayB, May]
    rw [e]
    exact check_in k (by omega) a b i w hT
  · have e : mayB op a b i = false := by
      unfold mayB May
      exact decide_eq_false fun hm => h ⟨hm.1, by have := hm.2.k30; omega⟩
    rw [e]
    exact check_out op a b i h w
end Go.Proofs.YtgnpbedhpkmkfaaDoor.IsaC

/-
  Encode and Decode.
-/
namespace Go.Proofs.YtgnpbedhpkmkfaaDoor.IsaE
open Go Go.RowKit Kit Nums IsaM IsaT IsaL IsaC
set_option linter.unusedVariables false

theorem or_mul (p f y : Nat) (h : y < 2 ^ f) : (p * 2 ^ f) ||| y = p * 2 ^ f + y := by
  rw [Nat.mul_comm, Nat.two_pow_add_eq_or_of_lt h]
theorem u16_wrap {i : Int} (h : -32768 ≤ i ∧ i ≤ 32767) : IntKind.u16.wrap i = if i < 0 then i + 65536 else i := by
  have e : IntKind.u16.wrap i = i % 65536 := by simp [IntKind.wrap, IntKind.bits, IntKind.signed]
  rw [e]
  split <;> omega
theorem enc_bits {op a b i : Int} (h : May op a b i) :
    bits .or .u32 (bits .or .u32 (bits .or .u32 (op % 4294967296 * 16777216 % 4294967296) (a % 4294967296 * 1048576 % 4294967296)) (b % 4294967296 * 65536 % 4294967296)) (IntKind.u16.wrap i % 4294967296) = enc op a b i := by
  obtain ⟨h0, h⟩ := h
  obtain ⟨k30, a0, a7, b0, b7, i0, i1⟩ := h.bd
  rw [u16_wrap ⟨i0, i1⟩]
  unfold enc
  obtain ⟨o, rfl⟩ := Int.eq_ofNat_of_zero_le h0
  obtain ⟨x, rfl⟩ := Int.eq_ofNat_of_zero_le a0
  obtain ⟨y, rfl⟩ := Int.eq_ofNat_of_zero_le b0
  obtain ⟨z, hz, hz2⟩ : ∃ z : Nat, (if i < 0 then i + 65536 else i) = (z : Int) ∧ z < 65536 := ⟨(if i < 0 then i + 65536 else i).toNat, by split <;> omega, by split <;> omega⟩
  rw [hz]
  have e1 : (o : Int) % 4294967296 * 16777216 % 4294967296 = ((o * 2 ^ 24 : Nat) : Int) := by simp at k30; omega
  have e2 : (x : Int) % 4294967296 * 1048576 % 4294967296 = ((x * 2 ^ 20 : Nat) : Int) := by omega
  have e3 : (y : Int) % 4294967296 * 65536 % 4294967296 = ((y * 2 ^ 16 : Nat) : Int) := by omega
  have e4 : (z : Int) % 4294967296 = (z : Int) := by omega
  have k30' : o < 30 := by simpa using k30
  rw [e1, e2, e3, e4, u32_or_nat _ _ (by omega) (by omega), or_mul o 24 _ (by omega), show o * 2 ^ 24 + x * 2 ^ 20 = (o * 2 ^ 4 + x) * 2 ^ 20 by omega, u32_or_nat _ _ (by omega) (by omega), or_mul _ 20 _ (by omega),
    show (o * 2 ^ 4 + x) * 2 ^ 20 + y * 2 ^ 16 = (o * 2 ^ 8 + x * 2 ^ 4 + y) * 2 ^ 16 by omega, u32_or_nat _ _ (by omega) (by omega), or_mul _ 16 _ (by omega)]
  omega
theorem ret_uv {x y z : Int} (h : x = y) : Ending.returned (.tuple #[.int .u32 x, .int .i64 z]) = .returned (.tuple #[.int .u32 y, .int .i64 z]) := by rw [h]
theorem encode_yes (op a b i : Int) (h : May op a b i) (w : World) (hT : Tabs w) :
    Calls Tryd.prog 83 #[insV op a b i] w fun e w' => e = .returned (.tuple #[.int .u32 (enc op a b i), .int .i64 0]) ∧ Below w.heap.size w w' := by
  have hck := fun wx hx => check_any op a b i wx hx
  have hm : mayB op a b i = true := decide_eq_true h
  rw [hm] at hck
  have e0 : errOf true = 0 := rfl
  rw [e0] at hck
  unfold insV at hck ⊢
  have HC := Lib.hid hck
  have HT := Lib.hid hT
  clear hck hm e0
  go_enter Tryd.func83, Tryd.ntmps83
  go_wp2_with (go_at_call 45; refine (HC.out _ (HT.out.below ((Below.refl _ _).alloc (Nat.le_refl _) _))).mono ?_; rintro e w1 ⟨rfl, hb⟩; obtain ⟨hc, hf⟩ := bcell hb; have hz : w.heap.size < w1.heap.size := (by have := hb.size; simp at this; omega))
  go_ret2
  exact ⟨ret_uv (enc_bits h), ((Below.refl _ _).alloc (Nat.le_refl _) _).trans (hb.mono (by simp))⟩
theorem encode_no (op a b i : Int) (h : ¬ May op a b i) (w : World) (hT : Tabs w) :
    Calls Tryd.prog 83 #[insV op a b i] w fun e w' => e = .returned (.tuple #[.int .u32 0, .int .i64 30]) ∧ Below w.heap.size w w' := by
  have hck := fun wx hx => check_any op a b i wx hx
  have hm : mayB op a b i = false := decide_eq_false h
  rw [hm] at hck
  have e0 : errOf false = 30 := rfl
  rw [e0] at hck
  unfold insV at hck ⊢
  have HC := Lib.hid hck
  have HT := Lib.hid hT
  clear hck hm e0 h
  go_enter Tryd.func83, Tryd.ntmps83
  go_wp2_with (go_at_call 45; refine (HC.out _ (HT.out.below ((Below.refl _ _).alloc (Nat.le_refl _) _))).mono ?_; rintro e w1 ⟨rfl, hb⟩; obtain ⟨hc, hf⟩ := bcell hb; have hz : w.heap.size < w1.heap.size := (by have := hb.size; simp at this; omega))
  go_ret2
  exact ⟨rfl, ((Below.refl _ _).alloc (Nat.le_refl _) _).trans (hb.mono (by simp))⟩

theorem i16_wrap (n : Nat) : wrap64 (IntKind.i16.wrap (n : Int)) = dI n := by
  have h1 : IntKind.i16.wrap (n : Int) = dI n := by
    have e : IntKind.i16.wrap (n : Int) = if 32768 ≤ (n : Int) % 65536 then (n : Int) % 65536 - 65536 else (n : Int) % 65536 := by simp [IntKind.wrap, IntKind.bits, IntKind.signed]
    rw [e]
    unfold dI
    split <;> split <;> omega
  rw [h1]
  exact IntWalk.wrap64_in _ (by unfold dI; split <;> omega)
theorem and15 (x : Nat) (h : x < 4294967296) : wrap64 (bits .and .u32 (x : Int) 15) = (x : Int) % 16 := by
  have e : bits .and .u32 (x : Int) ((15 : Nat) : Int) = ((x &&& 15 : Nat) : Int) := u32_and_nat x 15 h (by omega)
  have e2 : x &&& 15 = x % 16 := Nat.and_two_pow_sub_one_eq_mod x 4
  have e3 : bits .and .u32 (x : Int) 15 = ((x % 16 : Nat) : Int) := by rw [← e2]; exact e
  rw [e3, IntWalk.wrap64_in _ (by omega)]
  omega
theorem off_ne (b i j : Nat) (h : i ≠ j) : (⟨b, i, none⟩ : Addr) ≠ ⟨b, j, none⟩ := fun e => h (by cases e; rfl)
theorem set4 (w : World) (b : Nat) (y0 y1 y2 y3 x0 x1 x2 x3 : Value) (h0 : w.cell? ⟨b, 0, none⟩ = some y0) (h1 : w.cell? ⟨b, 1, none⟩ = some y1) (h2 : w.cell? ⟨b, 2, none⟩ = some y2) (h3 : w.cell? ⟨b, 3, none⟩ = some y3) :
    (w.setCell ⟨b, 0, none⟩ x0).cell? ⟨b, 0, none⟩ = some x0 ∧ ((w.setCell ⟨b, 0, none⟩ x0).setCell ⟨b, 1, none⟩ x1).cell? ⟨b, 1, none⟩ = some x1 ∧
    (((w.setCell ⟨b, 0, none⟩ x0).setCell ⟨b, 1, none⟩ x1).setCell ⟨b, 2, none⟩ x2).cell? ⟨b, 2, none⟩ = some x2 ∧ ((((w.setCell ⟨b, 0, none⟩ x0).setCell ⟨b, 1, none⟩ x1).setCell ⟨b, 2, none⟩ x2).setCell ⟨b, 3, none⟩ x3).cell? ⟨b, 3, none⟩ = some x3 := by
  have o := fun (w : World) (i j : Nat) (v : Value) (h : i ≠ j) => World.cell?_setCell_other w ⟨b, i, none⟩ ⟨b, j, none⟩ v (off_ne b i j h)
  refine ⟨World.cell?_setCell_same _ _ _ h0, World.cell?_setCell_same _ _ _ ((o _ 0 1 _ (by decide)).trans h1), World.cell?_setCell_same _ _ _ ((o _ 1 2 _ (by decide)).trans ((o _ 0 2 _ (by decide)).trans h2)), World.cell?_setCell_same _ _ _ ((o _ 2 3 _ (by decide)).trans ((o _ 1 3 _ (by decide)).trans ((o _ 0 3 _ (by decide)).trans h3)))⟩
theorem args_eq (n : Nat) (hn : n < 4294967296) : (Value.agg #[.int .i64 ((n : Int) / 16777216), .int .i64 (wrap64 (bits .and .u32 ((n : Int) / 1048576) 15)), .int .i64 (wrap64 (bits .and .u32 ((n : Int) / 65536) 15)), .int .i64 (wrap64 (IntKind.i16.wrap (n : Int)))]) = insV (dOp n) (dA n) (dB n) (dI n) := by
  have e1 := and15 (n / 1048576) (by omega)
  have e2 := and15 (n / 65536) (by omega)
  rw [i16_wrap]
  unfold insV dOp dA dB
  rw [show ((n : Int) / 1048576) = ((n / 1048576 : Nat) : Int) by omega, show ((n : Int) / 65536) = ((n / 65536 : Nat) : Int) by omega, e1, e2]

/-- What Decode answers. -/
def decV (n : Nat) : Value := if mayB (dOp n) (dA n) (dB n) (dI n) then .tuple #[insV (dOp n) (dA n) (dB n) (dI n), .int .i64 0] else .tuple #[insV 0 0 0 0, .int .i64 30]
set_option maxHeartbeats 1000000 in
theorem decode_any (n : Nat) (hn : n < 4294967296) (w : World) (hT : Tabs w) :
    Calls Tryd.prog 48 #[.int .u32 (n : Int)] w fun e w' => e = .returned (decV n) ∧ Below w.heap.size w w' := by
  have HA := Lib.hid (args_eq n hn)
  have hck : ∀ wx, Tabs wx → Calls Tryd.prog 45 #[.agg #[.int .i64 ((n : Int) / 16777216), .int .i64 (wrap64 (bits .and .u32 ((n : Int) / 1048576) 15)), .int .i64 (wrap64 (bits .and .u32 ((n : Int) / 65536) 15)), .int .i64 (wrap64 (IntKind.i16.wrap (n : Int)))]] wx fun e w' => e = .returned (.int .i64 (errOf (mayB (dOp n) (dA n) (dB n) (dI n)))) ∧ Below wx.heap.size wx w' := fun wx hx => by
    rw [args_eq n hn]
    exact check_any _ _ _ _ wx hx
  have HT := Lib.hid hT
  clear hT
  unfold decV
  cases hm : mayB (dOp n) (dA n) (dB n) (dI n) with
  | true =>
    rw [hm] at hck
    rw [show errOf true = 0 from rfl] at hck
    have HC := Lib.hid hck
    clear hck hm
    go_enter Tryd.func48, Tryd.ntmps48
    go_wp2_with (go_at_call 45; refine (HC.out _ (HT.out.below (((Below.refl _ _).alloc (Nat.le_refl _) _).alloc (by simp) _))).mono ?_; rintro e w1 ⟨rfl, hb⟩; obtain ⟨hc, hf⟩ := bcell hb; have hz : w.heap.size + 1 < w1.heap.size := (by have := hb.size; simp at this; omega))
    obtain ⟨g0, g1, g2, g3⟩ := set4 w1 w.heap.size (.int .i64 0) (.int .i64 0) (.int .i64 0) (.int .i64 0) (.int .i64 ((n : Int) / 16777216)) (.int .i64 (wrap64 (bits .and .u32 ((n : Int) / 1048576) 15))) (.int .i64 (wrap64 (bits .and .u32 ((n : Int) / 65536) 15))) (.int .i64 (wrap64 (IntKind.i16.wrap (n : Int)))) ((hc _ _ (by simp <;> omega)).trans (by simp)) ((hc _ _ (by simp <;> omega)).trans (by simp)) ((hc _ _ (by simp <;> omega)).trans (by simp)) ((hc _ _ (by simp <;> omega)).trans (by simp))
    exact bodyPost_ret (v := .tuple #[.agg #[.int .i64 ((n : Int) / 16777216), .int .i64 (wrap64 (bits .and .u32 ((n : Int) / 1048576) 15)), .int .i64 (wrap64 (bits .and .u32 ((n : Int) / 65536) 15)), .int .i64 (wrap64 (IntKind.i16.wrap (n : Int)))], .int .i64 0]) (by simp [results, Tryd.results48, go_sem, g0, g1, g2, g3]) rfl ⟨by rw [HA.out], ((((((((Below.refl _ _).alloc (Nat.le_refl _) _).alloc (by simp) _).trans (hb.mono (by simp; omega))).setCell (Nat.le_refl _) _).setCell (Nat.le_refl _) _).setCell (Nat.le_refl _) _).setCell (Nat.le_refl _) _)⟩
  | false =>
    rw [hm] at hck
    rw [show errOf false = 30 from rfl] at hck
    have HC := Lib.hid hck
    clear hck hm
    go_enter Tryd.func48, Tryd.ntmps48
    go_wp2_with (go_at_call 45; refine (HC.out _ (HT.out.below (((Below.refl _ _).alloc (Nat.le_refl _) _).alloc (by simp) _))).mono ?_; rintro e w1 ⟨rfl, hb⟩; obtain ⟨hc, hf⟩ := bcell hb; have hz : w.heap.size + 1 < w1.heap.size := (by have := hb.size; simp at this; omega))
    obtain ⟨g0, g1, g2, g3⟩ := set4 w1 w.heap.size (.int .i64 0) (.int .i64 0) (.int .i64 0) (.int .i64 0) (.int .i64 0) (.int .i64 0) (.int .i64 0) (.int .i64 0) ((hc _ _ (by simp <;> omega)).trans (by simp)) ((hc _ _ (by simp <;> omega)).trans (by simp)) ((hc _ _ (by simp <;> omega)).trans (by simp)) ((hc _ _ (by simp <;> omega)).trans (by simp))
    exact bodyPost_ret (v := .tuple #[insV 0 0 0 0, .int .i64 30]) (by simp [results, Tryd.results48, go_sem, g0, g1, g2, g3, insV]) rfl ⟨rfl, ((((((((Below.refl _ _).alloc (Nat.le_refl _) _).alloc (by simp) _).trans (hb.mono (by simp; omega))).setCell (Nat.le_refl _) _).setCell (Nat.le_refl _) _).setCell (Nat.le_refl _) _).setCell (Nat.le_refl _) _)⟩
end Go.Proofs.YtgnpbedhpkmkfaaDoor.IsaE
