/-
  Check: which instructions may be.
-/
import Derived.Test.YtlddjjkbnhhfaaaDoorIsaL
import Derived.BigQuiet
import Derived.Deep.QuietTactic
import Derived.WalkSmall
import Derived.Outline
namespace Go.Proofs.YtlddjjkbnhhfaaaDoor.IsaC
open Go Go.RowKit Kit IsaM IsaT IsaL
set_option linter.unusedVariables false

theorem bcell {W w1 : World} (hb : Below W.heap.size W w1) : (∀ b o, b < W.heap.size → w1.cell? ⟨b, o, none⟩ = W.cell? ⟨b, o, none⟩) ∧ (∀ b o, b < W.heap.size → w1.frozen? ⟨b, o, none⟩ = W.frozen? ⟨b, o, none⟩) :=
  ⟨fun b o h => hb.cell (p := ⟨b, o, none⟩) h, fun b o h => hb.frozen (p := ⟨b, o, none⟩) h⟩

theorem quiet {P : Program} {f : FuncId} {args : Array Value} {w : World} {n : Nat} {v : Value}
    (h : Calls P f args (w.drewN n) fun e w' => e = .returned v ∧ w.drewN n = w') : Calls P f args (w.drewN n) fun e w'' => e = .returned v ∧ ∃ m, w'' = w.drewN m :=
  Calls.quiet_of_same (h.mono fun _ _ h => ⟨h.1, h.2.symm⟩)

theorem ix0 (A B I : Int) (w : World) : (Instr.index 117 (.agg #[.int .i64 A, .int .i64 B, .int .i64 I]) (.int .i64 0)).run Tryd.prog w = .ok (.int .i64 A) w := by kernel_rfl
theorem ix1 (A B I : Int) (w : World) : (Instr.index 117 (.agg #[.int .i64 A, .int .i64 B, .int .i64 I]) (.int .i64 1)).run Tryd.prog w = .ok (.int .i64 B) w := by kernel_rfl
theorem ix2 (A B I : Int) (w : World) : (Instr.index 117 (.agg #[.int .i64 A, .int .i64 B, .int .i64 I]) (.int .i64 2)).run Tryd.prog w = .ok (.int .i64 I) w := by kernel_rfl

theorem drew_below (h : Nat) (w : World) (n : Nat) : Below h w (w.drewN n) := (Below.refl _ w).trans ⟨rfl, rfl, rfl, Nat.le_refl _, fun _ _ => rfl⟩
/-- The first j fields fit. -/
def Pre (k : Nat) (a b i : Int) (j : Int) : Prop := (1 ≤ j → 0 ≤ a ∧ a ≤ mA k) ∧ (2 ≤ j → 0 ≤ b ∧ b ≤ mB k) ∧ (3 ≤ j → lo (mI k) ≤ i ∧ i ≤ mI k)
theorem fits_of {k : Nat} {a b i : Int} (hk : k < 30) (h : Pre k a b i 3) : Fits k a b i :=
  ⟨hk, (h.1 (by omega)).1, (h.1 (by omega)).2, (h.2.1 (by omega)).1, (h.2.1 (by omega)).2, (h.2.2 (by omega)).1, (h.2.2 (by omega)).2⟩
def errOf (ok : Bool) : Int := if ok then 0 else 30

set_option maxRecDepth 100000 in
set_option maxHeartbeats 4000000 in
theorem check_in (k : Nat) (hk : k < 30) (a b i : Int) (w : World) (hT : Tabs w) :
    Calls Tryd.prog 48 #[insV k a b i] w fun e w' => e = .returned (.int .i64 (errOf (decide (Fits k a b i)))) ∧ Below w.heap.size w w' := by
  obtain ⟨c0, c1, c2, c3⟩ := hT.cells k hk
  have h0 := hT.lt
  have hmI := mI_cases hk
  clear c0
  have hI0 : 0 ≤ mI k := by omega
  have hN : ¬ Pre k a b i 1 ∨ ¬ Pre k a b i 2 ∨ ¬ Pre k a b i 3 → errOf (decide (Fits k a b i)) = 30 := fun h => by
    have : ¬ Fits k a b i := fun hf => by
      have hp : ∀ j, Pre k a b i j := fun j => ⟨fun _ => ⟨hf.a0, hf.a1⟩, fun _ => ⟨hf.b0, hf.b1⟩, fun _ => ⟨hf.i0, hf.i1⟩⟩
      rcases h with h | h | h <;> exact h (hp _)
    rw [decide_eq_false this]
    rfl
  have hY : Pre k a b i 3 → errOf (decide (Fits k a b i)) = 0 := fun h => by rw [decide_eq_true (fits_of hk h)]; rfl
  generalize hE : errOf (decide (Fits k a b i)) = E at *
  clear hE
  have HN := Lib.hid hN
  have HY := Lib.hid hY
  clear hN hY hmI
  generalize hA : mA k = A at *
  generalize hB : mB k = B at *
  generalize hI : mI k = I at *
  have HA := Lib.hid hA
  have HB := Lib.hid hB
  have HI := Lib.hid hI
  clear hA hB hI
  have hsp := fun wx => split_any k a b i wx
  unfold insV at hsp ⊢
  have HS := Lib.hid hsp
  clear hsp
  go_enter Tryd.func48, Tryd.ntmps48
  go_wp2_with (first
    | (go_at_call 64; refine (isOp_yes k hk _).mono ?_; rintro e w1 ⟨rfl, rfl⟩)
    | (go_at_call 65; refine (HS.out _).mono ?_; rintro e w1 ⟨rfl, hb⟩; obtain ⟨hc, hf⟩ := bcell hb; have hz : w.heap.size < w1.heap.size := (by have := hb.size; simp at this; omega); have hz0 : (2 : Nat) < w1.heap.size := (by omega)))
  clear hc hf c1 c2 c3 hz0 h0
  go_loopw [17] (fun t wr => ∃ j : Int, 0 ≤ j ∧ j ≤ 3 ∧ t = .int .i64 j ∧ Hid (Pre k a b i j) ∧ wr.cell? ⟨w1.heap.size, 0, none⟩ = some (.int .i64 a) ∧ wr.cell? ⟨w1.heap.size, 1, none⟩ = some (.int .i64 b) ∧ wr.cell? ⟨w1.heap.size, 2, none⟩ = some (.int .i64 i) ∧ Below w.heap.size w wr) (fun t _ => 3 - (intOf t).toNat)
  case atStart => exact ⟨0, by omega, by omega, rfl, Lib.hid ⟨fun h => by omega, fun h => by omega, fun h => by omega⟩, by simp, by simp, by simp, (((Below.refl _ _).alloc (Nat.le_refl _) _).trans (hb.mono (by simp))).alloc (by omega) _⟩
  case round =>
    obtain ⟨j, hj0, hj, rfl, hp, d0, d1, d2, hbw⟩ := hrel
    clear hb hz
    have hcs : j = 0 ∨ j = 1 ∨ j = 2 ∨ j = 3 := by omega
    rcases hcs with rfl | rfl | rfl | rfl <;> clear hj0 hj
    · have D := Lib.hid d0
      have D1 := Lib.hid d1
      have D2 := Lib.hid d2
      clear d1 d2
      have i0 := fun wx => ix0 A B I wx
      have HC := Lib.hid (fun wx => least_ab 0 (by decide) A wx)
      have hM := HA.out
      by_cases hl : a < 0
      · have hd : decide (a < 0) = true := decide_eq_true hl
        have HR := Lib.hid (HN.out (.inl fun h => absurd (h.1 (by omega)) (by omega)))
        clear hM
        go_wp2
        go_quiet (((go_at_call 66; exact quiet (HC.out _))))
        go_wp2
        go_ret
        exact ⟨ret_int HR.out.symm, hbw.trans (drew_below _ _ _)⟩
      · have hd : decide (a < 0) = false := decide_eq_false hl
        by_cases hg : A < a
        · have hd2 : decide (A < a) = true := decide_eq_true hg
          have HR := Lib.hid (HN.out (.inl fun h => absurd (h.1 (by omega)) (by omega)))
          clear hM
          go_wp2
          go_quiet (((go_at_call 66; exact quiet (HC.out _))))
          go_wp2
          go_ret
          exact ⟨ret_int HR.out.symm, hbw.trans (drew_below _ _ _)⟩
        · have hd2 : decide (A < a) = false := decide_eq_false hg
          have HR : Hid (Pre k a b i 1) := Lib.hid (⟨fun _ => ⟨by omega, by omega⟩, fun h => by omega, fun h => by omega⟩)
          clear hM
          go_wp2
          go_quiet (((go_at_call 66; exact quiet (HC.out _))))
          go_wp2
          go_roundw
          case rel => exact ⟨1, by omega, by omega, rfl, HR, by simpa using d0, by simpa using D1.out, by simpa using D2.out, hbw.trans (drew_below _ _ _)⟩
          case measure => simp [intOf]
    · have D := Lib.hid d1
      have D0 := Lib.hid d0
      have D2 := Lib.hid d2
      clear d0 d2
      have i1 := fun wx => ix1 A B I wx
      have HC := Lib.hid (fun wx => least_ab 1 (by decide) B wx)
      have hM := HB.out
      by_cases hl : b < 0
      · have hd : decide (b < 0) = true := decide_eq_true hl
        have HR := Lib.hid (HN.out (.inr (.inl fun h => absurd (h.2.1 (by omega)) (by omega))))
        clear hM
        go_wp2
        go_quiet (((go_at_call 66; exact quiet (HC.out _))))
        go_wp2
        go_ret
        exact ⟨ret_int HR.out.symm, hbw.trans (drew_below _ _ _)⟩
      · have hd : decide (b < 0) = false := decide_eq_false hl
        by_cases hg : B < b
        · have hd2 : decide (B < b) = true := decide_eq_true hg
          have HR := Lib.hid (HN.out (.inr (.inl fun h => absurd (h.2.1 (by omega)) (by omega))))
          clear hM
          go_wp2
          go_quiet (((go_at_call 66; exact quiet (HC.out _))))
          go_wp2
          go_ret
          exact ⟨ret_int HR.out.symm, hbw.trans (drew_below _ _ _)⟩
        · have hd2 : decide (B < b) = false := decide_eq_false hg
          have HR : Hid (Pre k a b i 2) := Lib.hid (⟨fun h => hp.out.1 (by omega), fun _ => ⟨by omega, by omega⟩, fun h => by omega⟩)
          clear hM
          go_wp2
          go_quiet (((go_at_call 66; exact quiet (HC.out _))))
          go_wp2
          go_roundw
          case rel => exact ⟨2, by omega, by omega, rfl, HR, by simpa using D0.out, by simpa using d1, by simpa using D2.out, hbw.trans (drew_below _ _ _)⟩
          case measure => simp [intOf]
    · have D := Lib.hid d2
      have D0 := Lib.hid d0
      have D1 := Lib.hid d1
      clear d0 d1
      have i2 := fun wx => ix2 A B I wx
      have HC := Lib.hid (fun wx => least_i I hI0 wx)
      have hM := HI.out
      have hM2 : lo (mI k) = lo I := by rw [HI.out]
      by_cases hl : i < lo I
      · have hd : decide (i < lo I) = true := decide_eq_true hl
        have HR := Lib.hid (HN.out (.inr (.inr fun h => absurd (h.2.2 (by omega)) (by omega))))
        clear hM hM2
        go_wp2
        go_quiet (((go_at_call 66; exact quiet (HC.out _))))
        go_wp2
        go_ret
        exact ⟨ret_int HR.out.symm, hbw.trans (drew_below _ _ _)⟩
      · have hd : decide (i < lo I) = false := decide_eq_false hl
        by_cases hg : I < i
        · have hd2 : decide (I < i) = true := decide_eq_true hg
          have HR := Lib.hid (HN.out (.inr (.inr fun h => absurd (h.2.2 (by omega)) (by omega))))
          clear hM hM2
          go_wp2
          go_quiet (((go_at_call 66; exact quiet (HC.out _))))
          go_wp2
          go_ret
          exact ⟨ret_int HR.out.symm, hbw.trans (drew_below _ _ _)⟩
        · have hd2 : decide (I < i) = false := decide_eq_false hg
          have HR : Hid (Pre k a b i 3) := Lib.hid (⟨fun h => hp.out.1 (by omega), fun h => hp.out.2.1 (by omega), fun _ => ⟨by omega, by omega⟩⟩)
          clear hM hM2
          go_wp2
          go_quiet (((go_at_call 66; exact quiet (HC.out _))))
          go_wp2
          go_roundw
          case rel => exact ⟨3, by omega, by omega, rfl, HR, by simpa using D0.out, by simpa using D1.out, by simpa using d2, hbw.trans (drew_below _ _ _)⟩
          case measure => simp [intOf]
    · clear d0 d1 d2
      have HC := Lib.hid (HY.out hp.out)
      go_wp2
      go_ret
      exact ⟨ret_int HC.out.symm, hbw⟩
theorem check_out (op a b i : Int) (h : ¬ (0 ≤ op ∧ op < 30)) (w : World) :
    Calls Tryd.prog 48 #[insV op a b i] w fun e w' => e = .returned (.int .i64 30) ∧ Below w.heap.size w w' := by
  have H := Lib.hid h
  clear h
  unfold insV
  go_enter Tryd.func48, Tryd.ntmps48
  go_wp2_with (go_at_call 64; refine (isOp_no op H.out _).mono ?_; rintro e w1 ⟨rfl, rfl⟩)
  go_ret
  exact ⟨rfl, (Below.refl _ _).alloc (Nat.le_refl _) _⟩
/-- Check: no error just if the instruction may be. -/
theorem check_any (op a b i : Int) (w : World) (hT : Tabs w) :
    Calls Tryd.prog 48 #[insV op a b i] w fun e w' => e = .returned (.int .i64 (errOf (mayB op a b i))) ∧ Below w.heap.size w w' := by
  by_cases h : 0 ≤ op ∧ op < 30
  · obtain ⟨k, rfl⟩ := Int.eq_ofNat_of_zero_le h.1
    have e : mayB (k : Int) a b i = decide (Fits k a b i) := by
      rw [Bool.eq_iff_iff]
      simp [mayB, May]
    rw [e]
    exact check_in k (by omega) a b i w hT
  · have e : mayB op a b i = false := by
      unfold mayB May
      exact decide_eq_false fun hm => h ⟨hm.1, by have := hm.2.k30; omega⟩
    rw [e]
    exact check_out op a b i h w
end Go.Proofs.YtlddjjkbnhhfaaaDoor.IsaC
