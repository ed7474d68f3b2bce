/-
  areAll: whether some pages are there, and all of them mapped, or none.
-/
import Derived.Test.YtjoapeeljigjcaaDoorSp
namespace Go.Proofs.YtjoapeeljigjcaaDoor.Sa
open Go Go.RowKit Go.Shelf Kit Bk
open Fm hiding Mem made_any len_any
open Fo Fr Fw Fx
open Tm hiding Mem
open Ts Tc Ti Sp
set_option linter.unusedVariables false

/-- The pages that are asked for are there. -/
def okR (page n : Int) : Bool := decide (0 ≤ page) && decide (1 ≤ n) && decide (n ≤ 64 - page)
def allI (T : Nat → Option En) (k m : Nat) (mp : Bool) : Bool := (List.range m).all fun j => (T (k + j)).isSome == mp
theorem allI_iff {T : Nat → Option En} {k m : Nat} {mp : Bool} : allI T k m mp = true ↔ ∀ j, j < m → (T (k + j)).isSome = mp := by
  unfold allI
  simp
theorem areAll_bad (w : World) (pv : Value) (page n : Int) (mp : Bool) (hp : (Lit.int .i64 page).wf = true) (hn : (Lit.int .i64 n).wf = true) (h : okR page n = false) :
    Calls Tryd.prog 32 #[pv, .int .i64 page, .int .i64 n, .bool mp] w fun e w' => e = .returned (.bool false) ∧ w = w' := by
  have b1 := i64_bd hp
  have b2 := i64_bd hn
  clear hp hn
  by_cases h0 : page < 0
  · have d0 : decide (page < 0) = true := decide_eq_true h0
    clear h h0 b1 b2
    go_enter Tryd.func32, Tryd.ntmps32
    go_wp2
    go_ret
    exact ⟨rfl, rfl⟩
  · have d0 : decide (page < 0) = false := decide_eq_false h0
    by_cases h1 : n < 1
    · have d1 : decide (n < 1) = true := decide_eq_true h1
      clear h h0 b1 b2 h1
      go_enter Tryd.func32, Tryd.ntmps32
      go_wp2
      go_ret
      exact ⟨rfl, rfl⟩
    · have d1 : decide (n < 1) = false := decide_eq_false h1
      have d2 : decide (64 - page < n) = true := by
        unfold okR at h
        simp only [Bool.and_eq_false_iff, decide_eq_false_iff_not] at h
        exact decide_eq_true (by omega)
      have d3 : IntKind.i64.wrap (64 - page) = 64 - page := by rw [IntKind.wrap_i64]; omega
      clear h h0 b1 b2 h1
      go_enter Tryd.func32, Tryd.ntmps32
      go_wp2
      go_ret
      exact ⟨rfl, rfl⟩
theorem areAll_in (w : World) (q p t : Nat) (T : Nat → Option En) (h : Sp w q p t) (hT : Tm.Mem w t T) (k m : Nat) (hm : 1 ≤ m) (hkm : k + m ≤ 64) (mp : Bool) :
    Calls Tryd.prog 32 #[.pointer (some ⟨q, 0, none⟩), .int .i64 (k : Int), .int .i64 (m : Int), .bool mp] w fun e w' => e = .returned (.bool (allI T k m mp)) ∧ Below w.heap.size w w' := by
  have HG : Hid (∀ W, Below w.heap.size w W → ∀ j : Nat, k + j < 64 → Calls Tryd.prog 43 #[.pointer (some ⟨t, 0, none⟩), .int .i64 ((k : Int) + (j : Int))] W fun e w' => e = .returned (.tuple #[ev ((T (k + j)).getD z0), .bool (T (k + j)).isSome]) ∧ Below W.heap.size W w') := Lib.hid fun W hb j hj => by
    have := get_in W t T (hT.below hb) (k + j) hj
    rw [show ((k + j : Nat) : Int) = (k : Int) + (j : Int) by omega] at this
    exact this
  have HC : Hid (∀ W, Below w.heap.size w W → W.cell? ⟨q, 1, none⟩ = some (.pointer (some ⟨t, 0, none⟩))) := Lib.hid fun W hb => (Blk.below h hb).cell 1
  have d0 : decide ((k : Int) < 0) = false := decide_eq_false (by omega)
  have d1 : decide ((m : Int) < 1) = false := decide_eq_false (by omega)
  have d2 : decide (64 - (k : Int) < (m : Int)) = false := decide_eq_false (by omega)
  have d3 : IntKind.i64.wrap (64 - (k : Int)) = 64 - (k : Int) := by rw [IntKind.wrap_i64]; omega
  clear h hT
  obtain ⟨AA, hA⟩ : ∃ A, allI T k m mp = A := ⟨_, rfl⟩
  rw [hA]
  go_enter Tryd.func32, Tryd.ntmps32
  go_wp2
  go_loopw [25] (fun i wr => ∃ j : Nat, j ≤ m ∧ i = .int .i64 (j : Int) ∧ Below w.heap.size w wr ∧ ∀ i, i < j → (T (k + i)).isSome = mp) (fun i _ => m - (intOf i).toNat)
  case atStart => exact ⟨0, Nat.zero_le _, rfl, Below.refl _ _, fun i hi => absurd hi (Nat.not_lt_zero _)⟩
  case round =>
    obtain ⟨j, hj, rfl, hb, hall⟩ := hrel
    by_cases hlt : j < m
    · have c1 := HC.out _ hb
      have hg := HG.out _ hb j (by omega)
      have hjm : (j : Int) < (m : Int) := by omega
      have hkj : (k : Int) + (j : Int) < 64 := by omega
      obtain ⟨f, wr', s, c, d⟩ : En := (T (k + j)).getD z0
      generalize (T (k + j)).getD z0 = x at hg
      obtain ⟨f, wr', s, c, d⟩ := x
      have HA := Lib.hid hall
      replace hA := Lib.hid hA
      by_cases hs : (T (k + j)).isSome = mp
      · rw [hs] at hg
        have HG1 := Lib.hid hg
        have HB := Lib.hid hb
        have HS := Lib.hid hs
        clear hg hb hall hs
        go_wp2_with (first | (go_at_call 43; (with_reducible refine HG1.out.mono ?_); rintro e w1 ⟨rfl, hb1⟩; have HB1 := Lib.hid hb1; clear hb1))
        go_roundw
        case rel => exact ⟨j + 1, by omega, by go_num, HB.out.trans ((HB1.out.alloc HB1.out.size _).mono HB.out.size), fun i hi => by
          rcases Nat.lt_succ_iff_lt_or_eq.1 hi with h1 | rfl
          · exact HA.out i h1
          · exact HS.out⟩
        case measure => simp [intOf]; omega
      · have HG1 := Lib.hid hg
        have HB := Lib.hid hb
        have hne : ((T (k + j)).isSome != mp) = true := by simpa using hs
        have hal : allI T k m mp = false := by
          cases ha : allI T k m mp with
          | false => rfl
          | true => exact absurd (allI_iff.1 ha j hlt) hs
        obtain rfl : AA = false := hA.out.symm.trans hal
        clear hA
        generalize (T (k + j)).isSome = b at HG1 hne
        clear hg hb hall hs hal HA
        have hne2 : (b == mp) = false := by simpa using hne
        go_wp2_with (first | (go_at_call 43; (with_reducible refine HG1.out.mono ?_); rintro e w1 ⟨rfl, hb1⟩; have HB1 := Lib.hid hb1; clear hb1))
        go_ret
        exact ⟨rfl, HB.out.trans ((HB1.out.alloc HB1.out.size _).mono HB.out.size)⟩
    · obtain rfl : j = m := by omega
      have hal : allI T k j mp = true := allI_iff.2 hall
      obtain rfl : AA = true := hA.symm.trans hal
      have HB := Lib.hid hb
      clear hA
      clear hb hall hal HG HC
      go_wp2
      go_ret
      exact ⟨rfl, HB.out⟩
end Go.Proofs.YtjoapeeljigjcaaDoor.Sa
