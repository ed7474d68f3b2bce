/-
  whole of package isa: the number that a field's text says.
-/
import Derived.Test.YtlddjjkbnhhfaaaDoorIsaA
namespace Go.Proofs.YtlddjjkbnhhfaaaDoor.IsaW
open Go Go.RowKit Kit IsaM IsaT IsaL IsaC IsaE IsaN IsaD IsaA
set_option linter.unusedVariables false

def wholeV : Option Int → Value
  | some v => .tuple #[.int .i64 v, .bool true]
  | none => .tuple #[.int .i64 0, .bool false]
theorem whole_minus (r : Tx) : whole (45 :: r) = (match natOf r with | none => none | some n => if n = 0 ∨ 32768 < n then none else some (-(n : Int))) := rfl
theorem whole_plain {t : Tx} (h : t.head? ≠ some 45) : whole t = (match natOf t with | none => none | some n => if 32768 < n then none else some (n : Int)) := by
  unfold whole
  split
  · simp at h
  · rfl
theorem natOf_le {t : Tx} {n : Nat} (h : natOf t = some n) : n ≤ 4294967295 := by
  unfold natOf at h
  split at h
  · cases h
  · split at h
    · cases h; assumption
    · cases h

theorem cut_minus (s : ByteArray) (w : World) (r : Tx) (h : s.data.toList = 45 :: r) :
    Calls Tryd.prog 59 #[.string s, .string ⟨#[45]⟩] w fun e w' => e = .returned (.tuple #[.string (st r), .bool true]) ∧ w = w' :=
  (Shl.strings_CutPrefix s ⟨#[45]⟩ w).mono fun e w' ⟨he, hw⟩ => ⟨by rw [he, h]; rfl, hw.symm⟩
theorem cut_plain (s : ByteArray) (w : World) (h : s.data.toList.head? ≠ some 45) :
    Calls Tryd.prog 59 #[.string s, .string ⟨#[45]⟩] w fun e w' => e = .returned (.tuple #[.string s, .bool false]) ∧ w = w' :=
  (Shl.strings_CutPrefix s ⟨#[45]⟩ w).mono fun e w' ⟨he, hw⟩ => ⟨by
    have hp : Lib.hasPrefix s.data.toList [45] = false := by
      unfold Lib.hasPrefix
      cases hs : s.data.toList with
      | nil => rfl
      | cons a b =>
        rw [hs] at h
        have : (45 : UInt8) ≠ a := fun e => h (by rw [e]; rfl)
        simp [List.isPrefixOf, this]
    have ht : Lib.trimPrefix s.data.toList [45] = s.data.toList := by unfold Lib.trimPrefix; rw [hp]; rfl
    have e2 : (⟨#[45]⟩ : ByteArray).data.toList = [45] := rfl
    rw [he, e2, hp, ht], hw.symm⟩

set_option maxHeartbeats 2000000 in
theorem whole_any (s : ByteArray) (w : World) (hs : s.size ≤ 9223372036854775807) :
    Calls Tryd.prog 81 #[.string s] w fun e w' => e = .returned (wholeV (whole s.data.toList)) ∧ w = w' := by
  by_cases hm : s.data.toList.head? = some 45
  · obtain ⟨r, hr⟩ : ∃ r, s.data.toList = 45 :: r := by
      cases h : s.data.toList with
      | nil => rw [h] at hm; simp at hm
      | cons a b => rw [h] at hm; simp at hm; exact ⟨b, by rw [hm]⟩
    have hrl : (st r).size ≤ 9223372036854775807 := by
      have : s.data.toList.length = s.size := by simp
      rw [hr] at this
      rw [st_size]
      simp at this
      omega
    have HC := Lib.hid (fun wx => cut_minus s wx r hr)
    have hnb := fun wx => number_any (st r) wx hrl
    rw [st_data] at hnb
    have hW := whole_minus r
    rw [← hr] at hW
    clear hm hr hrl hs
    cases hn : natOf r with
    | none =>
      rw [hn] at hnb
      have HN := Lib.hid hnb
      unfold natV at HN
      rw [hn] at hW
      have hW2 : whole s.data.toList = none := hW
      rw [hW2]
      clear hnb hn hW hW2
      go_enter Tryd.func81, Tryd.ntmps81
      go_wp2_with (first
        | (go_at_call 59; ((with_reducible refine (HC.out _).mono ?_); rintro e w1 ⟨rfl, rfl⟩))
        | (go_at_call 60; ((with_reducible refine (HN.out _).mono ?_); rintro e w2 ⟨rfl, rfl⟩)))
      go_ret2
      exact ⟨rfl, rfl⟩
    | some n =>
      rw [hn] at hnb
      have HN := Lib.hid hnb
      unfold natV at HN
      have hle := natOf_le hn
      rw [hn] at hW
      clear hnb hn
      by_cases hbig : 32768 < n
      · have hd : decide ((32768 : Int) < (n : Int)) = true := decide_eq_true (by omega)
        have hW2 : whole s.data.toList = none := hW.trans (if_pos (.inr hbig))
        rw [hW2]
        clear hW hW2
        clear hbig
        go_enter Tryd.func81, Tryd.ntmps81
        go_wp2_with (first
          | (go_at_call 59; ((with_reducible refine (HC.out _).mono ?_); rintro e w1 ⟨rfl, rfl⟩))
          | (go_at_call 60; ((with_reducible refine (HN.out _).mono ?_); rintro e w2 ⟨rfl, rfl⟩)))
        go_ret2
        exact ⟨rfl, rfl⟩
      · have hd : decide ((32768 : Int) < (n : Int)) = false := decide_eq_false (by omega)
        by_cases h0 : n = 0
        · subst h0
          have hW2 : whole s.data.toList = none := hW.trans (by first | rfl | simp)
          rw [hW2]
          clear hW hW2
          go_enter Tryd.func81, Tryd.ntmps81
          go_wp2_with (first
            | (go_at_call 59; ((with_reducible refine (HC.out _).mono ?_); rintro e w1 ⟨rfl, rfl⟩))
            | (go_at_call 60; ((with_reducible refine (HN.out _).mono ?_); rintro e w2 ⟨rfl, rfl⟩)))
          go_ret2
          exact ⟨rfl, rfl⟩
        · have hW2 : whole s.data.toList = some (-(n : Int)) := hW.trans (if_neg (by omega))
          rw [hW2]
          clear hW hW2
          have hq : ((-(n : Int)) != 0) = true := by simp; omega
          have hq2 : ((-(n : Int)) == 0) = false := by simp; omega
          have hle2 : (n : Int) ≤ 32768 := by omega
          clear hbig h0 hle
          go_enter Tryd.func81, Tryd.ntmps81
          go_wp2_with (first
            | (go_at_call 59; ((with_reducible refine (HC.out _).mono ?_); rintro e w1 ⟨rfl, rfl⟩))
            | (go_at_call 60; ((with_reducible refine (HN.out _).mono ?_); rintro e w2 ⟨rfl, rfl⟩)))
          go_ret2
          exact ⟨rfl, rfl⟩
  · have HC := Lib.hid (fun wx => cut_plain s wx hm)
    have hnb := fun wx => number_any s wx hs
    have hW := whole_plain hm
    clear hm hs
    cases hn : natOf s.data.toList with
    | none =>
      rw [hn] at hnb
      have HN := Lib.hid hnb
      unfold natV at HN
      rw [hn] at hW
      have hW2 : whole s.data.toList = none := hW
      rw [hW2]
      clear hnb hn hW hW2
      go_enter Tryd.func81, Tryd.ntmps81
      go_wp2_with (first
        | (go_at_call 59; ((with_reducible refine (HC.out _).mono ?_); rintro e w1 ⟨rfl, rfl⟩))
        | (go_at_call 60; ((with_reducible refine (HN.out _).mono ?_); rintro e w2 ⟨rfl, rfl⟩)))
      go_ret2
      exact ⟨rfl, rfl⟩
    | some n =>
      rw [hn] at hnb
      have HN := Lib.hid hnb
      unfold natV at HN
      have hle := natOf_le hn
      rw [hn] at hW
      clear hnb hn
      by_cases hbig : 32768 < n
      · have hd : decide ((32768 : Int) < (n : Int)) = true := decide_eq_true (by omega)
        have hW2 : whole s.data.toList = none := hW.trans (if_pos hbig)
        rw [hW2]
        clear hW hW2
        clear hbig
        go_enter Tryd.func81, Tryd.ntmps81
        go_wp2_with (first
          | (go_at_call 59; ((with_reducible refine (HC.out _).mono ?_); rintro e w1 ⟨rfl, rfl⟩))
          | (go_at_call 60; ((with_reducible refine (HN.out _).mono ?_); rintro e w2 ⟨rfl, rfl⟩)))
        go_ret2
        exact ⟨rfl, rfl⟩
      · have hd : decide ((32768 : Int) < (n : Int)) = false := decide_eq_false (by omega)
        have hW2 : whole s.data.toList = some (n : Int) := hW.trans (if_neg hbig)
        rw [hW2]
        clear hW hW2
        have hle2 : (n : Int) ≤ 32768 := by omega
        clear hbig hle
        by_cases h0 : n = 0
        · subst h0
          go_enter Tryd.func81, Tryd.ntmps81
          go_wp2_with (first
            | (go_at_call 59; ((with_reducible refine (HC.out _).mono ?_); rintro e w1 ⟨rfl, rfl⟩))
            | (go_at_call 60; ((with_reducible refine (HN.out _).mono ?_); rintro e w2 ⟨rfl, rfl⟩)))
          go_ret2
          exact ⟨rfl, rfl⟩
        · have hq : (((n : Int)) != 0) = true := by simp; omega
          have hq2 : (((n : Int)) == 0) = false := by simp; omega
          clear h0
          go_enter Tryd.func81, Tryd.ntmps81
          go_wp2_with (first
            | (go_at_call 59; ((with_reducible refine (HC.out _).mono ?_); rintro e w1 ⟨rfl, rfl⟩))
            | (go_at_call 60; ((with_reducible refine (HN.out _).mono ?_); rintro e w2 ⟨rfl, rfl⟩)))
          go_ret2
          exact ⟨rfl, rfl⟩
end Go.Proofs.YtlddjjkbnhhfaaaDoor.IsaW
