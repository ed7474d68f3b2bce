/-
  take: a line more.
-/
import Derived.Test.YtlddjjkbnhhfaaaDoorIsaG
namespace Go.Proofs.YtlddjjkbnhhfaaaDoor.IsaH
open Go Go.RowKit Kit IsaM IsaT IsaL IsaC IsaE IsaN IsaD IsaA IsaW IsaS IsaP IsaR IsaB IsaF IsaG
set_option linter.unusedVariables false

attribute [local go_sem ↓] app_wrap

def wordP : Tx := [119, 111, 114, 100, 32]
/-- What a line makes of what was. -/
def takeS (n : Nat) (s : Tx) (p : PSt) : Option PSt :=
  if s.getLast? = some 58 then
    if (place s.dropLast p.places).isSome = true then none else if isNm s.dropLast = true then some (addP p s.dropLast) else none
  else if wordP.isPrefixOf s = true then
    match natOf (s.drop 5) with
    | none => none
    | some v => if p.words.length = 512 then none else some (addW p v)
  else match parse s with
    | none => none
    | some ((k, a, b, i), l) => if p.words.length = 512 then none else some (addW (if l = [] then p else addJ p ⟨n, p.words.length, k, a, b, i, l⟩) (enc k a b i).toNat)

theorem cut_colon (s : ByteArray) (w : World) (hs : s.size ≤ 9223372036854775807) (h : s.data.toList.getLast? = some 58) :
    Calls Tryd.prog 45 #[.string s, .string ⟨#[58]⟩] w fun e w' => e = .returned (.tuple #[.string (st s.data.toList.dropLast), .bool true]) ∧ w = w' :=
  (Shl.strings_CutSuffix s ⟨#[58]⟩ w hs).mono fun e w' ⟨he, hw⟩ => ⟨by
    obtain ⟨l, hl⟩ : ∃ l, s.data.toList = l ++ [58] := ⟨s.data.toList.dropLast, by
      have hne : s.data.toList ≠ [] := fun e => by rw [e] at h; cases h
      have h2 := List.dropLast_concat_getLast hne
      rw [List.getLast?_eq_some_getLast hne] at h
      rw [← Option.some.inj h]
      exact h2.symm⟩
    have e2 : (⟨#[58]⟩ : ByteArray).data.toList = [58] := rfl
    have e3 : Lib.hasSuffix (l ++ [58]) [58] = true := by unfold Lib.hasSuffix; simp [List.isSuffixOf]
    rw [he, e2, hl, e3]
    unfold Lib.trimSuffix
    rw [e3]
    simp [st], hw.symm⟩
theorem cut_plain2 (s : ByteArray) (w : World) (hs : s.size ≤ 9223372036854775807) (h : s.data.toList.getLast? ≠ some 58) :
    Calls Tryd.prog 45 #[.string s, .string ⟨#[58]⟩] w fun e w' => e = .returned (.tuple #[.string s, .bool false]) ∧ w = w' :=
  (Shl.strings_CutSuffix s ⟨#[58]⟩ w hs).mono fun e w' ⟨he, hw⟩ => ⟨by
    have e2 : (⟨#[58]⟩ : ByteArray).data.toList = [58] := rfl
    have e3 : Lib.hasSuffix s.data.toList [58] = false := by
      rw [Bool.eq_false_iff]
      intro e
      unfold Lib.hasSuffix at e
      rw [List.isSuffixOf_iff_suffix] at e
      obtain ⟨t, ht⟩ := e
      apply h
      rw [← ht]
      simp
    have e4 : Lib.trimSuffix s.data.toList [58] = s.data.toList := by unfold Lib.trimSuffix; rw [e3]; rfl
    rw [he, e2, e3, e4], hw.symm⟩
theorem cut_word (s : ByteArray) (w : World) (h : wordP.isPrefixOf s.data.toList = true) :
    Calls Tryd.prog 59 #[.string s, .string ⟨#[119, 111, 114, 100, 32]⟩] w fun e w' => e = .returned (.tuple #[.string (st (s.data.toList.drop 5)), .bool true]) ∧ w = w' :=
  (Shl.strings_CutPrefix s ⟨#[119, 111, 114, 100, 32]⟩ w).mono fun e w' ⟨he, hw⟩ => ⟨by
    have e2 : (⟨#[119, 111, 114, 100, 32]⟩ : ByteArray).data.toList = wordP := rfl
    have e3 : Lib.hasPrefix s.data.toList wordP = true := h
    rw [he, e2, e3]
    unfold Lib.trimPrefix
    rw [e3]
    rfl, hw.symm⟩
theorem cut_noword (s : ByteArray) (w : World) (h : wordP.isPrefixOf s.data.toList = false) :
    Calls Tryd.prog 59 #[.string s, .string ⟨#[119, 111, 114, 100, 32]⟩] w fun e w' => e = .returned (.tuple #[.string s, .bool false]) ∧ w = w' :=
  (Shl.strings_CutPrefix s ⟨#[119, 111, 114, 100, 32]⟩ w).mono fun e w' ⟨he, hw⟩ => ⟨by
    have e2 : (⟨#[119, 111, 114, 100, 32]⟩ : ByteArray).data.toList = wordP := rfl
    have e3 : Lib.hasPrefix s.data.toList wordP = false := h
    have e4 : Lib.trimPrefix s.data.toList wordP = s.data.toList := by unfold Lib.trimPrefix; rw [e3]; rfl
    rw [he, e2, e3, e4], hw.symm⟩

/-- What take answers, and leaves. -/
def TakeR (B0 Bp Bm : Nat) (o : Option PSt) (w : World) (e : Ending) (w' : World) : Prop :=
  e = .returned (.bool o.isSome) ∧ (∀ p', o = some p' → St B0 Bp Bm p' w') ∧ Fr B0 Bm w w'

theorem takeN {B0 Bp Bm : Nat} {w w' : World} {e : Ending} (h : e = .returned (.bool false)) (hf : Fr B0 Bm w w') : TakeR B0 Bp Bm none w e w' := ⟨h, (fun _ e => by cases e), hf⟩
theorem takeY {B0 Bp Bm : Nat} {p : PSt} {w w' : World} {e : Ending} (h : e = .returned (.bool true)) (hs : St B0 Bp Bm p w') (hf : Fr B0 Bm w w') : TakeR B0 Bp Bm (some p) w e w' := ⟨h, (fun _ e => by cases e; exact hs), hf⟩
set_option maxHeartbeats 1000000 in
theorem take_label (B0 Bp Bm : Nat) (p : PSt) (n : Nat) (s : ByteArray) (w : World) (hs : s.size ≤ 100000) (h : St B0 Bp Bm p w) (hpl : p.places.length < 1000000000) (hl : s.data.toList.getLast? = some 58) :
    Calls Tryd.prog 46 #[.pointer (some ⟨Bp, 0, none⟩), .int .i64 (n : Int), .string s] w (TakeR B0 Bp Bm (takeS n s.data.toList p) w) := by
  have HC := Lib.hid (fun wx => cut_colon s wx (by omega) hl)
  have ht : s.data.toList.dropLast.length ≤ 100000 := by simp; omega
  have hS : takeS n s.data.toList p = if (place s.data.toList.dropLast p.places).isSome = true then none else if isNm s.data.toList.dropLast = true then some (addP p s.data.toList.dropLast) else none := by unfold takeS; rw [if_pos hl]
  rw [hS]
  clear hS hl
  generalize s.data.toList.dropLast = t at *
  have HS := h.hs
  by_cases hp : (place t p.places).isSome = true
  · rw [if_pos hp]
    have HL := Lib.hid (label_old B0 Bp Bm p t ht w h hp)
    clear h hp
    go_enter Tryd.func46, Tryd.ntmps46
    go_wp2_with (first | (go_at_call 45; ((with_reducible refine (HC.out _).mono ?_); rintro e w1 ⟨rfl, rfl⟩)) | (go_at_call 58; ((with_reducible refine HL.out.mono ?_); rintro e w2 ⟨rfl, rfl⟩)))
    go_ret
    exact takeN rfl (Fr.refl _ _ _)
  · rw [if_neg hp]
    have hp' : (place t p.places).isSome = false := by simpa using hp
    cases hn : isNm t with
    | false =>
      rw [if_neg (by simp)]
      have HL := Lib.hid (label_bad B0 Bp Bm p t ht w h hp' hn)
      clear h hp hp' hn
      go_enter Tryd.func46, Tryd.ntmps46
      go_wp2_with (first | (go_at_call 45; ((with_reducible refine (HC.out _).mono ?_); rintro e w1 ⟨rfl, rfl⟩)) | (go_at_call 58; ((with_reducible refine HL.out.mono ?_); rintro e w2 ⟨rfl, hb⟩)))
      go_ret
      exact takeN rfl (Fr.below hb HS)
    | true =>
      rw [if_pos rfl]
      have HL := Lib.hid (label_new B0 Bp Bm p t ht w h hp' hn hpl)
      clear h hp hp' hn
      go_enter Tryd.func46, Tryd.ntmps46
      go_wp2_with (first | (go_at_call 45; ((with_reducible refine (HC.out _).mono ?_); rintro e w1 ⟨rfl, rfl⟩)) | (go_at_call 58; ((with_reducible refine HL.out.mono ?_); rintro e w2 ⟨rfl, hst, hfr⟩; have X := Lib.hid (And.intro hst hfr); clear hst hfr)))
      go_ret
      exact takeY rfl X.out.1 X.out.2

set_option maxHeartbeats 1000000 in
theorem take_word (B0 Bp Bm : Nat) (p : PSt) (n : Nat) (s : ByteArray) (w : World) (hs : s.size ≤ 100000) (h : St B0 Bp Bm p w) (hl : s.data.toList.getLast? ≠ some 58) (hw : wordP.isPrefixOf s.data.toList = true) :
    Calls Tryd.prog 46 #[.pointer (some ⟨Bp, 0, none⟩), .int .i64 (n : Int), .string s] w (TakeR B0 Bp Bm (takeS n s.data.toList p) w) := by
  have HC := Lib.hid (fun wx => cut_plain2 s wx (by omega) hl)
  have HW := Lib.hid (fun wx => cut_word s wx hw)
  have hS : takeS n s.data.toList p = (match natOf (s.data.toList.drop 5) with | none => none | some v => if p.words.length = 512 then none else some (addW p v)) := by unfold takeS; rw [if_neg hl, if_pos hw]
  have hnb := fun wx => number_any (st (s.data.toList.drop 5)) wx (by rw [st_size]; simp; omega)
  rw [st_data] at hnb
  rw [hS]
  clear hS hl hw
  generalize s.data.toList.drop 5 = t at *
  cases hn : natOf t with
  | none =>
    rw [hn] at hnb
    unfold natV at hnb
    have HN := Lib.hid hnb
    clear hnb hn h
    show Calls Tryd.prog _ _ w (TakeR B0 Bp Bm none w)
    go_enter Tryd.func46, Tryd.ntmps46
    go_wp2_with (first | (go_at_call 45; ((with_reducible refine (HC.out _).mono ?_); rintro e w1 ⟨rfl, rfl⟩)) | (go_at_call 59; ((with_reducible refine (HW.out _).mono ?_); rintro e w2 ⟨rfl, rfl⟩)) | (go_at_call 60; ((with_reducible refine (HN.out _).mono ?_); rintro e w3 ⟨rfl, rfl⟩)))
    go_ret
    exact takeN rfl (Fr.refl _ _ _)
  | some v =>
    have hv := natOf_le hn
    rw [hn] at hnb
    unfold natV at hnb
    have HN := Lib.hid hnb
    clear hnb hn
    by_cases hf : p.words.length = 512
    · have HA := Lib.hid (add_full B0 Bp Bm p v w h hf)
      show Calls Tryd.prog _ _ w (TakeR B0 Bp Bm (if p.words.length = 512 then none else some (addW p v)) w)
      rw [if_pos hf]
      clear h hf
      go_enter Tryd.func46, Tryd.ntmps46
      go_wp2_with (first | (go_at_call 45; ((with_reducible refine (HC.out _).mono ?_); rintro e w1 ⟨rfl, rfl⟩)) | (go_at_call 59; ((with_reducible refine (HW.out _).mono ?_); rintro e w2 ⟨rfl, rfl⟩)) | (go_at_call 60; ((with_reducible refine (HN.out _).mono ?_); rintro e w3 ⟨rfl, rfl⟩)) | (go_at_call 61; ((with_reducible refine HA.out.mono ?_); rintro e w4 ⟨rfl, rfl⟩)))
      go_ret
      exact takeN rfl (Fr.refl _ _ _)
    · have HA := Lib.hid (add_more B0 Bp Bm p v (by omega) w h (by have := h.le; omega))
      show Calls Tryd.prog _ _ w (TakeR B0 Bp Bm (if p.words.length = 512 then none else some (addW p v)) w)
      rw [if_neg hf]
      clear h hf
      go_enter Tryd.func46, Tryd.ntmps46
      go_wp2_with (first | (go_at_call 45; ((with_reducible refine (HC.out _).mono ?_); rintro e w1 ⟨rfl, rfl⟩)) | (go_at_call 59; ((with_reducible refine (HW.out _).mono ?_); rintro e w2 ⟨rfl, rfl⟩)) | (go_at_call 60; ((with_reducible refine (HN.out _).mono ?_); rintro e w3 ⟨rfl, rfl⟩)) | (go_at_call 61; ((with_reducible refine HA.out.mono ?_); rintro e w4 ⟨rfl, hst, hfr⟩; have X := Lib.hid (And.intro hst hfr); clear hst hfr)))
      go_ret
      exact takeY rfl X.out.1 X.out.2
end Go.Proofs.YtlddjjkbnhhfaaaDoor.IsaH
