/-
  A space beside a clone of it: what the law's calls leave of both.
-/
import Derived.Test.YtjoapeeljigjcaaUsp
namespace Go.Proofs.Ytjoapeeljigjcaa.Ust
open Go Go.RowKit Go.Shelf Kit Bk
open Usa Usb Usc Usd Use Usf Usg Ush Usi Usl Usm Usn Usp
open BackNums (bstr)
open Bytes (allB bs)
open Words (wd u32s)
open Usk (TextR good)
set_option linter.unusedVariables false

/-- A space with bytes V, and a clone with bytes V' (the j-th of m spaces over one memory). -/
def Two (w : World) (p b q q' t : Nat) (M : Nat → Bool) (V V' : Nat → Nat) (m : Nat) : Prop :=
  ∃ qs ts Vs j, On w p b 16 qs ts M Vs m ∧ 0 < j ∧ j < m ∧ m ≤ 3 ∧ qs 0 = q ∧ qs j = q' ∧ ts 0 = t ∧ Vs 0 = V ∧ Vs j = V'
variable {w w' : World} {p b q q' t m : Nat} {M : Nat → Bool} {V V' : Nat → Nat}
theorem Two.below (h : Two w p b q q' t M V V' m) (hb : Below w.heap.size w w') : Two w' p b q q' t M V V' m := by
  obtain ⟨qs, ts, Vs, j, h1, h2⟩ := h
  exact ⟨qs, ts, Vs, j, h1.below hb, h2⟩
theorem Two.clone0 (h : Flat w p b 16 q t M) :
    Calls Try.prog 10 #[.pointer (some ⟨q, 0, none⟩)] w fun e w' => ∃ q', e = .returned (.pointer (some ⟨q', 0, none⟩)) ∧ Kp (fun j => j = b ∨ j = t) w w' ∧ Two w' p b q q' t M (fun _ => 0) (fun _ => 0) 2 := by
  refine (oClone h.on (by decide) (i := 0) (by decide)).mono ?_
  rintro e w' ⟨q', t', rfl, h1, h2, h3, h4⟩
  exact ⟨q', rfl, h3, _, _, _, 1, h4, by decide, by decide, by decide, rfl, rfl, rfl, rfl, rfl⟩
theorem Two.clone (h : Two w p b q q' t M V V' 2) :
    Calls Try.prog 10 #[.pointer (some ⟨q, 0, none⟩)] w fun e w' => ∃ q2, e = .returned (.pointer (some ⟨q2, 0, none⟩)) ∧ Kp (fun j => j = b ∨ j = t) w w' ∧ Two w' p b q q2 t M V V 3 := by
  obtain ⟨qs, ts, Vs, j, h1, hj, hj2, _, rfl, rfl, rfl, rfl, rfl⟩ := h
  refine (oClone h1 (by decide) (i := 0) (by decide)).mono ?_
  rintro e w' ⟨q2, t2, rfl, _, _, h3, h4⟩
  exact ⟨q2, rfl, h3, _, _, _, 2, h4, by decide, by decide, by decide, up_other _ _ _ _ (by decide), up_same _ _ _, up_other _ _ _ _ (by decide), up_other _ _ _ _ (by decide), up_same _ _ _⟩
theorem Two.put (h : Two w p b q q' t M V V' m) (a : Nat) (ha : a < 4294967296) (v : Value) (xs : List Nat) (hx : Slc .u32 w v xs) (hb : ∀ x ∈ xs, x < 4294967296) (hn : xs.length ≤ 64) :
    Calls Try.prog 11 #[.pointer (some ⟨q, 0, none⟩), .int .u32 (a : Int), v] w fun e w' => ∃ (code : Int) (U : Nat → Nat), e = .returned (.int .i64 code) ∧ Kp (fun j => j = b ∨ j = t) w w' ∧ Two w' p b q q' t M U V' m ∧ ((code = 0 ∧ mpd M a (4 * xs.length) ∧ U = wrv V a (allB xs)) ∨ (code ≠ 0 ∧ U = V)) := by
  obtain ⟨qs, ts, Vs, j, h1, hj, hj2, hm, rfl, rfl, rfl, rfl, rfl⟩ := h
  refine (oPut h1 (i := 0) (by omega) a ha v xs hx hb (by omega)).mono ?_
  rintro e w' ⟨code, Vs', rfl, hk, hO, hp⟩
  have hl := Bytes.allB_length xs
  rcases hp with ⟨rfl, h2, rfl⟩ | ⟨rfl, _, rfl⟩ | ⟨rfl, _, _, rfl⟩
  · rw [hl] at h2
    exact ⟨0, _, rfl, hk, ⟨_, _, _, j, hO, hj, hj2, hm, rfl, rfl, rfl, rfl, up_other _ _ _ _ (by omega)⟩, .inl ⟨rfl, h2, up_same _ _ _⟩⟩
  · exact ⟨14, _, rfl, hk, ⟨_, _, _, j, hO, hj, hj2, hm, rfl, rfl, rfl, rfl, rfl⟩, .inr ⟨by decide, rfl⟩⟩
  · exact ⟨12, _, rfl, hk, ⟨_, _, _, j, hO, hj, hj2, hm, rfl, rfl, rfl, rfl, rfl⟩, .inr ⟨by decide, rfl⟩⟩
theorem Two.putText (h : Two w p b q q' t M V V' m) (a : Nat) (ha : a < 4294967296) (s : ByteArray) (hs : s.size ≤ 300) :
    Calls Try.prog 15 #[.pointer (some ⟨q, 0, none⟩), .int .u32 (a : Int), .string s] w fun e w' => ∃ (code : Int) (U : Nat → Nat), e = .returned (.int .i64 code) ∧ Kp (fun j => j = b ∨ j = t) w w' ∧ Two w' p b q q' t M U V' m ∧ ((code = 0 ∧ 0 ∉ nats s ∧ mpd M a (nats s ++ [0]).length ∧ U = wrv V a (nats s ++ [0])) ∨ (code ≠ 0 ∧ U = V)) := by
  by_cases h0 : 0 ∈ nats s
  · refine (text_zero w _ a s hs h0).mono ?_
    rintro e w' ⟨rfl, rfl⟩
    exact ⟨22, V, rfl, Kp.refl _ _, h, .inr ⟨by decide, rfl⟩⟩
  obtain ⟨qs, ts, Vs, j, h1, hj, hj2, hm, rfl, rfl, rfl, rfl, rfl⟩ := h
  refine (oPutText h1 (i := 0) (by omega) a ha s hs h0).mono ?_
  rintro e w' ⟨code, Vs', rfl, hk, hO, hp⟩
  rcases hp with ⟨rfl, h2, rfl⟩ | ⟨rfl, _, rfl⟩ | ⟨rfl, _, _, rfl⟩
  · exact ⟨0, _, rfl, hk, ⟨_, _, _, j, hO, hj, hj2, hm, rfl, rfl, rfl, rfl, up_other _ _ _ _ (by omega)⟩, .inl ⟨rfl, h0, h2, up_same _ _ _⟩⟩
  · exact ⟨14, _, rfl, hk, ⟨_, _, _, j, hO, hj, hj2, hm, rfl, rfl, rfl, rfl, rfl⟩, .inr ⟨by decide, rfl⟩⟩
  · exact ⟨12, _, rfl, hk, ⟨_, _, _, j, hO, hj, hj2, hm, rfl, rfl, rfl, rfl, rfl⟩, .inr ⟨by decide, rfl⟩⟩
theorem Two.words (h : Two w p b q q' t M V V' m) (a : Nat) (ha : a < 4294967296) (k : Nat) (hk : k ≤ 64) (hM : mpd M a (4 * k)) (l : List Nat) (hl : rdv V a (4 * k) = allB l) (hlk : l.length = k) :
    Calls Try.prog 13 #[.pointer (some ⟨q, 0, none⟩), .int .u32 (a : Int), .int .i64 (k : Int)] w fun e w' => ∃ r, e = .returned (.tuple #[r, .int .i64 0]) ∧ Slc .u32 w' r l ∧ Below w.heap.size w w' := by
  obtain ⟨qs, ts, Vs, j, h1, hj, hj2, hm, rfl, rfl, rfl, rfl, rfl⟩ := h
  refine (oWordsR h1 (i := 0) (by omega) a k ha (by omega) hM l hl hlk).mono ?_
  rintro e w' ⟨r, rfl, ho, hb⟩
  exact ⟨r, rfl, BackNums.own_slc32 ho, hb⟩
theorem Two.alike (h : Two w p b q q' t M V V' m) (hV : V = V') :
    Calls Try.prog 12 #[.pointer (some ⟨q, 0, none⟩), .pointer (some ⟨q', 0, none⟩)] w fun e w' => e = .returned (.bool true) ∧ Below w.heap.size w w' := by
  obtain ⟨qs, ts, Vs, j, h1, hj, hj2, hm, rfl, rfl, rfl, rfl, rfl⟩ := h
  exact oAlike h1 (i := 0) (j := j) (by omega) hj2 (fun x _ => by rw [hV])
theorem Two.text (h : Two w p b q q' t M V V' m) (a k : Nat) (ha : a < 4294967296) (hk : 1 ≤ k ∧ k ≤ 4096) (l : List Nat) (hl : Lies M V a l) (hlk : l.length < k) :
    Calls Try.prog 16 #[.pointer (some ⟨q, 0, none⟩), .int .u32 (a : Int), .int .i64 (k : Int)] w fun e w' => e = .returned (.tuple #[.string (bstr l), .int .i64 0]) ∧ Below w.heap.size w w' := by
  obtain ⟨qs, ts, Vs, j, h1, hj, hj2, hm, rfl, rfl, rfl, rfl, rfl⟩ := h
  refine (oText h1 (i := 0) (by omega) a k ha hk).mono ?_
  intro e w' hT
  obtain ⟨hb, rfl⟩ := hl.text hT
  rw [if_pos hlk]
  exact ⟨rfl, hb⟩
/-- Byte of both. -/
def byt (M : Nat → Bool) (V : Nat → Nat) (a : Nat) : Nat := if M (a / 64) = true then V a else 0
theorem Two.byte (h : Two w p b q q' t M V V' m) (a : Nat) (ha : a < 4294967296) :
    Calls Try.prog 17 #[.pointer (some ⟨q, 0, none⟩), .int .u32 (a : Int)] w fun e w' => e = .returned (.tuple #[.int .u8 (byt M V a : Int), .bool (M (a / 64))]) ∧ Below w.heap.size w w' := by
  obtain ⟨qs, ts, Vs, j, h1, hj, hj2, hm, rfl, rfl, rfl, rfl, rfl⟩ := h
  unfold byt
  cases hM : M (a / 64) with
  | true => exact oByte h1 (i := 0) (by omega) a ha hM
  | false => exact oByteNo h1 (i := 0) (by omega) a ha hM
theorem Two.byte' (h : Two w p b q q' t M V V' m) (a : Nat) (ha : a < 4294967296) :
    Calls Try.prog 17 #[.pointer (some ⟨q', 0, none⟩), .int .u32 (a : Int)] w fun e w' => e = .returned (.tuple #[.int .u8 (byt M V' a : Int), .bool (M (a / 64))]) ∧ Below w.heap.size w w' := by
  obtain ⟨qs, ts, Vs, j, h1, hj, hj2, hm, rfl, rfl, rfl, rfl, rfl⟩ := h
  unfold byt
  cases hM : M (a / 64) with
  | true => exact oByte h1 (i := j) hj2 a ha hM
  | false => exact oByteNo h1 (i := j) hj2 a ha hM
end Go.Proofs.Ytjoapeeljigjcaa.Ust
