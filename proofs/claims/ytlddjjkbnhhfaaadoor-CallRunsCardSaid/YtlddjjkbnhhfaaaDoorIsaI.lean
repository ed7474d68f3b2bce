/-
  take: a line that is an instruction's.
-/
import Derived.Test.YtlddjjkbnhhfaaaDoorIsaH
namespace Go.Proofs.YtlddjjkbnhhfaaaDoor.IsaI
open Go Go.RowKit Kit IsaM IsaT IsaL IsaC IsaE IsaN IsaD IsaA IsaW IsaS IsaP IsaR IsaB IsaF IsaG IsaH
set_option linter.unusedVariables false

attribute [local go_sem ↓] app_wrap

theorem eats_fits {k : Nat} {st : List Tx} {a b i : Int} {l : Tx} (h : eats k st = some ((a, b, i), l)) : Fits k a b i := by
  unfold eats at h
  split at h
  · cases h
  · split at h
    · cases h
    · split at h
      · cases h
      · split at h
        · rename_i hh
          simp at h
          obtain ⟨⟨rfl, rfl, rfl⟩, rfl⟩ := h
          exact hh.2
        · cases h
theorem parse_fits {s : Tx} {k : Nat} {a b i : Int} {l : Tx} (h : parse s = some ((k, a, b, i), l)) : May k a b i := by
  unfold parse parseL at h
  split at h
  · cases h
  · split at h
    · cases h
    · split at h
      · cases h
      · rename_i he
        simp at h
        obtain ⟨⟨rfl, rfl, rfl, rfl⟩, rfl⟩ := h
        exact ⟨by omega, by simpa using eats_fits he⟩
/-- An instruction's word. -/
def encN (k : Nat) (a b i : Int) : Nat := (enc k a b i).toNat
theorem encN_cast {k : Nat} {a b i : Int} (h : May k a b i) : ((encN k a b i : Nat) : Int) = enc k a b i := Int.toNat_of_nonneg (enc_bd h).1
theorem encN_lt {k : Nat} {a b i : Int} (h : May k a b i) : encN k a b i < 4294967296 := by
  have := enc_bd h
  unfold encN
  omega
theorem encode_n (k : Nat) (a b i : Int) (h : May k a b i) (w : World) (hT : Tabs w) :
    Calls Tryd.prog 63 #[.agg #[.int .i64 (k : Int), .int .i64 a, .int .i64 b, .int .i64 i]] w fun e w' => e = .returned (.tuple #[.int .u32 ((encN k a b i : Nat) : Int), .int .i64 0]) ∧ Below w.heap.size w w' := by
  rw [encN_cast h]
  exact encode_yes k a b i h w hT

set_option maxHeartbeats 1000000 in
theorem take_none (B0 Bp Bm : Nat) (p : PSt) (n : Nat) (s : ByteArray) (w : World) (hs : s.size ≤ 100000) (h : St B0 Bp Bm p w) (hT : Tabs w) (hM : Ml w) (hl : s.data.toList.getLast? ≠ some 58) (hw : wordP.isPrefixOf s.data.toList = false) (hp : parse s.data.toList = none) :
    Calls Tryd.prog 46 #[.pointer (some ⟨Bp, 0, none⟩), .int .i64 (n : Int), .string s] w (TakeR B0 Bp Bm none w) := by
  have HC := Lib.hid (fun wx => cut_plain2 s wx (by omega) hl)
  have HW := Lib.hid (fun wx => cut_noword s wx hw)
  have hpp := parse_any s w (by omega) hT hM
  rw [hp] at hpp
  unfold parseV insV at hpp
  have HP := Lib.hid hpp
  have HS := h.hs
  clear hpp hp hl hw h hT hM
  go_enter Tryd.func46, Tryd.ntmps46
  go_wp2_with (first | (go_at_call 45; ((with_reducible refine (HC.out _).mono ?_); rintro e w1 ⟨rfl, rfl⟩)) | (go_at_call 59; ((with_reducible refine (HW.out _).mono ?_); rintro e w2 ⟨rfl, rfl⟩)) | (go_at_call 62; ((with_reducible refine HP.out.mono ?_); rintro e w3 ⟨rfl, hb3⟩)))
  go_ret
  exact takeN rfl (Fr.below (hb3.alloc hb3.size _) HS)

set_option maxHeartbeats 2000000 in
theorem take_plain (B0 Bp Bm : Nat) (p : PSt) (n : Nat) (s : ByteArray) (w : World) (hs : s.size ≤ 100000) (h : St B0 Bp Bm p w) (hT : Tabs w) (hM : Ml w) (hl : s.data.toList.getLast? ≠ some 58) (hw : wordP.isPrefixOf s.data.toList = false)
    (k : Nat) (a b i : Int) (hp : parse s.data.toList = some ((k, a, b, i), [])) :
    Calls Tryd.prog 46 #[.pointer (some ⟨Bp, 0, none⟩), .int .i64 (n : Int), .string s] w (TakeR B0 Bp Bm (if p.words.length = 512 then none else some (addW p (encN k a b i))) w) := by
  have HC := Lib.hid (fun wx => cut_plain2 s wx (by omega) hl)
  have HW := Lib.hid (fun wx => cut_noword s wx hw)
  have hm := parse_fits hp
  have hpp := parse_any s w (by omega) hT hM
  rw [hp] at hpp
  unfold parseV insV at hpp
  have HP := Lib.hid hpp
  have HE := Lib.hid (fun wx (hx : Below w.heap.size w wx) => encode_n k a b i hm wx (hT.below hx))
  have HS := h.hs
  have hq : ((st []).toList == []) = true := by rw [ByteArray.toList_eq]; rfl
  have hX := encN_lt hm
  generalize encN k a b i = X at *
  clear hpp hp hl hw hT hM hm
  by_cases hf : p.words.length = 512
  · rw [if_pos hf]
    have HA := Lib.hid (fun wx (hx : Below w.heap.size w wx) => add_full B0 Bp Bm p X wx (h.below hx) hf)
    clear h hf
    go_enter Tryd.func46, Tryd.ntmps46
    go_wp2_with (first | (go_at_call 45; ((with_reducible refine (HC.out _).mono ?_); rintro e w1 ⟨rfl, rfl⟩)) | (go_at_call 59; ((with_reducible refine (HW.out _).mono ?_); rintro e w2 ⟨rfl, rfl⟩)) | (go_at_call 62; ((with_reducible refine HP.out.mono ?_); rintro e w3 ⟨rfl, hb3⟩)) | (go_at_call 63; ((with_reducible refine (HE.out _ (hb3.alloc hb3.size _)).mono ?_); rintro e w4 ⟨rfl, hb4⟩; have hb04 := (hb3.alloc hb3.size _).trans (hb4.mono (by simp; have := hb3.size; omega)))) | (go_at_call 61; ((with_reducible refine (HA.out _ hb04).mono ?_); rintro e w5 ⟨rfl, rfl⟩)))
    go_ret
    exact takeN rfl (Fr.below hb04 HS)
  · rw [if_neg hf]
    have HA := Lib.hid (fun wx (hx : Below w.heap.size w wx) => add_more B0 Bp Bm p X hX wx (h.below hx) (by have := h.le; omega))
    clear h hf
    go_enter Tryd.func46, Tryd.ntmps46
    go_wp2_with (first | (go_at_call 45; ((with_reducible refine (HC.out _).mono ?_); rintro e w1 ⟨rfl, rfl⟩)) | (go_at_call 59; ((with_reducible refine (HW.out _).mono ?_); rintro e w2 ⟨rfl, rfl⟩)) | (go_at_call 62; ((with_reducible refine HP.out.mono ?_); rintro e w3 ⟨rfl, hb3⟩)) | (go_at_call 63; ((with_reducible refine (HE.out _ (hb3.alloc hb3.size _)).mono ?_); rintro e w4 ⟨rfl, hb4⟩; have hb04 := (hb3.alloc hb3.size _).trans (hb4.mono (by simp; have := hb3.size; omega)))) | (go_at_call 61; ((with_reducible refine (HA.out _ hb04).mono ?_); rintro e w5 ⟨rfl, hst, hfr⟩; have Y := Lib.hid (And.intro hst hfr); clear hst hfr)))
    go_ret
    exact takeY rfl Y.out.1 ((Fr.below hb04 HS).trans Y.out.2)
end Go.Proofs.YtlddjjkbnhhfaaaDoor.IsaI
