/-
  FramesNames: the walk.
-/
import Derived.Test.YtompcmbaiegkaaaNn
import Derived.Lib.SlBytesConst
namespace Go.Proofs.Ytompcmbaiegkaaa.Nm
open Go Go.RowKit Kit Fm Fo Fr Fw Fx Fy Fu Fv Fz Ea Nn
set_option linter.unusedVariables false

abbrev TakeAt (w : World) (p : Nat) (a e : Int) (w1 : World) : Prop := Calls Try.prog 14 #[.pointer (some ⟨p, 0, none⟩)] w fun x w' => x = .returned (.tuple #[.int .i64 a, .int .i64 e]) ∧ w1 = w'
abbrev DropAt (w : World) (p : Nat) (k a e : Int) (w1 : World) : Prop := Calls Try.prog 15 #[.pointer (some ⟨p, 0, none⟩), .int .i64 k] w fun x w' => x = .returned (.tuple #[.int .i64 a, .int .i64 e]) ∧ w1 = w'
theorem fl {f : Nat} {args : Array Value} {w W : World} {E : Ending} (h : Calls Try.prog f args w fun x w' => x = E ∧ w' = W) : Calls Try.prog f args w fun x w' => x = E ∧ W = w' := h.mono fun x w' ⟨h1, h2⟩ => ⟨h1, h2.symm⟩
theorem chain (w : World) (p b : Nat) (h : Mem w p b 2 (fun _ => 0) (fun _ _ => 0)) :
    ∃ W1 W2 W3 W4 W5 W6 R6 B6, TakeAt w p 0 0 W1 ∧ TakeAt W1 p 1 0 W2 ∧ (Calls Try.prog 25 #[.pointer (some ⟨p, 0, none⟩), .int .i64 0] W2 fun x w' => x = .returned (.int .i64 0) ∧ W3 = w') ∧ DropAt W3 p 0 1 0 W4 ∧ DropAt W4 p 0 0 0 W5 ∧ DropAt W5 p 0 0 41 W5 ∧ TakeAt W5 p 0 0 W6 ∧ Kp (fun j => j = b) w W6 ∧ Mem W6 p b 2 R6 B6 ∧ ∀ k, k < 2 → R6 k ≠ 0 := by
  have m1 := h.setRef 0 1 (by omega) (by omega)
  have m2 := m1.setRef 1 1 (by omega) (by omega)
  have m3 := m2.setRef 0 2 (by omega) (by omega)
  have m4 := m3.setRef 0 1 (by omega) (by omega)
  have m5 := Fo.Mem.dropped m4 0 (by omega)
  have m6 := m5.setRef 0 1 (by omega) (by omega)
  have hS : ∀ (w : World) (i : Nat) (v : Value), Kp (fun j => j = b) w (w.setCell ⟨b, i, none⟩ v) := fun w i v => Kp.set _ _ _ _ rfl
  refine ⟨_, _, _, _, _, _, _, _, fl (take_ok _ p b 2 _ _ h 0 (by omega) rfl (fun k hk => by omega)), fl (take_ok _ p b 2 _ _ m1 1 (by omega) rfl (fun k hk => ?_)), fl (share_ok _ p b 2 _ _ m2 0 (by omega) ?_), fl (drop_many _ p b 2 _ _ m3 0 (by omega) 0 ?_), fl (drop_last _ p b 2 _ _ m4 0 (by omega) ?_), ?_, fl (take_ok _ p b 2 _ _ m5 0 (by omega) ?_ (fun k hk => by omega)), ?_, m6, fun k hk => ?_⟩
  · have hk0 : k = 0 := by omega
    subst hk0
    exact fun e => by simp [up] at e
  · exact fun e => by simp [up] at e
  · simp [up]
  · simp [up]
  · refine (drop_no _ p b 2 _ _ m5 0 ?_)
    have := rf_nat (n := 2) (R := up (up (up (up (up (fun _ => 0) 0 1) 1 1) 0 2) 0 1) 0 0) (k := 0) (by omega)
    exact this.trans (by simp [up])
  · simp [up]
  · exact (((((hS _ _ _).trans (hS _ _ _) (fun _ e => .inl e)).trans (hS _ _ _) (fun _ e => .inl e)).trans (hS _ _ _) (fun _ e => .inl e)).trans ((hS _ _ _).trans (Kp.sets (S := fun j => j = b) b rfl _ _ _) (fun _ e => .inl e)) (fun _ e => .inl e)).trans (hS _ _ _) (fun _ e => .inl e)
  · have : k = 0 ∨ k = 1 := by omega
    rcases this with rfl | rfl <;> exact fun e => by simp [up] at e
set_option maxRecDepth 100000 in
set_option maxHeartbeats 8000000 in
theorem names_any (w : World) : Calls Try.prog 4 #[] w fun e w' => e = .returned (.bool true) ∧ Below w.heap.size w w' := by
  go_enter Try.func4, Try.ntmps4
  go_wp2_with (first | (go_at_call 11; (with_reducible refine (new_lit _ 2 2 rfl (by omega)).mono ?_); rintro e w1 ⟨b1, p, b, rfl, hp1, hp2, hp3⟩; refine Hid.out ?_))
  refine Lib.hid ?_
  obtain ⟨W1, W2, W3, W4, W5, W6, R6, B6, t1, t2, s1, q1, q2, q3, t3, hk, hm, hr⟩ := chain w1 p b hp3
  have hB6 := b1.trans (hk.below b1.size (fun j e => by subst e; exact hp2))
  have T1 := Lib.hid t1
  have T2 := Lib.hid t2
  have S1 := Lib.hid s1
  have Q1 := Lib.hid q1
  have Q2 := Lib.hid q2
  have Q3 := Lib.hid q3
  have T3 := Lib.hid t3
  have H6 := Lib.hid (And.intro hm (And.intro hr hB6))
  have HP2 := Lib.hid (Nat.le_trans (Nat.le_refl _) hp2)
  clear t1 t2 s1 q1 q2 q3 t3 hk hm hr hB6 b1 hp1 hp2 hp3
  have hcv := Lib.run_convert_bytes_const (P := Try.prog) W6 31 5 #[.int .u8 97, .int .u8 98, .int .u8 99] 3 3 Try.underlying31 Try.underlying5
  go_wp2_with (first | (go_at_call 14; (first | ((with_reducible refine T1.out.mono ?_); rintro e w9 ⟨rfl, rfl⟩) | ((with_reducible refine T2.out.mono ?_); rintro e w9 ⟨rfl, rfl⟩) | ((with_reducible refine T3.out.mono ?_); rintro e w9 ⟨rfl, rfl⟩))) | (go_at_call 25; (with_reducible refine S1.out.mono ?_); rintro e w9 ⟨rfl, rfl⟩) | (go_at_call 15; (first | ((with_reducible refine Q1.out.mono ?_); rintro e w9 ⟨rfl, rfl⟩) | ((with_reducible refine Q2.out.mono ?_); rintro e w9 ⟨rfl, rfl⟩) | ((with_reducible refine Q3.out.mono ?_); rintro e w9 ⟨rfl, rfl⟩))) | (go_at_call 26; refine Hid.out ?_))
  refine Lib.hid ?_
  have hWa : Below W6.heap.size W6 (W6.alloc (.cells #[.int .u8 97, .int .u8 98, .int .u8 99] 5 (3, 4))) := (Below.refl _ _).alloc (Nat.le_refl _) _
  have hma := Mem.below H6.out.1 hWa
  have hwa : Calls Try.prog 26 #[.pointer (some ⟨p, 0, none⟩), .int .i64 1, .int .i64 62, .slice (some ⟨W6.heap.size, 0, none⟩) 3 3] (W6.alloc (.cells #[.int .u8 97, .int .u8 98, .int .u8 99] 5 (3, 4))) fun e w' => e = .returned (.int .i64 2) ∧ W6.alloc (.cells #[.int .u8 97, .int .u8 98, .int .u8 99] 5 (3, 4)) = w' := write_arg _ _ _ _ _ _ hma 1 (by omega) (H6.out.2.1 1 (by omega)) 62 (by decide) _ 3 3 (by omega) (by omega)
  have HWa := Lib.hid hwa
  have HMa := Lib.hid (And.intro hma hWa)
  generalize hWA : W6.alloc (.cells #[.int .u8 97, .int .u8 98, .int .u8 99] 5 (3, 4)) = WA at *
  have hcv2 := Lib.run_convert_bytes_const (P := Try.prog) WA 31 5 #[.int .u8 97, .int .u8 98] 2 2 Try.underlying31 Try.underlying5
  clear hma hWa hwa hWA
  go_wp2_with (first | (go_at_call 26; first | ((with_reducible refine HWa.out.mono ?_); rintro e w9 ⟨rfl, rfl⟩) | refine Hid.out ?_))
  refine Lib.hid ?_
  have hWb : Below WA.heap.size WA (WA.alloc (.cells #[.int .u8 97, .int .u8 98] 5 (2, 3))) := (Below.refl _ _).alloc (Nat.le_refl _) _
  have hmb := Mem.below HMa.out.1 hWb
  have hsl : Slc .u8 (WA.alloc (.cells #[.int .u8 97, .int .u8 98] 5 (2, 3))) (.slice (some ⟨WA.heap.size, 0, none⟩) 2 2) [97, 98] := ⟨_, 2, rfl, Nat.le_refl _, by unfold maxLen; decide, .inr ⟨WA.heap.size, 0, rfl, by simp, fun i hi => by
    rw [World.cell?_alloc_mark]
    have : i = 0 ∨ i = 1 := by simp at hi; omega
    rcases this with rfl | rfl <;> rfl⟩⟩
  have hwb : Calls Try.prog 26 #[.pointer (some ⟨p, 0, none⟩), .int .i64 1, .int .i64 62, .slice (some ⟨WA.heap.size, 0, none⟩) 2 2] (WA.alloc (.cells #[.int .u8 97, .int .u8 98] 5 (2, 3))) _ := write_ok _ _ _ _ _ _ hmb 1 (by omega) (H6.out.2.1 1 (by omega)) 62 _ [97, 98] hsl (by decide) (by decide)
  have hblt := hmb.lt
  have HWb := Lib.hid hwb
  have hrnf : rf 2 R6 ((2 : Nat) : Int) = 0 := by unfold rf; rw [if_neg (by omega)]
  have HMb := Lib.hid (And.intro hWb (And.intro (HMa.out.1).lt hrnf))
  clear hmb hWb hsl hwb hblt hrnf
  go_wp2_with (first | (go_at_call 26; first | ((with_reducible refine HWb.out.mono ?_); rintro e w7 ⟨rfl, hm7, hk7⟩; refine Hid.out ?_)))
  refine Lib.hid ?_
  have hd1 : Calls Try.prog 27 #[.pointer (some ⟨p, 0, none⟩), .int .i64 1] w7 _ := double_full _ _ _ _ _ _ hm7 1 (by omega) H6.out.2.1
  have hd2 : Calls Try.prog 27 #[.pointer (some ⟨p, 0, none⟩), .int .i64 2] w7 _ := double_no _ _ _ _ _ _ hm7 2 HMb.out.2.2
  have HD1 := Lib.hid hd1
  have HD2 := Lib.hid hd2
  have hz : Zm (w7.alloc (.cells #[.slice none 0 0] 55)) w7.heap.size := Blk.new _ _ _
  have hb8 : Below w7.heap.size w7 (w7.alloc (.cells #[.slice none 0 0] 55)) := (Below.refl _ _).alloc (Nat.le_refl _) _
  have hdz := double_zero _ _ hz
  have hrz := drop_zero _ _ hz
  have HDZ := Lib.hid hdz
  have HRZ := Lib.hid hrz
  have HZ := Lib.hid hz
  have hBB : Below w.heap.size w w7 := by
    have e1 := H6.out.2.2.trans ((HMa.out.2.trans (HMb.out.1.mono HMa.out.2.size)).mono H6.out.2.2.size)
    refine e1.trans (hk7.below e1.size (fun j e => ?_))
    rw [e]; exact HP2.out
  have HBB := Lib.hid (hBB.trans (hb8.mono hBB.size))
  clear hd1 hd2 hdz hrz hz hm7 hk7 hb8 hBB
  go_wp2_with (first | (go_at_call 27; (first | ((with_reducible refine HD1.out.mono ?_); rintro e w9 ⟨rfl, rfl⟩) | ((with_reducible refine HD2.out.mono ?_); rintro e w9 ⟨rfl, rfl⟩) | ((with_reducible refine HDZ.out.mono ?_); rintro e w9 ⟨rfl, rfl⟩))) | (go_at_call 11; (first | ((with_reducible refine (new_arg _ 0 (by omega)).mono ?_); rintro e w9 ⟨rfl, rfl⟩) | ((with_reducible refine (new_arg _ 257 (by omega)).mono ?_); rintro e w9 ⟨rfl, rfl⟩))) | (go_at_call 14; (with_reducible refine (take_nil _).mono ?_); rintro e w9 ⟨rfl, rfl⟩) | (go_at_call 15; (with_reducible refine HRZ.out.mono ?_); rintro e w9 ⟨rfl, rfl⟩) | (go_at_call 22; (with_reducible refine (read_nil _).mono ?_); rintro e w9 ⟨rfl, rfl⟩) | (go_at_call 28; (with_reducible refine (alive_any _).mono ?_); rintro e wA ⟨rfl, bA⟩; have BA := Lib.hid bA; have HZA := Lib.hid (Blk.below HZ.out bA); clear bA) | (go_at_call 25; (with_reducible refine (share_nil _).mono ?_); rintro e w9 ⟨rfl, rfl⟩) | (go_at_call 26; (with_reducible refine (write_zero _ _ HZA.out).mono ?_); rintro e w9 ⟨rfl, rfl⟩) | (go_at_call 23; (with_reducible refine (refs_nil _).mono ?_); rintro e w9 ⟨rfl, rfl⟩) | (go_at_call 20; (with_reducible refine (free_zero _ _ HZA.out).mono ?_); rintro e wB ⟨rfl, bB⟩; have BBb := Lib.hid bB; clear bB) | (go_at_call 21; (with_reducible refine (len_nil _).mono ?_); rintro e w9 ⟨rfl, rfl⟩) | (go_at_call 17; (with_reducible refine (used_zero _ _ (Blk.below HZA.out BBb.out)).mono ?_); rintro e wC ⟨bC, aC, cC, rfl⟩; have BC := Lib.hid bC; clear bC) | (go_at_call 13; (with_reducible refine (copy_nil _).mono ?_); rintro e w9 ⟨rfl, rfl⟩))
  go_ret
  refine ⟨rfl, HBB.out.trans (Below.mono (BA.out.trans (Below.mono (BBb.out.trans (BC.out.mono BBb.out.size)) BA.out.size)) HBB.out.size)⟩
end Go.Proofs.Ytompcmbaiegkaaa.Nm
namespace Go.Proofs.Ytompcmbaiegkaaa.Walk
open Go Go.RowKit
theorem framesNames (W : World) : Calls Try.prog 4 #[] W fun e w' => e = .returned (.bool true) ∧ Below W.heap.size W w' := Nm.names_any W
end Go.Proofs.Ytompcmbaiegkaaa.Walk
