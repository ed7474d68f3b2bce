/-
  alive of stage 10: the chapter's first examples.
-/
import Derived.Test.YtmdldehdlggpkaaJu
import Derived.Test.YtmdldehdlggpkaaJb
namespace Go.Proofs.Ytmdldehdlggpkaa.Jw
open Go Go.RowKit Kit Bk Jp Jm Ji Jo Ju Jb
set_option linter.unusedVariables false
attribute [local go_sem ↓] stf_wrap

def S1 : Sf := S0.put 0 3 true 1
def S2 : Sf := S1.put 1 3 false 1
def S3 : Sf := ⟨S2.P, S2.V, up S2.R 0 2⟩
def S4 : Sf := ⟨S3.P, S3.V, up S3.R 0 1⟩
def S5 : Sf := S4.put 0 0 false 0
theorem few_of {S : Sf} (h : ∀ k, S.R k ≤ 2) : Few S := fun k => by have := h k; omega
theorem R1 (k : Nat) : S1.R k = if k = 0 then 1 else 0 := rfl
theorem R2 (k : Nat) : S2.R k = if k = 1 then 1 else if k = 0 then 1 else 0 := rfl
theorem R3 (k : Nat) : S3.R k = if k = 0 then 2 else if k = 1 then 1 else if k = 0 then 1 else 0 := rfl
theorem R4 (k : Nat) : S4.R k = if k = 0 then 1 else if k = 0 then 2 else if k = 1 then 1 else if k = 0 then 1 else 0 := rfl
theorem R5 (k : Nat) : S5.R k = if k = 0 then 0 else if k = 0 then 1 else if k = 0 then 2 else if k = 1 then 1 else if k = 0 then 1 else 0 := rfl
theorem F2 : Few S2 := few_of fun k => by rw [R2]; split <;> (try split) <;> omega
theorem F3 : Few S3 := few_of fun k => by rw [R3]; split <;> (try split) <;> (try split) <;> omega
theorem F4 : Few S4 := few_of fun k => by rw [R4]; split <;> (try split) <;> (try split) <;> (try split) <;> omega
theorem l0 : lst S0.R 64 = 0 := lst_is _ 64 0 (by omega) (fun k hk => absurd hk (Nat.not_lt_zero _)) (fun _ => rfl)
theorem l1 : lst S1.R 64 = 1 := lst_is _ 64 1 (by omega) (fun k hk => by rw [R1, if_pos (by omega)]; decide) (fun _ => rfl)
theorem l5 : lst S5.R 64 = 0 := lst_is _ 64 0 (by omega) (fun k hk => absurd hk (Nat.not_lt_zero _)) (fun _ => rfl)
theorem may3 : mayP 3 := ⟨by decide, by decide⟩
theorem may1 : mayP 1 := ⟨by decide, by decide⟩
theorem c1 (w : World) (f : Nat) (h : Fl w f S0) : Calls Try.prog 27 #[.pointer (some ⟨f, 0, none⟩), .agg #[.int .i64 3, .bool true]] w fun e w' => e = .returned (.tuple #[.int .i64 0, .int .i64 0]) ∧ Kp (fun j => j = f) w w' ∧ Fl w' f S1 := by
  have := open_any w f S0 h 3 true
  unfold oN oE oS at this
  rw [l0, if_pos ⟨may3, by decide⟩, if_pos may3, if_neg (by decide), if_pos ⟨may3, by decide⟩] at this
  exact this
theorem c2 (w : World) (f : Nat) (h : Fl w f S1) : Calls Try.prog 27 #[.pointer (some ⟨f, 0, none⟩), .agg #[.int .i64 3, .bool false]] w fun e w' => e = .returned (.tuple #[.int .i64 1, .int .i64 0]) ∧ Kp (fun j => j = f) w w' ∧ Fl w' f S2 := by
  have := open_any w f S1 h 3 false
  unfold oN oE oS at this
  rw [l1, if_pos ⟨may3, by decide⟩, if_pos may3, if_neg (by decide), if_pos ⟨may3, by decide⟩] at this
  exact this
theorem c3 (w : World) (f : Nat) (h : Fl w f S2) : Calls Try.prog 30 #[.pointer (some ⟨f, 0, none⟩), .int .i64 0] w fun e w' => e = .returned (.int .i64 0) ∧ Kp (fun j => j = f) w w' ∧ Fl w' f S3 := share_any w f S2 h F2 0
theorem c4 (w : World) (f : Nat) (h : Fl w f S3) : Calls Try.prog 26 #[.pointer (some ⟨f, 0, none⟩), .int .i64 0] w fun e w' => e = .returned (.tuple #[.int .i64 1, .agg #[.int .i64 3, .bool true], .int .i64 0]) ∧ Kp (fun j => j = f) w w' ∧ Fl w' f S4 := drop_any w f S3 h F3 0
theorem c5 (w : World) (f : Nat) (h : Fl w f S4) : Calls Try.prog 26 #[.pointer (some ⟨f, 0, none⟩), .int .i64 0] w fun e w' => e = .returned (.tuple #[.int .i64 0, .agg #[.int .i64 3, .bool true], .int .i64 0]) ∧ Kp (fun j => j = f) w w' ∧ Fl w' f S5 := drop_any w f S4 h F4 0
theorem c6 (w : World) (f : Nat) (h : Fl w f S5) : Calls Try.prog 27 #[.pointer (some ⟨f, 0, none⟩), .agg #[.int .i64 1, .bool false]] w fun e w' => e = .returned (.tuple #[.int .i64 0, .int .i64 0]) ∧ Kp (fun j => j = f) w w' := by
  have := open_any w f S5 h 1 false
  unfold oN oE at this
  rw [l5, if_pos ⟨may1, by decide⟩, if_pos may1, if_neg (by decide)] at this
  exact this.mono fun e w' ⟨h1, h2, _⟩ => ⟨h1, h2⟩
/-- Open files of one's own, and all below n as it was. -/
structure Own (W0 w : World) (f : Nat) (S : Sf) : Prop where
  bel : Below W0.heap.size W0 w
  lo : W0.heap.size ≤ f
  fl : Fl w f S
theorem Own.step {W0 w w' : World} {f : Nat} {S T : Sf} (h : Own W0 w f S) (k : Kp (fun j => j = f) w w') (hT : Fl w' f T) : Own W0 w' f T := ⟨h.bel.trans (k.below h.bel.size (fun j e => by have := h.lo; omega)), h.lo, hT⟩
theorem Own.below {W0 w w' : World} {f : Nat} {S : Sf} (h : Own W0 w f S) (hb : Below w.heap.size w w') : Own W0 w' f S := ⟨h.bel.trans (hb.mono h.bel.size), h.lo, h.fl.below hb⟩

set_option maxRecDepth 100000 in
set_option maxHeartbeats 4000000 in
theorem alive_any (w : World) : Calls Try.prog 29 #[] w fun e w' => e = .returned (.bool true) ∧ Below w.heap.size w w' := by
  have hz := run_zeroT
  have O0 : Own w (w.alloc (.cells zF 61)) w.heap.size S0 := ⟨(Below.refl _ _).alloc (Nat.le_refl _) _, Nat.le_refl _, Ju.Fl.zero w⟩
  generalize hw1 : w.alloc (.cells zF 61) = w1 at *
  generalize zF = Z at *
  have H0 := Lib.hid O0
  have hs := run_same 3 true (by decide)
  clear O0
  go_enter Try.func29, Try.ntmps29
  go_wp2_with (first
    | (go_at_call 27; first
        | ((with_reducible refine (c1 _ _ H0.out.fl).mono ?_); rintro e w2 ⟨rfl, k2, f2⟩; have H1 := Lib.hid (H0.out.step k2 f2); clear k2 f2)
        | ((with_reducible refine (c2 _ _ H1.out.fl).mono ?_); rintro e w3 ⟨rfl, k2, f2⟩; have H2 := Lib.hid (H1.out.step k2 f2); clear k2 f2)
        | ((with_reducible refine (c6 _ _ H5.out.fl).mono ?_); rintro e w7 ⟨rfl, k2⟩; have HE := Lib.hid (H5.out.bel.trans (k2.below H5.out.bel.size (fun j e => by have := H5.out.lo; omega))); have x0 := (B5.out.kept k2 (N5.out)).cell 0; have x1 := (B5.out.kept k2 (N5.out)).cell 1; clear k2))
    | (go_at_call 30; (with_reducible refine (c3 _ _ H2.out.fl).mono ?_); rintro e w4 ⟨rfl, k2, f2⟩; have H3 := Lib.hid (H2.out.step k2 f2); clear k2 f2)
    | (go_at_call 26; first
        | ((with_reducible refine (c4 _ _ H3.out.fl).mono ?_); rintro e w5 ⟨rfl, k2, f2⟩; have O4 := H3.out.step k2 f2; obtain ⟨W5, hst5, -, hb5⟩ := new_st w5 3 true; have H4 := Lib.hid (O4.below hb5); clear k2 f2 O4 hb5)
        | ((with_reducible refine (c5 _ _ H4.out.fl).mono ?_); rintro e w6 ⟨rfl, k2, f2⟩; have O5 := H4.out.step k2 f2; obtain ⟨W6, hst6, hbk, hb6⟩ := new_st w6 3 true; have H5 := Lib.hid (O5.below hb6); have B5 := Lib.hid hbk; have N5 : Hid (¬ w6.heap.size = w.heap.size) := Lib.hid (by have := O5.fl.lt; omega); clear k2 f2 O5 hb6 hbk)))
  go_ret
  exact ⟨rfl, HE.out⟩
end Go.Proofs.Ytmdldehdlggpkaa.Jw
