/-
  FilesNames: the walk.
-/
import Derived.Test.YtmdldehdlggpkaaJf
namespace Go.Proofs.Ytmdldehdlggpkaa.Jn
open Go Go.RowKit Kit Bk Jp Jm Ji Jo Ju Jd Je Jr Jq Js Jb Jx Jy Jz Jt Jf
set_option linter.unusedVariables false
attribute [local go_sem ↓] stf_wrap

def E0 : Nat → Nat := fun _ => 0
def E1 : Nat → Nat := up E0 0 6
def E2 : Nat → Nat := up E1 1 7
def E3 : Nat → Nat := up E2 2 6
def E4 : Nat → Nat := up E3 1 0
def E5 : Nat → Nat := up E4 1 8
theorem l0 : lst E0 8 = 0 := lst_is _ 8 0 (by omega) (fun k hk => absurd hk (Nat.not_lt_zero _)) (fun _ => rfl)
theorem l1 : lst E1 8 = 1 := lst_is _ 8 1 (by omega) (fun k hk => by obtain rfl : k = 0 := (by omega); decide) (fun _ => rfl)
theorem l2 : lst E2 8 = 2 := lst_is _ 8 2 (by omega) (fun k hk => by have : k = 0 ∨ k = 1 := (by omega); rcases this with rfl | rfl <;> decide) (fun _ => rfl)
theorem l4 : lst E4 8 = 1 := lst_is _ 8 1 (by omega) (fun k hk => by obtain rfl : k = 0 := (by omega); decide) (fun _ => rfl)
theorem m5 : mayN 5 := ⟨by decide, by decide⟩
theorem m6 : mayN 6 := ⟨by decide, by decide⟩
theorem m7 : mayN 7 := ⟨by decide, by decide⟩
theorem m1 : mayN 1 := ⟨by decide, by decide⟩
theorem m64 : ¬ mayN 64 := fun h => absurd h.2 (by decide)
theorem p0 : mayP 0 := ⟨by decide, by decide⟩
theorem p16 : ¬ mayP 16 := fun h => absurd h.2 (by decide)
section
variable (w : World) (d : Nat)
theorem c1 (h : Ds w d E0) : Calls Try.prog 23 #[.pointer (some ⟨d, 0, none⟩), .int .i64 5] w fun e w' => e = .returned (.tuple #[.int .i64 0, .int .i64 0]) ∧ Kp (fun j => j = d) w w' ∧ Ds w' d E1 := by
  have := put_any w d E0 h 5
  unfold pN pE pD at this
  rw [l0, if_pos ⟨m5, by decide⟩, if_pos m5, if_neg (by decide), if_pos ⟨m5, by decide⟩] at this
  exact this
theorem c2 (h : Ds w d E1) : Calls Try.prog 23 #[.pointer (some ⟨d, 0, none⟩), .int .i64 6] w fun e w' => e = .returned (.tuple #[.int .i64 1, .int .i64 0]) ∧ Kp (fun j => j = d) w w' ∧ Ds w' d E2 := by
  have := put_any w d E1 h 6
  unfold pN pE pD at this
  rw [l1, if_pos ⟨m6, by decide⟩, if_pos m6, if_neg (by decide), if_pos ⟨m6, by decide⟩] at this
  exact this
theorem c3 (h : Ds w d E2) : Calls Try.prog 24 #[.pointer (some ⟨d, 0, none⟩), .int .i64 0] w fun e w' => e = .returned (.tuple #[.int .i64 2, .int .i64 0]) ∧ Kp (fun j => j = d) w w' ∧ Ds w' d E3 := by
  have := dup_any w d E2 h 0
  unfold uN uE uD at this
  rw [show gD E2 0 = 5 from rfl, if_neg (by decide), if_neg (by decide), if_neg (by decide)] at this
  unfold pN pE pD at this
  rw [l2, if_pos ⟨m5, by decide⟩, if_pos m5, if_neg (by decide), if_pos ⟨m5, by decide⟩] at this
  exact this
theorem c4 (h : Ds w d E3) : Calls Try.prog 25 #[.pointer (some ⟨d, 0, none⟩), .int .i64 1] w fun e w' => e = .returned (.tuple #[.int .i64 6, .int .i64 0]) ∧ Kp (fun j => j = d) w w' ∧ Ds w' d E4 := by
  have := close_any w d E3 h 1
  unfold cN cE cD at this
  rw [show gD E3 1 = 6 from rfl, if_neg (by decide), if_neg (by decide), if_neg (by decide)] at this
  exact this
theorem c5 (h : Ds w d E4) : Calls Try.prog 23 #[.pointer (some ⟨d, 0, none⟩), .int .i64 7] w fun e w' => e = .returned (.tuple #[.int .i64 1, .int .i64 0]) ∧ Kp (fun j => j = d) w w' ∧ Ds w' d E5 := by
  have := put_any w d E4 h 7
  unfold pN pE pD at this
  rw [l4, if_pos ⟨m7, by decide⟩, if_pos m7, if_neg (by decide), if_pos ⟨m7, by decide⟩] at this
  exact this
theorem len5 (h : Ds w d E5) : Calls Try.prog 19 #[.pointer (some ⟨d, 0, none⟩)] w fun e w' => e = .returned (.int .i64 3) ∧ Below w.heap.size w w' := flen_any w d E5 h
theorem c6 (h : Ds w d E5) : Calls Try.prog 25 #[.pointer (some ⟨d, 0, none⟩), .int .i64 7] w fun e w' => e = .returned (.tuple #[.int .i64 0, .int .i64 103]) ∧ Kp (fun j => j = d) w w' ∧ Ds w' d E5 := by
  have := close_any w d E5 h 7
  unfold cN cE cD at this
  rw [show gD E5 7 = -1 from rfl, if_pos rfl, if_pos rfl, if_pos rfl] at this
  exact this
theorem c7 (h : Ds w d E5) : Calls Try.prog 24 #[.pointer (some ⟨d, 0, none⟩), .int .i64 8] w fun e w' => e = .returned (.tuple #[.int .i64 0, .int .i64 103]) ∧ Kp (fun j => j = d) w w' ∧ Ds w' d E5 := by
  have := dup_any w d E5 h 8
  unfold uN uE uD at this
  rw [show gD E5 8 = -1 from rfl, if_pos rfl, if_pos rfl, if_pos rfl] at this
  exact this
theorem c8 (h : Ds w d E5) : Calls Try.prog 23 #[.pointer (some ⟨d, 0, none⟩), .int .i64 64] w fun e w' => e = .returned (.tuple #[.int .i64 0, .int .i64 2]) ∧ Kp (fun j => j = d) w w' ∧ Ds w' d E5 := by
  have := put_any w d E5 h 64
  unfold pN pE pD at this
  rw [if_neg (fun e => m64 e.1), if_neg m64, if_neg (fun e => m64 e.1)] at this
  exact this
/-- A descriptor put, of how many are filled from the first on. -/
theorem cput (D : Nat → Nat) (j : Nat) (h : Ds w d D) (hj : min 8 j ≤ lst D 8) : Calls Try.prog 23 #[.pointer (some ⟨d, 0, none⟩), .int .i64 1] w fun e w' => (∃ a b, e = .returned (.tuple #[.int .i64 a, .int .i64 b])) ∧ Kp (fun j => j = d) w w' ∧ ∃ D', Ds w' d D' ∧ min 8 (j + 1) ≤ lst D' 8 :=
  (put_any w d D h 1).mono fun e w' ⟨h1, h2, h3⟩ => ⟨⟨_, _, h1⟩, h2, _, h3, by have := lst_put D 1 m1; omega⟩
theorem cfull (D : Nat → Nat) (h : Ds w d D) (hl : lst D 8 = 8) : Calls Try.prog 23 #[.pointer (some ⟨d, 0, none⟩), .int .i64 1] w fun e w' => e = .returned (.tuple #[.int .i64 0, .int .i64 102]) ∧ Kp (fun j => j = d) w w' ∧ Ds w' d D := by
  have := put_any w d D h 1
  unfold pN pE pD at this
  rw [if_neg (fun e => e.2 hl), if_pos m1, if_pos hl, if_neg (fun e => e.2 hl)] at this
  exact this
theorem set0 (D : Nat → Nat) (h : Ds w d D) (hl : lst D 8 = 8) : Calls Try.prog 28 #[.pointer (some ⟨d, 0, none⟩), .int .i64 0, .int .i64 1] w fun e w' => e = .returned (.int .i64 103) ∧ Kp (fun j => j = d) w w' ∧ Ds w' d D := by
  have := fset_any w d D h 0 1
  have h0 := lst_low D 8 0 (by omega)
  have hg : ¬ gD D 0 = -1 := by have := gD_nat (D := D) (k := 0) (by omega); rw [Int.natCast_zero] at this; rw [this]; omega
  unfold tE tD at this
  rw [if_pos m1, if_neg (fun e => hg e.2), if_neg (fun e => hg e.2.2)] at this
  exact this
theorem set8 (D : Nat → Nat) (h : Ds w d D) : Calls Try.prog 28 #[.pointer (some ⟨d, 0, none⟩), .int .i64 8, .int .i64 1] w fun e w' => e = .returned (.int .i64 103) ∧ Kp (fun j => j = d) w w' ∧ Ds w' d D := by
  have := fset_any w d D h 8 1
  unfold tE tD at this
  rw [if_pos m1, if_neg (fun e => absurd e.1.2 (by decide)), if_neg (fun e => absurd e.2.1.2 (by decide))] at this
  exact this
variable (f : Nat)
theorem f1 (h : Fl w f S0) : Calls Try.prog 26 #[.pointer (some ⟨f, 0, none⟩), .int .i64 9] w fun e w' => e = .returned (.tuple #[.int .i64 0, .agg #[.int .i64 0, .bool false], .int .i64 101]) ∧ Kp (fun j => j = f) w w' ∧ Fl w' f S0 := drop_any w f S0 h (fun _ => by show 0 < 999999999; omega) 9
theorem f2 (h : Fl w f S0) : Calls Try.prog 27 #[.pointer (some ⟨f, 0, none⟩), .agg #[.int .i64 16, .bool false]] w fun e w' => e = .returned (.tuple #[.int .i64 0, .int .i64 2]) ∧ Kp (fun j => j = f) w w' ∧ Fl w' f S0 := by
  have := open_any w f S0 h 16 false
  unfold oN oE oS at this
  rw [if_neg (fun e => p16 e.1), if_neg p16, if_neg (fun e => p16 e.1)] at this
  exact this
theorem fopen (S : Sf) (j : Nat) (h : Fl w f S) (hj : min 64 j ≤ lst S.R 64) : Calls Try.prog 27 #[.pointer (some ⟨f, 0, none⟩), .agg #[.int .i64 0, .bool false]] w fun e w' => (∃ a b, e = .returned (.tuple #[.int .i64 a, .int .i64 b])) ∧ Kp (fun j => j = f) w w' ∧ ∃ S', Fl w' f S' ∧ min 64 (j + 1) ≤ lst S'.R 64 :=
  (open_any w f S h 0 false).mono fun e w' ⟨h1, h2, h3⟩ => ⟨⟨_, _, h1⟩, h2, _, h3, by have := lst_open S 0 false p0; omega⟩
theorem ffull (S : Sf) (h : Fl w f S) (hl : lst S.R 64 = 64) : Calls Try.prog 27 #[.pointer (some ⟨f, 0, none⟩), .agg #[.int .i64 0, .bool false]] w fun e w' => e = .returned (.tuple #[.int .i64 0, .int .i64 100]) ∧ Kp (fun j => j = f) w w' ∧ Fl w' f S := by
  have := open_any w f S h 0 false
  unfold oN oE oS at this
  rw [if_neg (fun e => e.2 hl), if_pos p0, if_pos hl, if_neg (fun e => e.2 hl)] at this
  exact this
theorem free0 (S : Sf) (h : Fl w f S) (hl : lst S.R 64 = 64) : Calls Try.prog 18 #[.pointer (some ⟨f, 0, none⟩)] w fun e w' => e = .returned (.int .i64 0) ∧ Below w.heap.size w w' := by
  have := free_any w f S h
  rw [usd_lst hl] at this
  exact this
end
/-- Descriptors, open files and all below as it was. -/
structure Tw (W0 w : World) (d f : Nat) (D : Nat → Nat) (S : Sf) : Prop where
  bel : Below W0.heap.size W0 w
  lo : W0.heap.size ≤ d ∧ W0.heap.size ≤ f
  ds : Ds w d D
  fl : Fl w f S
variable {W0 w w' : World} {d f : Nat} {D D' : Nat → Nat} {S S' : Sf}
theorem Tw.below (h : Tw W0 w d f D S) (hb : Below w.heap.size w w') : Tw W0 w' d f D S := ⟨h.bel.trans (hb.mono h.bel.size), h.lo, h.ds.below hb, h.fl.below hb⟩
theorem Tw.onD (h : Tw W0 w d f D S) (k : Kp (fun j => j = d) w w') (hD : Ds w' d D') : Tw W0 w' d f D' S := by
  obtain ⟨c, b, _⟩ := id h.fl
  exact ⟨h.bel.trans (k.below h.bel.size (fun j e => by have := h.lo; omega)), h.lo, hD, h.fl.kept k (kD h.ds b (by decide))⟩
theorem Tw.onF (h : Tw W0 w d f D S) (k : Kp (fun j => j = f) w w') (hF : Fl w' f S') : Tw W0 w' d f D S' := by
  obtain ⟨⟨c, b, _⟩, _⟩ := id h.ds
  exact ⟨h.bel.trans (k.below h.bel.size (fun j e => by have := h.lo; omega)), h.lo, h.ds.kept k (kF h.fl k b (by decide)), hF⟩
/-- Descriptors alone. -/
structure Od (W0 w : World) (d : Nat) (D : Nat → Nat) : Prop where
  bel : Below W0.heap.size W0 w
  lo : W0.heap.size ≤ d
  ds : Ds w d D
theorem Od.below (h : Od W0 w d D) (hb : Below w.heap.size w w') : Od W0 w' d D := ⟨h.bel.trans (hb.mono h.bel.size), h.lo, h.ds.below hb⟩
theorem Od.on (h : Od W0 w d D) (k : Kp (fun j => j = d) w w') (hD : Ds w' d D') : Od W0 w' d D' := ⟨h.bel.trans (k.below h.bel.size (fun j e => by have := h.lo; omega)), h.lo, hD⟩
theorem Tw.of (h : Od W0 w d D) : Tw W0 (w.alloc (.cells zF 61)) d w.heap.size D S0 := by
  have hb := (Below.refl w.heap.size w).alloc (Nat.le_refl _) (.cells zF 61)
  exact ⟨h.bel.trans (hb.mono h.bel.size), ⟨h.lo, h.bel.size⟩, h.ds.below hb, Ju.Fl.zero w⟩
def L5 : Array Value := #[.int .i64 5, .int .i64 7, .int .i64 5, .int .i64 (-1), .int .i64 (-1), .int .i64 (-1), .int .i64 (-1), .int .i64 (-1)]
theorem lit5 (w : World) : Ir (w.alloc (.cells L5 3)) (.slice (some ⟨w.heap.size, 0, none⟩) 8 8) 8 (fun i => gD E5 i) := by
  refine ⟨_, 8, rfl, Nat.le_refl _, by unfold maxLen; omega, .inr ⟨_, L5, rfl, Blk.new _ _ _, fun i hi => ?_⟩⟩
  have : i = 0 ∨ i = 1 ∨ i = 2 ∨ i = 3 ∨ i = 4 ∨ i = 5 ∨ i = 6 ∨ i = 7 := by omega
  rcases this with rfl | rfl | rfl | rfl | rfl | rfl | rfl | rfl <;> rfl

set_option maxRecDepth 100000 in
set_option maxHeartbeats 16000000 in
theorem names_any (w : World) :
    Calls Try.prog 4 #[] w fun e w' => e = .returned (.bool true) ∧ Below w.heap.size w w' := by
  have hz1 := run_zeroT
  have hz2 := run_zeroD
  have O0 : Od w (w.alloc (.cells zD 53)) w.heap.size E0 := ⟨(Below.refl _ _).alloc (Nat.le_refl _) _, Nat.le_refl _, Je.Ds.zero w⟩
  have HTw := Lib.hid (fun (W0 w : World) (d : Nat) (D : Nat → Nat) (h : Od W0 w d D) => Tw.of h)
  have HL5 := Lib.hid (lit5)
  unfold L5 at HL5
  generalize hd : w.heap.size = d at *
  generalize hw1 : w.alloc (.cells zD 53) = w1 at *
  generalize zD = Z1 at *
  generalize zF = Z2 at *
  have H0 := Lib.hid O0
  clear O0
  go_enter Try.func4, Try.ntmps4
  go_wp2_with (first
    | (go_at_call 23; first
        | ((with_reducible refine (c1 _ _ H0.out.ds).mono ?_); rintro e w2 ⟨rfl, k, g⟩; have H1 := Lib.hid (H0.out.on k g); clear k g)
        | ((with_reducible refine (c2 _ _ H1.out.ds).mono ?_); rintro e w3 ⟨rfl, k, g⟩; have H2 := Lib.hid (H1.out.on k g); clear k g)
        | ((with_reducible refine (c5 _ _ H4.out.ds).mono ?_); rintro e w6 ⟨rfl, k, g⟩; have H5 := Lib.hid (H4.out.on k g); clear k g)
        | ((with_reducible refine (c8 _ _ H13.out.ds).mono ?_); rintro e w14 ⟨rfl, k, g⟩; have H14 := Lib.hid (H13.out.onD k g); clear k g))
    | (go_at_call 24; first
        | ((with_reducible refine (c3 _ _ H2.out.ds).mono ?_); rintro e w4 ⟨rfl, k, g⟩; have H3 := Lib.hid (H2.out.on k g); clear k g)
        | ((with_reducible refine (c7 _ _ H12.out.ds).mono ?_); rintro e w13 ⟨rfl, k, g⟩; have H13 := Lib.hid (H12.out.onD k g); clear k g))
    | (go_at_call 25; first
        | ((with_reducible refine (c4 _ _ H3.out.ds).mono ?_); rintro e w5 ⟨rfl, k, g⟩; have H4 := Lib.hid (H3.out.on k g); clear k g)
        | ((with_reducible refine (c6 _ _ H11.out.ds).mono ?_); rintro e w12 ⟨rfl, k, g⟩; have H12 := Lib.hid (H11.out.onD k g); clear k g))
    | (go_at_call 14; (with_reducible refine (list_any _ _ _ H5.out.ds).mono ?_); rintro e w7 ⟨b7, rfl, i7⟩; have H6 := Lib.hid (H5.out.below b7); have B7 := Lib.hid (HL5.out w7); have I7 := Lib.hid (fun o => i7.below ((Below.refl w7.heap.size w7).alloc (Nat.le_refl _) o)); have hal := Lib.hid (fun o => (Below.refl w7.heap.size w7).alloc (Nat.le_refl _) o); clear b7 i7)
    | (go_at_call 16; (with_reducible refine (same_ir _ _ 8 _ _ (by omega) (I7.out _) (B7.out)).mono ?_); rintro e w8 ⟨rfl, b8⟩; have H7 := Lib.hid ((H6.out.below (hal.out _)).below b8); clear b8)
    | (go_at_call 19; (with_reducible refine (len5 _ _ H7.out.ds).mono ?_); rintro e w9 ⟨rfl, b9⟩; have H8 := Lib.hid (H7.out.below b9); have H9 := Lib.hid (HTw.out _ _ _ _ H8.out); clear b9)
    | (go_at_call 26; (with_reducible refine (f1 _ _ H9.out.fl).mono ?_); rintro e w10 ⟨rfl, k, g⟩; have O10 := H9.out.onF k g; obtain ⟨W10, hst10, -, hb10⟩ := new_st w10 0 false; have H10 := Lib.hid (O10.below hb10); clear k g O10 hb10)
    | (go_at_call 27; (with_reducible refine (f2 _ _ H10.out.fl).mono ?_); rintro e w11 ⟨rfl, k, g⟩; have H11 := Lib.hid (H10.out.onF k g); clear k g))
  clear H0 H1 H2 H3 H4 H5 H6 H7 H8 H9 H10 H11 H12 H13 B7 I7 hal HL5 HTw hst10
  generalize w9.heap.size = f at *
  go_loopw [124] (fun i wr => ∃ j : Nat, j ≤ 9 ∧ i = .int .i64 (j : Int) ∧ ∃ D S, Tw w wr d f D S ∧ min 8 j ≤ lst D 8) (fun i _ => 9 - (intOf i).toNat)
  case atStart => exact ⟨0, Nat.zero_le _, rfl, _, _, H14.out, by omega⟩
  case round =>
    obtain ⟨j, hj, rfl, D, S, ht, hl⟩ := hrel
    by_cases hlt : j < 9
    · have hj9 : (j : Int) < 9 := by omega
      have HP := Lib.hid (cput wr d D j ht.ds hl)
      have HT := Lib.hid ht
      clear hl ht
      go_wp2_with (first
        | (go_at_call 23; (with_reducible refine HP.out.mono ?_); rintro e w2 ⟨⟨a1, a2, rfl⟩, k, D2, g, hl2⟩; have HT2 := Lib.hid (HT.out.onD k g); have HL2 := Lib.hid hl2; clear k g hl2)
        | (go_at_call 27; (with_reducible refine (fopen w2 f S 0 HT2.out.fl (by omega)).mono ?_); rintro e w3 ⟨⟨a3, a4, rfl⟩, k, S2, g, -⟩; have HT3 := Lib.hid (HT2.out.onF k g); clear k g))
      go_roundw
      case rel => exact ⟨j + 1, by omega, by go_num, _, _, HT3.out, HL2.out⟩
      case measure => simp [intOf]; omega
    · obtain rfl : j = 9 := by omega
      have hfull : lst D 8 = 8 := by have := lst_le D 8; omega
      have HT := Lib.hid ht
      have HF := Lib.hid hfull
      clear hl ht hfull
      go_wp2_with (go_at_call 23; (with_reducible refine (cfull wr d D HT.out.ds HF.out).mono ?_); rintro e w2 ⟨rfl, k, g⟩; have HT2 := Lib.hid (HT.out.onD k g); clear k g)
      go_loopw [137] (fun i wr => ∃ j : Nat, j ≤ 64 ∧ i = .int .i64 (j : Int) ∧ ∃ S, Tw w wr d f D S ∧ min 64 j ≤ lst S.R 64) (fun i _ => 64 - (intOf i).toNat)
      case atStart => exact ⟨0, Nat.zero_le _, rfl, _, HT2.out, by omega⟩
      case round =>
        obtain ⟨j, hj, rfl, S, ht, hl⟩ := hrel
        by_cases hlt : j < 64
        · have hj9 : (j : Int) < 64 := by omega
          have HP := Lib.hid (fopen _ f S j ht.fl hl)
          have HT3 := Lib.hid ht
          clear hl ht
          go_wp2_with (go_at_call 27; (with_reducible refine HP.out.mono ?_); rintro e w3 ⟨⟨a3, a4, rfl⟩, k, S2, g, hl2⟩; have HT4 := Lib.hid (HT3.out.onF k g); have HL2 := Lib.hid hl2; clear k g hl2)
          go_roundw
          case rel => exact ⟨j + 1, by omega, by go_num, _, HT4.out, HL2.out⟩
          case measure => simp [intOf]; omega
        · obtain rfl : j = 64 := by omega
          have hfl : lst S.R 64 = 64 := by have := lst_le S.R 64; omega
          have HT3 := Lib.hid ht
          have HFl := Lib.hid hfl
          clear hl ht hfl
          go_wp2_with (first
            | (go_at_call 27; first
                | ((with_reducible refine (ffull _ f S HT3.out.fl HFl.out).mono ?_); rintro e w4 ⟨rfl, k, g⟩; have HT4 := Lib.hid (HT3.out.onF k g); clear k g)
                | ((with_reducible refine (open_nil _ 0 false).mono ?_); rintro e w8 ⟨rfl, hb⟩; have HB8 := Lib.hid (HT7.out.bel.trans (hb.mono HT7.out.bel.size)); clear hb))
            | (go_at_call 18; first
                | ((with_reducible refine (free0 _ f S HT4.out.fl HFl.out).mono ?_); rintro e w5 ⟨rfl, hb⟩; have HT5 := Lib.hid (HT4.out.below hb); clear hb)
                | ((with_reducible refine (free_nil _).mono ?_); rintro e w15 ⟨rfl, rfl⟩))
            | (go_at_call 28; first
                | ((with_reducible refine (set0 _ d D HT5.out.ds HF.out).mono ?_); rintro e w6 ⟨rfl, k, g⟩; have HT6 := Lib.hid (HT5.out.onD k g); clear k g)
                | ((with_reducible refine (set8 _ d D HT6.out.ds).mono ?_); rintro e w7 ⟨rfl, k, g⟩; have HT7 := Lib.hid (HT6.out.onD k g); clear k g)
                | ((with_reducible refine (fset_nil _ _ _).mono ?_); rintro e w17 ⟨rfl, rfl⟩))
            | (go_at_call 26; (with_reducible refine (drop_nil _ 0).mono ?_); rintro e w9 ⟨rfl, hb⟩; obtain ⟨W9, hst9, -, hb9⟩ := new_st w9 0 false; have HB9 := Lib.hid ((HB8.out.trans (hb.mono HB8.out.size)).trans (hb9.mono (HB8.out.trans (hb.mono HB8.out.size)).size)); clear hb hb9)
            | (go_at_call 12; (with_reducible refine (Jm.get_nil _ 0).mono ?_); rintro e w10 ⟨rfl, hb⟩; obtain ⟨W10, hst10, -, hb10⟩ := new_st w10 0 false; have HB10 := Lib.hid ((HB9.out.trans (hb.mono HB9.out.size)).trans (hb10.mono (HB9.out.trans (hb.mono HB9.out.size)).size)); clear hb hb10)
            | (go_at_call 23; (with_reducible refine (put_nil _ 0).mono ?_); rintro e w11 ⟨rfl, rfl⟩)
            | (go_at_call 25; (with_reducible refine (close_nil _ 0).mono ?_); rintro e w12 ⟨rfl, rfl⟩)
            | (go_at_call 24; (with_reducible refine (dup_nil _ 0).mono ?_); rintro e w13 ⟨rfl, rfl⟩)
            | (go_at_call 29; (with_reducible refine (Jw.alive_any _).mono ?_); rintro e w14 ⟨rfl, hb⟩; have HB14 := Lib.hid (HB10.out.trans (hb.mono HB10.out.size)); clear hb)
            | (go_at_call 30; (with_reducible refine (share_nil _ 0).mono ?_); rintro e w16 ⟨rfl, hb⟩; have HB16 := Lib.hid (HB14.out.trans (hb.mono HB14.out.size)); clear hb)
            | (go_at_call 22; (with_reducible refine (refs_nil _ 0).mono ?_); rintro e w18 ⟨rfl, rfl⟩)
            | (go_at_call 13; (with_reducible refine (used_nil _).mono ?_); rintro e w19 ⟨hb, r, rfl, hr⟩; obtain ⟨ad, cap, rfl⟩ := row_form hr; have HB19 := Lib.hid (HB16.out.trans (hb.mono HB16.out.size)); clear hb hr)
            | (go_at_call 31; (with_reducible refine (Ju.copy_nil _).mono ?_); rintro e w20 ⟨rfl, rfl⟩)
            | (go_at_call 20; (with_reducible refine (fget_nil _ 0).mono ?_); rintro e w21 ⟨rfl, rfl⟩)
            | (go_at_call 14; (with_reducible refine (list_nil _).mono ?_); rintro e w22 ⟨rfl, rfl⟩)
            | (go_at_call 19; (with_reducible refine (flen_nil _).mono ?_); rintro e w23 ⟨rfl, rfl⟩)
            | (go_at_call 32; (with_reducible refine (fcopy_nil _).mono ?_); rintro e w24 ⟨rfl, rfl⟩))
          go_ret
          exact ⟨rfl, by rw [← hd]; exact HB19.out⟩
end Go.Proofs.Ytmdldehdlggpkaa.Jn
namespace Go.Proofs.Ytmdldehdlggpkaa.Walk
open Go Go.RowKit Kit Jn
theorem filesNames (W : World) : Calls Try.prog 4 #[] W fun e w' => e = .returned (.bool true) ∧ Below W.heap.size W w' := names_any W
end Go.Proofs.Ytmdldehdlggpkaa.Walk
