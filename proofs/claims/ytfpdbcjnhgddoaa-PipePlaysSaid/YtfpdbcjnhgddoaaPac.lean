/-
  act: a call of a pipe, and what it answers.
-/
import Derived.Test.YtfpdbcjnhgddoaaPop
namespace Go.Proofs.Ytfpdbcjnhgddoaa.Pac
open Go Go.RowKit Go.Shelf Kit Bk Rgm Rgt Rgw Rgp Rgn Rst Pm Pw Px Pr Ps Po Pn Pal Pop
set_option linter.unusedVariables false

/-- What a pipe holds: its bytes, its readers, its writers. -/
structure Sta where
  xs : List Nat
  R : Nat
  U : Nat
/-- What it holds behind a call; what the call answers. -/
def nxt (C : Nat) (o : Opr) (s : Sta) : Sta :=
  if o.kind = 0 then ⟨wX C s.xs s.R s.U o.xs, s.R, s.U⟩
  else if o.kind = 1 then ⟨rX s.xs s.R o.n, s.R, s.U⟩
  else if o.kind = 2 then ⟨s.xs, nR o.w s.R (oN (sc o.w s.R s.U)), nU o.w s.U (oN (sc o.w s.R s.U))⟩
  else if o.kind = 3 then ⟨s.xs, nR o.w s.R (sc o.w s.R s.U - 1), nU o.w s.U (sc o.w s.R s.U - 1)⟩
  else s
def lastS (b : Bool) : ByteArray := if b then ⟨#[108, 97, 115, 116]⟩ else ⟨#[]⟩
def ans1 (C : Nat) (o : Opr) (s : Sta) : ByteArray :=
  if o.kind = 0 then bstr [wN C s.xs s.R s.U o.xs] else if o.kind = 1 then bstr (rO s.xs s.R o.n) else if o.kind = 2 then ⟨#[]⟩ else if o.kind = 3 then lastS (sc o.w s.R s.U == 1) else ⟨#[]⟩
def ans2 (C : Nat) (o : Opr) (s : Sta) : Int :=
  if o.kind = 0 then wW C s.xs s.R s.U o.xs else if o.kind = 1 then rW s.xs s.R s.U o.n else 0
def ans3 (C : Nat) (o : Opr) (s : Sta) : Int :=
  if o.kind = 0 then wE s.U else if o.kind = 1 then rE s.R o.n else if o.kind = 2 then oE (sc o.w s.R s.U) else if o.kind = 3 then cE (sc o.w s.R s.U) else 0
abbrev Pps (w : World) (p r C : Nat) (s : Sta) : Prop := Pp w p r C s.xs s.R s.U
abbrev Ons (w W : World) (p r C : Nat) (s : Sta) : Prop := On w W p r C s.xs s.R s.U
theorem conv_one (W : World) (m : Nat) : (convert 22 9 (.slice (some ⟨W.heap.size, 0, none⟩) 1 1)).run Try.prog (W.alloc (.cells #[.int .u8 (m : Int)] 5)) = .ok (.string (bstr [m])) (W.alloc (.cells #[.int .u8 (m : Int)] 5)) :=
  slc_string (lit_slc (l := [m]) rfl rfl (show 1 ≤ maxLen by decide))
theorem wN_le {w : World} {p r C : Nat} {xs : List Nat} {R U : Nat} (h : Pp w p r C xs R U) (ys : List Nat) : wN C xs R U ys ≤ 64 := by
  unfold wN
  have := h.ring.cap_le
  split <;> omega

/-- What a call leaves behind. -/
def ActR (w : World) (p r C : Nat) (o : Opr) (s : Sta) (e : Ending) (w' : World) : Prop :=
  e = .returned (.tuple #[.string (ans1 C o s), .int .i64 (ans2 C o s), .int .i64 (ans3 C o s)]) ∧ Kr p r w w' ∧ Pps w' p r C (nxt C o s)
set_option maxHeartbeats 2000000 in
theorem act_any (w : World) (p r C : Nat) (s : Sta) (o : Opr) (bv : Value) (h : Pps w p r C s) (hs : Src w r bv o.xs) :
    Calls Try.prog 30 #[.pointer (some ⟨p, 0, none⟩), .agg #[.int .i64 o.kind, bv, .int .i64 o.n, .bool o.w]] w (ActR w p r C o s) := by
  obtain ⟨kind, ys, n, ws⟩ := o
  obtain ⟨xs, R, U⟩ := s
  dsimp only at hs ⊢
  obtain ⟨wb, hwb⟩ : ∃ wb, w.alloc (.cells #[.int .i64 kind, bv, .int .i64 n, .bool ws] 35) = wb := ⟨_, rfl⟩
  have hb : Below w.heap.size w wb := by rw [← hwb]; exact (Below.refl _ _).alloc (Nat.le_refl _) _
  have hx : Blk wb w.heap.size #[.int .i64 kind, bv, .int .i64 n, .bool ws] 35 := by rw [← hwb]; exact Blk.new _ _ _
  have hp := h.below hb
  have hs2 : Src wb r bv ys := hs.kept (S := fun _ => False) (.of_below hb) (fun j _ e => e.elim)
  have x0 := hx.cell 0
  have x1 := hx.cell 1
  have x2 := hx.cell 2
  have x3 := hx.cell 3
  have HB : Hid (Kr p r w wb) := Lib.hid (Kr.of_below hb)
  dsimp only at hp
  by_cases k0 : kind = 0
  · subst k0
    have hw := pwrite_any wb p r C xs R U bv ys hp hs2
    have hE : ∀ w', Kr p r wb w' → Pp w' p r C (wX C xs R U ys) R U → ActR w p r C ⟨0, ys, n, ws⟩ ⟨xs, R, U⟩ (.returned (.tuple #[.string (bstr [wN C xs R U ys]), .int .i64 (wW C xs R U ys), .int .i64 (wE U)])) w' := fun w' k1 k2 => ⟨rfl, HB.out.trans k1, k2⟩
    have hm := wN_le hp ys
    have hE := Lib.hid hE
    have HW := Lib.hid hw
    unfold WriteR at HW
    generalize wN C xs R U ys = m at *
    generalize wW C xs R U ys = a at *
    generalize wE U = E at *
    generalize wX C xs R U ys = zs at *
    have hm2 : (m : Int) ≤ 64 := by omega
    have hc := fun W => conv_one W m
    clear h hs hb hx hp hs2 hw hm
    go_enter Try.func30, Try.ntmps30
    go_wp2_with (go_at_call 12; (with_reducible refine HW.out.mono ?_); rintro e w1 ⟨rfl, hk, hr⟩)
    have ba := (Below.refl w1.heap.size w1).alloc (Nat.le_refl _) (.cells #[.int .u8 (m : Int)] 5)
    go_ret3
    exact hE.out _ (hk.trans (Kr.of_below ba)) (hr.below ba)
  · have d0 : (kind == 0) = false := by simp [k0]
    by_cases k1 : kind = 1
    · subst k1
      have hw := pread_any wb p r C xs R U n hp
      have hE : ∀ w', Kr p r wb w' → Pp w' p r C (rX xs R n) R U → ActR w p r C ⟨1, ys, n, ws⟩ ⟨xs, R, U⟩ (.returned (.tuple #[.string (bstr (rO xs R n)), .int .i64 (rW xs R U n), .int .i64 (rE R n)])) w' := fun w' k1 k2 => ⟨rfl, HB.out.trans k1, k2⟩
      have hE := Lib.hid hE
      have HW := Lib.hid hw
      unfold ReadR at HW
      generalize rO xs R n = os at *
      generalize rW xs R U n = a at *
      generalize rE R n = E at *
      generalize rX xs R n = zs at *
      clear h hs hb hx hp hs2 hw k0
      go_enter Try.func30, Try.ntmps30
      go_wp2_with (go_at_call 14; (with_reducible refine HW.out.mono ?_); rintro e w1 ⟨hk, hr, r, rfl, ho⟩; have cv := slc_string (own_slc ho); replace ho := Lib.hid ho; replace hr := Lib.hid hr)
      go_ret3
      exact hE.out _ hk hr.out
    · have d1 : (kind == 1) = false := by simp [k1]
      by_cases k2 : kind = 2
      · subst k2
        have hw := popen_any wb p r C xs R U ws hp
        have hE : ∀ w', Kr p r wb w' → Pp w' p r C xs (nR ws R (oN (sc ws R U))) (nU ws U (oN (sc ws R U))) → ActR w p r C ⟨2, ys, n, ws⟩ ⟨xs, R, U⟩ (.returned (.tuple #[.string ⟨#[]⟩, .int .i64 0, .int .i64 (oE (sc ws R U))])) w' := fun w' k1 k2 => ⟨rfl, HB.out.trans k1, k2⟩
        have hE := Lib.hid hE
        have HW := Lib.hid hw
        generalize oE (sc ws R U) = E at *
        clear h hs hb hx hp hs2 hw k0 k1
        go_enter Try.func30, Try.ntmps30
        go_wp2_with (go_at_call 16; (with_reducible refine HW.out.mono ?_); rintro e w1 ⟨rfl, hk, hr⟩; replace hr := Lib.hid hr)
        go_ret3
        exact hE.out _ hk hr.out
      · have d2 : (kind == 2) = false := by simp [k2]
        by_cases k3 : kind = 3
        · subst k3
          have hw := pclose_any wb p r C xs R U ws hp
          have hE : ∀ w', Kr p r wb w' → Pp w' p r C xs (nR ws R (sc ws R U - 1)) (nU ws U (sc ws R U - 1)) → ActR w p r C ⟨3, ys, n, ws⟩ ⟨xs, R, U⟩ (.returned (.tuple #[.string (lastS (sc ws R U == 1)), .int .i64 0, .int .i64 (cE (sc ws R U))])) w' := fun w' k1 k2 => ⟨rfl, HB.out.trans k1, k2⟩
          have hE := Lib.hid hE
          have HW := Lib.hid hw
          generalize cE (sc ws R U) = E at *
          generalize sc ws R U - 1 = m at *
          clear h hs hb hx hp hs2 hw k0 k1 k2
          cases hc : sc ws R U == 1
          · rw [hc] at HW hE
            go_enter Try.func30, Try.ntmps30
            go_wp2_with (go_at_call 18; (with_reducible refine HW.out.mono ?_); rintro e w1 ⟨rfl, hk, hr⟩; replace hr := Lib.hid hr)
            go_ret3
            exact hE.out _ hk hr.out
          · rw [hc] at HW hE
            go_enter Try.func30, Try.ntmps30
            go_wp2_with (go_at_call 18; (with_reducible refine HW.out.mono ?_); rintro e w1 ⟨rfl, hk, hr⟩; replace hr := Lib.hid hr)
            go_ret3
            exact hE.out _ hk hr.out
        · have d3 : (kind == 3) = false := by simp [k3]
          have hE : Hid (ActR w p r C ⟨kind, ys, n, ws⟩ ⟨xs, R, U⟩ (.returned (.tuple #[.string ⟨#[]⟩, .int .i64 0, .int .i64 0])) wb) := Lib.hid (by
            unfold ActR ans1 ans2 ans3 nxt
            simp only [if_neg k0, if_neg k1, if_neg k2, if_neg k3]
            exact ⟨trivial, HB.out, hp⟩)
          clear h hs hb hx hp hs2 k0 k1 k2 k3
          go_enter Try.func30, Try.ntmps30
          go_wp2
          go_ret3
          exact hE.out

/-- What a start tells: its error (0: none). -/
def GoodS (st : Str) : Prop := (1 ≤ st.c ∧ st.c ≤ 64 ∧ (st.xs.length : Int) ≤ st.c) ∧ Mays st.r st.u
/-- A start that is refused. -/
theorem start_bad (w : World) (st : Str) (bv : Value) (hs : Slc .u8 w bv st.xs) (h : ¬ GoodS st) :
    ∃ E : Int, (E == 0) = false ∧ (E = if 1 ≤ st.c ∧ st.c ≤ 64 ∧ (st.xs.length : Int) ≤ st.c then 90 else 80) ∧ Calls Try.prog 10 #[.int .i64 st.c, bv, .int .i64 st.r, .int .i64 st.u] w fun e w' => e = .returned (.tuple #[.pointer none, .int .i64 E]) ∧ Below w.heap.size w w' := by
  obtain ⟨c, ys, R, U⟩ := st
  dsimp only [GoodS] at *
  by_cases h1 : 1 ≤ c ∧ c ≤ 64 ∧ (ys.length : Int) ≤ c
  · rw [if_pos h1]
    refine ⟨90, rfl, rfl, ?_⟩
    obtain ⟨C, rfl⟩ := Int.eq_ofNat_of_zero_le (show 0 ≤ c by omega)
    exact pof_bad w C bv ys R U hs (by omega) (by omega) (fun e => h ⟨h1, e⟩)
  · rw [if_neg h1]
    refine ⟨80, rfl, rfl, ?_⟩
    obtain ⟨a, cap, rfl, -⟩ := hs
    refine (pof_ring w c a ys.length cap R U h1).mono fun e w' ⟨h2, h3⟩ => ?_
    subst h3
    exact ⟨h2, Below.refl _ _⟩
/-- A start that is taken. -/
theorem start_ok (w W : World) (st : Str) (bv : Value) (hs : Slc .u8 W bv st.xs) (h : GoodS st) (hb : Below w.heap.size w W) :
    ∃ (C : Nat) (s : Sta), (C : Int) = st.c ∧ C ≤ 64 ∧ 1 ≤ C ∧ s.xs = st.xs ∧ (s.R : Int) = st.r ∧ (s.U : Int) = st.u ∧ Calls Try.prog 10 #[.int .i64 st.c, bv, .int .i64 st.r, .int .i64 st.u] W fun e w' => ∃ p r, e = .returned (.tuple #[.pointer (some ⟨p, 0, none⟩), .int .i64 0]) ∧ Ons w w' p r C s := by
  obtain ⟨c, ys, R, U⟩ := st
  dsimp only [GoodS] at *
  obtain ⟨h1, h2⟩ := h
  obtain ⟨C, rfl⟩ := Int.eq_ofNat_of_zero_le (show 0 ≤ c by omega)
  obtain ⟨R', rfl⟩ := Int.eq_ofNat_of_zero_le h2.1
  obtain ⟨U', rfl⟩ := Int.eq_ofNat_of_zero_le h2.2.2.1
  refine ⟨C, ⟨ys, R', U'⟩, rfl, by omega, by omega, rfl, rfl, rfl, ?_⟩
  refine (pof_ok W C bv ys R' U' hs (by omega) (by omega) h2).mono fun e w' ⟨q, s, h3, h4, h5, h6, h7⟩ => ?_
  exact ⟨q, s, h3, hb.trans (h4.mono hb.size), h7, by have := hb.size; omega, by have := hb.size; omega⟩
end Go.Proofs.Ytfpdbcjnhgddoaa.Pac
