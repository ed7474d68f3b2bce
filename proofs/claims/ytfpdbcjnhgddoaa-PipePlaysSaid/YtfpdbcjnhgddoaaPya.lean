/-
  PipePlays: what its rounds carry; the ways out ahead of them.
-/
import Derived.Test.YtfpdbcjnhgddoaaQo
import Derived.Test.YtfpdbcjnhgddoaaPsd
namespace Go.Proofs.Ytfpdbcjnhgddoaa.Pya
open Go Go.RowKit Go.Shelf Kit Bk Rgm Rgt Rgw Rgp Rgn Rst Pm Pw Px Pr Ps Po Pn Pal Pop Pac Psl Psd Rfa Rfb Qm Qo
set_option linter.unusedVariables false

/-- A call of the pipe leaves the document's pipe as it is, and the other way round. -/
theorem qp_beside {w w' : World} {base p r P Q C D : Nat} {xs ys : List Nat} {R U R2 U2 : Nat} (h : QP w base P Q C xs R U) (hp : Pp w p r D ys R2 U2) (hk : Kr p r w w') : QP w' base P Q C xs R U := by
  obtain ⟨rs, f, r1, _⟩ := hp.ring
  obtain ⟨v, q1, _⟩ := id h.ring
  refine ⟨h.blk.kept hk (fun e => ?_), h.ring.kept hk (fun e => ?_) (fun j cs e hj => ?_), h.hx, h.hC, h.hR, h.hU⟩
  · rcases e with e | e
    · exact Blk.ne h.blk hp.blk (by decide) e
    · exact Blk.ne h.blk r1 (by decide) e
  · rcases e with e | e
    · exact Blk.ne q1 hp.blk (by decide) e
    · exact Blk.ne q1 r1 (by decide) e
  · rcases e with e | e
    · exact absurd e (Blk.ne hj hp.blk (by decide))
    · exact absurd e (Blk.ne hj r1 (by decide))
theorem pp_beside {w w' : World} {base p r P Q C D : Nat} {xs ys : List Nat} {R U R2 U2 : Nat} (hp : Pp w p r D ys R2 U2) (h : QP w base P Q C xs R U) (hk : Kr P Q w w') : Pp w' p r D ys R2 U2 := by
  obtain ⟨rs, f, r1, _⟩ := id hp.ring
  obtain ⟨v, q1, _⟩ := h.ring
  refine hp.kept hk (fun e => ?_) (fun e => ?_)
  · rcases e with e | e
    · exact Blk.ne hp.blk h.blk (by decide) e
    · exact Blk.ne hp.blk q1 (by decide) e
  · rcases e with e | e
    · exact Blk.ne r1 h.blk (by decide) e
    · exact Blk.ne r1 q1 (by decide) e
/-- The law's two pipes. -/
structure Pl (w W : World) (p r P Q C : Nat) (s : Sta) : Prop where
  one : Ons w W p r C s
  ref : QP W w.heap.size P Q C s.xs s.R s.U
  lP : w.heap.size ≤ P
  lQ : w.heap.size ≤ Q
theorem Pl.below {w W W' : World} {p r P Q C : Nat} {s : Sta} (h : Pl w W p r P Q C s) (hb : Below W.heap.size W W') : Pl w W' p r P Q C s := ⟨h.one.below hb, h.ref.below hb, h.lP, h.lQ⟩
/-- A call of the pipe alone. -/
theorem Pl.half {w W W1 : World} {p r P Q C : Nat} {s s' : Sta} (h : Pl w W p r P Q C s) (k1 : Kr p r W W1) (p1 : Pps W1 p r C s') : Ons w W1 p r C s' ∧ QP W1 w.heap.size P Q C s.xs s.R s.U :=
  ⟨h.one.step k1 p1, qp_beside h.ref h.one.pp k1⟩
/-- A call of both. -/
theorem Pl.both {w W W1 W2 : World} {p r P Q C B : Nat} {s s' : Sta} (h : Pl w W p r P Q C s) (k1 : Kr p r W W1) (p1 : Pps W1 p r C s') (k2 : Kr P Q W1 W2) (q2 : QP W2 B P Q C s'.xs s'.R s'.U) (hB : w.heap.size ≤ B) : Pl w W2 p r P Q C s' := by
  obtain ⟨h1, h2⟩ := h.half k1 p1
  exact ⟨⟨h1.bel.trans (k2.below h1.bel.size h.lP h.lQ), pp_beside h1.pp h2 k2, h1.lp, h1.lr⟩, q2.base hB, h.lP, h.lQ⟩

set_option maxRecDepth 100000 in
set_option maxHeartbeats 1000000 in
theorem plays_great (st : Str) (bv v : Value) (l : List Opr) (w : World) (h1 : OpsAt w v l) (hf : ¬ Fine l) :
    Calls Try.prog 3 #[stv st bv, v] w fun e w' => e = .returned (.bool true) ∧ Below w.heap.size w w' := by
  obtain ⟨wb, hwb, hb, hs⟩ := one_box w st.c st.r st.u bv
  have HO := Lib.hid (h1.below hb)
  have HB := Lib.hid hb
  clear h1 hb hs
  go_enter Try.func3, Try.ntmps3
  go_wp2_with (first | (go_at_call 9; (with_reducible refine (great_any _ l _ HO.out hf).mono ?_); rintro e w2 ⟨rfl, rfl⟩))
  go_ret
  exact ⟨rfl, HB.out⟩
set_option maxRecDepth 100000 in
set_option maxHeartbeats 1000000 in
theorem plays_far (st : Str) (bv v : Value) (l : List Opr) (w : World) (h0 : Slc .u8 w bv st.xs) (h1 : OpsAt w v l) (hf : Fine l) (hl : 200 < st.xs.length) :
    Calls Try.prog 3 #[stv st bv, v] w fun e w' => e = .returned (.bool true) ∧ Below w.heap.size w w' := by
  obtain ⟨wb, hwb, hb, hs⟩ := one_box w st.c st.r st.u bv
  have HO := Lib.hid (h1.below hb)
  have HB := Lib.hid hb
  obtain ⟨a, cap, rfl, c1, c2, -⟩ := h0
  have x1 := hs.cell 1
  have d0 : decide (200 < (st.xs.length : Int)) = true := decide_eq_true (by omega)
  have d1 : decide (200 < st.xs.length) = true := decide_eq_true (by omega)
  clear h1 hb hs hl c1 c2
  go_enter Try.func3, Try.ntmps3
  go_wp2_with (first | (go_at_call 9; (with_reducible refine (great_fine _ l _ HO.out hf).mono ?_); rintro e w2 ⟨rfl, rfl⟩))
  go_ret
  exact ⟨rfl, HB.out⟩
set_option maxRecDepth 100000 in
set_option maxHeartbeats 1000000 in
theorem plays_bad1 (st : Str) (bv v : Value) (l : List Opr) (w : World) (h0 : Slc .u8 w bv st.xs) (h1 : OpsAt w v l) (hf : Fine l) (hl : st.xs.length ≤ 200) (hg : ¬ (1 ≤ st.c ∧ st.c ≤ 64 ∧ (st.xs.length : Int) ≤ st.c)) :
    Calls Try.prog 3 #[stv st bv, v] w fun e w' => e = .returned (.bool true) ∧ Below w.heap.size w w' := by
  obtain ⟨wb, hwb, hb, hs⟩ := one_box w st.c st.r st.u bv
  have HO := Lib.hid (h1.below hb)
  have HB := Lib.hid hb
  obtain ⟨a, cap, rfl, c1, c2, -⟩ := h0
  have HG := Lib.hid hg
  have x0 := hs.cell 0
  have x1 := hs.cell 1
  have x2 := hs.cell 2
  have x3 := hs.cell 3
  have d0 : decide (200 < (st.xs.length : Int)) = false := decide_eq_false (by omega)
  have d1 : decide (200 < st.xs.length) = false := decide_eq_false (by omega)
  clear h1 hb hs hl c1 c2 hg
  go_enter Try.func3, Try.ntmps3
  go_wp2_with (first | (go_at_call 9; (with_reducible refine (great_fine _ l _ HO.out hf).mono ?_); rintro e w2 ⟨rfl, rfl⟩) | (go_at_call 10; (with_reducible refine (pof_ring _ _ _ _ _ _ _ HG.out).mono ?_); rintro e w3 ⟨rfl, rfl⟩) | (go_at_call 11; (with_reducible refine (qof_ring _ _ _ _ _ _ _ HG.out).mono ?_); rintro e w4 ⟨rfl, rfl⟩))
  go_ret
  exact ⟨rfl, HB.out⟩
set_option maxRecDepth 100000 in
set_option maxHeartbeats 1000000 in
theorem plays_bad2 (st : Str) (bv v : Value) (l : List Opr) (w : World) (h0 : Slc .u8 w bv st.xs) (h1 : OpsAt w v l) (hf : Fine l) (hl : st.xs.length ≤ 200) (C : Nat) (hc : st.c = (C : Int)) (hC : 1 ≤ C ∧ C ≤ 64) (hy : st.xs.length ≤ C) (hg : ¬ Mays st.r st.u) :
    Calls Try.prog 3 #[stv st bv, v] w fun e w' => e = .returned (.bool true) ∧ Below w.heap.size w w' := by
  obtain ⟨c, ys, R, U⟩ := st
  dsimp only at *
  subst hc
  obtain ⟨wb, hwb, hb, hs⟩ := one_box w (C : Int) R U bv
  have HO := Lib.hid (h1.below hb)
  have HB := Lib.hid hb
  have HP : Hid (∀ W, Below wb.heap.size wb W → _) := Lib.hid (fun W h => pof_bad W C bv ys R U (h0.below (hb.trans (h.mono hb.size))) hC hy hg)
  have HQ : Hid (∀ W, Below wb.heap.size wb W → _) := Lib.hid (fun W h => qof_bad W C bv ys R U (h0.below (hb.trans (h.mono hb.size))) hC hy hg)
  obtain ⟨a, cap, rfl, c1, c2, -⟩ := h0
  have HS : Hid (∀ W, Below wb.heap.size wb W → W.cell? ⟨w.heap.size, 0, none⟩ = some (.int .i64 (C : Int)) ∧ W.cell? ⟨w.heap.size, 1, none⟩ = some (.slice a ys.length cap) ∧ W.cell? ⟨w.heap.size, 2, none⟩ = some (.int .i64 R) ∧ W.cell? ⟨w.heap.size, 3, none⟩ = some (.int .i64 U)) := Lib.hid (fun W h => ⟨(hs.below h).cell 0, (hs.below h).cell 1, (hs.below h).cell 2, (hs.below h).cell 3⟩)
  obtain ⟨x0, x1, x2, x3⟩ := HS.out _ (Below.refl _ _)
  have d0 : decide (200 < (ys.length : Int)) = false := decide_eq_false (by omega)
  have d1 : decide (200 < ys.length) = false := decide_eq_false (by omega)
  clear h1 hb hs hl c1 c2 hg hC hy
  go_enter Try.func3, Try.ntmps3
  go_wp2_with (first | (go_at_call 9; (with_reducible refine (great_fine _ l _ HO.out hf).mono ?_); rintro e w2 ⟨rfl, rfl⟩) | (go_at_call 10; (with_reducible refine (HP.out _ (Below.refl _ _)).mono ?_); rintro e w3 ⟨rfl, b3⟩; obtain ⟨y0, y1, y2, y3⟩ := HS.out _ b3) | (go_at_call 11; (with_reducible refine (HQ.out _ b3).mono ?_); rintro e w4 ⟨rfl, b4⟩))
  go_ret
  exact ⟨rfl, HB.out.trans ((b3.trans (b4.mono b3.size)).mono HB.out.size)⟩
end Go.Proofs.Ytfpdbcjnhgddoaa.Pya
