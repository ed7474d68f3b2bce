/-
  do: Drop of open files and of the document's.
-/
import Derived.Test.YtmdldehdlggpkaaKx
import Derived.Test.YtmdldehdlggpkaaJy
import Derived.Deep.DeepCutAuto
namespace Go.Proofs.Ytmdldehdlggpkaa.Ky
open Go Go.RowKit Kit Bk Jp Jm Ji Jo Ju Jd Je Jr Jq Js Jb Kb Kx
open Jy (dP_wf)
set_option linter.unusedVariables false
attribute [local go_sem ↓] stf_wrap

variable {U W0 w w' : World} {p f d q v x : Nat} {o : Opr} {S T : Sf} {D E : Nat → Nat}
/-- The variable behind the call. -/
theorem aft_A {w1 : World} (h : Dz U W0 w1 p f d q v x o S T D E) (P : Int) (V : Bool) : ∃ W2, (stF (.pointer (some ⟨w1.heap.size, 0, none⟩)) (.agg #[.int .i64 P, .bool V])).run Try.prog (w1.alloc (.cells #[.int .i64 0, .bool false] 26)) = .ok () W2 ∧ Blk W2 w1.heap.size #[.int .i64 P, .bool V] 26 ∧ Dz U W0 W2 p f d q v x o S T D E ∧ Cl (w1.alloc (.cells #[.int .i64 0, .bool false] 26)) p f d q v x o ∧ ∀ b cs U, Blk w1 b cs U → Blk W2 b cs U := by
  obtain ⟨W2, h1, h2, h3, h4, h5⟩ := Jy.aft_A h.dx P V
  exact ⟨W2, h1, h2, ⟨h3, h.ok.trans (fun b cs hb => h5 b cs _ hb)⟩, h4, h5⟩
/-- The variable ahead of it. -/
theorem aft_B {w1 : World} (h : Dz U W0 w1 p f d q v x o S T D E) {g : Nat} {a c : Value} (hg : Blk w1 g #[a, c] 26) (hl : W0.heap.size ≤ g) (P : Int) (V : Bool) : ∃ W2, (stF (.pointer (some ⟨g, 0, none⟩)) (.agg #[.int .i64 P, .bool V])).run Try.prog w1 = .ok () W2 ∧ Blk W2 g #[.int .i64 P, .bool V] 26 ∧ Dz U W0 W2 p f d q v x o S T D E ∧ ∀ b cs U, b ≠ g → Blk w1 b cs U → Blk W2 b cs U := by
  obtain ⟨W2, h1, h2, h3, h4⟩ := Jy.aft_B h.dx hg hl P V
  exact ⟨W2, h1, h2, ⟨h3, h.ok.trans (fun b cs hb => h4 b cs _ (hb.ne hg (by decide)) hb)⟩, h4⟩
set_option maxRecDepth 100000 in
set_option maxHeartbeats 4000000 in
theorem do_drop (W0 w : World) (p f d q v c : Nat) (S : Sf) (D : Nat → Nat) (h : Bo W0 w p f d q v S S D D) (hg : Gof c S) (hc : c ≤ 100000) (P : Int) (V : Bool) (n fd : Int) :
    Calls Try.prog 11 #[.pointer (some ⟨p, 0, none⟩), .agg #[.int .i64 2, .int .i64 P, .bool V, .int .i64 n, .int .i64 fd]] w (Did W0 p (c + 1) w) := by
  have hx := Dz.new h ⟨2, P, V, n, fd⟩
  generalize hwb : w.alloc (.cells #[.int .i64 (Opr.kind ⟨2, P, V, n, fd⟩), .int .i64 (Opr.P ⟨2, P, V, n, fd⟩), .bool (Opr.V ⟨2, P, V, n, fd⟩), .int .i64 (Opr.n ⟨2, P, V, n, fd⟩), .int .i64 (Opr.fd ⟨2, P, V, n, fd⟩)] 28) = wb at hx
  dsimp only at hwb
  have c00 := hx.cl.x0
  dsimp only at c00
  have hf : Few S := Jo.Gof.few9 hg (by omega)
  have HG : Hid (Gof (c + 1) (dS S n)) := Lib.hid ((hg.drop n).mono (Nat.le_succ _))
  have hwf := dP_wf hg n
  have HS := Lib.hid (fun W => run_same (dP S n) (dV S n) hwf W)
  have HO := Lib.hid (fun W (hh : Dz w W0 W p f d q v w.heap.size ⟨2, P, V, n, fd⟩ S S D D) => (drop_any W f S hh.bo.fl hf n).mono fun e w' ⟨h1, h2, h3⟩ => (⟨h1, h2, hh.onF h2 h3⟩ : _ ∧ Kp (fun j => j = f) W w' ∧ Dz w W0 w' p f d q v w.heap.size ⟨2, P, V, n, fd⟩ (dS S n) S D D))
  have HR := Lib.hid (fun W (hh : Dz w W0 W p f d q v w.heap.size ⟨2, P, V, n, fd⟩ (dS S n) S D D) => (rdrop_any W q S hh.bo.rf hf n).mono fun e w' ⟨h1, h2, h3⟩ => (⟨h1, h2, hh.onQ h2 h3⟩ : _ ∧ Kp (fun j => j = q) W w' ∧ Dz w W0 w' p f d q v w.heap.size ⟨2, P, V, n, fd⟩ (dS S n) (dS S n) D D))
  have HX := Lib.hid hx
  have HZ := Lib.hid (fun W => (Below.refl W.heap.size W).alloc (Nat.le_refl _) (.cells #[.int .i64 0, .bool false] 26))
  have hX1 := Lib.hid (HX.out.drew)
  have hX2 := Lib.hid ((HX.out.below (HZ.out _)).drew)
  have hZ2 := Lib.hid ((Blk.new wb #[.int .i64 0, .bool false] 26).below ((Below.refl _ _).drew))
  have C0 := Lib.hid hX1.out.cl
  have C0a := Lib.hid hX2.out.cl
  have HOA := Lib.hid (HO.out _ hX1.out)
  have HOB := Lib.hid (HO.out _ hX2.out)
  generalize dS S n = T at *
  generalize dN S n = a0 at *
  generalize dP S n = a1 at *
  generalize dV S n = a2 at *
  generalize sE S n = a3 at *
  clear h hx hg hc hf hwf
  go_enter Try.func11, Try.ntmps11
  go_wp2
  go_cut [10, 11, 12] (fun s1 s2 s3 wx => ∃ g : Nat, s1 = .int .i64 a0 ∧ s2 = .pointer (some ⟨g, 0, none⟩) ∧ s3 = .int .i64 a3 ∧ Blk wx g #[.int .i64 a1, .bool a2] 26 ∧ Dz w W0 wx p f d q v w.heap.size ⟨2, P, V, n, fd⟩ T S D D)
  case first =>
    go_region_held (fun W => W.cell? ⟨p, 0, none⟩ = some (.pointer (some ⟨f, 0, none⟩)) ∧ W.cell? ⟨w.heap.size, 3, none⟩ = some (.int .i64 n)) (first | exact ⟨CE.out.p0, CE.out.x3⟩ | exact ⟨C1a.out.p0, C1a.out.x3⟩ | exact ⟨C1.out.p0, C1.out.x3⟩ | exact ⟨C0a.out.p0, C0a.out.x3⟩ | exact ⟨C0.out.p0, C0.out.x3⟩)
      (first
        | (go_at_call 26; (with_reducible refine HOA.out.mono ?_); rintro e w1 ⟨rfl, k1, X1⟩; have C1 := Lib.hid X1.cl; obtain ⟨W2, hst, hbk, X2, q5, -⟩ := aft_A X1 a1 a2; have C1a := Lib.hid q5; have XE := Lib.hid X2; have CE := Lib.hid X2.cl; have BE := Lib.hid hbk; clear hbk X2 q5 k1 X1)
        | (go_at_call 26; (with_reducible refine HOB.out.mono ?_); rintro e w1 ⟨rfl, k1, X1⟩; have C1 := Lib.hid X1.cl; have C1a := C1; obtain ⟨W2, hst, hbk, X2, -⟩ := aft_B X1 (hZ2.out.kept k1 (kF hX2.out.bo.fl k1 hZ2.out (by decide))) (by have := hX1.out.bo.bel.size; exact this) a1 a2; have XE := Lib.hid X2; have CE := Lib.hid X2.cl; have BE := Lib.hid hbk; clear hbk X2 k1 X1))
    all_goals go_wp2_with fail
    all_goals go_meet
    all_goals exact ⟨_, rfl, rfl, rfl, BE.out, XE.out⟩
  case rest =>
    obtain ⟨g, rfl, rfl, rfl, hbk, hdx⟩ := hcut
    obtain ⟨w3, hwc⟩ : ∃ u, u = wc := ⟨_, rfl⟩
    subst hwc
    clear HX hX1 hX2 hZ2 C0 C0a HOA HOB HO c00 hwb
    have hX1 := Lib.hid hdx.drew
    have hX2 := Lib.hid ((hdx.below (HZ.out _)).drew)
    have hZ2 := Lib.hid ((Blk.new w3 #[.int .i64 0, .bool false] 26).below ((Below.refl _ _).drew))
    have C0 := Lib.hid hX1.out.cl
    have C0a := Lib.hid hX2.out.cl
    have HRA := Lib.hid (HR.out _ hX1.out)
    have HRB := Lib.hid (HR.out _ hX2.out)
    have hG1 := Lib.hid (hbk.below ((Below.refl w3.heap.size w3).drew))
    have hG2 := Lib.hid ((hbk.below (HZ.out _)).below ((Below.refl _ _).drew))
    have hGl := hbk.lt
    clear HR hbk hdx
    go_wp2
    go_cut [13, 14, 15] (fun s1 s2 s3 wx => ∃ g2 : Nat, s1 = .int .i64 a0 ∧ s2 = .pointer (some ⟨g2, 0, none⟩) ∧ s3 = .int .i64 a3 ∧ Blk wx g #[.int .i64 a1, .bool a2] 26 ∧ Blk wx g2 #[.int .i64 a1, .bool a2] 26 ∧ Dz w W0 wx p f d q v w.heap.size ⟨2, P, V, n, fd⟩ T T D D)
    case first =>
      go_region_held (fun W => W.cell? ⟨p, 2, none⟩ = some (.pointer (some ⟨q, 0, none⟩)) ∧ W.cell? ⟨w.heap.size, 3, none⟩ = some (.int .i64 n)) (first | exact ⟨CE.out.p2, CE.out.x3⟩ | exact ⟨C1a.out.p2, C1a.out.x3⟩ | exact ⟨C1.out.p2, C1.out.x3⟩ | exact ⟨C0a.out.p2, C0a.out.x3⟩ | exact ⟨C0.out.p2, C0.out.x3⟩)
        (first
          | (go_at_call 37; (with_reducible refine HRA.out.mono ?_); rintro e w1 ⟨rfl, k1, X1⟩; have C1 := Lib.hid X1.cl; have G1 := hG1.out.kept k1 (kQ hX1.out.bo.rf hG1.out (by decide)); obtain ⟨W2, hst, hbk, X2, q5, q6⟩ := aft_A X1 a1 a2; have C1a := Lib.hid q5; have XE := Lib.hid X2; have CE := Lib.hid X2.cl; have BE := Lib.hid (And.intro (q6 _ _ _ G1) hbk); clear hbk X2 q5 q6 k1 X1 G1)
          | (go_at_call 37; (with_reducible refine HRB.out.mono ?_); rintro e w1 ⟨rfl, k1, X1⟩; have C1 := Lib.hid X1.cl; have C1a := C1; have G1 := hG2.out.kept k1 (kQ hX2.out.bo.rf hG2.out (by decide)); obtain ⟨W2, hst, hbk, X2, q6⟩ := aft_B X1 (hZ2.out.kept k1 (kQ hX2.out.bo.rf hZ2.out (by decide))) (by have := hX1.out.bo.bel.size; exact this) a1 a2; have XE := Lib.hid X2; have CE := Lib.hid X2.cl; have BE := Lib.hid (And.intro (q6 _ _ _ (Nat.ne_of_lt hGl) G1) hbk); clear hbk X2 q6 k1 X1 G1))
      all_goals go_wp2_with fail
      all_goals go_meet
      all_goals exact ⟨_, rfl, rfl, rfl, BE.out.1, BE.out.2, XE.out⟩
    case rest =>
      obtain ⟨g2, rfl, rfl, rfl, hb1, hb2, hdx⟩ := hcut
      obtain ⟨w4, hwc⟩ : ∃ u, u = wc := ⟨_, rfl⟩
      subst hwc
      have y0 := hb1.cell 0
      have y1 := hb1.cell 1
      have z0 := hb2.cell 0
      have z1 := hb2.cell 1
      have hs := HS.out
      have HD := Lib.hid hdx.bo
      have HOk := Lib.hid hdx.ok
      clear hX1 hX2 hZ2 C0 C0a HRA HRB hG1 hG2 hGl hb1 hb2 hdx HS
      go_wp2
      go_ret
      exact ⟨rfl, ⟨_, _, _, _, _, _, HD.out, HG.out⟩, HOk.out⟩
end Go.Proofs.Ytmdldehdlggpkaa.Ky
