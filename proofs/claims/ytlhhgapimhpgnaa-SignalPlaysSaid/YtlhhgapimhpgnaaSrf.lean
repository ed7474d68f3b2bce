/-
  SignalPlays' walk.
-/
import Derived.Test.YtlhhgapimhpgnaaSre
import Derived.Deep.DeepCutAuto
import Derived.Deep.CutBlock
import Derived.Deep.RegionLawGrows
namespace Go.Proofs.Ytlhhgapimhpgnaa.Walk
open Go Go.RowKit Kit Bk Sga Sgb Sgc Sgd Sgg Sgh Sgi Srd Sre
set_option linter.unusedVariables false
attribute [local go_sem ↓] lds_wrap sts_wrap eqv_wrap nev_wrap

/-- The law's two variables, alike. -/
structure P2 (w : World) (t : Sg) (w1 : World) : Prop where
  s : V w1 w.heap.size t
  t : V w1 (w.heap.size + 1) t
  d : Below w.heap.size w w1
theorem P2.below {w w1 w2 : World} {t : Sg} (h : P2 w t w1) (hb : Below w1.heap.size w1 w2) : P2 w t w2 := ⟨h.s.below hb, h.t.below hb, h.d.trans (hb.mono h.d.size)⟩
theorem P2.kept {w w1 w2 : World} {t : Sg} {X : Nat} (h : P2 w t w1) (hk : Kp (fun j => j = X) w1 w2) (hX : w.heap.size + 1 < X) : P2 w t w2 :=
  ⟨h.s.kept hk (by omega), h.t.kept hk (by omega), h.d.trans (hk.below h.d.size (fun j e => by have e : j = X := e; omega))⟩
/-- And the two answers of a call. -/
structure P4 (w : World) (t : Sg) (A B : Nat) (u : Sg) (w1 : World) : Prop where
  p : P2 w t w1
  a : V w1 A u
  b : V w1 B u
  nA : w.heap.size + 1 < A
  nB : w.heap.size + 1 < B
  ne : A ≠ B
theorem P4.below {w w1 w2 : World} {t u : Sg} {A B : Nat} (h : P4 w t A B u w1) (hb : Below w1.heap.size w1 w2) : P4 w t A B u w2 := ⟨h.p.below hb, h.a.below hb, h.b.below hb, h.nA, h.nB, h.ne⟩
theorem P4.swap {w w1 : World} {t u : Sg} {A B : Nat} (h : P4 w t A B u w1) : P4 w t B A u w1 := ⟨h.p, h.b, h.a, h.nB, h.nA, h.ne.symm⟩
theorem P2.made {w w1 : World} {t : Sg} (h : P2 w t w1) (u : Sg) : ∃ w2, (stS (sp w1.heap.size) (cv u)).run Try.prog (w1.alloc (.cells zcs 25)) = .ok () w2 ∧ P2 w t w2 ∧ V w2 w1.heap.size u ∧ w2.heap.size = w1.heap.size + 1 ∧ w.heap.size + 1 < w1.heap.size ∧ Below w1.heap.size w1 w2 := by
  obtain ⟨w2, h1, h2, h3, h4⟩ := V.made w1 u
  exact ⟨w2, h1, h.below h3, h2, h4, h.t.lt, h3⟩
theorem P2.al {w w1 : World} {t : Sg} (h : P2 w t w1) : P2 w t (w1.alloc (.cells zcs 25)) := h.below ((Below.refl _ w1).alloc (Nat.le_refl _) _)
/-- Nothing was made ahead of the call. -/
theorem way0 {w w1 : World} {t : Sg} (h : P2 w t w1) (u : Sg) :
    ∃ wA wB wC wD wE wF, ((stS (sp w1.heap.size) (cv u)).run Try.prog (w1.alloc (.cells zcs 25)) = .ok () wA ∧ (stS (sp wA.heap.size) (cv u)).run Try.prog (wA.alloc (.cells zcs 25)) = .ok () wB)
      ∧ ((stS (sp w1.heap.size) (cv u)).run Try.prog ((w1.alloc (.cells zcs 25)).alloc (.cells zcs 25)) = .ok () wC ∧ (stS (sp (w1.heap.size + 1)) (cv u)).run Try.prog wC = .ok () wD)
      ∧ ((stS (sp (w1.heap.size + 1)) (cv u)).run Try.prog ((w1.alloc (.cells zcs 25)).alloc (.cells zcs 25)) = .ok () wE ∧ (stS (sp w1.heap.size) (cv u)).run Try.prog wE = .ok () wF)
      ∧ P4 w t w1.heap.size wA.heap.size u wB ∧ P4 w t w1.heap.size (w1.heap.size + 1) u wD ∧ P4 w t w1.heap.size (w1.heap.size + 1) u wF ∧ P2 w t wA ∧ P2 w t wC ∧ P2 w t wE := by
  obtain ⟨wA, a1, a2, a3, a4, a5, a6⟩ := h.made u
  obtain ⟨wB, b1, b2, b3, b4, b5, b6⟩ := a2.made u
  have m1 := (Below.refl _ w1).alloc (Nat.le_refl _) (.cells zcs 25)
  have m2 := (Below.refl _ (w1.alloc (.cells zcs 25))).alloc (Nat.le_refl _) (.cells zcs 25)
  have hp := (h.below m1).below m2
  have k1 := (V.zero w1).below m2
  have k2 := V.zero (w1.alloc (.cells zcs 25))
  rw [World.size_alloc] at k2
  obtain ⟨wC, c1, c2, c3, c4⟩ := k1.st u
  obtain ⟨wD, d1, d2, d3, d4⟩ := (k2.kept c3 (by omega)).st u
  obtain ⟨wE, e1, e2, e3, e4⟩ := k2.st u
  obtain ⟨wF, f1, f2, f3, f4⟩ := (k1.kept e3 (by omega)).st u
  exact ⟨wA, wB, wC, wD, wE, wF, ⟨a1, b1⟩, ⟨c1, d1⟩, ⟨e1, f1⟩, ⟨b2, a3.below b6, b3, a5, by omega, by omega⟩,
    ⟨(hp.kept c3 (by omega)).kept d3 (by omega), c2.kept d3 (by omega), d2, a5, by omega, by omega⟩,
    ⟨(hp.kept e3 (by omega)).kept f3 (by omega), f2, e2.kept f3 (by omega), a5, by omega, by omega⟩, a2, hp.kept c3 (by omega), hp.kept e3 (by omega)⟩
/-- One was made ahead of the call, at X. -/
theorem way1 {w w1 : World} {t z : Sg} {X : Nat} (h : P2 w t w1) (hX : V w1 X z) (nX : w.heap.size + 1 < X) (u : Sg) :
    ∃ wG wH wI wJ wK wL, ((stS (sp X) (cv u)).run Try.prog w1 = .ok () wG ∧ (stS (sp wG.heap.size) (cv u)).run Try.prog (wG.alloc (.cells zcs 25)) = .ok () wH)
      ∧ ((stS (sp X) (cv u)).run Try.prog (w1.alloc (.cells zcs 25)) = .ok () wI ∧ (stS (sp w1.heap.size) (cv u)).run Try.prog wI = .ok () wJ)
      ∧ ((stS (sp w1.heap.size) (cv u)).run Try.prog (w1.alloc (.cells zcs 25)) = .ok () wK ∧ (stS (sp X) (cv u)).run Try.prog wK = .ok () wL)
      ∧ P4 w t X wG.heap.size u wH ∧ P4 w t X w1.heap.size u wJ ∧ P4 w t X w1.heap.size u wL ∧ P2 w t wG ∧ P2 w t wI ∧ P2 w t wK := by
  have m1 := (Below.refl _ w1).alloc (Nat.le_refl _) (.cells zcs 25)
  have hl := hX.lt
  obtain ⟨wG, a1, a2, a3, a4⟩ := hX.st u
  obtain ⟨wH, b1, b2, b3, b4, b5, b6⟩ := (h.kept a3 nX).made u
  obtain ⟨wI, c1, c2, c3, c4⟩ := (hX.below m1).st u
  obtain ⟨wJ, d1, d2, d3, d4⟩ := ((V.zero w1).kept c3 (by omega)).st u
  obtain ⟨wK, e1, e2, e3, e4, e5, e6⟩ := h.made u
  obtain ⟨wL, f1, f2, f3, f4⟩ := (hX.below e6).st u
  exact ⟨wG, wH, wI, wJ, wK, wL, ⟨a1, b1⟩, ⟨c1, d1⟩, ⟨e1, f1⟩, ⟨b2, a2.below b6, b3, nX, by omega, by omega⟩,
    ⟨((h.below m1).kept c3 nX).kept d3 e5, c2.kept d3 (by omega), d2, nX, e5, by omega⟩,
    ⟨e2.kept f3 nX, f2, e3.kept f3 (by omega), nX, e5, by omega⟩, h.kept a3 nX, (h.below m1).kept c3 nX, e2⟩
/-- Both were made ahead of the call, at X and Y. -/
theorem way2 {w w1 : World} {t z z' : Sg} {X Y : Nat} (h : P2 w t w1) (hX : V w1 X z) (hY : V w1 Y z') (nX : w.heap.size + 1 < X) (nY : w.heap.size + 1 < Y) (ne : X ≠ Y) (u : Sg) :
    ∃ wM wN wO wQ, ((stS (sp X) (cv u)).run Try.prog w1 = .ok () wM ∧ (stS (sp Y) (cv u)).run Try.prog wM = .ok () wN)
      ∧ ((stS (sp Y) (cv u)).run Try.prog w1 = .ok () wO ∧ (stS (sp X) (cv u)).run Try.prog wO = .ok () wQ)
      ∧ P4 w t X Y u wN ∧ P4 w t X Y u wQ ∧ P2 w t wM ∧ P2 w t wO := by
  obtain ⟨wM, a1, a2, a3, a4⟩ := hX.st u
  obtain ⟨wN, b1, b2, b3, b4⟩ := (hY.kept a3 (fun e => ne e.symm)).st u
  obtain ⟨wO, c1, c2, c3, c4⟩ := hY.st u
  obtain ⟨wQ, d1, d2, d3, d4⟩ := (hX.kept c3 (fun e => ne e)).st u
  exact ⟨wM, wN, wO, wQ, ⟨a1, b1⟩, ⟨c1, d1⟩, ⟨(h.kept a3 nX).kept b3 nY, a2.kept b3 (fun e => ne e), b2, nX, nY, ne⟩, ⟨(h.kept c3 nY).kept d3 nX, d2, c2.kept d3 (fun e => ne e.symm), nX, nY, ne⟩, h.kept a3 nX, h.kept c3 nY⟩
/-- The round's last statement: both variables take the answers, in whichever order. -/
theorem P4.fin {w w1 : World} {t u : Sg} {A B : Nat} (h : P4 w t A B u w1) :
    ((ldS (sp A)).run Try.prog w1 = .ok (cv u) w1 ∧ (ldS (sp B)).run Try.prog w1 = .ok (cv u) w1) ∧ ∃ wA wB wC wD,
      ((stS (sp w.heap.size) (cv u)).run Try.prog w1 = .ok () wA ∧ (ldS (sp B)).run Try.prog wA = .ok (cv u) wA ∧ (stS (sp (w.heap.size + 1)) (cv u)).run Try.prog wA = .ok () wC) ∧
      ((stS (sp (w.heap.size + 1)) (cv u)).run Try.prog w1 = .ok () wB ∧ (ldS (sp A)).run Try.prog wB = .ok (cv u) wB ∧ (stS (sp w.heap.size) (cv u)).run Try.prog wB = .ok () wD) ∧
      P2 w u wC ∧ P2 w u wD := by
  have nA := h.nA
  have nB := h.nB
  obtain ⟨wA, a1, a2, a3, a4⟩ := h.p.s.st u
  obtain ⟨wC, c1, c2, c3, c4⟩ := (h.p.t.kept a3 (by omega)).st u
  obtain ⟨wB, b1, b2, b3, b4⟩ := h.p.t.st u
  obtain ⟨wD, d1, d2, d3, d4⟩ := (h.p.s.kept b3 (by omega)).st u
  have e1 := h.p.d.trans (a3.below h.p.d.size (fun j e => by have e : j = w.heap.size := e; omega))
  have e2 := h.p.d.trans (b3.below h.p.d.size (fun j e => by have e : j = w.heap.size + 1 := e; omega))
  exact ⟨⟨h.a.ld, h.b.ld⟩, wA, wB, wC, wD, ⟨a1, (h.b.kept a3 (by omega)).ld, c1⟩, ⟨b1, (h.a.kept b3 (by omega)).ld, d1⟩,
    ⟨a2.kept c3 (by omega), c2, e1.trans (c3.below e1.size (fun j e => by have e : j = w.heap.size + 1 := e; omega))⟩,
    ⟨d2, b2.kept d3 (by omega), e2.trans (d3.below e2.size (fun j e => by have e : j = w.heap.size := e; omega))⟩⟩

set_option maxRecDepth 100000 in
set_option maxHeartbeats 8000000 in
theorem plays_yes (s : Sg) (v : Value) (l : List Opr) (w : World) (hs : s.Ok) (hl : OpsAt w v l) (hlen : l.length ≤ 200) :
    Calls Try.prog 3 #[cv s, v] w fun e w' => e = .returned (.bool true) ∧ Below w.heap.size w w' := by
  obtain ⟨v0, d0⟩ := one_box w s
  have l0 := v0.ld
  obtain ⟨w1, h1, v1, d1, s1⟩ := V.made (w.alloc (.cells (cs s) 25)) s
  rw [World.size_alloc] at h1 v1
  have p1 : P2 w s w1 := ⟨v0.below d1, v1, d0.trans (d1.mono d0.size)⟩
  obtain ⟨a, c, rfl, hc1, hc2, hl4⟩ := hl
  have H4 := Lib.hid hl4
  have HP1 := Lib.hid p1
  have HS := Lib.hid hs
  have hlI : (l.length : Int) ≤ 200 := by omega
  have hld : decide (200 < l.length) = false := decide_eq_false (by omega)
  clear hc1 hc2 hl4 v0 d0 v1 d1 s1 p1 hs hlen
  go_enter Try.func3, Try.ntmps3
  go_wp2
  go_loopw [20] (fun i wr => ∃ (j : Nat) (t : Sg), j ≤ l.length ∧ i = .int .i64 (j : Int) ∧ t.Ok ∧ P2 w t wr) (fun i _ => l.length - (intOf i).toNat)
  case atStart => exact ⟨0, s, Nat.zero_le _, rfl, HS.out, HP1.out⟩
  case round =>
    obtain ⟨j, t, hj, rfl, ht, hp⟩ := hrel
    by_cases hlt : j < l.length
    · have hltI : (j : Int) < (l.length : Int) := by omega
      clear hj
      rcases H4.out with h0 | ⟨bb, off, rfl, hbb, hcl⟩
      · rw [h0] at hlt; cases hlt
      obtain ⟨⟨y0, y1, y2⟩, o1, o2⟩ := hcl j hlt
      obtain ⟨k, hk⟩ : ∃ k, l[j].kind = k := ⟨_, rfl⟩
      obtain ⟨n, hn⟩ : ∃ n, l[j].n = n := ⟨_, rfl⟩
      obtain ⟨x, hx⟩ : ∃ x, l[j].at0 = x := ⟨_, rfl⟩
      rw [hk] at y0
      rw [hn] at y1
      rw [hx] at y2 o2
      have HY : Hid (∀ W, Below w.heap.size w W → W.cell? ⟨bb, off + j * 3, none⟩ = some (.int .i64 k) ∧ W.cell? ⟨bb, off + j * 3 + 1, none⟩ = some (.int .i64 n) ∧ W.cell? ⟨bb, off + j * 3 + 2, none⟩ = some (uv x)) := Lib.hid (fun W hb => ⟨(hb.cell (p := ⟨bb, off + j * 3, none⟩) hbb).trans y0, (hb.cell (p := ⟨bb, off + j * 3 + 1, none⟩) hbb).trans y1, (hb.cell (p := ⟨bb, off + j * 3 + 2, none⟩) hbb).trans y2⟩)
      have HD : Hid (∀ w, Calls Try.prog 10 #[cv t, cv t, .agg #[.int .i64 k, .int .i64 n, uv x]] w fun e w' => e = .returned (.tuple #[cv (dS k n x t), cv (dS k n x t), .bool true]) ∧ Below w.heap.size w w') := Lib.hid (fun w => do_any w t ht k n x o2)
      have hu := dS_ok ht k n o2
      have HX := Lib.hid o2
      have HP := Lib.hid hp
      clear y0 y1 y2 o1 o2 hk hn hx hcl hp ht
      generalize dS k n x t = u at *
      have HU := Lib.hid hu
      clear hu
      go_wp2_with fail
      go_cut [7, 8, 9] (fun sa sb f wx => ∃ A B : Nat, sa = .pointer (some ⟨A, 0, none⟩) ∧ sb = .pointer (some ⟨B, 0, none⟩) ∧ f = .bool true ∧ P4 w t A B u wx)
      case first =>
        have m0 := (Below.refl wr.heap.size wr).drew
        have m1 := ((Below.refl wr.heap.size wr).alloc (Nat.le_refl _) (.cells zcs 25)).drew
        have n1 := (Below.refl wr.heap.size wr).alloc (Nat.le_refl _) (.cells zcs 25)
        have n2 := (Below.refl (wr.alloc (.cells zcs 25)).heap.size (wr.alloc (.cells zcs 25))).alloc (Nat.le_refl _) (.cells zcs 25)
        have p0 := HP.out.below m0
        have p1 := HP.out.below m1
        have p2 := ((HP.out.below n1).below n2).below (Below.refl _ _).drew
        obtain ⟨y0, y1, y2⟩ := HY.out _ p0.d
        obtain ⟨y3, y4, y5⟩ := HY.out _ p1.d
        obtain ⟨y6, y7, y8⟩ := HY.out _ p2.d
        have l1 := p0.s.ld
        have l2 := p0.t.ld
        have l3 := p1.s.ld
        have l4 := p1.t.ld
        have l5 := p2.s.ld
        have l6 := p2.t.ld
        have x0 := (V.zero wr).below (Below.refl _ _).drew
        have x1 := ((V.zero wr).below n2).below (Below.refl _ _).drew
        have x2 := (V.zero (wr.alloc (.cells zcs 25))).below (Below.refl _ _).drew
        rw [World.size_alloc] at x2
        have HW := Lib.hid (And.intro p0 (And.intro p1 (And.intro p2 (And.intro x0 (And.intro x1 x2)))))
        have hwl := p0.t.lt
        have hwl' : w.heap.size + 1 < wr.heap.size := hwl
        have HWL := Lib.hid hwl'
        clear m0 m1 n1 n2 p0 p1 p2 x0 x1 x2 hwl hwl'
        have HK : Hid (∀ X, P2 w t X → (ldS (sp w.heap.size)).run Try.prog X = .ok (cv t) X ∧ (ldS (sp (w.heap.size + 1))).run Try.prog X = .ok (cv t) X ∧ X.cell? ⟨bb, off + j * 3, none⟩ = some (.int .i64 k) ∧ X.cell? ⟨bb, off + j * 3 + 1, none⟩ = some (.int .i64 n) ∧ X.cell? ⟨bb, off + j * 3 + 2, none⟩ = some (uv x)) := Lib.hid (fun X hX => by
          obtain ⟨c1, c2, c3⟩ := HY.out _ hX.d
          exact ⟨hX.s.ld, hX.t.ld, c1, c2, c3⟩)
        clear y3 y4 y5 y6 y7 y8 l3 l4 l5 l6
        go_region_held (fun X => (ldS (sp w.heap.size)).run Try.prog X = .ok (cv t) X ∧ (ldS (sp (w.heap.size + 1))).run Try.prog X = .ok (cv t) X ∧ X.cell? ⟨bb, off + j * 3, none⟩ = some (.int .i64 k) ∧ X.cell? ⟨bb, off + j * 3 + 1, none⟩ = some (.int .i64 n) ∧ X.cell? ⟨bb, off + j * 3 + 2, none⟩ = some (uv x))
          (first | exact HK.out _ HW.out.1 | exact HK.out _ HW.out.2.1 | exact HK.out _ HW.out.2.2.1 | exact HK.out _ HM.out.1 | exact HK.out _ HM.out.1.al | exact HK.out _ HM.out.1.al.al | exact HK.out _ HM.out.2.1 | exact HK.out _ HM.out.2.1.al | exact HK.out _ HM.out.2.2.1 | exact HK.out _ HM.out.2.2.2 | exact HK.out _ HR.out.1.p | exact HK.out _ HR.out.2.1.p | exact HK.out _ HR.out.2.2.p)
          (first | (go_at_call 10; (with_reducible refine (HD.out _).mono ?_); rintro e w5 ⟨rfl, hb5⟩; first
          | (have q := HW.out.1.below hb5; obtain ⟨wA, wB, wC, wD, wE, wF, ⟨a1, a2⟩, ⟨a3, a4⟩, ⟨a5, a6⟩, a7, a8, a9, m1, m2, m3⟩ := way0 q u; have HR := Lib.hid (And.intro a7 (And.intro a8 a9)); have HM := Lib.hid (And.intro q (And.intro m1 (And.intro m2 m3))); clear q a7 a8 a9 m1 m2 m3 hb5)
          | (have q := HW.out.2.1.below hb5; obtain ⟨wA, wB, wC, wD, wE, wF, ⟨a1, a2⟩, ⟨a3, a4⟩, ⟨a5, a6⟩, a7, a8, a9, m1, m2, m3⟩ := way1 q (HW.out.2.2.2.1.below hb5) HWL.out u; have HR := Lib.hid (And.intro a7 (And.intro a8 a9)); have HM := Lib.hid (And.intro q (And.intro m1 (And.intro m2 m3))); clear q a7 a8 a9 m1 m2 m3 hb5)
          | (have q := HW.out.2.2.1.below hb5; obtain ⟨wA, wB, wC, wD, ⟨a1, a2⟩, ⟨a3, a4⟩, a7, a8, m1, m2⟩ := way2 q (HW.out.2.2.2.2.1.below hb5) (HW.out.2.2.2.2.2.below hb5) HWL.out (by have := HWL.out; omega) (by omega) u; have HR := Lib.hid (And.intro a7 (And.intro a8 a8)); have HM := Lib.hid (And.intro q (And.intro m1 (And.intro m2 m2))); clear q a7 a8 m1 m2 hb5)))
        all_goals go_wp2_with fail
        all_goals go_meet
        all_goals first
          | exact ⟨_, _, rfl, rfl, rfl, HR.out.1⟩
          | exact ⟨_, _, rfl, rfl, rfl, HR.out.1.swap⟩
          | exact ⟨_, _, rfl, rfl, rfl, HR.out.2.1⟩
          | exact ⟨_, _, rfl, rfl, rfl, HR.out.2.1.swap⟩
          | exact ⟨_, _, rfl, rfl, rfl, HR.out.2.2⟩
          | exact ⟨_, _, rfl, rfl, rfl, HR.out.2.2.swap⟩
      case rest =>
        obtain ⟨A, B, rfl, rfl, rfl, hT⟩ := hcut
        obtain ⟨w6, hwc⟩ : ∃ z, z = wc := ⟨_, rfl⟩
        subst hwc
        have lB := hT.b.ld
        have HN := Lib.hid (fun w => Src.rnext_any w u HU.out)
        have HWk := Lib.hid (fun w => wakes_any w u HU.out)
        have HCk := Lib.hid (fun w => check_any w u HU.out)
        have HMy := Lib.hid (fun w => Sra.may_any w u HU.out)
        have HLi := Lib.hid (fun w => Sgf.list_any w x HX.out)
        have HRl := Lib.hid (fun w => rlist_any w x HX.out)
        have hE : ∀ w, (neV (cv u) (cv u)).run Try.prog w = .ok (.bool false) w := fun w => by rw [run_neV HU.out HU.out w, eqS_self]; rfl
        have hN15 : nN u ≤ 15 := by
          have e : nN u = if may u then Sga.fst u 15 else 0 := rfl
          by_cases h : fst u 15 = 0
          · rw [e, h]; split <;> omega
          · have := (fst_some h).2.1
            rw [e]; split <;> omega
        have hwk : wk u = decide (0 < nN u) := by
          unfold wk isS
          by_cases h : 0 < nN u
          · rw [decide_eq_true h, decide_eq_true (by omega : (1 : Int) ≤ (nN u : Int)), decide_eq_true (by omega : (nN u : Int) ≤ 15)]; rfl
          · rw [decide_eq_false h, decide_eq_false (by omega : ¬ (1 : Int) ≤ (nN u : Int))]; rfl
        rw [hwk] at HWk
        have d2 : decide (0 < (nN u : Int)) = decide (0 < nN u) := decide_eq_decide.2 (by omega)
        obtain ⟨q, hq⟩ : ∃ q, decide (0 < nN u) = q := ⟨_, rfl⟩
        rw [hq] at HWk d2
        have hck : (ckE u == 0) = may u := by
          cases h : may u
          · rw [ckE_no h]; rfl
          · rw [ckE_yes h]; rfl
        have hcd : decide (ckE u = 0) = may u := by rw [← hck]; rfl
        have HT := Lib.hid hT
        clear hT hN15 hwk
        generalize nN u = N at *
        generalize nB u = K at *
        generalize nS u = r at *
        generalize ckE u = E at *
        generalize may u = M at *
        go_wp2_with (first | (go_at_call 11; (with_reducible refine (HN.out _).mono ?_); rintro e w7 ⟨rfl, hb7⟩; refine Hid.out ?_))
        refine Lib.hid ?_
        obtain ⟨w8, h8, v8, d8, s8⟩ := V.made w7 r
        have T8 := (HT.out.below hb7).below d8
        obtain ⟨y0, y1, y2⟩ := HY.out _ T8.p.d
        have HT8 := Lib.hid T8
        clear v8 d8 s8 hb7 T8 y0 y1 lB HN HT
        go_wp2_with (first | (go_at_call 12; (with_reducible refine (HLi.out _).mono ?_); rintro e w9 ⟨hb9, va, rfl, ho9⟩; refine Hid.out ?_))
        refine Lib.hid ?_
        have T9 := HT8.out.below hb9
        have S9 := own_ints ho9
        have HT9 := Lib.hid T9
        have HS9 := Lib.hid S9
        have HK : Hid (∀ X, Below w9.heap.size w9 X → (ldS (sp A)).run Try.prog X = .ok (cv u) X ∧ (ldS (sp B)).run Try.prog X = .ok (cv u) X ∧ X.cell? ⟨bb, off + j * 3 + 2, none⟩ = some (uv x)) := Lib.hid (fun X hb => by
          have hX := HT9.out.below hb
          exact ⟨hX.a.ld, hX.b.ld, (HY.out _ hX.p.d).2.2⟩)
        have HSm := Lib.hid (fun W v (hb : Below w9.heap.size w9 W) (hv : Slc .i64 W v (sgs x 15)) => same_any va v (sgs x 15) W (HS9.out.below hb) hv)
        clear T9 S9 hb9 ho9 y2 HLi HT8 h8
        have B0 := Lib.hid ((Below.refl w9.heap.size w9).drew)
        generalize sgs x 15 = ll at *
        go_wp2_with fail
        go_region_held (fun X => (ldS (sp A)).run Try.prog X = .ok (cv u) X ∧ (ldS (sp B)).run Try.prog X = .ok (cv u) X ∧ X.cell? ⟨bb, off + j * 3 + 2, none⟩ = some (uv x))
          (first | exact HK.out _ B14.out | exact HK.out _ B13.out | exact HK.out _ B12.out | exact HK.out _ B11.out | exact HK.out _ B10.out | exact HK.out _ B0.out)
          (first
            | (go_at_call 13; (with_reducible refine (HWk.out _).mono ?_); rintro e w10 ⟨rfl, hb⟩; have B10 := Lib.hid (B0.out.trans (hb.mono B0.out.size)); clear hb)
            | (go_at_call 14; (with_reducible refine (HCk.out _).mono ?_); rintro e w11 ⟨rfl, hb⟩; have B11 := Lib.hid (B10.out.trans (hb.mono B10.out.size)); clear hb)
            | (go_at_call 15; (with_reducible refine (HMy.out _).mono ?_); rintro e w12 ⟨rfl, hb⟩; have B12 := Lib.hid (B11.out.trans (hb.mono B11.out.size)); clear hb)
            | (go_at_call 17; (with_reducible refine (HRl.out _).mono ?_); rintro e w13 ⟨hb, vb, rfl, ho⟩; have B13 := Lib.hid (B12.out.trans (hb.mono B12.out.size)); have HO := Lib.hid (own_ints ho); clear hb ho)
            | (go_at_call 16; (with_reducible refine (HSm.out _ _ B13.out HO.out).mono ?_); rintro e w14 ⟨rfl, hb⟩; have B14 := Lib.hid (B13.out.trans (hb.mono B13.out.size)); clear hb))
        all_goals
          go_wp2_with fail
          have T14 := (HT9.out.below B14.out).below (Below.refl _ _).drew
          obtain ⟨⟨la, lb⟩, wA, wB, wC, wD, ⟨a1, a2, a3⟩, ⟨b1, b2, b3⟩, DC, DD⟩ := T14.fin
          have HDC := Lib.hid DC
          have HDD := Lib.hid DD
          clear T14 DC DD
          go_region
        all_goals go_wp2
        all_goals go_roundw
        all_goals first
          | exact ⟨j + 1, u, by omega, by go_num, HU.out, HDC.out⟩
          | exact ⟨j + 1, u, by omega, by go_num, HU.out, HDD.out⟩
          | (simp [intOf]; omega)
    · obtain rfl : j = l.length := by omega
      have HP := Lib.hid hp.d
      clear hp H4
      go_wp2
      go_ret
      exact ⟨rfl, HP.out⟩
set_option maxRecDepth 100000 in
theorem plays_no (s : Sg) (v : Value) (l : List Opr) (w : World) (hl : OpsAt w v l) (hlen : 200 < l.length) :
    Calls Try.prog 3 #[cv s, v] w fun e w' => e = .returned (.bool true) ∧ Below w.heap.size w w' := by
  obtain ⟨v0, d0⟩ := one_box w s
  obtain ⟨a, c, rfl, hc1, hc2, hl4⟩ := hl
  have hd : decide (200 < l.length) = true := decide_eq_true hlen
  have hd2 : decide ((200 : Int) < (l.length : Int)) = true := decide_eq_true (by omega)
  clear hc1 hc2 hl4 v0 hlen
  go_enter Try.func3, Try.ntmps3
  go_wp2
  go_ret
  exact ⟨rfl, d0⟩
theorem signalPlays (s : Sg) (v : Value) (l : List Opr) (w : World) (hs : s.Ok) (hl : OpsAt w v l) :
    Calls Try.prog 3 #[cv s, v] w fun e w' => e = .returned (.bool true) ∧ Below w.heap.size w w' := by
  by_cases h : l.length ≤ 200
  · exact plays_yes s v l w hs hl h
  · exact plays_no s v l w hl (by omega)
end Go.Proofs.Ytlhhgapimhpgnaa.Walk
