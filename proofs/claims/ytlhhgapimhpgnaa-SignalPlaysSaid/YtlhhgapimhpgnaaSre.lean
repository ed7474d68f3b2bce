/-
  SignalPlays' do: a call of both.
-/
import Derived.Test.YtlhhgapimhpgnaaSrd
namespace Go.Proofs.Ytlhhgapimhpgnaa.Sre
open Go Go.RowKit Kit Bk Sga Sgb Sgc Sgd Sgg Sgh Srb Src Srd
set_option linter.unusedVariables false
attribute [local go_sem ↓] lds_wrap sts_wrap eqv_wrap nev_wrap

/-- What lies there while a call is asked: both signals, the call's cells, the two answers. -/
structure Dn (w : World) (s t : Sg) (k n : Int) (at0 : Nat) (a b : Sg) (w1 : World) : Prop where
  s : V w1 w.heap.size s
  t : V w1 (w.heap.size + 1) t
  k : w1.cell? ⟨w.heap.size + 1 + 1, 0, none⟩ = some (.int .i64 k)
  n : w1.cell? ⟨w.heap.size + 1 + 1, 1, none⟩ = some (.int .i64 n)
  x : w1.cell? ⟨w.heap.size + 1 + 1, 2, none⟩ = some (uv at0)
  a : V w1 (w.heap.size + 1 + 1 + 1) a
  b : V w1 (w.heap.size + 1 + 1 + 1 + 1) b
  d : Below w.heap.size w w1
def ob (k n : Int) (at0 : Nat) : Array Value := #[.int .i64 k, .int .i64 n, uv at0]
/-- The world in which do begins. -/
def w0 (w : World) (s t : Sg) (k n : Int) (at0 : Nat) : World := ((((w.alloc (.cells (cs s) 25)).alloc (.cells (cs t) 25)).alloc (.cells (ob k n at0) 30)).alloc (.cells zcs 25)).alloc (.cells zcs 25)
theorem Dn.below {w w1 w2 : World} {s t : Sg} {k n : Int} {at0 : Nat} {a b : Sg} (h : Dn w s t k n at0 a b w1) (hb : Below w1.heap.size w1 w2) : Dn w s t k n at0 a b w2 :=
  have h4 := h.b.lt
  ⟨h.s.below hb, h.t.below hb, (hb.cell (p := ⟨w.heap.size + 1 + 1, 0, none⟩) (by show w.heap.size + 1 + 1 < _; omega)).trans h.k, (hb.cell (p := ⟨w.heap.size + 1 + 1, 1, none⟩) (by show w.heap.size + 1 + 1 < _; omega)).trans h.n, (hb.cell (p := ⟨w.heap.size + 1 + 1, 2, none⟩) (by show w.heap.size + 1 + 1 < _; omega)).trans h.x, h.a.below hb, h.b.below hb, h.d.trans (hb.mono h.d.size)⟩
theorem dn0 (w : World) (s t : Sg) (k n : Int) (at0 : Nat) : Dn w s t k n at0 z0 z0 (w0 w s t k n at0) := by
  obtain ⟨w1, h1⟩ : ∃ w1, w.alloc (.cells (cs s) 25) = w1 := ⟨_, rfl⟩
  obtain ⟨w2, h2⟩ : ∃ w2, w1.alloc (.cells (cs t) 25) = w2 := ⟨_, rfl⟩
  obtain ⟨w3, h3⟩ : ∃ w3, w2.alloc (.cells (ob k n at0) 30) = w3 := ⟨_, rfl⟩
  obtain ⟨w4, h4⟩ : ∃ w4, w3.alloc (.cells zcs 25) = w4 := ⟨_, rfl⟩
  obtain ⟨w5, h5⟩ : ∃ w5, w4.alloc (.cells zcs 25) = w5 := ⟨_, rfl⟩
  have e1 : w1.heap.size = w.heap.size + 1 := by rw [← h1, World.size_alloc]
  have e2 : w2.heap.size = w.heap.size + 1 + 1 := by rw [← h2, World.size_alloc, e1]
  have e3 : w3.heap.size = w.heap.size + 1 + 1 + 1 := by rw [← h3, World.size_alloc, e2]
  have e4 : w4.heap.size = w.heap.size + 1 + 1 + 1 + 1 := by rw [← h4, World.size_alloc, e3]
  have b1 : Below w.heap.size w w1 := h1 ▸ (Below.refl _ w).alloc (Nat.le_refl _) _
  have b2 : Below w1.heap.size w1 w2 := h2 ▸ (Below.refl _ w1).alloc (Nat.le_refl _) _
  have b3 : Below w2.heap.size w2 w3 := h3 ▸ (Below.refl _ w2).alloc (Nat.le_refl _) _
  have b4 : Below w3.heap.size w3 w4 := h4 ▸ (Below.refl _ w3).alloc (Nat.le_refl _) _
  have b5 : Below w4.heap.size w4 w5 := h5 ▸ (Below.refl _ w4).alloc (Nat.le_refl _) _
  have v1 : V w1 w.heap.size s := h1 ▸ V.new w s
  have v2 : V w2 (w.heap.size + 1) t := by have := V.new w1 t; rw [h2, e1] at this; exact this
  have v3 : Blk w3 (w.heap.size + 1 + 1) (ob k n at0) 30 := by have := Blk.new w2 (ob k n at0) 30; rw [h3, e2] at this; exact this
  have v4 : V w4 (w.heap.size + 1 + 1 + 1) z0 := by have := V.zero w3; rw [h4, e3] at this; exact this
  have v5 : V w5 (w.heap.size + 1 + 1 + 1 + 1) z0 := by have := V.zero w4; rw [h5, e4] at this; exact this
  have hw : w0 w s t k n at0 = w5 := by unfold w0; rw [h1, h2, h3, h4, h5]
  have k3 := (Blk.below (Blk.below v3 b4) b5)
  rw [hw]
  exact ⟨(((v1.below b2).below b3).below b4).below b5, ((v2.below b3).below b4).below b5, k3.cell 0, k3.cell 1, k3.cell 2, v4.below b5, v5, (((b1.trans (b2.mono (by omega))).trans (b3.mono (by omega))).trans (b4.mono (by omega))).trans (b5.mono (by omega))⟩
theorem Dn.sta {w w1 : World} {s t : Sg} {k n : Int} {at0 : Nat} {a b : Sg} (h : Dn w s t k n at0 a b w1) (u : Sg) :
    ∃ w', (stS (sp (w.heap.size + 1 + 1 + 1)) (cv u)).run Try.prog w1 = .ok () w' ∧ Dn w s t k n at0 u b w' ∧ Kp (fun j => j = w.heap.size + 1 + 1 + 1) w1 w' := by
  obtain ⟨w', h1, h2, h3, h4⟩ := h.a.st u
  have hc : ∀ j, w'.cell? ⟨w.heap.size + 1 + 1, j, none⟩ = w1.cell? ⟨w.heap.size + 1 + 1, j, none⟩ := fun j => (h3.below (n := w.heap.size + 1 + 1 + 1) (by have := h.a.lt; omega) (fun j e => by omega)).cell (p := ⟨w.heap.size + 1 + 1, j, none⟩) (by show w.heap.size + 1 + 1 < _; omega)
  exact ⟨w', h1, ⟨h.s.kept h3 (by omega), h.t.kept h3 (by omega), (hc 0).trans h.k, (hc 1).trans h.n, (hc 2).trans h.x, h2, h.b.kept h3 (by omega), h.d.trans (h3.below h.d.size (fun j e => by omega))⟩, h3⟩
theorem Dn.stb {w w1 : World} {s t : Sg} {k n : Int} {at0 : Nat} {a b : Sg} (h : Dn w s t k n at0 a b w1) (u : Sg) :
    ∃ w', (stS (sp (w.heap.size + 1 + 1 + 1 + 1)) (cv u)).run Try.prog w1 = .ok () w' ∧ Dn w s t k n at0 a u w' ∧ Kp (fun j => j = w.heap.size + 1 + 1 + 1 + 1) w1 w' := by
  obtain ⟨w', h1, h2, h3, h4⟩ := h.b.st u
  have hc : ∀ j, w'.cell? ⟨w.heap.size + 1 + 1, j, none⟩ = w1.cell? ⟨w.heap.size + 1 + 1, j, none⟩ := fun j => (h3.below (n := w.heap.size + 1 + 1 + 1 + 1) (by have := h.b.lt; omega) (fun j e => by omega)).cell (p := ⟨w.heap.size + 1 + 1, j, none⟩) (by show w.heap.size + 1 + 1 < _; omega)
  exact ⟨w', h1, ⟨h.s.kept h3 (by omega), h.t.kept h3 (by omega), (hc 0).trans h.k, (hc 1).trans h.n, (hc 2).trans h.x, h.a.kept h3 (by omega), h2, h.d.trans (h3.below h.d.size (fun j e => by omega))⟩, h3⟩
/-- The last statement: two loads and two stores, in whichever order. -/
theorem Dn.fin {w w1 : World} {s t : Sg} {k n : Int} {at0 : Nat} {a b u v : Sg} {A B : Nat} (h : Dn w s t k n at0 a b w1) (hA : V w1 A u) (hB : V w1 B v) (nA : A ≠ w.heap.size + 1 + 1 + 1 + 1) (nB : B ≠ w.heap.size + 1 + 1 + 1) :
    ((ldS (sp A)).run Try.prog w1 = .ok (cv u) w1 ∧ (ldS (sp B)).run Try.prog w1 = .ok (cv v) w1) ∧ ∃ wA wB wC wD,
      ((stS (sp (w.heap.size + 1 + 1 + 1)) (cv u)).run Try.prog w1 = .ok () wA ∧ (ldS (sp B)).run Try.prog wA = .ok (cv v) wA ∧ (stS (sp (w.heap.size + 1 + 1 + 1 + 1)) (cv v)).run Try.prog wA = .ok () wC) ∧
      ((stS (sp (w.heap.size + 1 + 1 + 1 + 1)) (cv v)).run Try.prog w1 = .ok () wB ∧ (ldS (sp A)).run Try.prog wB = .ok (cv u) wB ∧ (stS (sp (w.heap.size + 1 + 1 + 1)) (cv u)).run Try.prog wB = .ok () wD) ∧
      Dn w s t k n at0 u v wC ∧ Dn w s t k n at0 u v wD := by
  obtain ⟨wA, a1, a2, a3⟩ := h.sta u
  obtain ⟨wC, c1, c2, c3⟩ := a2.stb v
  obtain ⟨wB, b1, b2, b3⟩ := h.stb v
  obtain ⟨wD, d1, d2, d3⟩ := b2.sta u
  exact ⟨⟨hA.ld, hB.ld⟩, wA, wB, wC, wD, ⟨a1, (hB.kept a3 nB).ld, c1⟩, ⟨b1, (hA.kept b3 nA).ld, d1⟩, c2, d2⟩
set_option maxRecDepth 100000 in
set_option maxHeartbeats 4000000 in
theorem do_0 (w : World) (s : Sg) (hs : s.Ok) (n : Int) (at0 : Nat) (hx : at0 < 4294967296) :
    Calls Try.prog 10 #[cv s, cv s, .agg (ob 0 n at0)] w fun e w' => e = .returned (.tuple #[cv (pS s n), cv (pS s n), .bool true]) ∧ Below w.heap.size w w' := by
  have D0 := Lib.hid (dn0 w s s 0 n at0)
  have l0 := D0.out.s.ld
  have HA := Lib.hid (fun w => post_any w s hs n)
  have HB := Lib.hid (fun w => rpost_any w s hs n)
  have k0 : (ob 0 n at0)[0]? = some (.int .i64 0) := rfl
  have n0 : (ob 0 n at0)[1]? = some (.int .i64 n) := rfl
  have x0 : (ob 0 n at0)[2]? = some (uv at0) := rfl
  unfold w0 at l0
  clear hs hx
  generalize pS s n = u at *
  generalize pE s n = e0 at *
  go_enter Try.func10, Try.ntmps10
  go_wp2_with (first | (go_at_call 22; (with_reducible refine (HA.out _).mono ?_); rintro e w1 ⟨rfl, hb1⟩; refine Hid.out ?_))
  refine Lib.hid ?_
  obtain ⟨w2, h2, va, d2, s2⟩ := V.made w1 u
  have D2 := (D0.out.below hb1).below d2
  have n2 := D2.n
  have x2 := D2.x
  have l2 := D2.t.ld
  have gA : w.heap.size + 1 + 1 + 1 + 1 < w1.heap.size := (D0.out.below hb1).b.lt
  have HD2 := Lib.hid (And.intro D2 (And.intro va gA))
  clear D2 va d2 s2 gA hb1 k0 n0 x0 l0 HA
  go_wp2_with (first | (go_at_call 26; (with_reducible refine (HB.out _).mono ?_); rintro e w3 ⟨rfl, hb3⟩; refine Hid.out ?_))
  refine Lib.hid ?_
  obtain ⟨w4, h4, vb, d4, s4⟩ := V.made w3 u
  have D4 := ((HD2.out.1.below hb3).below d4).below (Below.refl _ _).drew
  have va4 := ((HD2.out.2.1.below hb3).below d4).below (Below.refl _ _).drew
  have vb4 := vb.below (Below.refl _ _).drew
  have gA := HD2.out.2.2
  have gB : w.heap.size + 1 + 1 + 1 + 1 < w3.heap.size := (HD2.out.1.below hb3).b.lt
  obtain ⟨⟨la, lb⟩, wA, wB, wC, wD, ⟨a1, a2, a3⟩, ⟨b1, b2, b3⟩, DC, DD⟩ := D4.fin va4 vb4 (by omega) (by omega)
  have HDC := Lib.hid DC
  have HDD := Lib.hid DD
  clear D4 va4 vb4 gA gB DC DD HD2 n2 x2 l2 hb3 vb d4 s4 h2 HB
  go_wp2_with fail
  go_region
  all_goals go_wp2_with fail
  all_goals refine bodyPost_ret (v := .tuple #[cv u, cv u, .bool true]) ?_ rfl ⟨rfl, ?_⟩
  all_goals first | exact HDC.out.d | exact HDD.out.d | exact res_sst rfl _ _ (w.heap.size + 1 + 1 + 1) (w.heap.size + 1 + 1 + 1 + 1) u u _ rfl rfl rfl HDC.out.a HDC.out.b | exact res_sst rfl _ _ (w.heap.size + 1 + 1 + 1) (w.heap.size + 1 + 1 + 1 + 1) u u _ rfl rfl rfl HDD.out.a HDD.out.b
set_option maxRecDepth 100000 in
set_option maxHeartbeats 4000000 in
theorem do_1 (w : World) (s : Sg) (hs : s.Ok) (n : Int) (at0 : Nat) (hx : at0 < 4294967296) :
    Calls Try.prog 10 #[cv s, cv s, .agg (ob 1 n at0)] w fun e w' => e = .returned (.tuple #[cv (nS s), cv (nS s), .bool true]) ∧ Below w.heap.size w w' := by
  have D0 := Lib.hid (dn0 w s s 1 n at0)
  have l0 := D0.out.s.ld
  have HA := Lib.hid (fun w => next_any w s hs)
  have HB := Lib.hid (fun w => rnext_any w s hs)
  have k0 : (ob 1 n at0)[0]? = some (.int .i64 1) := rfl
  have n0 : (ob 1 n at0)[1]? = some (.int .i64 n) := rfl
  have x0 : (ob 1 n at0)[2]? = some (uv at0) := rfl
  unfold w0 at l0
  clear hs hx
  generalize nS s = u at *
  generalize nN s = e0 at *
  generalize nB s = e1 at *
  go_enter Try.func10, Try.ntmps10
  go_wp2_with (first | (go_at_call 19; (with_reducible refine (HA.out _).mono ?_); rintro e w1 ⟨rfl, hb1⟩; refine Hid.out ?_))
  refine Lib.hid ?_
  obtain ⟨w2, h2, va, d2, s2⟩ := V.made w1 u
  have D2 := (D0.out.below hb1).below d2
  have n2 := D2.n
  have x2 := D2.x
  have l2 := D2.t.ld
  have gA : w.heap.size + 1 + 1 + 1 + 1 < w1.heap.size := (D0.out.below hb1).b.lt
  have HD2 := Lib.hid (And.intro D2 (And.intro va gA))
  clear D2 va d2 s2 gA hb1 k0 n0 x0 l0 HA
  go_wp2_with (first | (go_at_call 11; (with_reducible refine (HB.out _).mono ?_); rintro e w3 ⟨rfl, hb3⟩; refine Hid.out ?_))
  refine Lib.hid ?_
  obtain ⟨w4, h4, vb, d4, s4⟩ := V.made w3 u
  have D4 := ((HD2.out.1.below hb3).below d4).below (Below.refl _ _).drew
  have va4 := ((HD2.out.2.1.below hb3).below d4).below (Below.refl _ _).drew
  have vb4 := vb.below (Below.refl _ _).drew
  have gA := HD2.out.2.2
  have gB : w.heap.size + 1 + 1 + 1 + 1 < w3.heap.size := (HD2.out.1.below hb3).b.lt
  obtain ⟨⟨la, lb⟩, wA, wB, wC, wD, ⟨a1, a2, a3⟩, ⟨b1, b2, b3⟩, DC, DD⟩ := D4.fin va4 vb4 (by omega) (by omega)
  have HDC := Lib.hid DC
  have HDD := Lib.hid DD
  clear D4 va4 vb4 gA gB DC DD HD2 n2 x2 l2 hb3 vb d4 s4 h2 HB
  go_wp2_with fail
  go_region
  all_goals go_wp2_with fail
  all_goals refine bodyPost_ret (v := .tuple #[cv u, cv u, .bool true]) ?_ rfl ⟨rfl, ?_⟩
  all_goals first | exact HDC.out.d | exact HDD.out.d | exact res_sst rfl _ _ (w.heap.size + 1 + 1 + 1) (w.heap.size + 1 + 1 + 1 + 1) u u _ rfl rfl rfl HDC.out.a HDC.out.b | exact res_sst rfl _ _ (w.heap.size + 1 + 1 + 1) (w.heap.size + 1 + 1 + 1 + 1) u u _ rfl rfl rfl HDD.out.a HDD.out.b
set_option maxRecDepth 100000 in
set_option maxHeartbeats 4000000 in
theorem do_2 (w : World) (s : Sg) (hs : s.Ok) (n : Int) (at0 : Nat) (hx : at0 < 4294967296) :
    Calls Try.prog 10 #[cv s, cv s, .agg (ob 2 n at0)] w fun e w' => e = .returned (.tuple #[cv (mS s at0), cv (mS s at0), .bool true]) ∧ Below w.heap.size w w' := by
  have D0 := Lib.hid (dn0 w s s 2 n at0)
  have l0 := D0.out.s.ld
  have HA := Lib.hid (fun w => mask_any w s hs at0 hx)
  have HB := Lib.hid (fun w => rmask_any w s hs at0 hx)
  have k0 : (ob 2 n at0)[0]? = some (.int .i64 2) := rfl
  have n0 : (ob 2 n at0)[1]? = some (.int .i64 n) := rfl
  have x0 : (ob 2 n at0)[2]? = some (uv at0) := rfl
  unfold w0 at l0
  clear hs hx
  generalize mS s at0 = u at *
  generalize mO s at0 = e0 at *
  generalize mE s at0 = e1 at *
  go_enter Try.func10, Try.ntmps10
  go_wp2_with (first | (go_at_call 21; (with_reducible refine (HA.out _).mono ?_); rintro e w1 ⟨rfl, hb1⟩; refine Hid.out ?_))
  refine Lib.hid ?_
  obtain ⟨w2, h2, va, d2, s2⟩ := V.made w1 u
  have D2 := (D0.out.below hb1).below d2
  have n2 := D2.n
  have x2 := D2.x
  have l2 := D2.t.ld
  have gA : w.heap.size + 1 + 1 + 1 + 1 < w1.heap.size := (D0.out.below hb1).b.lt
  have HD2 := Lib.hid (And.intro D2 (And.intro va gA))
  clear D2 va d2 s2 gA hb1 k0 n0 x0 l0 HA
  go_wp2_with (first | (go_at_call 27; (with_reducible refine (HB.out _).mono ?_); rintro e w3 ⟨rfl, hb3⟩; refine Hid.out ?_))
  refine Lib.hid ?_
  obtain ⟨w4, h4, vb, d4, s4⟩ := V.made w3 u
  have D4 := ((HD2.out.1.below hb3).below d4).below (Below.refl _ _).drew
  have va4 := ((HD2.out.2.1.below hb3).below d4).below (Below.refl _ _).drew
  have vb4 := vb.below (Below.refl _ _).drew
  have gA := HD2.out.2.2
  have gB : w.heap.size + 1 + 1 + 1 + 1 < w3.heap.size := (HD2.out.1.below hb3).b.lt
  obtain ⟨⟨la, lb⟩, wA, wB, wC, wD, ⟨a1, a2, a3⟩, ⟨b1, b2, b3⟩, DC, DD⟩ := D4.fin va4 vb4 (by omega) (by omega)
  have HDC := Lib.hid DC
  have HDD := Lib.hid DD
  clear D4 va4 vb4 gA gB DC DD HD2 n2 x2 l2 hb3 vb d4 s4 h2 HB
  go_wp2_with fail
  go_region
  all_goals go_wp2_with fail
  all_goals refine bodyPost_ret (v := .tuple #[cv u, cv u, .bool true]) ?_ rfl ⟨rfl, ?_⟩
  all_goals first | exact HDC.out.d | exact HDD.out.d | exact res_sst rfl _ _ (w.heap.size + 1 + 1 + 1) (w.heap.size + 1 + 1 + 1 + 1) u u _ rfl rfl rfl HDC.out.a HDC.out.b | exact res_sst rfl _ _ (w.heap.size + 1 + 1 + 1) (w.heap.size + 1 + 1 + 1 + 1) u u _ rfl rfl rfl HDD.out.a HDD.out.b
set_option maxRecDepth 100000 in
set_option maxHeartbeats 4000000 in
theorem do_3 (w : World) (s : Sg) (hs : s.Ok) (n : Int) (at0 : Nat) (hx : at0 < 4294967296) :
    Calls Try.prog 10 #[cv s, cv s, .agg (ob 3 n at0)] w fun e w' => e = .returned (.tuple #[cv (hS s n at0), cv (hS s n at0), .bool true]) ∧ Below w.heap.size w w' := by
  have D0 := Lib.hid (dn0 w s s 3 n at0)
  have l0 := D0.out.s.ld
  have HA := Lib.hid (fun w => handle_any w s hs n at0)
  have HB := Lib.hid (fun w => rhandle_any w s hs n at0)
  have k0 : (ob 3 n at0)[0]? = some (.int .i64 3) := rfl
  have n0 : (ob 3 n at0)[1]? = some (.int .i64 n) := rfl
  have x0 : (ob 3 n at0)[2]? = some (uv at0) := rfl
  unfold w0 at l0
  clear hs hx
  generalize hS s n at0 = u at *
  generalize hO s n = e0 at *
  generalize hE s n = e1 at *
  go_enter Try.func10, Try.ntmps10
  go_wp2_with (first | (go_at_call 18; (with_reducible refine (HA.out _).mono ?_); rintro e w1 ⟨rfl, hb1⟩; refine Hid.out ?_))
  refine Lib.hid ?_
  obtain ⟨w2, h2, va, d2, s2⟩ := V.made w1 u
  have D2 := (D0.out.below hb1).below d2
  have n2 := D2.n
  have x2 := D2.x
  have l2 := D2.t.ld
  have gA : w.heap.size + 1 + 1 + 1 + 1 < w1.heap.size := (D0.out.below hb1).b.lt
  have HD2 := Lib.hid (And.intro D2 (And.intro va gA))
  clear D2 va d2 s2 gA hb1 k0 n0 x0 l0 HA
  go_wp2_with (first | (go_at_call 28; (with_reducible refine (HB.out _).mono ?_); rintro e w3 ⟨rfl, hb3⟩; refine Hid.out ?_))
  refine Lib.hid ?_
  obtain ⟨w4, h4, vb, d4, s4⟩ := V.made w3 u
  have D4 := ((HD2.out.1.below hb3).below d4).below (Below.refl _ _).drew
  have va4 := ((HD2.out.2.1.below hb3).below d4).below (Below.refl _ _).drew
  have vb4 := vb.below (Below.refl _ _).drew
  have gA := HD2.out.2.2
  have gB : w.heap.size + 1 + 1 + 1 + 1 < w3.heap.size := (HD2.out.1.below hb3).b.lt
  obtain ⟨⟨la, lb⟩, wA, wB, wC, wD, ⟨a1, a2, a3⟩, ⟨b1, b2, b3⟩, DC, DD⟩ := D4.fin va4 vb4 (by omega) (by omega)
  have HDC := Lib.hid DC
  have HDD := Lib.hid DD
  clear D4 va4 vb4 gA gB DC DD HD2 n2 x2 l2 hb3 vb d4 s4 h2 HB
  go_wp2_with fail
  go_region
  all_goals go_wp2_with fail
  all_goals refine bodyPost_ret (v := .tuple #[cv u, cv u, .bool true]) ?_ rfl ⟨rfl, ?_⟩
  all_goals first | exact HDC.out.d | exact HDD.out.d | exact res_sst rfl _ _ (w.heap.size + 1 + 1 + 1) (w.heap.size + 1 + 1 + 1 + 1) u u _ rfl rfl rfl HDC.out.a HDC.out.b | exact res_sst rfl _ _ (w.heap.size + 1 + 1 + 1) (w.heap.size + 1 + 1 + 1 + 1) u u _ rfl rfl rfl HDD.out.a HDD.out.b
set_option maxRecDepth 100000 in
set_option maxHeartbeats 4000000 in
theorem do_4 (w : World) (s : Sg) (hs : s.Ok) (n : Int) (at0 : Nat) (hx : at0 < 4294967296) :
    Calls Try.prog 10 #[cv s, cv s, .agg (ob 4 n at0)] w fun e w' => e = .returned (.tuple #[cv (rS s), cv (rS s), .bool true]) ∧ Below w.heap.size w w' := by
  have D0 := Lib.hid (dn0 w s s 4 n at0)
  have l0 := D0.out.s.ld
  have HA := Lib.hid (fun w => return_any w s hs)
  have HB := Lib.hid (fun w => rreturn_any w s hs)
  have k0 : (ob 4 n at0)[0]? = some (.int .i64 4) := rfl
  have n0 : (ob 4 n at0)[1]? = some (.int .i64 n) := rfl
  have x0 : (ob 4 n at0)[2]? = some (uv at0) := rfl
  unfold w0 at l0
  clear hs hx
  generalize rS s = u at *
  generalize rE s = e0 at *
  go_enter Try.func10, Try.ntmps10
  go_wp2_with (first | (go_at_call 23; (with_reducible refine (HA.out _).mono ?_); rintro e w1 ⟨rfl, hb1⟩; refine Hid.out ?_))
  refine Lib.hid ?_
  obtain ⟨w2, h2, va, d2, s2⟩ := V.made w1 u
  have D2 := (D0.out.below hb1).below d2
  have n2 := D2.n
  have x2 := D2.x
  have l2 := D2.t.ld
  have gA : w.heap.size + 1 + 1 + 1 + 1 < w1.heap.size := (D0.out.below hb1).b.lt
  have HD2 := Lib.hid (And.intro D2 (And.intro va gA))
  clear D2 va d2 s2 gA hb1 k0 n0 x0 l0 HA
  go_wp2_with (first | (go_at_call 29; (with_reducible refine (HB.out _).mono ?_); rintro e w3 ⟨rfl, hb3⟩; refine Hid.out ?_))
  refine Lib.hid ?_
  obtain ⟨w4, h4, vb, d4, s4⟩ := V.made w3 u
  have D4 := ((HD2.out.1.below hb3).below d4).below (Below.refl _ _).drew
  have va4 := ((HD2.out.2.1.below hb3).below d4).below (Below.refl _ _).drew
  have vb4 := vb.below (Below.refl _ _).drew
  have gA := HD2.out.2.2
  have gB : w.heap.size + 1 + 1 + 1 + 1 < w3.heap.size := (HD2.out.1.below hb3).b.lt
  obtain ⟨⟨la, lb⟩, wA, wB, wC, wD, ⟨a1, a2, a3⟩, ⟨b1, b2, b3⟩, DC, DD⟩ := D4.fin va4 vb4 (by omega) (by omega)
  have HDC := Lib.hid DC
  have HDD := Lib.hid DD
  clear D4 va4 vb4 gA gB DC DD HD2 n2 x2 l2 hb3 vb d4 s4 h2 HB
  go_wp2_with fail
  go_region
  all_goals go_wp2_with fail
  all_goals refine bodyPost_ret (v := .tuple #[cv u, cv u, .bool true]) ?_ rfl ⟨rfl, ?_⟩
  all_goals first | exact HDC.out.d | exact HDD.out.d | exact res_sst rfl _ _ (w.heap.size + 1 + 1 + 1) (w.heap.size + 1 + 1 + 1 + 1) u u _ rfl rfl rfl HDC.out.a HDC.out.b | exact res_sst rfl _ _ (w.heap.size + 1 + 1 + 1) (w.heap.size + 1 + 1 + 1 + 1) u u _ rfl rfl rfl HDD.out.a HDD.out.b
set_option maxRecDepth 100000 in
set_option maxHeartbeats 4000000 in
theorem do_5 (w : World) (s : Sg) (n : Int) (at0 : Nat) :
    Calls Try.prog 10 #[cv s, cv s, .agg (ob 5 n at0)] w fun e w' => e = .returned (.tuple #[cv (setP s 0), cv (setP s 0), .bool true]) ∧ Below w.heap.size w w' := by
  have k0 : (ob 5 n at0)[0]? = some (.int .i64 5) := rfl
  have q0 := cs_p s
  have q1 : (cs s).setIfInBounds 0 (.int .u32 0) = cs (setP s 0) := rfl
  have HF := Lib.hid (fun w => fork_any w s)
  generalize setP s 0 = u at *
  have D5 := (dn0 w s u 5 n at0).below (Below.refl _ _).drew
  obtain ⟨wB, b1, b2, b3⟩ := D5.stb u
  have l5 := D5.s.ld
  have m5 := D5.t.ld
  have lB := b2.s.ld
  have HD5 := Lib.hid D5
  have HDB := Lib.hid b2
  clear D5 b2 b3
  unfold w0 at l5 m5 b1
  go_enter Try.func10, Try.ntmps10
  go_wp2_with fail
  go_region_with (first | (go_at_call 25; (with_reducible refine (HF.out _).mono ?_); rintro e w6 ⟨rfl, hb6⟩; first | (have D6 := HD5.out.below hb6; obtain ⟨⟨la, lb⟩, wA, wE, wC, wD, ⟨a1, a2, a3⟩, ⟨c1, c2, c3⟩, DC, DD⟩ := D6.fin D6.t D6.t (by omega) (by omega); have HDC := Lib.hid DC; have HDD := Lib.hid DD; clear D6 DC DD hb6) | (have D6 := HDB.out.below hb6; obtain ⟨wC, a1, DC, _⟩ := D6.sta u; have HDC := Lib.hid DC; clear D6 DC hb6)))
  all_goals go_wp2_with fail
  all_goals refine bodyPost_ret (v := .tuple #[cv u, cv u, .bool true]) ?_ rfl ⟨rfl, ?_⟩
  all_goals first | exact HDC.out.d | exact HDD.out.d | exact res_sst rfl _ _ (w.heap.size + 1 + 1 + 1) (w.heap.size + 1 + 1 + 1 + 1) u u _ rfl rfl rfl HDC.out.a HDC.out.b | exact res_sst rfl _ _ (w.heap.size + 1 + 1 + 1) (w.heap.size + 1 + 1 + 1 + 1) u u _ rfl rfl rfl HDD.out.a HDD.out.b
set_option maxRecDepth 100000 in
set_option maxHeartbeats 4000000 in
theorem do_e (w : World) (s : Sg) (k n : Int) (at0 : Nat) (h0 : k ≠ 0) (h1 : k ≠ 1) (h2 : k ≠ 2) (h3 : k ≠ 3) (h4 : k ≠ 4) (h5 : k ≠ 5) :
    Calls Try.prog 10 #[cv s, cv s, .agg (ob k n at0)] w fun e w' => e = .returned (.tuple #[cv s, cv s, .bool true]) ∧ Below w.heap.size w w' := by
  have k0 : (ob k n at0)[0]? = some (.int .i64 k) := rfl
  have e0 : (k == 0) = false := beq_eq_false_iff_ne.2 h0
  have e1 : (k == 1) = false := beq_eq_false_iff_ne.2 h1
  have e2 : (k == 2) = false := beq_eq_false_iff_ne.2 h2
  have e3 : (k == 3) = false := beq_eq_false_iff_ne.2 h3
  have e4 : (k == 4) = false := beq_eq_false_iff_ne.2 h4
  have e5 : (k == 5) = false := beq_eq_false_iff_ne.2 h5
  have D5 := (dn0 w s s k n at0).below (Below.refl _ _).drew
  obtain ⟨⟨la, lb⟩, wA, wB, wC, wD, ⟨a1, a2, a3⟩, ⟨b1, b2, b3⟩, DC, DD⟩ := D5.fin D5.s D5.t (by omega) (by omega)
  have HDC := Lib.hid DC
  have HDD := Lib.hid DD
  clear D5 DC DD h0 h1 h2 h3 h4 h5
  unfold w0 at la lb a1 b1
  go_enter Try.func10, Try.ntmps10
  go_wp2_with fail
  go_region
  all_goals go_wp2_with fail
  all_goals refine bodyPost_ret (v := .tuple #[cv s, cv s, .bool true]) ?_ rfl ⟨rfl, ?_⟩
  all_goals first | exact HDC.out.d | exact HDD.out.d | exact res_sst rfl _ _ (w.heap.size + 1 + 1 + 1) (w.heap.size + 1 + 1 + 1 + 1) s s _ rfl rfl rfl HDC.out.a HDC.out.b | exact res_sst rfl _ _ (w.heap.size + 1 + 1 + 1) (w.heap.size + 1 + 1 + 1 + 1) s s _ rfl rfl rfl HDD.out.a HDD.out.b
/-- Signals behind a call. -/
def dS (k n : Int) (at0 : Nat) (s : Sg) : Sg := if k = 0 then pS s n else if k = 1 then nS s else if k = 2 then mS s at0 else if k = 3 then hS s n at0 else if k = 4 then rS s else if k = 5 then setP s 0 else s
theorem dS_ok {s : Sg} (h : s.Ok) (k n : Int) {at0 : Nat} (hx : at0 < 4294967296) : (dS k n at0 s).Ok := by
  unfold dS
  split
  · exact pS_ok h n
  split
  · exact nS_ok h
  split
  · exact mS_ok h hx
  split
  · exact hS_ok h n hx
  split
  · exact rS_ok h
  split
  · exact Ok.setP h (by decide)
  · exact h
theorem do_any (w : World) (s : Sg) (hs : s.Ok) (k n : Int) (at0 : Nat) (hx : at0 < 4294967296) :
    Calls Try.prog 10 #[cv s, cv s, .agg (ob k n at0)] w fun e w' => e = .returned (.tuple #[cv (dS k n at0 s), cv (dS k n at0 s), .bool true]) ∧ Below w.heap.size w w' := by
  unfold dS
  split
  · rename_i h; subst h; exact do_0 w s hs n at0 hx
  split
  · rename_i h; subst h; exact do_1 w s hs n at0 hx
  split
  · rename_i h; subst h; exact do_2 w s hs n at0 hx
  split
  · rename_i h; subst h; exact do_3 w s hs n at0 hx
  split
  · rename_i h; subst h; exact do_4 w s hs n at0 hx
  split
  · rename_i h; subst h; exact do_5 w s n at0
  · rename_i h0 h1 h2 h3 h4 h5
    exact do_e w s k n at0 h0 h1 h2 h3 h4 h5
end Go.Proofs.Ytlhhgapimhpgnaa.Sre
