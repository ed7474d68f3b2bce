/-
  do: Copy of both, and on with these; nothing; any call.
-/
import Derived.Test.YtmdldehdlggpkaaKy
import Derived.Test.YtmdldehdlggpkaaJz
namespace Go.Proofs.Ytmdldehdlggpkaa.Kz
open Go Go.RowKit Kit Bk Jp Jm Ji Jo Ju Jd Je Jr Jq Js Jb Kb Kx Ky
open Jz (Bo.offF Bo.offD Ds.overF)
set_option linter.unusedVariables false

theorem okF {w w' : World} {f : Nat} {S : Sf} (hf : Fl w f S) (k : Kp (fun j => j = f) w w') : Ok w w' := fun b cs hb => hb.kept k (kF hf k hb (by decide))
theorem okD {w w' : World} {d : Nat} {D : Nat → Nat} (hd : Ds w d D) (k : Kp (fun j => j = d) w w') : Ok w w' := fun b cs hb => hb.kept k (kD hd hb (by decide))
set_option maxRecDepth 100000 in
set_option maxHeartbeats 4000000 in
theorem do_copy (W0 w : World) (p f d q v c : Nat) (S : Sf) (D : Nat → Nat) (h : Bo W0 w p f d q v S S D D) (hg : Gof c S) (hc : c ≤ 100000) (P : Int) (V : Bool) (n fd : Int) :
    Calls Try.prog 11 #[.pointer (some ⟨p, 0, none⟩), .agg #[.int .i64 7, .int .i64 P, .bool V, .int .i64 n, .int .i64 fd]] w (Did W0 p (c + 1) w) := by
  have hx := Dx.new h ⟨7, P, V, n, fd⟩
  generalize hwb : w.alloc (.cells #[.int .i64 (Opr.kind ⟨7, P, V, n, fd⟩), .int .i64 (Opr.P ⟨7, P, V, n, fd⟩), .bool (Opr.V ⟨7, P, V, n, fd⟩), .int .i64 (Opr.n ⟨7, P, V, n, fd⟩), .int .i64 (Opr.fd ⟨7, P, V, n, fd⟩)] 28) = wb at hx
  dsimp only at hwb
  have c00 := hx.cl.x0
  dsimp only at c00
  have hf : Few S := Jo.Gof.few9 hg (by omega)
  have hf2 : Few (oS S 0 false) := Jo.Gof.few9 (hg.open_ 0 false) (by omega)
  have HG : Hid (Gof (c + 1) S) := Lib.hid (hg.mono (Nat.le_succ _))
  have hb := hx.bo.drew
  have p0 := hx.bo.blk.cell 0
  have p1 := hx.bo.blk.cell 1
  have HX := Lib.hid hb
  have HU : Hid (Ok w wb.drew) := Lib.hid (by rw [← hwb]; exact Ok.of_below (((Below.refl _ _).alloc (Nat.le_refl _) _).drew))
  have HC := Lib.hid (copy_any wb.drew f S hb.fl)
  have HC2 := Lib.hid (fun w1 (h1 : Below wb.drew.heap.size wb.drew w1) => fcopy_any w1 d D (hb.ds.below h1))
  have hlf := hb.fl.lt
  have hld := hb.ds.lt
  have HS : Hid (∀ w1 w2, Below wb.drew.heap.size wb.drew w1 → Fl w1 wb.heap.size S → Below w1.heap.size w1 w2 → Ds w2 w1.heap.size D →
      ∃ W3, (w2.setCell ⟨p, 0, none⟩ (.pointer (some ⟨wb.heap.size, 0, none⟩))).setCell ⟨p, 1, none⟩ (.pointer (some ⟨w1.heap.size, 0, none⟩)) = W3 ∧ Bo W0 W3 p wb.heap.size w1.heap.size q v S S D D ∧ Fl W3 f S ∧ Ds W3 d D ∧ (wb.heap.size ≠ f ∧ Ok w W3) ∧ w1.heap.size ≠ d ∧
        (∃ u, w2.cell? ⟨p, 0, none⟩ = some u) ∧ w2.frozen? ⟨p, 0, none⟩ = false ∧ (∃ u, w2.cell? ⟨p, 1, none⟩ = some u) ∧ w2.frozen? ⟨p, 1, none⟩ = false) := Lib.hid (fun w1 w2 h1 h2 h3 h4 => by
    have a1 := hb.below h1
    have a2 := a1.below h3
    have s0 : W0.heap.size ≤ wb.heap.size := hb.bel.size
    have s2 : wb.heap.size ≤ w1.heap.size := h1.size
    have hlf' : f < wb.heap.size := hlf
    have hld' : d < wb.heap.size := hld
    have s1 := h1.size
    have hk : Kp (fun j => j = p) w2 ((w2.setCell ⟨p, 0, none⟩ (.pointer (some ⟨wb.heap.size, 0, none⟩))).setCell ⟨p, 1, none⟩ (.pointer (some ⟨w1.heap.size, 0, none⟩))) := (Kp.set (S := fun j => j = p) _ _ _ _ rfl).trans (Kp.set (S := fun j => j = p) _ _ _ _ rfl) (fun _ e => .inl e)
    have hpk : ∀ {b cs U}, Blk w2 b cs U → U ≠ 36 → ¬ (b = p) := fun hb hU => hb.ne a2.blk hU
    obtain ⟨c1, b1, _⟩ := id a2.fl
    obtain ⟨⟨c2, b2, _⟩, _⟩ := id a2.ds
    exact ⟨_, rfl, Bo.swap a2 (h2.below h3) h4 ⟨by omega, by omega⟩, a2.fl.kept hk (hpk b1 (by decide)), a2.ds.kept hk (hpk b2 (by decide)), ⟨by omega, ((HU.out.trans (.of_below h1)).trans (.of_below h3)).trans (fun b cs hb => hb.kept hk (hpk hb (by decide)))⟩, by omega, ⟨_, a2.blk.cell 0⟩, a2.blk.free 0, ⟨_, a2.blk.cell 1⟩, a2.blk.free 1⟩)
  have HO := Lib.hid (fun W (hh : Fl W f S) => open_any W f S hh 0 false)
  have HD := Lib.hid (fun W (hh : Fl W f (oS S 0 false)) => drop_any W f (oS S 0 false) hh hf2 0)
  have HP := Lib.hid (fun W (hh : Ds W d D) => put_any W d D hh 1)
  have HCl := Lib.hid (fun W (hh : Ds W d (pD D 1)) => close_any W d (pD D 1) hh 0)
  have hl := h.lo
  have hlo : W0.heap.size ≤ f ∧ W0.heap.size ≤ d := ⟨hl.2.1, hl.2.2.1⟩
  generalize oS S 0 false = S1 at *
  generalize pD D 1 = D1 at *
  generalize oN S 0 = a0 at *
  generalize oE S 0 = a1 at *
  generalize dS S1 0 = S2 at *
  generalize dN S1 0 = a2 at *
  generalize dP S1 0 = a3 at *
  generalize dV S1 0 = a4 at *
  generalize sE S1 0 = a5 at *
  clear h hx hg hc hf hf2 hb hl
  go_enter Try.func11, Try.ntmps11
  go_wp2
  go_region
  go_wp2_with (first
    | (go_at_call 31; (with_reducible refine HC.out.mono ?_); rintro e w1 ⟨rfl, k1, f1⟩; replace k1 := Lib.hid k1; replace f1 := Lib.hid f1)
    | (go_at_call 32; (with_reducible refine (HC2.out w1 k1.out).mono ?_); rintro e w2 ⟨rfl, k2, f2⟩; obtain ⟨W3, hW3, r1, r2, r3, r4, r5, ⟨u6, r6⟩, r7, ⟨u8, r8⟩, r9⟩ := HS.out w1 w2 k1.out f1.out k2 f2; replace r1 := Lib.hid r1; replace r2 := Lib.hid r2; replace r3 := Lib.hid r3; replace r4 := Lib.hid r4; replace r5 := Lib.hid r5; clear k2 f2)
    | (go_at_call 27; (with_reducible refine (HO.out _ r2.out).mono ?_); rintro e w4 ⟨rfl, k4, f4⟩; have R1 := Lib.hid (Bo.offF r1.out r2.out r4.out.1 hlo.1 k4); have U4 := Lib.hid (r4.out.2.trans (okF r2.out k4)); have R3 := Lib.hid (Ds.overF r3.out r2.out k4); replace f4 := Lib.hid f4; clear k4)
    | (go_at_call 26; (with_reducible refine (HD.out _ f4.out).mono ?_); rintro e w5 ⟨rfl, k5, f5⟩; have Q1 := Lib.hid (Bo.offF R1.out f4.out r4.out.1 hlo.1 k5); have U5 := Lib.hid (U4.out.trans (okF f4.out k5)); have Q3 := Lib.hid (Ds.overF R3.out f4.out k5); clear k5 f5)
    | (go_at_call 23; (with_reducible refine (HP.out _ Q3.out).mono ?_); rintro e w6 ⟨rfl, k6, f6⟩; have P1 := Lib.hid (Bo.offD Q1.out Q3.out r5.out hlo.2 k6); have U6 := Lib.hid (U5.out.trans (okD Q3.out k6)); replace f6 := Lib.hid f6; clear k6)
    | (go_at_call 25; (with_reducible refine (HCl.out _ f6.out).mono ?_); rintro e w7 ⟨rfl, k7, f7⟩; have N1 := Lib.hid (Bo.offD P1.out f6.out r5.out hlo.2 k7); have U7 := Lib.hid (U6.out.trans (okD f6.out k7)); clear k7 f7))
  go_ret
  exact ⟨rfl, ⟨_, _, _, _, _, _, N1.out, HG.out⟩, U7.out⟩
set_option maxRecDepth 100000 in
theorem do_none (W0 w : World) (p f d q v c : Nat) (S : Sf) (D : Nat → Nat) (h : Bo W0 w p f d q v S S D D) (hg : Gof c S) (k : Int) (h0 : k ≠ 0) (h1 : k ≠ 1) (h2 : k ≠ 2) (h3 : k ≠ 3) (h4 : k ≠ 4) (h5 : k ≠ 5) (h6 : k ≠ 6) (h7 : k ≠ 7) (P : Int) (V : Bool) (n fd : Int) :
    Calls Try.prog 11 #[.pointer (some ⟨p, 0, none⟩), .agg #[.int .i64 k, .int .i64 P, .bool V, .int .i64 n, .int .i64 fd]] w (Did W0 p (c + 1) w) := by
  have hx := Dz.new h ⟨k, P, V, n, fd⟩
  have HX := Lib.hid hx.bo
  have HOk := Lib.hid hx.ok
  have HG : Hid (Gof (c + 1) S) := Lib.hid (hg.mono (Nat.le_succ _))
  have d0 : (k == 0) = false := by simpa using h0
  have d1 : (k == 1) = false := by simpa using h1
  have d2 : (k == 2) = false := by simpa using h2
  have d3 : (k == 3) = false := by simpa using h3
  have d4 : (k == 4) = false := by simpa using h4
  have d5 : (k == 5) = false := by simpa using h5
  have d6 : (k == 6) = false := by simpa using h6
  have d7 : (k == 7) = false := by simpa using h7
  clear h hx hg h0 h1 h2 h3 h4 h5 h6 h7
  go_enter Try.func11, Try.ntmps11
  go_wp2
  go_ret
  exact ⟨rfl, ⟨_, _, _, _, _, _, HX.out, HG.out⟩, HOk.out⟩
theorem do_any (W0 w : World) (p f d q v c : Nat) (S : Sf) (D : Nat → Nat) (h : Bo W0 w p f d q v S S D D) (hg : Gof c S) (hc : c ≤ 100000) (o : Opr) :
    Calls Try.prog 11 #[.pointer (some ⟨p, 0, none⟩), .agg #[.int .i64 o.kind, .int .i64 o.P, .bool o.V, .int .i64 o.n, .int .i64 o.fd]] w (Did W0 p (c + 1) w) := by
  obtain ⟨k, P, V, n, fd⟩ := o
  dsimp only
  by_cases k0 : k = 0
  · subst k0; exact do_open W0 w p f d q v c S D h hg hc P V n fd
  by_cases k1 : k = 1
  · subst k1; exact do_share W0 w p f d q v c S D h hg hc P V n fd
  by_cases k2 : k = 2
  · subst k2; exact do_drop W0 w p f d q v c S D h hg hc P V n fd
  by_cases k3 : k = 3
  · subst k3; exact do_put W0 w p f d q v c S D h hg hc P V n fd
  by_cases k4 : k = 4
  · subst k4; exact do_set W0 w p f d q v c S D h hg hc P V n fd
  by_cases k5 : k = 5
  · subst k5; exact do_close W0 w p f d q v c S D h hg hc P V n fd
  by_cases k6 : k = 6
  · subst k6; exact do_dup W0 w p f d q v c S D h hg hc P V n fd
  by_cases k7 : k = 7
  · subst k7; exact do_copy W0 w p f d q v c S D h hg hc P V n fd
  exact do_none W0 w p f d q v c S D h hg k k0 k1 k2 k3 k4 k5 k6 k7 P V n fd
end Go.Proofs.Ytmdldehdlggpkaa.Kz
