/-
  A law's pipe; calls with literal answers; alive.
-/
import Derived.Test.YtfpdbcjnhgddoaaPn
namespace Go.Proofs.Ytfpdbcjnhgddoaa.Pal
open Go Go.RowKit Go.Shelf Kit Bk Rgm Rgt Rgw Rgp Rgn Rst Pm Pw Px Pr Ps Po Pn
set_option linter.unusedVariables false

/-- A pipe that the law made: it lies above what lay there when the law began. -/
structure On (w W : World) (p r C : Nat) (xs : List Nat) (R U : Nat) : Prop where
  bel : Below w.heap.size w W
  pp : Pp W p r C xs R U
  lp : w.heap.size ≤ p
  lr : w.heap.size ≤ r
theorem On.step {w W W' : World} {p r C : Nat} {xs ys : List Nat} {R U R' U' : Nat} (h : On w W p r C xs R U) (hk : Kr p r W W') (hp : Pp W' p r C ys R' U') : On w W' p r C ys R' U' := ⟨h.bel.trans (hk.below h.bel.size h.lp h.lr), hp, h.lp, h.lr⟩
theorem On.below {w W W' : World} {p r C : Nat} {xs : List Nat} {R U : Nat} (h : On w W p r C xs R U) (hb : Below W.heap.size W W') : On w W' p r C xs R U := ⟨h.bel.trans (hb.mono h.bel.size), h.pp.below hb, h.lp, h.lr⟩
theorem On.alloc {w W : World} {p r C : Nat} {xs : List Nat} {R U : Nat} (h : On w W p r C xs R U) (o : Obj) : On w (W.alloc o) p r C xs R U := h.below ((Below.refl _ _).alloc (Nat.le_refl _) _)
theorem On.drew {w W : World} {p r C : Nat} {xs : List Nat} {R U : Nat} (h : On w W p r C xs R U) : On w W.drew p r C xs R U := h.below (Below.refl _ _).drew
theorem On.src {w W : World} {p r C : Nat} {xs : List Nat} {R U : Nat} (h : On w W p r C xs R U) {v : Value} {ys : List Nat} (hs : Slc .u8 w v ys) : Src W r v ys := by
  obtain ⟨a, cap, h1, h2, h3, h4⟩ := hs
  refine ⟨a, cap, h1, h2, h3, h4.imp id ?_⟩
  rintro ⟨b, off, e, hlt, hc⟩
  exact ⟨b, off, e, by have := h.lr; omega, Nat.lt_of_lt_of_le hlt h.bel.size, fun i hi => (h.bel.cell (p := ⟨b, off + i, none⟩) hlt).trans (hc i hi)⟩

theorem pread_lit {w : World} {p r C : Nat} {xs ys zs : List Nat} {R U m : Nat} {n a E : Int} (h : Pp w p r C xs R U) (ha : rW xs R U n = a) (he : rE R n = E) (hy : rO xs R n = ys) (hz : rX xs R n = zs) (hm : ys.length = m) :
    Calls Try.prog 14 #[.pointer (some ⟨p, 0, none⟩), .int .i64 n] w fun e w' => Kr p r w w' ∧ Pp w' p r C zs R U ∧ ∃ ad cap, e = .returned (.tuple #[.slice ad m cap, .int .i64 a, .int .i64 E]) ∧ w'.ownsRow w.heap.size 5 1 (.slice ad m cap) m (u8s ys) := by
  subst ha he hy hz hm
  refine (pread_any w p r C xs R U n h).mono fun e w' ⟨h1, h2, rv, h3, h4⟩ => ?_
  obtain ⟨ad, cap, rfl⟩ := row_form h4
  exact ⟨h1, h2, ad, cap, h3, h4⟩
theorem pwrite_lit {w : World} {p r C : Nat} {xs ys zs : List Nat} {R U : Nat} {v : Value} {n a E : Int} (h : Pp w p r C xs R U) (hv : Src w r v ys) (hn : (wN C xs R U ys : Int) = n) (ha : wW C xs R U ys = a) (he : wE U = E) (hz : wX C xs R U ys = zs) :
    Calls Try.prog 12 #[.pointer (some ⟨p, 0, none⟩), v] w fun e w' => e = .returned (.tuple #[.int .i64 n, .int .i64 a, .int .i64 E]) ∧ Kr p r w w' ∧ Pp w' p r C zs R U := by
  subst hn ha he hz
  exact pwrite_any w p r C xs R U v ys h hv
theorem pclose_lit {w : World} {p r C : Nat} {xs : List Nat} {R U R' U' : Nat} {s b : Bool} {E : Int} (h : Pp w p r C xs R U) (hb : (sc s R U == 1) = b) (he : cE (sc s R U) = E) (hR : nR s R (sc s R U - 1) = R') (hU : nU s U (sc s R U - 1) = U') :
    Calls Try.prog 18 #[.pointer (some ⟨p, 0, none⟩), .bool s] w fun e w' => e = .returned (.tuple #[.bool b, .int .i64 E]) ∧ Kr p r w w' ∧ Pp w' p r C xs R' U' := by
  subst hb he hR hU
  exact pclose_any w p r C xs R U s h
theorem popen_lit {w : World} {p r C : Nat} {xs : List Nat} {R U R' U' : Nat} {s : Bool} {E : Int} (h : Pp w p r C xs R U) (he : oE (sc s R U) = E) (hR : nR s R (oN (sc s R U)) = R') (hU : nU s U (oN (sc s R U)) = U') :
    Calls Try.prog 16 #[.pointer (some ⟨p, 0, none⟩), .bool s] w fun e w' => e = .returned (.int .i64 E) ∧ Kr p r w w' ∧ Pp w' p r C xs R' U' := by
  subst he hR hU
  exact popen_any w p r C xs R U s h
theorem s_abcd : bstr [97, 98, 99, 100] = ⟨#[97, 98, 99, 100]⟩ := rfl
set_option maxHeartbeats 2000000 in
theorem alive_any (w : World) :
    Calls Try.prog 29 #[] w fun e w' => e = .returned (.bool true) ∧ Below w.heap.size w w' := by
  have kc := fun (w : World) (C : Array Value) (n c : Nat) => Lib.run_convert_bytes_const (P := Try.prog) w 22 5 C n c Try.underlying22 Try.underlying5
  have HN := Lib.hid (pnew_ok w 4 4 rfl ⟨by omega, by omega⟩)
  go_enter Try.func29, Try.ntmps29
  go_wp2_with (go_at_call 28; refine HN.out.mono ?_; rintro e w1 ⟨p, r, rfl, hb, hp, hr, hpp⟩; refine Hid.out ?_)
  refine Lib.hid ?_
  have HO : Hid (On w w1 p r 4 [] 1 1) := Lib.hid ⟨hb, hpp, hp, hr⟩
  clear hb hpp hp hr HN
  have HR := Lib.hid (pread_lit (n := 1) (a := 1) (E := 0) (ys := []) (zs := []) (m := 0) HO.out.pp (by decide) (by decide) (by decide) (by decide) rfl)
  go_wp2_with (go_at_call 14; (with_reducible refine HR.out.mono ?_); rintro e w2 ⟨k2, p2, ad2, cap2, rfl, o2⟩; refine Hid.out ?_)
  refine Lib.hid ?_
  replace HO := Lib.hid ((HO.out.step k2 p2).alloc (.cells #[.int .u8 97, .int .u8 98, .int .u8 99, .int .u8 100, .int .u8 101, .int .u8 102] 5 (6, 7)))
  have HW := Lib.hid (pwrite_lit (ys := [97, 98, 99, 100, 101, 102]) (zs := [97, 98, 99, 100]) (n := 4) (a := 0) (E := 0) HO.out.pp (lit_src (n := 6) (l := [97, 98, 99, 100, 101, 102]) p2.ltr rfl rfl (by decide)) (by decide) (by decide) (by decide) (by decide))
  clear k2 p2 o2 HR
  go_wp2_with (go_at_call 12; (with_reducible refine HW.out.mono ?_); rintro e w3 ⟨rfl, k3, p3⟩; refine Hid.out ?_)
  refine Lib.hid ?_
  replace HO := Lib.hid (HO.out.step k3 p3)
  have HR := Lib.hid (pread_lit (n := 9) (a := 0) (E := 0) (ys := [97, 98, 99, 100]) (zs := []) (m := 4) p3 (by decide) (by decide) (by decide) (by decide) rfl)
  clear k3 p3 HW
  go_wp2_with (go_at_call 14; (with_reducible refine HR.out.mono ?_); rintro e w4 ⟨k4, p4, ad4, cap4, rfl, o4⟩; replace HO := Lib.hid (HO.out.step k4 p4); have s4 := slc_string (own_slc o4); rw [s_abcd] at s4; clear k4 p4 o4)
  go_ret
  exact ⟨rfl, HO.out.bel⟩
end Go.Proofs.Ytfpdbcjnhgddoaa.Pal
