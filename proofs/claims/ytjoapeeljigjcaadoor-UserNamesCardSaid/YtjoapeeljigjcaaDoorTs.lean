/-
  Set, Clear, Copy of a table of pages; a table that nobody made.
-/
import Derived.Test.YtjoapeeljigjcaaDoorTm
namespace Go.Proofs.YtjoapeeljigjcaaDoor.Ts
open Go Go.RowKit Kit Bk Tm
set_option linter.unusedVariables false

/-- A slot's cells. -/
def sc (x : Option En) : Array Value := #[.bool x.isSome, .int .i64 (x.getD z0).f, .bool (x.getD z0).w, .bool (x.getD z0).s, .bool (x.getD z0).c, .bool (x.getD z0).d]
theorem sc_none : sc none = #[.bool false, .int .i64 0, .bool false, .bool false, .bool false, .bool false] := rfl
theorem sc_some (f : Int) (w s c d : Bool) : sc (some ⟨f, w, s, c, d⟩) = #[.bool true, .int .i64 f, .bool w, .bool s, .bool c, .bool d] := rfl
theorem sc_one (x : Option En) : (sc x).all (·.oneCell') = true := by simp [sc, Value.oneCell']
theorem info27 : (Tryd.prog.info? 74).map (fun i => (i.size)) = some 6 := by kernel_rfl
/-- A store of a slot, behind a name that a walk does not open. -/
def stS (p v : Value) : Sem Unit := Instr.storeAt 74 p v
theorem sts_wrap (p v : Value) : Instr.storeAt 74 p v = stS p v := rfl
attribute [local go_sem ↓] sts_wrap
theorem run_stS (w : World) (b o : Nat) (cs : Array Value) (T : TypeId) (h : Blk w b cs T) (hn : o + 6 ≤ cs.size) (x : Option En) :
    (stS (.pointer (some ⟨b, o, none⟩)) (.agg (sc x))).run Tryd.prog w = .ok () (w.setCells b o (sc x).toList) := by
  unfold stS
  refine run_storeAt_mid w b o _ (sc x) (h.there _ _ hn) ?_ (sc_one x)
  rw [info27]
  rfl
theorem Mem.put {w : World} {p : Nat} {T : Nat → Option En} (h : Mem w p T) (k : Nat) (hk : k < 64) (x : Option En) : Mem (w.setCells p (k * 6) (sc x).toList) p (up T k x) := by
  obtain ⟨⟨cs, h1, h2, h3⟩, h4⟩ := h
  obtain ⟨ds, d1, d2, d3, d4⟩ := h1.sets (sc x).toList (k * 6)
  have hl : (sc x).toList.length = 6 := rfl
  rw [hl] at d3 d4
  refine ⟨⟨ds, d1, by rw [d2, h2], fun j hj => ?_⟩, fun j hj => ?_⟩
  · by_cases e : j = k
    · subst e
      rw [up_same]
      exact ⟨by rw [show j * 6 = j * 6 + 0 by omega, d4 0 (by omega) (by omega)]; rfl, by rw [d4 1 (by omega) (by omega)]; rfl, by rw [show j * 6 + 1 + 1 = j * 6 + 2 by omega, d4 2 (by omega) (by omega)]; rfl, by rw [show j * 6 + 1 + 2 = j * 6 + 3 by omega, d4 3 (by omega) (by omega)]; rfl, by rw [show j * 6 + 1 + 3 = j * 6 + 4 by omega, d4 4 (by omega) (by omega)]; rfl, by rw [show j * 6 + 1 + 4 = j * 6 + 5 by omega, d4 5 (by omega) (by omega)]; rfl⟩
    · rw [up_other _ _ _ _ e]
      obtain ⟨e0, e1, e2, e3, e4, e5⟩ := h3 j hj
      exact ⟨(d3 _ (by omega)).trans e0, (d3 _ (by omega)).trans e1, (d3 _ (by omega)).trans e2, (d3 _ (by omega)).trans e3, (d3 _ (by omega)).trans e4, (d3 _ (by omega)).trans e5⟩
  · rw [up_other _ _ _ _ (by omega)]
    exact h4 j hj
theorem Mem.kps {w : World} {p : Nat} {T : Nat → Option En} (h : Mem w p T) (k : Nat) (x : Option En) : Kp (fun j => j = p) w (w.setCells p (k * 6) (sc x).toList) := Kp.sets (S := fun j => j = p) p rfl _ _ _
theorem Mem.run {w : World} {p : Nat} {T : Nat → Option En} (h : Mem w p T) (k : Nat) (hk : k < 64) (x : Option En) : (stS (.pointer (some ⟨p, k * 6, none⟩)) (.agg (sc x))).run Tryd.prog w = .ok () (w.setCells p (k * 6) (sc x).toList) := by
  obtain ⟨⟨cs, h1, h2, h3⟩, h4⟩ := h
  exact run_stS w p (k * 6) cs _ h1 (by omega) x

/-- What Set makes of a table. -/
def okS (i : Int) (x : En) : Bool := decide (0 ≤ i) && decide (i < 64) && may x
def putI (T : Nat → Option En) (i : Int) (x : Option En) : Nat → Option En := if 0 ≤ i ∧ i < 64 then up T i.toNat x else T
def setI (T : Nat → Option En) (i : Int) (x : En) : Nat → Option En := if okS i x = true then up T i.toNat (some x) else T
def setE (i : Int) (x : En) : Int := if okS i x = true then 0 else 50
theorem set_nil (w : World) (i : Int) (x : En) :
    Calls Tryd.prog 35 #[.pointer none, .int .i64 i, ev x] w fun e w' => e = .returned (.int .i64 1) ∧ Below w.heap.size w w' := by
  go_enter Tryd.func35, Tryd.ntmps35
  go_wp2_with (first | (go_at_call 60; (with_reducible refine (slot_nil _ _).mono ?_); rintro e w1 ⟨rfl, rfl⟩))
  go_ret
  exact ⟨rfl, (by repeat' (first | exact Below.refl _ _ | exact Nat.le_refl _ | refine Below.drew ?_ | refine Below.alloc ?_ (by simp) _ | refine Below.setCell ?_ (by simp) _))⟩
theorem set_out (w : World) (p : Nat) (i : Int) (x : En) (h : ¬ (0 ≤ i ∧ i < 64)) :
    Calls Tryd.prog 35 #[.pointer (some ⟨p, 0, none⟩), .int .i64 i, ev x] w fun e w' => e = .returned (.int .i64 50) ∧ Below w.heap.size w w' := by
  have HS := Lib.hid (fun w => slot_out w p i h)
  clear h
  go_enter Tryd.func35, Tryd.ntmps35
  go_wp2_with (first | (go_at_call 60; (with_reducible refine (HS.out _).mono ?_); rintro e w1 ⟨rfl, rfl⟩))
  go_ret
  exact ⟨rfl, (by repeat' (first | exact Below.refl _ _ | exact Nat.le_refl _ | refine Below.drew ?_ | refine Below.alloc ?_ (by simp) _ | refine Below.setCell ?_ (by simp) _))⟩
theorem set_bad (w : World) (p k : Nat) (x : En) (h : k < 64) (hx : may x = false) :
    Calls Tryd.prog 35 #[.pointer (some ⟨p, 0, none⟩), .int .i64 (k : Int), ev x] w fun e w' => e = .returned (.int .i64 50) ∧ Below w.heap.size w w' := by
  have HS := Lib.hid (fun w => slot_in w p k h)
  have HC := Lib.hid (fun w => check_no w x hx)
  clear h hx
  go_enter Tryd.func35, Tryd.ntmps35
  go_wp2_with (first | (go_at_call 60; (with_reducible refine (HS.out _).mono ?_); rintro e w1 ⟨rfl, rfl⟩) | (go_at_call 61; (with_reducible refine (HC.out _).mono ?_); rintro e w1 ⟨rfl, hb⟩))
  go_ret
  exact ⟨rfl, ((Below.refl _ _).alloc (Nat.le_refl _) _).trans (hb.mono (by simp))⟩
theorem set_in (w : World) (p : Nat) (T : Nat → Option En) (hM : Mem w p T) (k : Nat) (x : En) (h : k < 64) (hx : may x = true) :
    Calls Tryd.prog 35 #[.pointer (some ⟨p, 0, none⟩), .int .i64 (k : Int), ev x] w fun e w' => e = .returned (.int .i64 0) ∧ Kp (fun j => j = p) w w' ∧ Mem w' p (up T k (some x)) := by
  have HS := Lib.hid (fun w => slot_in w p k h)
  have HC := Lib.hid (fun w => check_ok w x hx)
  obtain ⟨o, ho⟩ : ∃ o, Obj.cells #[.int .i64 x.f, .bool x.w, .bool x.s, .bool x.c, .bool x.d] 56 = o := ⟨_, rfl⟩
  have hb0 : Below w.heap.size w (w.alloc o) := (Below.refl _ _).alloc (Nat.le_refl _) _
  have hM0 := hM.below hb0
  have HM : Hid (∀ w', Below (w.alloc o).heap.size (w.alloc o) w' → Mem w' p T) := Lib.hid (fun w' hb => hM0.below hb)
  have hK : Blk (w.alloc o) w.heap.size #[.int .i64 x.f, .bool x.w, .bool x.s, .bool x.c, .bool x.d] 56 := by subst ho; exact Blk.new _ _ _
  have HK : Hid (∀ w', Below (w.alloc o).heap.size (w.alloc o) w' → Blk w' w.heap.size #[.int .i64 x.f, .bool x.w, .bool x.s, .bool x.c, .bool x.d] 56) := Lib.hid (fun w' hb => hK.below hb)
  have HK64 := Lib.hid h
  have HB0 := Lib.hid hb0
  have HE : Hid (#[Value.bool true, .int .i64 x.f, .bool x.w, .bool x.s, .bool x.c, .bool x.d] = sc (some x)) := Lib.hid rfl
  clear h hx hM hM0 hK hb0
  subst ho
  go_enter Tryd.func35, Tryd.ntmps35
  go_wp2_with (first | (go_at_call 60; (with_reducible refine (HS.out _).mono ?_); rintro e w1 ⟨rfl, rfl⟩) | (go_at_call 61; (with_reducible refine (HC.out _).mono ?_); rintro e w1 ⟨rfl, hb⟩; have c0 := (HK.out w1 hb).cell 0; have c1 := (HK.out w1 hb).cell 1; have c2 := (HK.out w1 hb).cell 2; have c3 := (HK.out w1 hb).cell 3; have c4 := (HK.out w1 hb).cell 4; have hst := Mem.run (HM.out w1 hb) k HK64.out (some x); have hkp := Mem.kps (HM.out w1 hb) k (some x); have hpu := Mem.put (HM.out w1 hb) k HK64.out (some x); generalize w1.setCells p (k * 6) (sc (some x)).toList = W2 at hst hkp hpu; rw [← HE.out] at hst; replace hkp := Lib.hid hkp; replace hpu := Lib.hid hpu; replace hb := Lib.hid hb))
  go_ret
  exact ⟨rfl, (Kp.of_below (HB0.out.trans (hb.out.mono HB0.out.size))).trans hkp.out (fun j h => .inl h), hpu.out⟩
theorem set_any (w : World) (p : Nat) (T : Nat → Option En) (hM : Mem w p T) (i : Int) (x : En) :
    Calls Tryd.prog 35 #[.pointer (some ⟨p, 0, none⟩), .int .i64 i, ev x] w fun e w' => e = .returned (.int .i64 (setE i x)) ∧ Kp (fun j => j = p) w w' ∧ Mem w' p (setI T i x) := by
  by_cases h : 0 ≤ i ∧ i < 64
  · obtain ⟨k, rfl⟩ := Int.eq_ofNat_of_zero_le h.1
    have e1 : decide (0 ≤ (k : Int)) = true := decide_eq_true h.1
    have e2 : decide ((k : Int) < 64) = true := decide_eq_true h.2
    have e3 : okS (k : Int) x = may x := by unfold okS; rw [e1, e2]; simp
    unfold setI setE
    rw [e3]
    cases hx : may x with
    | true =>
      rw [if_pos rfl, if_pos rfl]
      exact set_in w p T hM k x (by omega) hx
    | false =>
      rw [if_neg (by decide), if_neg (by decide)]
      exact (set_bad w p k x (by omega) hx).mono fun e w' ⟨h1, h2⟩ => ⟨h1, .of_below h2, hM.below h2⟩
  · have e3 : ¬ okS i x = true := by
      unfold okS
      simp only [Bool.and_eq_true, decide_eq_true_eq]
      exact fun e => h e.1
    unfold setI setE
    rw [if_neg e3, if_neg e3]
    exact (set_out w p i x h).mono fun e w' ⟨h1, h2⟩ => ⟨h1, .of_below h2, hM.below h2⟩
end Go.Proofs.YtjoapeeljigjcaaDoor.Ts
