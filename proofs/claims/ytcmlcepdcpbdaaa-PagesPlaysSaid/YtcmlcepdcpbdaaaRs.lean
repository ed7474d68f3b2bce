/-
  Set of the document's own table.
-/
import Derived.Test.YtcmlcepdcpbdaaaRc
namespace Go.Proofs.Ytcmlcepdcpbdaaa.Rs
open Go Go.RowKit Kit Bk Tm Ts Tc Ti Tl Th Td Tq Tr Tn En Ov Gd Ho Pt Rg Rc
set_option linter.unusedVariables false
attribute [local go_sem ↓] app_wrap

theorem rset_may (w : World) (q : Nat) (i : Int) (x : En) (hx : may x = false) :
    Calls Try.prog 11 #[.pointer (some ⟨q, 0, none⟩), .int .i64 i, ev x] w fun e w' => e = .returned (.int .i64 50) ∧ Below w.heap.size w w' := by
  have hm := fun w => may_any w x
  rw [hx] at hm
  have HM := Lib.hid hm
  clear hm hx
  go_enter Try.func11, Try.ntmps11
  go_wp2_with (first | (go_at_call 18; (with_reducible refine (HM.out _).mono ?_); rintro e w1 ⟨rfl, hb⟩))
  go_ret
  exact ⟨rfl, ((Below.refl _ _).alloc (Nat.le_refl _) _).trans (hb.mono (by simp))⟩
theorem rset_out (w : World) (q : Nat) (i : Int) (x : En) (hx : may x = true) (hi : ¬ (0 ≤ i ∧ i < 64)) :
    Calls Try.prog 11 #[.pointer (some ⟨q, 0, none⟩), .int .i64 i, ev x] w fun e w' => e = .returned (.int .i64 50) ∧ Below w.heap.size w w' := by
  have hm := fun w => may_any w x
  rw [hx] at hm
  have HM := Lib.hid hm
  clear hm hx
  by_cases h0 : i < 0
  · have d : decide (i < 0) = true := decide_eq_true h0
    clear hi h0
    go_enter Try.func11, Try.ntmps11
    go_wp2_with (first | (go_at_call 18; (with_reducible refine (HM.out _).mono ?_); rintro e w1 ⟨rfl, hb⟩))
    go_ret
    exact ⟨rfl, ((Below.refl _ _).alloc (Nat.le_refl _) _).trans (hb.mono (by simp))⟩
  · have d : decide (i < 0) = false := decide_eq_false h0
    have d2 : decide (63 < i) = true := decide_eq_true (by omega)
    clear hi h0
    go_enter Try.func11, Try.ntmps11
    go_wp2_with (first | (go_at_call 18; (with_reducible refine (HM.out _).mono ?_); rintro e w1 ⟨rfl, hb⟩))
    go_ret
    exact ⟨rfl, ((Below.refl _ _).alloc (Nat.le_refl _) _).trans (hb.mono (by simp))⟩
set_option maxRecDepth 100000 in
set_option maxHeartbeats 4000000 in
theorem rset_in (w : World) (q : Nat) (T : Nat → Option En) (hR : Rf w q T) (k : Nat) (x : En) (hk : k < 64) (hx : may x = true) :
    Calls Try.prog 11 #[.pointer (some ⟨q, 0, none⟩), .int .i64 (k : Int), ev x] w fun e w' => e = .returned (.int .i64 0) ∧ Kp (fun j => j = q) w w' ∧ Rf w' q (up T k (some x)) := by
  obtain ⟨xf, xw, xs, xc, xd⟩ := x
  have hm := fun w => may_any w ⟨xf, xw, xs, xc, xd⟩
  rw [hx] at hm
  have HMay := Lib.hid hm
  have hb0 : Below w.heap.size w (w.alloc (.cells #[.int .i64 xf, .bool xw, .bool xs, .bool xc, .bool xd] 25)) := (Below.refl _ _).alloc (Nat.le_refl _) _
  have HR := Lib.hid (hR.below hb0)
  have HX : Hid (Blk (w.alloc (.cells #[.int .i64 xf, .bool xw, .bool xs, .bool xc, .bool xd] 25)) w.heap.size #[.int .i64 xf, .bool xw, .bool xs, .bool xc, .bool xd] 25) := Lib.hid (Blk.new _ _ _)
  have HQ := Lib.hid hR.lt
  have HB := Lib.hid hb0
  have HCl : Hid (∀ W, Rf W q T → Calls Try.prog 13 #[.pointer (some ⟨q, 0, none⟩), .int .i64 (k : Int)] W fun e w' => (∃ r, e = .returned r) ∧ Kp (fun j => j = q) W w' ∧ Rf w' q (up T k none)) := Lib.hid (fun W h => (rclear_any W q T h k).mono fun e w' ⟨h1, h2, h3⟩ => ⟨⟨_, h1⟩, h2, by
    unfold putI at h3
    rw [if_pos ⟨by omega, by omega⟩] at h3
    exact h3⟩)
  have d : decide ((k : Int) < 0) = false := decide_eq_false (by omega)
  have d2 : decide (63 < (k : Int)) = false := decide_eq_false (by omega)
  clear hm hx hR hb0
  go_enter Try.func11, Try.ntmps11
  go_wp2_with (first | (go_at_call 18; (with_reducible refine (HMay.out _).mono ?_); rintro e w1 ⟨rfl, hb⟩; replace HR := Lib.hid (HR.out.below hb); replace HX := Lib.hid (HX.out.below hb); replace HB := Lib.hid (HB.out.trans (hb.mono HB.out.size)); clear hb) | (go_at_call 13; (with_reducible refine (HCl.out _ HR.out).mono ?_); rintro e w2 ⟨⟨r2, rfl⟩, hk2, hr2⟩; refine Hid.out ?_))
  refine Lib.hid ?_
  replace HX := Lib.hid (HX.out.kept hk2 (by have := HQ.out; omega))
  have HKp := Lib.hid ((Kp.of_below (S := fun j => j = q) HB.out).trans hk2 (fun _ e => .inl e))
  replace HR := Lib.hid hr2
  clear HB hk2 hr2 HCl HMay
  go_wp2
  obtain ⟨T', hT'⟩ : ∃ T', up T k (some ⟨xf, xw, xs, xc, xd⟩) = T' := ⟨_, rfl⟩
  obtain ⟨Tc', hTc⟩ : ∃ Tc', up T k none = Tc' := ⟨_, rfl⟩
  rw [hTc] at HR
  have HT1 : Hid (T' k = some ⟨xf, xw, xs, xc, xd⟩) := Lib.hid (by rw [← hT', up_same])
  have HT2 : Hid (∀ j, j ≠ k → T' j = Tc' j) := Lib.hid (fun j hj => by rw [← hT', ← hTc, up_other _ _ _ _ hj, up_other _ _ _ _ hj])
  have HTT := Lib.hid hT'
  have HGt : Hid (∀ W, Rf W q Tc' → ∀ j : Nat, j < 64 → Calls Try.prog 32 #[.pointer (some ⟨q, 0, none⟩), .int .i64 (j : Int)] W fun e w' => e = .returned (.tuple #[ev ((Tc' j).getD z0), .bool (Tc' j).isSome]) ∧ Below W.heap.size W w') := Lib.hid (fun W h j hj => by
    have := rget_any W q Tc' h j
    rw [atI_nat hj] at this
    exact this)
  clear hT' hTc
  go_loopw [8, 9] (fun a c wr => ∃ j : Nat, j ≤ 64 ∧ c = .int .i64 (j : Int) ∧ wr.ownsRow w2.heap.size 59 6 a (ents T' j).length (mcells (ents T' j)) ∧ Below w2.heap.size w2 wr) (fun _ c _ => 64 - (intOf c).toNat)
  case atStart => exact ⟨0, Nat.zero_le _, rfl, World.ownsRow_nil _ _ _ _, Below.refl _ _⟩
  case round =>
    obtain ⟨j, hj, rfl, hrow, hbr⟩ := hrel
    by_cases hlt : j < 64
    · have hjN : (j : Int) < 64 := by omega
      have hXr := HX.out.below hbr
      have hGj := HGt.out _ (HR.out.below hbr) j hlt
      have hlj := ents_len T' j
      obtain ⟨⟨yf, yw, ys, yc, yd⟩, hy⟩ : ∃ y, (Tc' j).getD z0 = y := ⟨_, rfl⟩
      obtain ⟨b, hbs⟩ : ∃ b, (Tc' j).isSome = b := ⟨_, rfl⟩
      rw [hy, hbs] at hGj
      have HGj := Lib.hid hGj
      have HRow := Lib.hid hrow
      have HBr := Lib.hid hbr
      have HXr := Lib.hid hXr
      have HY := Lib.hid hy
      have HBS := Lib.hid hbs
      clear hrow hbr hXr hGj hy hbs
      go_wp2_with (first | (go_at_call 32; (with_reducible refine HGj.out.mono ?_); rintro e w5 ⟨rfl, hb⟩; refine Hid.out ?_))
      refine Lib.hid ?_
      have hbo := hb.alloc hb.size (.cells #[.int .i64 yf, .bool yw, .bool ys, .bool yc, .bool yd] 25)
      have hrow5 := row_below HRow.out hbo
      have hbr5 := HBr.out.trans (hbo.mono HBr.out.size)
      have hX5 := HXr.out.below hbo
      have x0 := hX5.cell 0
      have x1 := hX5.cell 1
      have x2 := hX5.cell 2
      have x3 := hX5.cell 3
      have x4 := hX5.cell 4
      clear hb hbo hX5 HRow HBr HXr
      by_cases heq : j = k
      · subst heq
        have hu := ents_some HT1.out
        obtain ⟨v', w6, hrun, hown, hbel⟩ := app_m (w5.alloc (.cells #[.int .i64 yf, .bool yw, .bool ys, .bool yc, .bool yd] 25)) w2.heap.size _ (ents T' j) (j, ⟨xf, xw, xs, xc, xd⟩) hrow5 hbr5.size (by omega)
        rw [← hu] at hown
        have HO := Lib.hid (And.intro hown (hbr5.trans hbel))
        simp only [World.size_alloc] at hrun
        clear hrow5 hbr5 hown hbel hu
        go_wp2
        go_roundw
        case rel => exact ⟨j + 1, by omega, by go_num, HO.out.1, HO.out.2⟩
        case measure => simp [intOf]; omega
      · have hne : ((j : Int) == (k : Int)) = false := beq_eq_false_iff_ne.2 (by omega)
        have hTj := HT2.out j heq
        cases b with
        | false =>
          have hn : Tc' j = none := by
            have := HBS.out
            cases hx : Tc' j with
            | none => rfl
            | some e => rw [hx] at this; cases this
          have hu := ents_none (hTj.trans hn)
          have HO := Lib.hid (And.intro hrow5 hbr5)
          rw [← hu] at HO
          clear hrow5 hbr5 hn hu hTj heq
          go_wp2
          go_roundw
          case rel => exact ⟨j + 1, by omega, by go_num, HO.out.1, HO.out.2⟩
          case measure => simp [intOf]; omega
        | true =>
          have hn : Tc' j = some ⟨yf, yw, ys, yc, yd⟩ := by
            have h1 := HBS.out
            have h2 := HY.out
            cases hx : Tc' j with
            | none => rw [hx] at h1; cases h1
            | some e => rw [hx] at h2; exact congrArg some h2
          have hu := ents_some (hTj.trans hn)
          obtain ⟨v', w6, hrun, hown, hbel⟩ := app_m (w5.alloc (.cells #[.int .i64 yf, .bool yw, .bool ys, .bool yc, .bool yd] 25)) w2.heap.size _ (ents T' j) (j, ⟨yf, yw, ys, yc, yd⟩) hrow5 hbr5.size (by omega)
          rw [← hu] at hown
          have HO := Lib.hid (And.intro hown (hbr5.trans hbel))
          simp only [World.size_alloc] at hrun
          clear hrow5 hbr5 hown hbel hu hn hTj heq
          go_wp2
          go_roundw
          case rel => exact ⟨j + 1, by omega, by go_num, HO.out.1, HO.out.2⟩
          case measure => simp [intOf]; omega
    · obtain rfl : j = 64 := by omega
      obtain ⟨ad', cap', rfl⟩ := row_form hrow
      obtain ⟨hRf, hkq⟩ := Rf.put (HR.out.below hbr) (Rd.of_own hrow)
      obtain ⟨vq, hq1, hq2⟩ := HR.out.below hbr
      have cq := hq1.cell 0
      have fq := hq1.free 0
      have HRf := Lib.hid hRf
      have HK := Lib.hid (HKp.out.trans ((Kp.of_below (S := fun j => j = q) hbr).trans hkq (fun _ e => .inl e)) (fun _ e => .inl e))
      clear hrow hbr hRf hkq hq1 hq2
      go_wp2
      go_ret
      exact ⟨rfl, HK.out, by rw [HTT.out]; exact HRf.out⟩
theorem rset_any (w : World) (q : Nat) (T : Nat → Option En) (hR : Rf w q T) (i : Int) (x : En) :
    Calls Try.prog 11 #[.pointer (some ⟨q, 0, none⟩), .int .i64 i, ev x] w fun e w' => e = .returned (.int .i64 (setE i x)) ∧ Kp (fun j => j = q) w w' ∧ Rf w' q (setI T i x) := by
  by_cases h : 0 ≤ i ∧ i < 64
  · obtain ⟨k, rfl⟩ := Int.eq_ofNat_of_zero_le h.1
    have e1 : decide (0 ≤ (k : Int)) = true := decide_eq_true h.1
    have e2 : decide ((k : Int) < 64) = true := decide_eq_true h.2
    have e3 : okS (k : Int) x = may x := by unfold okS; rw [e1, e2]; simp
    unfold setI setE
    rw [e3]
    cases hx : may x with
    | true =>
      rw [if_pos rfl, if_pos rfl]
      exact rset_in w q T hR k x (by omega) hx
    | false =>
      rw [if_neg (by decide), if_neg (by decide)]
      exact (rset_may w q k x hx).mono fun e w' ⟨h1, h2⟩ => ⟨h1, .of_below h2, hR.below h2⟩
  · have e3 : ¬ okS i x = true := by
      unfold okS
      simp only [Bool.and_eq_true, decide_eq_true_eq]
      exact fun e => h e.1
    unfold setI setE
    rw [if_neg e3, if_neg e3]
    cases hx : may x with
    | true => exact (rset_out w q i x hx h).mono fun e w' ⟨h1, h2⟩ => ⟨h1, .of_below h2, hR.below h2⟩
    | false => exact (rset_may w q i x hx).mono fun e w' ⟨h1, h2⟩ => ⟨h1, .of_below h2, hR.below h2⟩
end Go.Proofs.Ytcmlcepdcpbdaaa.Rs
