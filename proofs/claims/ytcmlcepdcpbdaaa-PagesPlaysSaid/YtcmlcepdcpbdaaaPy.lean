/-
  Whatever is set and cleared, a table answers what the document says: PagesPlays.
-/
import Derived.Test.YtcmlcepdcpbdaaaAk
import Derived.Test.YtcmlcepdcpbdaaaCp
namespace Go.Proofs.Ytcmlcepdcpbdaaa.Py
open Go Go.RowKit Kit Bk Tm Ts Tc Ti Tl Th Td Tq Tr Tn En Ov Gd Ho Pt Rg Rc Rs Rd2 Rp Rh Sm Lw Ak Cp
set_option linter.unusedVariables false

theorem rf_new (w : World) : Rf (w.alloc (.cells #[.slice none 0 0] 35)) w.heap.size (fun _ => none) := ⟨_, Blk.new _ _ _, Rd.nil _ _ _⟩
set_option maxRecDepth 100000 in
set_option maxHeartbeats 8000000 in
theorem plays_law (v : Value) (ops : List Opr) (n : Int) (w : World) (h : OpsAt w v ops) (hn : n ≤ 9223372036854775807) :
    Calls Try.prog 3 #[v, .int .i64 n] w fun e w' => e = .returned (.bool true) ∧ Below w.heap.size w w' := by
  obtain ⟨a, cap, rfl, h1, h2, h3⟩ := h
  by_cases hlen : ops.length ≤ 150
  case neg =>
    have d : decide ((150 : Int) < (ops.length : Int)) = true := decide_eq_true (by omega)
    clear h3 hlen
    go_enter Try.func3, Try.ntmps3
    go_wp2
    go_ret
    exact ⟨rfl, Below.refl _ _⟩
  case pos =>
    have d : decide ((150 : Int) < (ops.length : Int)) = false := decide_eq_false (by omega)
    have hl : (ops.length : Int) ≤ 150 := by omega
    have hz := run_zeroT
    obtain ⟨hb, hm⟩ := new_zero w
    have hr := rf_new (w.alloc (.cells zT 31))
    have hb2 := hb.alloc (by simp) (.cells #[.slice none 0 0] 35)
    have hm2 := Mem.below hm ((Below.refl _ _).alloc (Nat.le_refl _) (.cells #[.slice none 0 0] 35))
    simp only [World.size_alloc] at hr
    generalize zT = Z at *
    have HS0 := Lib.hid (And.intro hm2 (And.intro hr hb2))
    have H3 := Lib.hid h3
    obtain ⟨q, hq⟩ : ∃ q, w.heap.size + 1 = q := ⟨_, rfl⟩
    have HQ : Hid (w.heap.size ≤ q) := Lib.hid (by omega)
    have HQ2 := Lib.hid hq
    clear h3 hb hm hr hb2 hm2 hlen
    rw [hq] at HS0
    clear hq
    go_enter Try.func3, Try.ntmps3
    go_wp2
    rw [HQ2.out]
    go_loopw [5, 27] (fun pt c wr => ∃ (j : Nat) (p : Nat) (T : Nat → Option En), j ≤ ops.length ∧ c = .int .i64 (j : Int) ∧ pt = .pointer (some ⟨p, 0, none⟩) ∧ Mem wr p T ∧ Rf wr q T ∧ w.heap.size ≤ p ∧ Below w.heap.size w wr) (fun _ c _ => ops.length - (intOf c).toNat)
    case atStart => exact ⟨0, _, _, Nat.zero_le _, rfl, rfl, HS0.out.1, HS0.out.2.1, Nat.le_refl _, HS0.out.2.2⟩
    case round =>
      obtain ⟨j, p, T, hj, rfl, rfl, hM, hR, hlo, hB⟩ := hrel
      by_cases hlt : j < ops.length
      · rcases H3.out with h0 | ⟨ba, off, rfl, hba, h4⟩
        · subst h0; simp at hlt
        · have hop := OpAt.below (h4 j hlt) hB hba
          generalize ops[j] = o at *
          obtain ⟨kind, page, xf, xw, xs, xc, xd⟩ := o
          obtain ⟨c0, c1, c2, c3, c4, c5, c6⟩ := hop
          dsimp only at c0 c1 c2 c3 c4 c5 c6
          have hlti : (j : Int) < (ops.length : Int) := by omega
          clear h4
          by_cases k0 : kind = 0
          · subst k0
            have hbx := (Below.refl wr.heap.size wr).alloc (Nat.le_refl _) (.cells #[.int .i64 0, .int .i64 page, .int .i64 xf, .bool xw, .bool xs, .bool xc, .bool xd] 37)
            have HX : Hid (Blk (wr.alloc (.cells #[.int .i64 0, .int .i64 page, .int .i64 xf, .bool xw, .bool xs, .bool xc, .bool xd] 37)) wr.heap.size #[.int .i64 0, .int .i64 page, .int .i64 xf, .bool xw, .bool xs, .bool xc, .bool xd] 37) := Lib.hid (Blk.new _ _ _)
            have HNe : Hid (wr.heap.size ≠ p ∧ wr.heap.size ≠ q) := Lib.hid ⟨by have := hM.lt; omega, by have := hR.lt; omega⟩
            have HM := Lib.hid (Mem.below hM hbx)
            have HR := Lib.hid (hR.below hbx)
            have HB := Lib.hid (hB.trans (hbx.mono hB.size))
            have HLo : Hid (w.heap.size ≤ p ∧ w.heap.size ≤ q) := Lib.hid ⟨hlo, HQ.out⟩
            clear hM hR hB hbx hlo
            obtain ⟨E, hE⟩ : ∃ E, setE page ⟨xf, xw, xs, xc, xd⟩ = E := ⟨_, rfl⟩
            obtain ⟨T2, hT2⟩ : ∃ T2, setI T page ⟨xf, xw, xs, xc, xd⟩ = T2 := ⟨_, rfl⟩
            have HS : Hid (∀ W, Mem W p T → Calls Try.prog 10 #[.pointer (some ⟨p, 0, none⟩), .int .i64 page, .agg #[.int .i64 xf, .bool xw, .bool xs, .bool xc, .bool xd]] W fun e w' => e = .returned (.int .i64 E) ∧ Kp (fun j => j = p) W w' ∧ Mem w' p T2) := Lib.hid (fun W h => by rw [← hE, ← hT2]; exact set_any W p T h page ⟨xf, xw, xs, xc, xd⟩)
            have HS2 : Hid (∀ W, Rf W q T → Calls Try.prog 11 #[.pointer (some ⟨q, 0, none⟩), .int .i64 page, .agg #[.int .i64 xf, .bool xw, .bool xs, .bool xc, .bool xd]] W fun e w' => e = .returned (.int .i64 E) ∧ Kp (fun j => j = q) W w' ∧ Rf w' q T2) := Lib.hid (fun W h => by rw [← hE, ← hT2]; exact rset_any W q T h page ⟨xf, xw, xs, xc, xd⟩)
            clear hE hT2
            go_wp2_with (first | (go_at_call 10; (with_reducible refine (HS.out _ HM.out).mono ?_); rintro e w5 ⟨rfl, hk, hm⟩; refine Hid.out ?_))
            refine Lib.hid ?_
            replace HX := Lib.hid (HX.out.kept hk HNe.out.1)
            replace HR := Lib.hid (Rf.beside HR.out HM.out hk)
            replace HB := Lib.hid (HB.out.trans (hk.below HB.out.size (fun j e => by have := HLo.out.1; omega)))
            replace HM := Lib.hid hm
            clear hk hm
            have x0 := HX.out.cell 0
            have x1 := HX.out.cell 1
            have x2 := HX.out.cell 2
            have x3 := HX.out.cell 3
            have x4 := HX.out.cell 4
            have x5 := HX.out.cell 5
            have x6 := HX.out.cell 6
            go_wp2_with (first | (go_at_call 11; (with_reducible refine (HS2.out _ HR.out).mono ?_); rintro e w6 ⟨rfl, hk, hr⟩; refine Hid.out ?_))
            refine Lib.hid ?_
            clear x0 x1 x2 x3 x4 x5 x6
            replace HX := Lib.hid (HX.out.kept hk HNe.out.2)
            replace HM := Lib.hid (mem_beside HM.out HR.out hk)
            replace HB := Lib.hid (HB.out.trans (hk.below HB.out.size (fun j e => by have := HLo.out.2; omega)))
            replace HR := Lib.hid hr
            clear hk hr
            have x0 := HX.out.cell 0
            have x1 := HX.out.cell 1
            have x2 := HX.out.cell 2
            have x3 := HX.out.cell 3
            have x4 := HX.out.cell 4
            have x5 := HX.out.cell 5
            have x6 := HX.out.cell 6
            have HAl : Hid (∀ W, Mem W p (T2) → Rf W q (T2) → _) := Lib.hid (fun W h1 h2 => alike_any W p q (T2) h1 h2 page n hn)
            cases hmay : may ⟨xf, xw, xs, xc, xd⟩ with
            | true =>
              have HCk : Hid (∀ W, Calls Try.prog 17 #[.agg #[.int .i64 xf, .bool xw, .bool xs, .bool xc, .bool xd]] W fun e w' => e = .returned (.int .i64 0) ∧ Below W.heap.size W w') := Lib.hid (fun W => check_ok W ⟨xf, xw, xs, xc, xd⟩ hmay)
              have HMy : Hid (∀ W, Calls Try.prog 18 #[.agg #[.int .i64 xf, .bool xw, .bool xs, .bool xc, .bool xd]] W fun e w' => e = .returned (.bool true) ∧ Below W.heap.size W w') := Lib.hid (fun W => by
                have := Rg.may_any W ⟨xf, xw, xs, xc, xd⟩
                rw [hmay] at this
                exact this)
              clear hmay
              go_wp2_with (first | (go_at_call 17; (with_reducible refine (HCk.out _).mono ?_); rintro e w8 ⟨rfl, hb⟩; replace HX := Lib.hid (HX.out.below hb); replace HM := Lib.hid (Mem.below HM.out hb); replace HR := Lib.hid (HR.out.below hb); replace HB := Lib.hid (HB.out.trans (hb.mono HB.out.size)); have x0 := HX.out.cell 0; have x1 := HX.out.cell 1; have x2 := HX.out.cell 2; have x3 := HX.out.cell 3; have x4 := HX.out.cell 4; have x5 := HX.out.cell 5; have x6 := HX.out.cell 6; clear hb) | (go_at_call 18; (with_reducible refine (HMy.out _).mono ?_); rintro e w9 ⟨rfl, hb⟩; replace HX := Lib.hid (HX.out.below hb); replace HM := Lib.hid (Mem.below HM.out hb); replace HR := Lib.hid (HR.out.below hb); replace HB := Lib.hid (HB.out.trans (hb.mono HB.out.size)); have x0 := HX.out.cell 0; have x1 := HX.out.cell 1; have x2 := HX.out.cell 2; have x3 := HX.out.cell 3; have x4 := HX.out.cell 4; have x5 := HX.out.cell 5; have x6 := HX.out.cell 6; clear hb) | (go_at_call 19; (with_reducible refine (HAl.out _ HM.out HR.out).mono ?_); rintro e w10 ⟨rfl, hb⟩; replace HX := Lib.hid (HX.out.below hb); replace HM := Lib.hid (Mem.below HM.out hb); replace HR := Lib.hid (HR.out.below hb); replace HB := Lib.hid (HB.out.trans (hb.mono HB.out.size)); clear hb))
              go_roundw
              case rel => exact ⟨j + 1, _, _, by omega, by go_num, rfl, HM.out, HR.out, HLo.out.1, HB.out⟩
              case measure => simp [intOf]; omega
            | false =>
              have HCk : Hid (∀ W, Calls Try.prog 17 #[.agg #[.int .i64 xf, .bool xw, .bool xs, .bool xc, .bool xd]] W fun e w' => e = .returned (.int .i64 50) ∧ Below W.heap.size W w') := Lib.hid (fun W => check_no W ⟨xf, xw, xs, xc, xd⟩ hmay)
              have HMy : Hid (∀ W, Calls Try.prog 18 #[.agg #[.int .i64 xf, .bool xw, .bool xs, .bool xc, .bool xd]] W fun e w' => e = .returned (.bool false) ∧ Below W.heap.size W w') := Lib.hid (fun W => by
                have := Rg.may_any W ⟨xf, xw, xs, xc, xd⟩
                rw [hmay] at this
                exact this)
              clear hmay
              go_wp2_with (first | (go_at_call 17; (with_reducible refine (HCk.out _).mono ?_); rintro e w8 ⟨rfl, hb⟩; replace HX := Lib.hid (HX.out.below hb); replace HM := Lib.hid (Mem.below HM.out hb); replace HR := Lib.hid (HR.out.below hb); replace HB := Lib.hid (HB.out.trans (hb.mono HB.out.size)); have x0 := HX.out.cell 0; have x1 := HX.out.cell 1; have x2 := HX.out.cell 2; have x3 := HX.out.cell 3; have x4 := HX.out.cell 4; have x5 := HX.out.cell 5; have x6 := HX.out.cell 6; clear hb) | (go_at_call 18; (with_reducible refine (HMy.out _).mono ?_); rintro e w9 ⟨rfl, hb⟩; replace HX := Lib.hid (HX.out.below hb); replace HM := Lib.hid (Mem.below HM.out hb); replace HR := Lib.hid (HR.out.below hb); replace HB := Lib.hid (HB.out.trans (hb.mono HB.out.size)); have x0 := HX.out.cell 0; have x1 := HX.out.cell 1; have x2 := HX.out.cell 2; have x3 := HX.out.cell 3; have x4 := HX.out.cell 4; have x5 := HX.out.cell 5; have x6 := HX.out.cell 6; clear hb) | (go_at_call 19; (with_reducible refine (HAl.out _ HM.out HR.out).mono ?_); rintro e w10 ⟨rfl, hb⟩; replace HX := Lib.hid (HX.out.below hb); replace HM := Lib.hid (Mem.below HM.out hb); replace HR := Lib.hid (HR.out.below hb); replace HB := Lib.hid (HB.out.trans (hb.mono HB.out.size)); clear hb))
              go_roundw
              case rel => exact ⟨j + 1, _, _, by omega, by go_num, rfl, HM.out, HR.out, HLo.out.1, HB.out⟩
              case measure => simp [intOf]; omega
          · have e0 : (kind == 0) = false := by simp [k0]
            by_cases k1 : kind = 1
            · subst k1
              clear k0
              have hbx := (Below.refl wr.heap.size wr).alloc (Nat.le_refl _) (.cells #[.int .i64 1, .int .i64 page, .int .i64 xf, .bool xw, .bool xs, .bool xc, .bool xd] 37)
              have HX : Hid (Blk (wr.alloc (.cells #[.int .i64 1, .int .i64 page, .int .i64 xf, .bool xw, .bool xs, .bool xc, .bool xd] 37)) wr.heap.size #[.int .i64 1, .int .i64 page, .int .i64 xf, .bool xw, .bool xs, .bool xc, .bool xd] 37) := Lib.hid (Blk.new _ _ _)
              have HNe : Hid (wr.heap.size ≠ p ∧ wr.heap.size ≠ q) := Lib.hid ⟨by have := hM.lt; omega, by have := hR.lt; omega⟩
              have HM := Lib.hid (Mem.below hM hbx)
              have HR := Lib.hid (hR.below hbx)
              have HB := Lib.hid (hB.trans (hbx.mono hB.size))
              have HLo : Hid (w.heap.size ≤ p ∧ w.heap.size ≤ q) := Lib.hid ⟨hlo, HQ.out⟩
              clear hM hR hB hbx hlo
              obtain ⟨⟨yf, yw, ys, yc, yd⟩, hy⟩ : ∃ y, (atI T page).getD z0 = y := ⟨_, rfl⟩
              obtain ⟨b, hbs⟩ : ∃ b, (atI T page).isSome = b := ⟨_, rfl⟩
              obtain ⟨T2, hT2⟩ : ∃ T2, putI T page none = T2 := ⟨_, rfl⟩
              have HS : Hid (∀ W, Mem W p T → Calls Try.prog 12 #[.pointer (some ⟨p, 0, none⟩), .int .i64 page] W fun e w' => e = .returned (.tuple #[.agg #[.int .i64 yf, .bool yw, .bool ys, .bool yc, .bool yd], .bool b]) ∧ Kp (fun j => j = p) W w' ∧ Mem w' p T2) := Lib.hid (fun W h => by
                have := clear_any W p T h page
                rw [hy, hbs, hT2] at this
                exact this)
              have HS2 : Hid (∀ W, Rf W q T → Calls Try.prog 13 #[.pointer (some ⟨q, 0, none⟩), .int .i64 page] W fun e w' => e = .returned (.tuple #[.agg #[.int .i64 yf, .bool yw, .bool ys, .bool yc, .bool yd], .bool b]) ∧ Kp (fun j => j = q) W w' ∧ Rf w' q T2) := Lib.hid (fun W h => by
                have := rclear_any W q T h page
                rw [hy, hbs, hT2] at this
                exact this)
              clear hy hbs hT2
              go_wp2_with (first | (go_at_call 12; (with_reducible refine (HS.out _ HM.out).mono ?_); rintro e w5 ⟨rfl, hk, hm⟩; refine Hid.out ?_))
              refine Lib.hid ?_
              replace HX := Lib.hid (HX.out.kept hk HNe.out.1)
              replace HR := Lib.hid (Rf.beside HR.out HM.out hk)
              replace HB := Lib.hid (HB.out.trans (hk.below HB.out.size (fun j e => by have := HLo.out.1; omega)))
              replace HM := Lib.hid hm
              clear hk hm
              have hbo := (Below.refl w5.heap.size w5).alloc (Nat.le_refl _) (.cells #[.int .i64 yf, .bool yw, .bool ys, .bool yc, .bool yd] 25)
              replace HX := Lib.hid (HX.out.below hbo)
              replace HM := Lib.hid (Mem.below HM.out hbo)
              replace HR := Lib.hid (HR.out.below hbo)
              replace HB := Lib.hid (HB.out.trans (hbo.mono HB.out.size))
              have HA : Hid (Blk (w5.alloc (.cells #[.int .i64 yf, .bool yw, .bool ys, .bool yc, .bool yd] 25)) w5.heap.size #[.int .i64 yf, .bool yw, .bool ys, .bool yc, .bool yd] 25) := Lib.hid (Blk.new _ _ _)
              have HNa : Hid (w5.heap.size ≠ q) := Lib.hid (by
                have h1 := HR.out
                obtain ⟨v, h2, _⟩ := h1
                exact Blk.ne HA.out h2 (by decide))
              clear hbo
              have x0 := HX.out.cell 0
              have x1 := HX.out.cell 1
              have x2 := HX.out.cell 2
              have x3 := HX.out.cell 3
              have x4 := HX.out.cell 4
              have x5 := HX.out.cell 5
              have x6 := HX.out.cell 6
              go_wp2_with (first | (go_at_call 13; (with_reducible refine (HS2.out _ HR.out).mono ?_); rintro e w6 ⟨rfl, hk, hr⟩; refine Hid.out ?_))
              refine Lib.hid ?_
              clear x0 x1 x2 x3 x4 x5 x6
              replace HA := Lib.hid (HA.out.kept hk HNa.out)
              replace HX := Lib.hid (HX.out.kept hk HNe.out.2)
              replace HM := Lib.hid (mem_beside HM.out HR.out hk)
              replace HB := Lib.hid (HB.out.trans (hk.below HB.out.size (fun j e => by have := HLo.out.2; omega)))
              replace HR := Lib.hid hr
              clear hk hr
              have hbo := (Below.refl w6.heap.size w6).alloc (Nat.le_refl _) (.cells #[.int .i64 yf, .bool yw, .bool ys, .bool yc, .bool yd] 25)
              replace HX := Lib.hid (HX.out.below hbo)
              replace HM := Lib.hid (Mem.below HM.out hbo)
              replace HR := Lib.hid (HR.out.below hbo)
              replace HB := Lib.hid (HB.out.trans (hbo.mono HB.out.size))
              replace HA := Lib.hid (HA.out.below hbo)
              clear hbo
              have a0 := HA.out.cell 0
              have a1 := HA.out.cell 1
              have a2 := HA.out.cell 2
              have a3 := HA.out.cell 3
              have a4 := HA.out.cell 4
              have x0 := HX.out.cell 0
              have x1 := HX.out.cell 1
              have x2 := HX.out.cell 2
              have x3 := HX.out.cell 3
              have x4 := HX.out.cell 4
              have x5 := HX.out.cell 5
              have x6 := HX.out.cell 6
              have HAl : Hid (∀ W, Mem W p (T2) → Rf W q (T2) → _) := Lib.hid (fun W h1 h2 => alike_any W p q (T2) h1 h2 page n hn)
              cases hmay : may ⟨xf, xw, xs, xc, xd⟩ with
              | true =>
                have HCk : Hid (∀ W, Calls Try.prog 17 #[.agg #[.int .i64 xf, .bool xw, .bool xs, .bool xc, .bool xd]] W fun e w' => e = .returned (.int .i64 0) ∧ Below W.heap.size W w') := Lib.hid (fun W => check_ok W ⟨xf, xw, xs, xc, xd⟩ hmay)
                have HMy : Hid (∀ W, Calls Try.prog 18 #[.agg #[.int .i64 xf, .bool xw, .bool xs, .bool xc, .bool xd]] W fun e w' => e = .returned (.bool true) ∧ Below W.heap.size W w') := Lib.hid (fun W => by
                  have := Rg.may_any W ⟨xf, xw, xs, xc, xd⟩
                  rw [hmay] at this
                  exact this)
                clear hmay
                go_wp2_with (first | (go_at_call 17; (with_reducible refine (HCk.out _).mono ?_); rintro e w8 ⟨rfl, hb⟩; replace HX := Lib.hid (HX.out.below hb); replace HM := Lib.hid (Mem.below HM.out hb); replace HR := Lib.hid (HR.out.below hb); replace HB := Lib.hid (HB.out.trans (hb.mono HB.out.size)); have x0 := HX.out.cell 0; have x1 := HX.out.cell 1; have x2 := HX.out.cell 2; have x3 := HX.out.cell 3; have x4 := HX.out.cell 4; have x5 := HX.out.cell 5; have x6 := HX.out.cell 6; clear hb) | (go_at_call 18; (with_reducible refine (HMy.out _).mono ?_); rintro e w9 ⟨rfl, hb⟩; replace HX := Lib.hid (HX.out.below hb); replace HM := Lib.hid (Mem.below HM.out hb); replace HR := Lib.hid (HR.out.below hb); replace HB := Lib.hid (HB.out.trans (hb.mono HB.out.size)); have x0 := HX.out.cell 0; have x1 := HX.out.cell 1; have x2 := HX.out.cell 2; have x3 := HX.out.cell 3; have x4 := HX.out.cell 4; have x5 := HX.out.cell 5; have x6 := HX.out.cell 6; clear hb) | (go_at_call 19; (with_reducible refine (HAl.out _ HM.out HR.out).mono ?_); rintro e w10 ⟨rfl, hb⟩; replace HX := Lib.hid (HX.out.below hb); replace HM := Lib.hid (Mem.below HM.out hb); replace HR := Lib.hid (HR.out.below hb); replace HB := Lib.hid (HB.out.trans (hb.mono HB.out.size)); clear hb))
                go_roundw
                case rel => exact ⟨j + 1, _, _, by omega, by go_num, rfl, HM.out, HR.out, HLo.out.1, HB.out⟩
                case measure => simp [intOf]; omega
              | false =>
                have HCk : Hid (∀ W, Calls Try.prog 17 #[.agg #[.int .i64 xf, .bool xw, .bool xs, .bool xc, .bool xd]] W fun e w' => e = .returned (.int .i64 50) ∧ Below W.heap.size W w') := Lib.hid (fun W => check_no W ⟨xf, xw, xs, xc, xd⟩ hmay)
                have HMy : Hid (∀ W, Calls Try.prog 18 #[.agg #[.int .i64 xf, .bool xw, .bool xs, .bool xc, .bool xd]] W fun e w' => e = .returned (.bool false) ∧ Below W.heap.size W w') := Lib.hid (fun W => by
                  have := Rg.may_any W ⟨xf, xw, xs, xc, xd⟩
                  rw [hmay] at this
                  exact this)
                clear hmay
                go_wp2_with (first | (go_at_call 17; (with_reducible refine (HCk.out _).mono ?_); rintro e w8 ⟨rfl, hb⟩; replace HX := Lib.hid (HX.out.below hb); replace HM := Lib.hid (Mem.below HM.out hb); replace HR := Lib.hid (HR.out.below hb); replace HB := Lib.hid (HB.out.trans (hb.mono HB.out.size)); have x0 := HX.out.cell 0; have x1 := HX.out.cell 1; have x2 := HX.out.cell 2; have x3 := HX.out.cell 3; have x4 := HX.out.cell 4; have x5 := HX.out.cell 5; have x6 := HX.out.cell 6; clear hb) | (go_at_call 18; (with_reducible refine (HMy.out _).mono ?_); rintro e w9 ⟨rfl, hb⟩; replace HX := Lib.hid (HX.out.below hb); replace HM := Lib.hid (Mem.below HM.out hb); replace HR := Lib.hid (HR.out.below hb); replace HB := Lib.hid (HB.out.trans (hb.mono HB.out.size)); have x0 := HX.out.cell 0; have x1 := HX.out.cell 1; have x2 := HX.out.cell 2; have x3 := HX.out.cell 3; have x4 := HX.out.cell 4; have x5 := HX.out.cell 5; have x6 := HX.out.cell 6; clear hb) | (go_at_call 19; (with_reducible refine (HAl.out _ HM.out HR.out).mono ?_); rintro e w10 ⟨rfl, hb⟩; replace HX := Lib.hid (HX.out.below hb); replace HM := Lib.hid (Mem.below HM.out hb); replace HR := Lib.hid (HR.out.below hb); replace HB := Lib.hid (HB.out.trans (hb.mono HB.out.size)); clear hb))
                go_roundw
                case rel => exact ⟨j + 1, _, _, by omega, by go_num, rfl, HM.out, HR.out, HLo.out.1, HB.out⟩
                case measure => simp [intOf]; omega
            · have e1 : (kind == 1) = false := by simp [k1]
              by_cases k2 : kind = 2
              · subst k2
                clear k0 k1
                have hbx := (Below.refl wr.heap.size wr).alloc (Nat.le_refl _) (.cells #[.int .i64 2, .int .i64 page, .int .i64 xf, .bool xw, .bool xs, .bool xc, .bool xd] 37)
                have HX : Hid (Blk (wr.alloc (.cells #[.int .i64 2, .int .i64 page, .int .i64 xf, .bool xw, .bool xs, .bool xc, .bool xd] 37)) wr.heap.size #[.int .i64 2, .int .i64 page, .int .i64 xf, .bool xw, .bool xs, .bool xc, .bool xd] 37) := Lib.hid (Blk.new _ _ _)
                have HNe : Hid (wr.heap.size ≠ p ∧ wr.heap.size ≠ q) := Lib.hid ⟨by have := hM.lt; omega, by have := hR.lt; omega⟩
                have HM := Lib.hid (Mem.below hM hbx)
                have HR := Lib.hid (hR.below hbx)
                have HB := Lib.hid (hB.trans (hbx.mono hB.size))
                have HLo : Hid (w.heap.size ≤ p ∧ w.heap.size ≤ q) := Lib.hid ⟨hlo, HQ.out⟩
                clear hM hR hB hbx hlo
                obtain ⟨E, hE⟩ : ∃ E : Int, ((dty T).length : Int) = E := ⟨_, rfl⟩
                have HS : Hid (∀ W, Mem W p T → Calls Try.prog 14 #[.pointer (some ⟨p, 0, none⟩)] W fun e w' => e = .returned (.int .i64 E) ∧ Kp (fun j => j = p) W w' ∧ Mem w' p (cln T)) := Lib.hid (fun W h => by rw [← hE]; exact clean_any W p T h)
                have HS2 : Hid (∀ W, Rf W q T → Calls Try.prog 15 #[.pointer (some ⟨q, 0, none⟩)] W fun e w' => e = .returned (.int .i64 E) ∧ Kp (fun j => j = q) W w' ∧ Rf w' q (cln T)) := Lib.hid (fun W h => by rw [← hE]; exact rclean_any W q T h)
                clear hE
                go_wp2_with (first | (go_at_call 14; (with_reducible refine (HS.out _ HM.out).mono ?_); rintro e w5 ⟨rfl, hk, hm⟩; refine Hid.out ?_))
                refine Lib.hid ?_
                replace HX := Lib.hid (HX.out.kept hk HNe.out.1)
                replace HR := Lib.hid (Rf.beside HR.out HM.out hk)
                replace HB := Lib.hid (HB.out.trans (hk.below HB.out.size (fun j e => by have := HLo.out.1; omega)))
                replace HM := Lib.hid hm
                clear hk hm
                go_wp2_with (first | (go_at_call 15; (with_reducible refine (HS2.out _ HR.out).mono ?_); rintro e w6 ⟨rfl, hk, hr⟩; refine Hid.out ?_))
                refine Lib.hid ?_
                replace HX := Lib.hid (HX.out.kept hk HNe.out.2)
                replace HM := Lib.hid (mem_beside HM.out HR.out hk)
                replace HB := Lib.hid (HB.out.trans (hk.below HB.out.size (fun j e => by have := HLo.out.2; omega)))
                replace HR := Lib.hid hr
                clear hk hr
                have x0 := HX.out.cell 0
                have x1 := HX.out.cell 1
                have x2 := HX.out.cell 2
                have x3 := HX.out.cell 3
                have x4 := HX.out.cell 4
                have x5 := HX.out.cell 5
                have x6 := HX.out.cell 6
                have HAl : Hid (∀ W, Mem W p (cln T) → Rf W q (cln T) → _) := Lib.hid (fun W h1 h2 => alike_any W p q (cln T) h1 h2 page n hn)
                cases hmay : may ⟨xf, xw, xs, xc, xd⟩ with
                | true =>
                  have HCk : Hid (∀ W, Calls Try.prog 17 #[.agg #[.int .i64 xf, .bool xw, .bool xs, .bool xc, .bool xd]] W fun e w' => e = .returned (.int .i64 0) ∧ Below W.heap.size W w') := Lib.hid (fun W => check_ok W ⟨xf, xw, xs, xc, xd⟩ hmay)
                  have HMy : Hid (∀ W, Calls Try.prog 18 #[.agg #[.int .i64 xf, .bool xw, .bool xs, .bool xc, .bool xd]] W fun e w' => e = .returned (.bool true) ∧ Below W.heap.size W w') := Lib.hid (fun W => by
                    have := Rg.may_any W ⟨xf, xw, xs, xc, xd⟩
                    rw [hmay] at this
                    exact this)
                  clear hmay
                  go_wp2_with (first | (go_at_call 17; (with_reducible refine (HCk.out _).mono ?_); rintro e w8 ⟨rfl, hb⟩; replace HX := Lib.hid (HX.out.below hb); replace HM := Lib.hid (Mem.below HM.out hb); replace HR := Lib.hid (HR.out.below hb); replace HB := Lib.hid (HB.out.trans (hb.mono HB.out.size)); have x0 := HX.out.cell 0; have x1 := HX.out.cell 1; have x2 := HX.out.cell 2; have x3 := HX.out.cell 3; have x4 := HX.out.cell 4; have x5 := HX.out.cell 5; have x6 := HX.out.cell 6; clear hb) | (go_at_call 18; (with_reducible refine (HMy.out _).mono ?_); rintro e w9 ⟨rfl, hb⟩; replace HX := Lib.hid (HX.out.below hb); replace HM := Lib.hid (Mem.below HM.out hb); replace HR := Lib.hid (HR.out.below hb); replace HB := Lib.hid (HB.out.trans (hb.mono HB.out.size)); have x0 := HX.out.cell 0; have x1 := HX.out.cell 1; have x2 := HX.out.cell 2; have x3 := HX.out.cell 3; have x4 := HX.out.cell 4; have x5 := HX.out.cell 5; have x6 := HX.out.cell 6; clear hb) | (go_at_call 19; (with_reducible refine (HAl.out _ HM.out HR.out).mono ?_); rintro e w10 ⟨rfl, hb⟩; replace HX := Lib.hid (HX.out.below hb); replace HM := Lib.hid (Mem.below HM.out hb); replace HR := Lib.hid (HR.out.below hb); replace HB := Lib.hid (HB.out.trans (hb.mono HB.out.size)); clear hb))
                  go_roundw
                  case rel => exact ⟨j + 1, _, _, by omega, by go_num, rfl, HM.out, HR.out, HLo.out.1, HB.out⟩
                  case measure => simp [intOf]; omega
                | false =>
                  have HCk : Hid (∀ W, Calls Try.prog 17 #[.agg #[.int .i64 xf, .bool xw, .bool xs, .bool xc, .bool xd]] W fun e w' => e = .returned (.int .i64 50) ∧ Below W.heap.size W w') := Lib.hid (fun W => check_no W ⟨xf, xw, xs, xc, xd⟩ hmay)
                  have HMy : Hid (∀ W, Calls Try.prog 18 #[.agg #[.int .i64 xf, .bool xw, .bool xs, .bool xc, .bool xd]] W fun e w' => e = .returned (.bool false) ∧ Below W.heap.size W w') := Lib.hid (fun W => by
                    have := Rg.may_any W ⟨xf, xw, xs, xc, xd⟩
                    rw [hmay] at this
                    exact this)
                  clear hmay
                  go_wp2_with (first | (go_at_call 17; (with_reducible refine (HCk.out _).mono ?_); rintro e w8 ⟨rfl, hb⟩; replace HX := Lib.hid (HX.out.below hb); replace HM := Lib.hid (Mem.below HM.out hb); replace HR := Lib.hid (HR.out.below hb); replace HB := Lib.hid (HB.out.trans (hb.mono HB.out.size)); have x0 := HX.out.cell 0; have x1 := HX.out.cell 1; have x2 := HX.out.cell 2; have x3 := HX.out.cell 3; have x4 := HX.out.cell 4; have x5 := HX.out.cell 5; have x6 := HX.out.cell 6; clear hb) | (go_at_call 18; (with_reducible refine (HMy.out _).mono ?_); rintro e w9 ⟨rfl, hb⟩; replace HX := Lib.hid (HX.out.below hb); replace HM := Lib.hid (Mem.below HM.out hb); replace HR := Lib.hid (HR.out.below hb); replace HB := Lib.hid (HB.out.trans (hb.mono HB.out.size)); have x0 := HX.out.cell 0; have x1 := HX.out.cell 1; have x2 := HX.out.cell 2; have x3 := HX.out.cell 3; have x4 := HX.out.cell 4; have x5 := HX.out.cell 5; have x6 := HX.out.cell 6; clear hb) | (go_at_call 19; (with_reducible refine (HAl.out _ HM.out HR.out).mono ?_); rintro e w10 ⟨rfl, hb⟩; replace HX := Lib.hid (HX.out.below hb); replace HM := Lib.hid (Mem.below HM.out hb); replace HR := Lib.hid (HR.out.below hb); replace HB := Lib.hid (HB.out.trans (hb.mono HB.out.size)); clear hb))
                  go_roundw
                  case rel => exact ⟨j + 1, _, _, by omega, by go_num, rfl, HM.out, HR.out, HLo.out.1, HB.out⟩
                  case measure => simp [intOf]; omega
              · have e2 : (kind == 2) = false := by simp [k2]
                by_cases k3 : kind = 3
                · subst k3
                  clear k0 k1 k2
                  have hbx := (Below.refl wr.heap.size wr).alloc (Nat.le_refl _) (.cells #[.int .i64 3, .int .i64 page, .int .i64 xf, .bool xw, .bool xs, .bool xc, .bool xd] 37)
                  have HX : Hid (Blk (wr.alloc (.cells #[.int .i64 3, .int .i64 page, .int .i64 xf, .bool xw, .bool xs, .bool xc, .bool xd] 37)) wr.heap.size #[.int .i64 3, .int .i64 page, .int .i64 xf, .bool xw, .bool xs, .bool xc, .bool xd] 37) := Lib.hid (Blk.new _ _ _)
                  have HNe : Hid (wr.heap.size ≠ p ∧ wr.heap.size ≠ q) := Lib.hid ⟨by have := hM.lt; omega, by have := hR.lt; omega⟩
                  have HM := Lib.hid (Mem.below hM hbx)
                  have HR := Lib.hid (hR.below hbx)
                  have HB := Lib.hid (hB.trans (hbx.mono hB.size))
                  have HLo : Hid (w.heap.size ≤ p ∧ w.heap.size ≤ q) := Lib.hid ⟨hlo, HQ.out⟩
                  clear hM hR hB hbx hlo
                  have HS1 : Hid (∀ W T', Mem W p T' → Calls Try.prog 10 #[.pointer (some ⟨p, 0, none⟩), .int .i64 1, .agg #[.int .i64 0, .bool false, .bool false, .bool false, .bool true]] W fun e w' => (∃ r, e = .returned r) ∧ Kp (fun j => j = p) W w' ∧ ∃ T2, Mem w' p T2) := Lib.hid (fun W T' h => (set_any W p T' h 1 ⟨0, false, false, false, true⟩).mono fun e w' ⟨h1, h2, h3⟩ => ⟨⟨_, h1⟩, h2, _, h3⟩)
                  have HS2 : Hid (∀ W T', Mem W p T' → Calls Try.prog 12 #[.pointer (some ⟨p, 0, none⟩), .int .i64 2] W fun e w' => (∃ r, e = .returned r) ∧ Kp (fun j => j = p) W w' ∧ ∃ T2, Mem w' p T2) := Lib.hid (fun W T' h => (clear_any W p T' h 2).mono fun e w' ⟨h1, h2, h3⟩ => ⟨⟨_, h1⟩, h2, _, h3⟩)
                  have HS3 : Hid (∀ W T', Mem W p T' → Calls Try.prog 14 #[.pointer (some ⟨p, 0, none⟩)] W fun e w' => (∃ r, e = .returned r) ∧ Kp (fun j => j = p) W w' ∧ ∃ T2, Mem w' p T2) := Lib.hid (fun W T' h => (clean_any W p T' h).mono fun e w' ⟨h1, h2, h3⟩ => ⟨⟨_, h1⟩, h2, _, h3⟩)
                  go_wp2_with (first | (go_at_call 16; (with_reducible refine (copy_mem _ p T HM.out).mono ?_); rintro e w5 ⟨pc, rfl, hpc, hb, hmc⟩; refine Hid.out ?_))
                  refine Lib.hid ?_
                  have HNc : Hid (pc ≠ p ∧ w.heap.size ≤ pc) := Lib.hid ⟨by have := HM.out.lt; omega, by have := HB.out.size; omega⟩
                  have HP := Lib.hid (Mem.below HM.out hb)
                  replace HX := Lib.hid (HX.out.below hb)
                  replace HR := Lib.hid (HR.out.below hb)
                  replace HB := Lib.hid (HB.out.trans (hb.mono HB.out.size))
                  replace HM := Lib.hid hmc
                  clear hb hmc hpc
                  go_wp2_with (first | (go_at_call 10; (with_reducible refine (HS1.out _ _ HP.out).mono ?_); rintro e w6 ⟨⟨r6, rfl⟩, hk, T6, hm⟩; refine Hid.out ?_))
                  refine Lib.hid ?_
                  replace HX := Lib.hid (HX.out.kept hk HNe.out.1)
                  replace HR := Lib.hid (Rf.beside HR.out HP.out hk)
                  replace HB := Lib.hid (HB.out.trans (hk.below HB.out.size (fun j e => by have := HLo.out.1; omega)))
                  replace HM := Lib.hid (Mem.kept HM.out hk HNc.out.1)
                  replace HP := Lib.hid hm
                  clear hk hm
                  go_wp2_with (first | (go_at_call 12; (with_reducible refine (HS2.out _ _ HP.out).mono ?_); rintro e w7 ⟨⟨r7, rfl⟩, hk, T7, hm⟩; refine Hid.out ?_))
                  refine Lib.hid ?_
                  replace HX := Lib.hid (HX.out.kept hk HNe.out.1)
                  replace HR := Lib.hid (Rf.beside HR.out HP.out hk)
                  replace HB := Lib.hid (HB.out.trans (hk.below HB.out.size (fun j e => by have := HLo.out.1; omega)))
                  replace HM := Lib.hid (Mem.kept HM.out hk HNc.out.1)
                  replace HP := Lib.hid hm
                  clear hk hm
                  go_wp2_with (first | (go_at_call 14; (with_reducible refine (HS3.out _ _ HP.out).mono ?_); rintro e w11 ⟨⟨r8, rfl⟩, hk, T8, hm⟩; refine Hid.out ?_))
                  refine Lib.hid ?_
                  replace HX := Lib.hid (HX.out.kept hk HNe.out.1)
                  replace HR := Lib.hid (Rf.beside HR.out HP.out hk)
                  replace HB := Lib.hid (HB.out.trans (hk.below HB.out.size (fun j e => by have := HLo.out.1; omega)))
                  replace HM := Lib.hid (Mem.kept HM.out hk HNc.out.1)
                  replace HP := Lib.hid hm
                  clear hk hm
                  have x0 := HX.out.cell 0
                  have x1 := HX.out.cell 1
                  have x2 := HX.out.cell 2
                  have x3 := HX.out.cell 3
                  have x4 := HX.out.cell 4
                  have x5 := HX.out.cell 5
                  have x6 := HX.out.cell 6
                  have HAl : Hid (∀ W, Mem W pc (T) → Rf W q (T) → _) := Lib.hid (fun W h1 h2 => alike_any W pc q (T) h1 h2 page n hn)
                  cases hmay : may ⟨xf, xw, xs, xc, xd⟩ with
                  | true =>
                    have HCk : Hid (∀ W, Calls Try.prog 17 #[.agg #[.int .i64 xf, .bool xw, .bool xs, .bool xc, .bool xd]] W fun e w' => e = .returned (.int .i64 0) ∧ Below W.heap.size W w') := Lib.hid (fun W => check_ok W ⟨xf, xw, xs, xc, xd⟩ hmay)
                    have HMy : Hid (∀ W, Calls Try.prog 18 #[.agg #[.int .i64 xf, .bool xw, .bool xs, .bool xc, .bool xd]] W fun e w' => e = .returned (.bool true) ∧ Below W.heap.size W w') := Lib.hid (fun W => by
                      have := Rg.may_any W ⟨xf, xw, xs, xc, xd⟩
                      rw [hmay] at this
                      exact this)
                    clear hmay
                    go_wp2_with (first | (go_at_call 17; (with_reducible refine (HCk.out _).mono ?_); rintro e w8 ⟨rfl, hb⟩; replace HX := Lib.hid (HX.out.below hb); replace HM := Lib.hid (Mem.below HM.out hb); replace HR := Lib.hid (HR.out.below hb); replace HB := Lib.hid (HB.out.trans (hb.mono HB.out.size)); have x0 := HX.out.cell 0; have x1 := HX.out.cell 1; have x2 := HX.out.cell 2; have x3 := HX.out.cell 3; have x4 := HX.out.cell 4; have x5 := HX.out.cell 5; have x6 := HX.out.cell 6; clear hb) | (go_at_call 18; (with_reducible refine (HMy.out _).mono ?_); rintro e w9 ⟨rfl, hb⟩; replace HX := Lib.hid (HX.out.below hb); replace HM := Lib.hid (Mem.below HM.out hb); replace HR := Lib.hid (HR.out.below hb); replace HB := Lib.hid (HB.out.trans (hb.mono HB.out.size)); have x0 := HX.out.cell 0; have x1 := HX.out.cell 1; have x2 := HX.out.cell 2; have x3 := HX.out.cell 3; have x4 := HX.out.cell 4; have x5 := HX.out.cell 5; have x6 := HX.out.cell 6; clear hb) | (go_at_call 19; (with_reducible refine (HAl.out _ HM.out HR.out).mono ?_); rintro e w10 ⟨rfl, hb⟩; replace HX := Lib.hid (HX.out.below hb); replace HM := Lib.hid (Mem.below HM.out hb); replace HR := Lib.hid (HR.out.below hb); replace HB := Lib.hid (HB.out.trans (hb.mono HB.out.size)); clear hb))
                    go_roundw
                    case rel => exact ⟨j + 1, _, _, by omega, by go_num, rfl, HM.out, HR.out, HNc.out.2, HB.out⟩
                    case measure => simp [intOf]; omega
                  | false =>
                    have HCk : Hid (∀ W, Calls Try.prog 17 #[.agg #[.int .i64 xf, .bool xw, .bool xs, .bool xc, .bool xd]] W fun e w' => e = .returned (.int .i64 50) ∧ Below W.heap.size W w') := Lib.hid (fun W => check_no W ⟨xf, xw, xs, xc, xd⟩ hmay)
                    have HMy : Hid (∀ W, Calls Try.prog 18 #[.agg #[.int .i64 xf, .bool xw, .bool xs, .bool xc, .bool xd]] W fun e w' => e = .returned (.bool false) ∧ Below W.heap.size W w') := Lib.hid (fun W => by
                      have := Rg.may_any W ⟨xf, xw, xs, xc, xd⟩
                      rw [hmay] at this
                      exact this)
                    clear hmay
                    go_wp2_with (first | (go_at_call 17; (with_reducible refine (HCk.out _).mono ?_); rintro e w8 ⟨rfl, hb⟩; replace HX := Lib.hid (HX.out.below hb); replace HM := Lib.hid (Mem.below HM.out hb); replace HR := Lib.hid (HR.out.below hb); replace HB := Lib.hid (HB.out.trans (hb.mono HB.out.size)); have x0 := HX.out.cell 0; have x1 := HX.out.cell 1; have x2 := HX.out.cell 2; have x3 := HX.out.cell 3; have x4 := HX.out.cell 4; have x5 := HX.out.cell 5; have x6 := HX.out.cell 6; clear hb) | (go_at_call 18; (with_reducible refine (HMy.out _).mono ?_); rintro e w9 ⟨rfl, hb⟩; replace HX := Lib.hid (HX.out.below hb); replace HM := Lib.hid (Mem.below HM.out hb); replace HR := Lib.hid (HR.out.below hb); replace HB := Lib.hid (HB.out.trans (hb.mono HB.out.size)); have x0 := HX.out.cell 0; have x1 := HX.out.cell 1; have x2 := HX.out.cell 2; have x3 := HX.out.cell 3; have x4 := HX.out.cell 4; have x5 := HX.out.cell 5; have x6 := HX.out.cell 6; clear hb) | (go_at_call 19; (with_reducible refine (HAl.out _ HM.out HR.out).mono ?_); rintro e w10 ⟨rfl, hb⟩; replace HX := Lib.hid (HX.out.below hb); replace HM := Lib.hid (Mem.below HM.out hb); replace HR := Lib.hid (HR.out.below hb); replace HB := Lib.hid (HB.out.trans (hb.mono HB.out.size)); clear hb))
                    go_roundw
                    case rel => exact ⟨j + 1, _, _, by omega, by go_num, rfl, HM.out, HR.out, HNc.out.2, HB.out⟩
                    case measure => simp [intOf]; omega
                · have e3 : (kind == 3) = false := by simp [k3]
                  clear k0 k1 k2 k3
                  have hbx := (Below.refl wr.heap.size wr).alloc (Nat.le_refl _) (.cells #[.int .i64 kind, .int .i64 page, .int .i64 xf, .bool xw, .bool xs, .bool xc, .bool xd] 37)
                  have HX : Hid (Blk (wr.alloc (.cells #[.int .i64 kind, .int .i64 page, .int .i64 xf, .bool xw, .bool xs, .bool xc, .bool xd] 37)) wr.heap.size #[.int .i64 kind, .int .i64 page, .int .i64 xf, .bool xw, .bool xs, .bool xc, .bool xd] 37) := Lib.hid (Blk.new _ _ _)
                  have HNe : Hid (wr.heap.size ≠ p ∧ wr.heap.size ≠ q) := Lib.hid ⟨by have := hM.lt; omega, by have := hR.lt; omega⟩
                  have HM := Lib.hid (Mem.below hM hbx)
                  have HR := Lib.hid (hR.below hbx)
                  have HB := Lib.hid (hB.trans (hbx.mono hB.size))
                  have HLo : Hid (w.heap.size ≤ p ∧ w.heap.size ≤ q) := Lib.hid ⟨hlo, HQ.out⟩
                  clear hM hR hB hbx hlo
                  have x0 := HX.out.cell 0
                  have x1 := HX.out.cell 1
                  have x2 := HX.out.cell 2
                  have x3 := HX.out.cell 3
                  have x4 := HX.out.cell 4
                  have x5 := HX.out.cell 5
                  have x6 := HX.out.cell 6
                  have HAl : Hid (∀ W, Mem W p (T) → Rf W q (T) → _) := Lib.hid (fun W h1 h2 => alike_any W p q (T) h1 h2 page n hn)
                  cases hmay : may ⟨xf, xw, xs, xc, xd⟩ with
                  | true =>
                    have HCk : Hid (∀ W, Calls Try.prog 17 #[.agg #[.int .i64 xf, .bool xw, .bool xs, .bool xc, .bool xd]] W fun e w' => e = .returned (.int .i64 0) ∧ Below W.heap.size W w') := Lib.hid (fun W => check_ok W ⟨xf, xw, xs, xc, xd⟩ hmay)
                    have HMy : Hid (∀ W, Calls Try.prog 18 #[.agg #[.int .i64 xf, .bool xw, .bool xs, .bool xc, .bool xd]] W fun e w' => e = .returned (.bool true) ∧ Below W.heap.size W w') := Lib.hid (fun W => by
                      have := Rg.may_any W ⟨xf, xw, xs, xc, xd⟩
                      rw [hmay] at this
                      exact this)
                    clear hmay
                    go_wp2_with (first | (go_at_call 17; (with_reducible refine (HCk.out _).mono ?_); rintro e w8 ⟨rfl, hb⟩; replace HX := Lib.hid (HX.out.below hb); replace HM := Lib.hid (Mem.below HM.out hb); replace HR := Lib.hid (HR.out.below hb); replace HB := Lib.hid (HB.out.trans (hb.mono HB.out.size)); have x0 := HX.out.cell 0; have x1 := HX.out.cell 1; have x2 := HX.out.cell 2; have x3 := HX.out.cell 3; have x4 := HX.out.cell 4; have x5 := HX.out.cell 5; have x6 := HX.out.cell 6; clear hb) | (go_at_call 18; (with_reducible refine (HMy.out _).mono ?_); rintro e w9 ⟨rfl, hb⟩; replace HX := Lib.hid (HX.out.below hb); replace HM := Lib.hid (Mem.below HM.out hb); replace HR := Lib.hid (HR.out.below hb); replace HB := Lib.hid (HB.out.trans (hb.mono HB.out.size)); have x0 := HX.out.cell 0; have x1 := HX.out.cell 1; have x2 := HX.out.cell 2; have x3 := HX.out.cell 3; have x4 := HX.out.cell 4; have x5 := HX.out.cell 5; have x6 := HX.out.cell 6; clear hb) | (go_at_call 19; (with_reducible refine (HAl.out _ HM.out HR.out).mono ?_); rintro e w10 ⟨rfl, hb⟩; replace HX := Lib.hid (HX.out.below hb); replace HM := Lib.hid (Mem.below HM.out hb); replace HR := Lib.hid (HR.out.below hb); replace HB := Lib.hid (HB.out.trans (hb.mono HB.out.size)); clear hb))
                    go_roundw
                    case rel => exact ⟨j + 1, _, _, by omega, by go_num, rfl, HM.out, HR.out, HLo.out.1, HB.out⟩
                    case measure => simp [intOf]; omega
                  | false =>
                    have HCk : Hid (∀ W, Calls Try.prog 17 #[.agg #[.int .i64 xf, .bool xw, .bool xs, .bool xc, .bool xd]] W fun e w' => e = .returned (.int .i64 50) ∧ Below W.heap.size W w') := Lib.hid (fun W => check_no W ⟨xf, xw, xs, xc, xd⟩ hmay)
                    have HMy : Hid (∀ W, Calls Try.prog 18 #[.agg #[.int .i64 xf, .bool xw, .bool xs, .bool xc, .bool xd]] W fun e w' => e = .returned (.bool false) ∧ Below W.heap.size W w') := Lib.hid (fun W => by
                      have := Rg.may_any W ⟨xf, xw, xs, xc, xd⟩
                      rw [hmay] at this
                      exact this)
                    clear hmay
                    go_wp2_with (first | (go_at_call 17; (with_reducible refine (HCk.out _).mono ?_); rintro e w8 ⟨rfl, hb⟩; replace HX := Lib.hid (HX.out.below hb); replace HM := Lib.hid (Mem.below HM.out hb); replace HR := Lib.hid (HR.out.below hb); replace HB := Lib.hid (HB.out.trans (hb.mono HB.out.size)); have x0 := HX.out.cell 0; have x1 := HX.out.cell 1; have x2 := HX.out.cell 2; have x3 := HX.out.cell 3; have x4 := HX.out.cell 4; have x5 := HX.out.cell 5; have x6 := HX.out.cell 6; clear hb) | (go_at_call 18; (with_reducible refine (HMy.out _).mono ?_); rintro e w9 ⟨rfl, hb⟩; replace HX := Lib.hid (HX.out.below hb); replace HM := Lib.hid (Mem.below HM.out hb); replace HR := Lib.hid (HR.out.below hb); replace HB := Lib.hid (HB.out.trans (hb.mono HB.out.size)); have x0 := HX.out.cell 0; have x1 := HX.out.cell 1; have x2 := HX.out.cell 2; have x3 := HX.out.cell 3; have x4 := HX.out.cell 4; have x5 := HX.out.cell 5; have x6 := HX.out.cell 6; clear hb) | (go_at_call 19; (with_reducible refine (HAl.out _ HM.out HR.out).mono ?_); rintro e w10 ⟨rfl, hb⟩; replace HX := Lib.hid (HX.out.below hb); replace HM := Lib.hid (Mem.below HM.out hb); replace HR := Lib.hid (HR.out.below hb); replace HB := Lib.hid (HB.out.trans (hb.mono HB.out.size)); clear hb))
                    go_roundw
                    case rel => exact ⟨j + 1, _, _, by omega, by go_num, rfl, HM.out, HR.out, HLo.out.1, HB.out⟩
                    case measure => simp [intOf]; omega
      · obtain rfl : j = ops.length := by omega
        have HB := Lib.hid hB
        clear hM hR hB
        go_wp2
        go_ret
        exact ⟨rfl, HB.out⟩
end Go.Proofs.Ytcmlcepdcpbdaaa.Py
namespace Go.Proofs.Ytcmlcepdcpbdaaa.Walk
open Go Go.RowKit Ov
theorem pagesPlays (v : Value) (ops : List Opr) (n : Int) (w : World) (h : OpsAt w v ops) (hn : (Lit.int .i64 n).wf = true) :
    Calls Try.prog 3 #[v, .int .i64 n] w fun e w' => e = .returned (.bool true) ∧ Below w.heap.size w w' :=
  Py.plays_law v ops n w h (Kit.i64_bd hn).2
end Go.Proofs.Ytcmlcepdcpbdaaa.Walk
