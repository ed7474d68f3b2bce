/-
  What was set is there: PagesTraces.
-/
import Derived.Test.YtcmlcepdcpbdaaaSm
import Derived.BigCall
namespace Go.Proofs.Ytcmlcepdcpbdaaa.Tw
open Go Go.RowKit Kit Bk Tm Ts Tc Ti Tl Th Td Tq Tr Tn En Ov Gd Ho Pt Sm
set_option linter.unusedVariables false

theorem setI_yes {T : Nat → Option En} {k : Nat} {x : En} (hk : k < 64) (hx : may x = true) : okS (k : Int) x = true ∧ setI T (k : Int) x = up T k (some x) := by
  have e1 : decide (0 ≤ (k : Int)) = true := decide_eq_true (by omega)
  have e2 : decide ((k : Int) < 64) = true := decide_eq_true (by omega)
  have e3 : okS (k : Int) x = true := by unfold okS; rw [e1, e2, hx]; rfl
  refine ⟨e3, ?_⟩
  unfold setI
  rw [if_pos e3]
  rfl
theorem up_back {T : Nat → Option En} {k : Nat} {x y : Option En} (h : T k = y) : up (up T k x) k y = T := by
  funext j
  unfold up
  split
  · rename_i e; subst e; exact h.symm
  · rfl
theorem grown_at2 (v : Value) (ops : List Opr) (w w1 : World) (h : OpsAt w v ops) (hl : ops.length ≤ 150) (hb : Below w.heap.size w w1) :
    Calls Try.prog 28 #[v] w1 fun e w' => ∃ p, e = .returned (.pointer (some ⟨p, 0, none⟩)) ∧ w1.heap.size ≤ p ∧ Below w1.heap.size w1 w' ∧ Mem w' p (acts (fun _ => none) ops) :=
  (grown_any v ops w1 (OpsAt.below h hb) hl).mono fun e w' ⟨e1, h2⟩ => ⟨_, e1, Nat.le_refl _, h2.bel, h2.mem⟩
theorem up_up {T : Nat → Option En} {k : Nat} {x y : Option En} : up (up T k x) k y = up T k y := by
  funext j
  unfold up
  split <;> rfl
set_option maxRecDepth 100000 in
set_option maxHeartbeats 4000000 in
theorem traces_law (v : Value) (ops : List Opr) (n : Nat) (x : En) (w : World) (h : OpsAt w v ops) (hn : n < 256) :
    Calls Try.prog 5 #[v, .int .u8 (n : Int), ev x] w fun e w' => e = .returned (.bool true) ∧ Below w.heap.size w w' := by
  have hva := list_long v ops w h
  by_cases hlen : ops.length ≤ 150
  case neg =>
    obtain ⟨a, cap, rfl⟩ := hva
    have d : decide ((150 : Int) < (ops.length : Int)) = true := decide_eq_true (by omega)
    clear h hlen
    go_enter Try.func5, Try.ntmps5
    go_wp2_with (first | (go_at_call 23; (with_reducible refine (alive_any _).mono ?_); rintro e w1 ⟨rfl, hb⟩; have HB := Lib.hid hb; clear hb))
    go_ret
    exact ⟨rfl, ((Below.refl _ _).alloc (Nat.le_refl _) _).trans (HB.out.mono (by simp))⟩
  case pos =>
    have HG : Hid (∀ w1, Below w.heap.size w w1 → _) := Lib.hid (fun w1 hb => grown_at2 v ops w w1 h hlen hb)
    obtain ⟨T, hT⟩ : ∃ T, acts (fun _ => none) ops = T := ⟨_, rfl⟩
    have hgood : Gd.Good T := by rw [← hT]; exact good_acts ops good_none
    rw [hT] at HG
    obtain ⟨a, cap, rfl⟩ := hva
    have d : decide ((150 : Int) < (ops.length : Int)) = false := decide_eq_false (by omega)
    have hn0 : (n : Int) ≤ 255 := by omega
    have hwr : wrap64 ((n : Int) % 64) = (n : Int) % 64 := by rw [wrap64]; omega
    obtain ⟨k, hk⟩ : ∃ k : Nat, (n : Int) % 64 = (k : Int) := ⟨n % 64, rfl⟩
    have hk64 : k < 64 := by omega
    have HK := Lib.hid hk
    have HGood := Lib.hid hgood
    have HLe := Lib.hid (ents_len T 64)
    have HAl : Hid (∀ o, Below w.heap.size w (w.alloc o)) := Lib.hid (fun o => (Below.refl _ _).alloc (Nat.le_refl _) _)
    obtain ⟨xf, xw, xs, xc, xd⟩ := x
    have HX0 : Hid (Blk (w.alloc (.cells #[.int .i64 xf, .bool xw, .bool xs, .bool xc, .bool xd] 25)) w.heap.size #[.int .i64 xf, .bool xw, .bool xs, .bool xc, .bool xd] 25) := Lib.hid (Blk.new _ _ _)
    have HGt : Hid (∀ W p, Mem W p T → Calls Try.prog 21 #[.pointer (some ⟨p, 0, none⟩), .int .i64 ((n : Int) % 64)] W fun e w' => e = .returned (.tuple #[ev ((T k).getD z0), .bool (T k).isSome]) ∧ Below W.heap.size W w') := Lib.hid (fun W p hM => by rw [hk]; exact get_in W p T hM k hk64)
    clear h hlen hT hgood hk
    go_enter Try.func5, Try.ntmps5
    go_wp2_with (first | (go_at_call 23; (with_reducible refine (alive_any _).mono ?_); rintro e w1 ⟨rfl, hb⟩; have HB := Lib.hid ((HAl.out _).trans (hb.mono (HAl.out _).size)); have HX := Lib.hid (HX0.out.below hb); clear hb) | (go_at_call 28; (with_reducible refine (HG.out _ HB.out).mono ?_); rintro e w2 ⟨p, rfl, hlo, hb, hm⟩; refine Hid.out ?_))
    refine Lib.hid ?_
    have HNe : Hid (w.heap.size ≠ p ∧ w.heap.size ≤ p) := Lib.hid ⟨by have := HX.out.lt; omega, by have := HX.out.lt; omega⟩
    replace HX := Lib.hid (HX.out.below hb)
    replace HB := Lib.hid (HB.out.trans (hb.mono HB.out.size))
    have HM := Lib.hid hm
    clear hb hm hlo HX0 HAl HG
    obtain ⟨⟨yf, yw, ys, yc, yd⟩, hy⟩ : ∃ y, (T k).getD z0 = y := ⟨_, rfl⟩
    obtain ⟨b, hbs⟩ : ∃ b, (T k).isSome = b := ⟨_, rfl⟩
    rw [hy, hbs] at HGt
    have HY := Lib.hid hy
    have HBS := Lib.hid hbs
    clear hy hbs
    go_wp2_with (first | (go_at_call 25; (with_reducible refine (list_mem _ p T HM.out).mono ?_); rintro e w3 ⟨hb, r, rfl, hr⟩; replace HM := Lib.hid (Mem.below HM.out hb); replace HX := Lib.hid (HX.out.below hb); replace HB := Lib.hid (HB.out.trans (hb.mono HB.out.size)); have HR := Lib.hid hr; clear hb hr) | (go_at_call 24; (with_reducible refine (parts_mem _ p T HM.out).mono ?_); rintro e w4 ⟨rfl, hb⟩; replace HM := Lib.hid (Mem.below HM.out hb); replace HX := Lib.hid (HX.out.below hb); replace HB := Lib.hid (HB.out.trans (hb.mono HB.out.size)); replace HR := Lib.hid (Rd.below HR.out hb); clear hb) | (go_at_call 21; (with_reducible refine (HGt.out _ p HM.out).mono ?_); rintro e w5 ⟨rfl, hb⟩; refine Hid.out ?_))
    refine Lib.hid ?_
    replace HM := Lib.hid (Mem.below HM.out hb); replace HX := Lib.hid (HX.out.below hb); replace HB := Lib.hid (HB.out.trans (hb.mono HB.out.size))
    replace HR := Lib.hid (Rd.below HR.out hb)
    have hbo : Below w5.heap.size w5 (w5.alloc (.cells #[.int .i64 yf, .bool yw, .bool ys, .bool yc, .bool yd] 25)) := (Below.refl _ _).alloc (Nat.le_refl _) _
    clear hb
    have HO : Hid (Blk (w5.alloc (.cells #[.int .i64 yf, .bool yw, .bool ys, .bool yc, .bool yd] 25)) w5.heap.size #[.int .i64 yf, .bool yw, .bool ys, .bool yc, .bool yd] 25) := Lib.hid (Blk.new _ _ _)
    have HNo : Hid (w5.heap.size ≠ p ∧ w5.heap.size ≠ w.heap.size) := Lib.hid ⟨by have := HM.out.lt; omega, by have := HX.out.lt; omega⟩
    replace HM := Lib.hid (Mem.below HM.out hbo)
    replace HX := Lib.hid (HX.out.below hbo)
    replace HR := Lib.hid (Rd.below HR.out hbo)
    replace HB := Lib.hid (HB.out.trans (hbo.mono HB.out.size))
    clear hbo
    have x0 := HX.out.cell 0
    have x1 := HX.out.cell 1
    have x2 := HX.out.cell 2
    have x3 := HX.out.cell 3
    have x4 := HX.out.cell 4
    cases hmay : may ⟨xf, xw, xs, xc, xd⟩ with
    | false =>
      have HSe : Hid (∀ W, Mem W p T → Calls Try.prog 10 #[.pointer (some ⟨p, 0, none⟩), .int .i64 ((n : Int) % 64), .agg #[.int .i64 xf, .bool xw, .bool xs, .bool xc, .bool xd]] W fun e w' => e = .returned (.int .i64 50) ∧ Below W.heap.size W w') := Lib.hid (fun W hM => by rw [HK.out]; exact set_bad W p k ⟨xf, xw, xs, xc, xd⟩ hk64 hmay)
      have HCh : Hid (∀ W, Calls Try.prog 17 #[.agg #[.int .i64 xf, .bool xw, .bool xs, .bool xc, .bool xd]] W fun e w' => e = .returned (.int .i64 50) ∧ Below W.heap.size W w') := Lib.hid (fun W => check_no W ⟨xf, xw, xs, xc, xd⟩ hmay)
      clear hmay
      go_wp2_with (first | (go_at_call 10; (with_reducible refine (HSe.out _ HM.out).mono ?_); rintro e w6 ⟨rfl, hb⟩; replace HM := Lib.hid (Mem.below HM.out hb); replace HX := Lib.hid (HX.out.below hb); replace HB := Lib.hid (HB.out.trans (hb.mono HB.out.size)); replace HR := Lib.hid (Rd.below HR.out hb); clear hb; have z0 := HX.out.cell 0; have z1 := HX.out.cell 1; have z2 := HX.out.cell 2; have z3 := HX.out.cell 3; have z4 := HX.out.cell 4) | (go_at_call 17; (with_reducible refine (HCh.out _).mono ?_); rintro e w7 ⟨rfl, hb⟩; replace HM := Lib.hid (Mem.below HM.out hb); replace HX := Lib.hid (HX.out.below hb); replace HB := Lib.hid (HB.out.trans (hb.mono HB.out.size)); replace HR := Lib.hid (Rd.below HR.out hb); clear hb) | (go_at_call 25; (with_reducible refine (list_mem _ p T HM.out).mono ?_); rintro e w8 ⟨hb, r2, rfl, hr⟩; replace HM := Lib.hid (Mem.below HM.out hb); replace HX := Lib.hid (HX.out.below hb); replace HB := Lib.hid (HB.out.trans (hb.mono HB.out.size)); replace HR := Lib.hid (Rd.below HR.out hb); have HR2 := Lib.hid hr; clear hb hr) | (go_at_call 29; (with_reducible refine (same_any _ _ (ents T 64) _ (by have := HLe.out; omega) HR2.out HR.out).mono ?_); rintro e w9 ⟨rfl, hb⟩; replace HB := Lib.hid (HB.out.trans (hb.mono HB.out.size)); clear hb))
      go_ret
      exact ⟨rfl, HB.out⟩
    | true =>
      obtain ⟨T1, hT1⟩ : ∃ T1, up T k (some ⟨xf, xw, xs, xc, xd⟩) = T1 := ⟨_, rfl⟩
      have hT1k : T1 k = some ⟨xf, xw, xs, xc, xd⟩ := by rw [← hT1, up_same]
      obtain ⟨T2, hT2⟩ : ∃ T2, up T k none = T2 := ⟨_, rfl⟩
      have hT12 : up T1 k none = T2 := by rw [← hT1, ← hT2, up_up]
      have HSe : Hid (∀ W, Mem W p T → Calls Try.prog 10 #[.pointer (some ⟨p, 0, none⟩), .int .i64 ((n : Int) % 64), .agg #[.int .i64 xf, .bool xw, .bool xs, .bool xc, .bool xd]] W fun e w' => e = .returned (.int .i64 0) ∧ Kp (fun j => j = p) W w' ∧ Mem w' p T1) := Lib.hid (fun W hM => by rw [HK.out, ← hT1]; exact set_in W p T hM k ⟨xf, xw, xs, xc, xd⟩ hk64 hmay)
      have HG1 : Hid (∀ W, Mem W p T1 → Calls Try.prog 21 #[.pointer (some ⟨p, 0, none⟩), .int .i64 ((n : Int) % 64)] W fun e w' => e = .returned (.tuple #[.agg #[.int .i64 xf, .bool xw, .bool xs, .bool xc, .bool xd], .bool true]) ∧ Below W.heap.size W w') := Lib.hid (fun W hM => by
        have := get_in W p T1 hM k hk64
        rw [hT1k] at this
        rw [HK.out]
        exact this)
      have HC1 : Hid (∀ W, Mem W p T1 → Calls Try.prog 12 #[.pointer (some ⟨p, 0, none⟩), .int .i64 ((n : Int) % 64)] W fun e w' => e = .returned (.tuple #[.agg #[.int .i64 xf, .bool xw, .bool xs, .bool xc, .bool xd], .bool true]) ∧ Kp (fun j => j = p) W w' ∧ Mem w' p T2) := Lib.hid (fun W hM => by
        have := clear_some W p T1 hM k hk64 _ hT1k
        rw [hT12] at this
        rw [HK.out]
        exact this)
      have HT2 := Lib.hid hT2
      clear hmay hT1 hT1k hT2 hT12
      go_wp2_with (first | (go_at_call 10; (with_reducible refine (HSe.out _ HM.out).mono ?_); rintro e w6 ⟨rfl, hk6, hm6⟩; refine Hid.out ?_))
      refine Lib.hid ?_
      clear x0 x1 x2 x3 x4
      replace HX := Lib.hid (HX.out.kept hk6 HNe.out.1)
      replace HO := Lib.hid (HO.out.kept hk6 HNo.out.1)
      replace HR := Lib.hid (Rd.beside HR.out HM.out hk6 (by decide))
      replace HB := Lib.hid (HB.out.trans (hk6.below HB.out.size (fun j e => by have := HNe.out.2; omega)))
      replace HM := Lib.hid hm6
      clear hk6 hm6
      go_wp2_with (first | (go_at_call 21; (with_reducible refine (HG1.out _ HM.out).mono ?_); rintro e w7 ⟨rfl, hb⟩; refine Hid.out ?_))
      refine Lib.hid ?_
      replace HM := Lib.hid (Mem.below HM.out hb); replace HX := Lib.hid (HX.out.below hb); replace HO := Lib.hid (HO.out.below hb); replace HR := Lib.hid (Rd.below HR.out hb); replace HB := Lib.hid (HB.out.trans (hb.mono HB.out.size))
      have hbo : Below w7.heap.size w7 (w7.alloc (.cells #[.int .i64 xf, .bool xw, .bool xs, .bool xc, .bool xd] 25)) := (Below.refl _ _).alloc (Nat.le_refl _) _
      clear hb
      have HV : Hid (Blk (w7.alloc (.cells #[.int .i64 xf, .bool xw, .bool xs, .bool xc, .bool xd] 25)) w7.heap.size #[.int .i64 xf, .bool xw, .bool xs, .bool xc, .bool xd] 25) := Lib.hid (Blk.new _ _ _)
      have HNv : Hid (w7.heap.size ≠ p) := Lib.hid (by have := HM.out.lt; omega)
      replace HM := Lib.hid (Mem.below HM.out hbo)
      replace HX := Lib.hid (HX.out.below hbo)
      replace HO := Lib.hid (HO.out.below hbo)
      replace HR := Lib.hid (Rd.below HR.out hbo)
      replace HB := Lib.hid (HB.out.trans (hbo.mono HB.out.size))
      clear hbo
      go_wp2_with (first | (go_at_call 12; (with_reducible refine (HC1.out _ HM.out).mono ?_); rintro e w8 ⟨rfl, hk8, hm8⟩; refine Hid.out ?_))
      refine Lib.hid ?_
      have hbz : Below w8.heap.size w8 (w8.alloc (.cells #[.int .i64 xf, .bool xw, .bool xs, .bool xc, .bool xd] 25)) := (Below.refl _ _).alloc (Nat.le_refl _) _
      replace HX := Lib.hid ((HX.out.kept hk8 HNe.out.1).below hbz)
      replace HO := Lib.hid ((HO.out.kept hk8 HNo.out.1).below hbz)
      replace HV := Lib.hid ((HV.out.kept hk8 HNv.out).below hbz)
      replace HR := Lib.hid (Rd.below (Rd.beside HR.out HM.out hk8 (by decide)) hbz)
      have hb8 := HB.out.trans (hk8.below HB.out.size (fun j e => by have := HNe.out.2; omega))
      replace HB := Lib.hid (hb8.trans (hbz.mono hb8.size))
      replace HM := Lib.hid (Mem.below hm8 hbz)
      clear hk8 hm8 hbz hb8
      have x0 := HX.out.cell 0
      have x1 := HX.out.cell 1
      have x2 := HX.out.cell 2
      have x3 := HX.out.cell 3
      have x4 := HX.out.cell 4
      have v0 := HV.out.cell 0
      have v1 := HV.out.cell 1
      have v2 := HV.out.cell 2
      have v3 := HV.out.cell 3
      have v4 := HV.out.cell 4
      have o0 := HO.out.cell 0
      have o1 := HO.out.cell 1
      have o2 := HO.out.cell 2
      have o3 := HO.out.cell 3
      have o4 := HO.out.cell 4
      cases b with
      | false =>
        have hxk : T k = none := by
          have := HBS.out
          cases hx : T k with
          | none => rfl
          | some e => rw [hx] at this; cases this
        have hTT : T2 = T := by
          rw [← HT2.out]
          funext j
          unfold up
          split
          · rename_i e; subst e; exact hxk.symm
          · rfl
        rw [hTT] at HM
        clear hTT hxk HSe HG1 HC1 HT2 HGt
        go_wp2_with (first | (go_at_call 25; (with_reducible refine (list_mem _ p T HM.out).mono ?_); rintro e w10 ⟨hb, r2, rfl, hr⟩; replace HM := Lib.hid (Mem.below HM.out hb); replace HX := Lib.hid (HX.out.below hb); replace HO := Lib.hid (HO.out.below hb); replace HR := Lib.hid (Rd.below HR.out hb); replace HB := Lib.hid (HB.out.trans (hb.mono HB.out.size)); have HR2 := Lib.hid hr; clear hb hr) | (go_at_call 29; (with_reducible refine (same_any _ _ (ents T 64) _ (by have := HLe.out; omega) HR2.out HR.out).mono ?_); rintro e w11 ⟨rfl, hb⟩; replace HM := Lib.hid (Mem.below HM.out hb); replace HX := Lib.hid (HX.out.below hb); replace HO := Lib.hid (HO.out.below hb); replace HR := Lib.hid (Rd.below HR.out hb); replace HB := Lib.hid (HB.out.trans (hb.mono HB.out.size)); clear hb) | (go_at_call 24; (with_reducible refine (parts_mem _ p T HM.out).mono ?_); rintro e w12 ⟨rfl, hb⟩; replace HM := Lib.hid (Mem.below HM.out hb); replace HX := Lib.hid (HX.out.below hb); replace HO := Lib.hid (HO.out.below hb); replace HR := Lib.hid (Rd.below HR.out hb); replace HB := Lib.hid (HB.out.trans (hb.mono HB.out.size)); clear hb))
        go_ret
        exact ⟨rfl, HB.out⟩
      | true =>
        have hxk : T k = some ⟨yf, yw, ys, yc, yd⟩ := by
          have h1 := HBS.out
          have h2 := HY.out
          cases hx : T k with
          | none => rw [hx] at h1; cases h1
          | some e => rw [hx] at h2; exact congrArg some h2
        have hTT : up T2 k (some ⟨yf, yw, ys, yc, yd⟩) = T := by rw [← HT2.out]; exact up_back hxk
        have hmy := HGood.out k _ hxk
        have HS2 : Hid (∀ W, Mem W p T2 → Calls Try.prog 10 #[.pointer (some ⟨p, 0, none⟩), .int .i64 ((n : Int) % 64), .agg #[.int .i64 yf, .bool yw, .bool ys, .bool yc, .bool yd]] W fun e w' => e = .returned (.int .i64 0) ∧ Kp (fun j => j = p) W w' ∧ Mem w' p T) := Lib.hid (fun W hM => by
          have := set_in W p T2 hM k ⟨yf, yw, ys, yc, yd⟩ hk64 hmy
          rw [hTT] at this
          rw [HK.out]
          exact this)
        clear hTT hxk hmy HSe HG1 HC1 HT2 HGt
        go_wp2_with (first | (go_at_call 10; (with_reducible refine (HS2.out _ HM.out).mono ?_); rintro e w9 ⟨rfl, hk9, hm9⟩; refine Hid.out ?_))
        refine Lib.hid ?_
        clear x0 x1 x2 x3 x4 v0 v1 v2 v3 v4 o0 o1 o2 o3 o4
        replace HX := Lib.hid (HX.out.kept hk9 HNe.out.1)
        replace HO := Lib.hid (HO.out.kept hk9 HNo.out.1)
        replace HR := Lib.hid (Rd.beside HR.out HM.out hk9 (by decide))
        replace HB := Lib.hid (HB.out.trans (hk9.below HB.out.size (fun j e => by have := HNe.out.2; omega)))
        replace HM := Lib.hid hm9
        clear hk9 hm9
        go_wp2_with (first | (go_at_call 25; (with_reducible refine (list_mem _ p T HM.out).mono ?_); rintro e w10 ⟨hb, r2, rfl, hr⟩; replace HM := Lib.hid (Mem.below HM.out hb); replace HX := Lib.hid (HX.out.below hb); replace HO := Lib.hid (HO.out.below hb); replace HR := Lib.hid (Rd.below HR.out hb); replace HB := Lib.hid (HB.out.trans (hb.mono HB.out.size)); have HR2 := Lib.hid hr; clear hb hr) | (go_at_call 29; (with_reducible refine (same_any _ _ (ents T 64) _ (by have := HLe.out; omega) HR2.out HR.out).mono ?_); rintro e w11 ⟨rfl, hb⟩; replace HM := Lib.hid (Mem.below HM.out hb); replace HX := Lib.hid (HX.out.below hb); replace HO := Lib.hid (HO.out.below hb); replace HR := Lib.hid (Rd.below HR.out hb); replace HB := Lib.hid (HB.out.trans (hb.mono HB.out.size)); clear hb) | (go_at_call 24; (with_reducible refine (parts_mem _ p T HM.out).mono ?_); rintro e w12 ⟨rfl, hb⟩; replace HM := Lib.hid (Mem.below HM.out hb); replace HX := Lib.hid (HX.out.below hb); replace HO := Lib.hid (HO.out.below hb); replace HR := Lib.hid (Rd.below HR.out hb); replace HB := Lib.hid (HB.out.trans (hb.mono HB.out.size)); clear hb))
        go_ret
        exact ⟨rfl, HB.out⟩
end Go.Proofs.Ytcmlcepdcpbdaaa.Tw
namespace Go.Proofs.Ytcmlcepdcpbdaaa.Walk
open Go Go.RowKit Ov Tm
theorem pagesTraces (v : Value) (ops : List Opr) (n : Int) (x : En) (w : World) (h : OpsAt w v ops) (hn : (Lit.int .u8 n).wf = true) :
    Calls Try.prog 5 #[v, .int .u8 n, ev x] w fun e w' => e = .returned (.bool true) ∧ Below w.heap.size w w' := by
  have hb : 0 ≤ n ∧ n ≤ 255 := by simpa [Lit.wf, IntKind.min, IntKind.max, IntKind.signed, IntKind.bits] using hn
  obtain ⟨k, rfl⟩ := Int.eq_ofNat_of_zero_le hb.1
  exact Tw.traces_law v ops k x w h (by omega)
end Go.Proofs.Ytcmlcepdcpbdaaa.Walk
