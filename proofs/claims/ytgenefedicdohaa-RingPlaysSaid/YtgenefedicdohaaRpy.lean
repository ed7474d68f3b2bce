/-
  RingPlays: what its loop carries; the ways out ahead of it.
-/
import Derived.Test.YtgenefedicdohaaRpa
import Derived.Deep.RegionHeld
import Derived.Deep.DeepCutAuto
import Derived.Deep.CutBlock
namespace Go.Proofs.Ytgenefedicdohaa.Rpy
open Go Go.RowKit Go.Shelf Kit Bk Rgm Rgt Rgw Rgp Rgn Rst Ral Rop Rac Rsl Rfa Rfb Rpa
set_option linter.unusedVariables false
attribute [local go_sem ↓] sl_wrap app_wrap

set_option maxRecDepth 100000 in
set_option maxHeartbeats 2000000 in
theorem plays_far (c : Int) (v1 v2 : Value) (ys : List Nat) (l : List Opr) (w : World) (h1 : Slc .u8 w v1 ys) (h2 : OpsAt w v2 l) (hf : ¬ (Fine l ∧ ys.length ≤ 300)) :
    Calls Try.prog 3 #[.int .i64 c, v1, v2] w fun e w' => e = .returned (.bool true) ∧ Below w.heap.size w w' := by
  obtain ⟨a, cap, rfl, -⟩ := h1
  have HO := Lib.hid h2
  clear h2
  by_cases g : Fine l
  · have d : decide ((300 : Int) < (ys.length : Int)) = true := decide_eq_true (by have : ¬ ys.length ≤ 300 := fun e => hf ⟨g, e⟩; omega)
    clear hf
    go_enter Try.func3, Try.ntmps3
    go_wp2_with (first | (go_at_call 8; (with_reducible refine (great_fine _ l _ HO.out g).mono ?_); rintro e w2 ⟨rfl, rfl⟩))
    go_ret
    exact ⟨rfl, Below.refl _ _⟩
  · clear hf
    go_enter Try.func3, Try.ntmps3
    go_wp2_with (first | (go_at_call 8; (with_reducible refine (great_any _ l _ HO.out g).mono ?_); rintro e w2 ⟨rfl, rfl⟩))
    go_ret
    exact ⟨rfl, Below.refl _ _⟩
set_option maxRecDepth 100000 in
set_option maxHeartbeats 2000000 in
theorem plays_bad (c : Int) (v1 v2 : Value) (ys : List Nat) (l : List Opr) (w : World) (h1 : Slc .u8 w v1 ys) (h2 : OpsAt w v2 l) (hf : Fine l) (hy : ys.length ≤ 300) (hc : ¬ (1 ≤ c ∧ c ≤ 64 ∧ (ys.length : Int) ≤ c)) :
    Calls Try.prog 3 #[.int .i64 c, v1, v2] w fun e w' => e = .returned (.bool true) ∧ Below w.heap.size w w' := by
  obtain ⟨a, cap, rfl, -⟩ := h1
  have HO := Lib.hid h2
  have HC := Lib.hid hc
  have d : decide ((300 : Int) < (ys.length : Int)) = false := decide_eq_false (by omega)
  clear h2 hc
  go_enter Try.func3, Try.ntmps3
  go_wp2_with (first | (go_at_call 8; (with_reducible refine (great_fine _ l _ HO.out hf).mono ?_); rintro e w2 ⟨rfl, rfl⟩) | (go_at_call 9; (with_reducible refine (of_bad _ _ _ _ _ HC.out).mono ?_); rintro e w2 ⟨rfl, rfl⟩) | (go_at_call 10; (with_reducible refine (rof_bad _ _ _ _ _ HC.out).mono ?_); rintro e w2 ⟨rfl, rfl⟩))
  go_ret
  exact ⟨rfl, Below.refl _ _⟩
set_option maxRecDepth 100000 in
set_option maxHeartbeats 8000000 in
theorem plays_fine (C : Nat) (v1 v2 : Value) (ys : List Nat) (l : List Opr) (w : World) (h1 : Slc .u8 w v1 ys) (h2 : OpsAt w v2 l) (hf : Fine l) (hy : ys.length ≤ 300) (hC : 1 ≤ C ∧ C ≤ 64) (hyC : ys.length ≤ C) :
    Calls Try.prog 3 #[.int .i64 (C : Int), v1, v2] w fun e w' => e = .returned (.bool true) ∧ Below w.heap.size w w' := by
  have H1 := Lib.hid (And.intro h1 (And.intro hC hyC))
  have HO := Lib.hid h2
  obtain ⟨a, cap, rfl, -⟩ := h1
  obtain ⟨a2, cap2, rfl, l2, m2, D2⟩ := h2
  have HD := Lib.hid D2
  unfold maxLen at m2
  have d : decide ((300 : Int) < (ys.length : Int)) = false := decide_eq_false (by omega)
  have bl : (l.length : Int) ≤ 200 := by have := hf.1; omega
  have hCI : (C : Int) ≤ 64 := by omega
  have HF := Lib.hid hf
  clear D2 hf l2 hC hyC
  go_enter Try.func3, Try.ntmps3
  go_wp2_with (first | (go_at_call 8; (with_reducible refine (great_fine _ l _ HO.out HF.out).mono ?_); rintro e w2 ⟨rfl, rfl⟩) | (go_at_call 9; (with_reducible refine (of_ok w C _ ys H1.out.1 H1.out.2.1 H1.out.2.2).mono ?_); rintro e w3 ⟨rfl, b3, r3⟩; refine Hid.out ?_))
  refine Lib.hid ?_
  have HRf := Lib.hid (rof_ok w3 C _ ys (H1.out.1.below b3) H1.out.2.1 H1.out.2.2)
  have R3 := Lib.hid (And.intro b3 r3)
  clear b3 r3
  go_wp2_with (first | (go_at_call 10; (with_reducible refine HRf.out.mono ?_); rintro e w4 ⟨rfl, b4, r4⟩; refine Hid.out ?_))
  refine Lib.hid ?_
  obtain ⟨q, hq⟩ : ∃ q, w3.heap.size = q := ⟨_, rfl⟩
  have hP : Pl w w4 w.heap.size q C ys := ⟨R3.out.1.trans (b4.mono R3.out.1.size), R3.out.2.below b4, by rw [← hq]; exact r4.base R3.out.1.size, Nat.le_refl _, by rw [← hq]; exact R3.out.1.size⟩
  have HP := Lib.hid hP
  clear b4 r4 hP HRf R3
  go_wp2
  clear hq
  go_loopw [7, 54] (fun rp i wr => ∃ (k p : Nat) (xs : List Nat), k ≤ l.length ∧ rp = .pointer (some ⟨p, 0, none⟩) ∧ i = .int .i64 (k : Int) ∧ Pl w wr p q C xs) (fun _ i _ => l.length - (intOf i).toNat)
  case atStart => exact ⟨0, _, _, Nat.zero_le _, rfl, rfl, HP.out⟩
  case round =>
    obtain ⟨k, p, xs, hk, rfl, rfl, hP⟩ := hrel
    by_cases hlt : k < l.length
    · rcases HD.out with h0 | ⟨b, off, rfl, hb, h4⟩
      · subst h0; simp at hlt
      · have hkl : (k : Int) < (l.length : Int) := by omega
        obtain ⟨c0, ⟨bv, c1, hs⟩, c2, -⟩ := h4 k hlt
        have hzl := HF.out.2 l[k] (List.getElem_mem hlt)
        generalize l[k] = o at *
        obtain ⟨kind, zs, n⟩ := o
        dsimp only at c0 c1 c2 hs hzl
        have x0 := (hP.bel.cell (p := ⟨b, off + k * 3, none⟩) hb).trans c0
        have x1 := (hP.bel.cell (p := ⟨b, off + k * 3 + 1, none⟩) hb).trans c1
        have x2 := (hP.bel.cell (p := ⟨b, off + k * 3 + 2, none⟩) hb).trans c2
        have HS := Lib.hid hs
        obtain ⟨ba, bc, rfl, -⟩ := hs
        clear h4 c0 c1 c2
        go_upto_block 2 with fail
        go_cut [7, 13] (fun rp fp wx => ∃ (p' : Nat) (xs' : List Nat), rp = .pointer (some ⟨p', 0, none⟩) ∧ fp = .bool true ∧ Pl w wx p' q C xs')
        case first =>
          have hx : Blk (wr.alloc (.cells #[.int .i64 kind, .slice ba zs.length bc, .int .i64 n] 33)) wr.heap.size #[.int .i64 kind, .slice ba zs.length bc, .int .i64 n] 33 := Blk.new _ _ _
          have hP1 := hP.box (.cells #[.int .i64 kind, .slice ba zs.length bc, .int .i64 n] 33)
          have hz := HS.out.below hP1.bel
          have hcl := hP.ring.cap_le
          have hC1 : 1 ≤ C := H1.out.2.1.1
          have hXp : p < wr.heap.size := hP.ring.lt
          have hXq : q < wr.heap.size := hP.ref.lt
          have hX0 : w.heap.size ≤ wr.heap.size := hP.bel.size
          have hzI : (zs.length : Int) ≤ 300 := by omega
          clear x0 x1 x2 hP HD HO hb HP
          generalize wr.alloc (.cells #[.int .i64 kind, .slice ba zs.length bc, .int .i64 n] 33) = w1 at *
          generalize wr.heap.size = X at *
          have hXs : X < w1.heap.size := hx.lt
          have x0 := hx.cell 0
          have x1 := hx.cell 1
          have x2 := hx.cell 2
          have HX := Lib.hid hx
          have HP1 := Lib.hid hP1
          clear hx hP1
          by_cases k0 : kind = 0
          · subst k0
            obtain ⟨c, w3, hrun, hown, hb3⟩ := app_lit w1 _ zs hz (by omega)
            obtain ⟨ca, cc, rfl⟩ := row_form hown
            have hP3 := HP1.out.below hb3
            obtain ⟨M, hM⟩ : ∃ M, min zs.length (C - xs.length) = M := ⟨_, rfl⟩
            obtain ⟨xs2, hxs⟩ : ∃ xs2, xs ++ zs.take (C - xs.length) = xs2 := ⟨_, rfl⟩
            have hw := write_any w3 p C xs _ zs hP3.ring (own_src hown hP3.ring)
            rw [hM, hxs] at hw
            have hr := fun W (h : RB W w.heap.size q C xs) (hv : Slc .u8 W (.slice ba zs.length bc) zs) => rwrite_any W w.heap.size q C xs _ zs h hcl.2 hcl.1 hv
            rw [hM, hxs] at hr
            have HW := Lib.hid hw
            have HR := Lib.hid hr
            have H3 := Lib.hid (And.intro hown (And.intro hP3 (And.intro (HX.out.below hb3) hb3.size)))
            clear hw hr hown hP3 hb3 hM hxs
            go_wp2_with (first | (go_at_call 11; (with_reducible refine HW.out.mono ?_); rintro e w4 ⟨rfl, k4, r4⟩; refine Hid.out ?_))
            refine Lib.hid ?_
            clear hrun x0 x1 x2
            have hx4 := H3.out.2.2.1.kept k4 (by omega)
            have y1 := hx4.cell 1
            have HR4 := Lib.hid (HR.out w4 (H3.out.2.1.one k4 r4).2 (HS.out.below (H3.out.2.1.one k4 r4).1))
            have H4 := Lib.hid (And.intro k4 r4)
            clear hx4 k4 r4 HR HW
            go_wp2_with (first | (go_at_call 12; (with_reducible refine HR4.out.mono ?_); rintro e w5 ⟨rfl, k5, r5⟩; refine Hid.out ?_))
            refine Lib.hid ?_
            clear y1 HR4
            have hL : Lp w w5 p q C xs2 ca zs.length := by
              obtain ⟨k4, r4⟩ := H4.out
              obtain ⟨hown, hP3, -, hs3⟩ := H3.out
              have ho5 := own_kp (own_kp hown k4 (fun j e => by omega)) k5 (fun j e => by omega)
              refine Lp.old (hP3.both k4 r4 k5 r5 (by have := k4.size; omega)) (by omega) ho5 r5 (fun g e => ?_)
              have hg : g < w3.heap.size := by
                rcases hown.2 with ⟨h, _⟩ | ⟨g', cap', cur, h, _, hh, _⟩
                · injection h with ha
                  rw [ha] at e
                  simp at e
                · injection h with ha
                  rw [ha] at e
                  simp at e
                  subst e
                  exact (Array.getElem?_eq_some_iff.1 hh).1
              have := k4.size
              omega
            have HL := Lib.hid hL
            clear hL H4 H3 k5 r5
            go_wp2
            go_loopw [80] (fun i wv => ∃ j : Nat, j ≤ zs.length ∧ i = .int .i64 (j : Int) ∧ Lp w wv p q C xs2 ca zs.length) (fun i _ => zs.length - (intOf i).toNat)
            case atStart => exact ⟨0, Nat.zero_le _, rfl, HL.out⟩
            case round =>
              obtain ⟨j, hj, rfl, hL⟩ := hrel
              by_cases hjn : j < zs.length
              · obtain ⟨g, rfl, f1, ⟨x, c1⟩, hs⟩ := hL.step j hjn
                have hjl : (j : Int) < (zs.length : Int) := by omega
                have HE := Lib.hid hs
                clear hL hs
                go_wp2
                go_roundw
                case rel => exact ⟨j + 1, by omega, by go_num, HE.out _⟩
                case measure => simp [intOf]; omega
              · obtain rfl : j = zs.length := by omega
                have HE := Lib.hid hL.pl
                clear hL
                go_wp2
                go_meet
                exact ⟨_, _, rfl, rfl, HE.out⟩
          · have d0 : (kind == 0) = false := by simp [k0]
            by_cases k1 : kind = 1
            · subst k1
              obtain ⟨ts, hts⟩ : ∃ ts, xs.take n.toNat = ts := ⟨_, rfl⟩
              obtain ⟨xs2, hxs⟩ : ∃ xs2, xs.drop n.toNat = xs2 := ⟨_, rfl⟩
              obtain ⟨T, hT⟩ : ∃ T, bstr ts = T := ⟨_, rfl⟩
              have hw := read_any w1 p C xs n HP1.out.ring
              have hr := fun W (h : RB W w.heap.size q C xs) => rread_any W w.heap.size q C xs n h (by omega)
              simp only [hts, hxs] at hw hr
              have HW := Lib.hid hw
              have HR := Lib.hid hr
              have HT : Hid (∀ W B v, W.ownsRow B 5 1 v ts.length (u8s ts) → (convert 22 9 v).run Try.prog W = .ok (.string T) W) := Lib.hid (fun W B v h => by rw [← hT]; exact slc_string (own_slc h))
              clear hw hr hts hxs hT k0
              go_wp2_with (first | (go_at_call 13; (with_reducible refine HW.out.mono ?_); rintro e w2 ⟨k2, r2, rv, rfl, ho2⟩; refine Hid.out ?_))
              refine Lib.hid ?_
              clear x0 x1 x2
              have hq2 := (HP1.out.one k2 r2).2
              have HQ2 := Lib.hid (HR.out w2.drew (hq2.below (Below.refl _ _).drew))
              have K2 : Hid (Blk w2.drew X #[.int .i64 1, .slice ba zs.length bc, .int .i64 n] 33 ∧ w2.drew.ownsRow w1.heap.size 5 1 rv ts.length (u8s ts)) := Lib.hid ⟨(HX.out.kept k2 (by omega)).below (w' := w2.drew) (Below.refl _ _).drew, ho2⟩
              have KS : Hid (∀ W, (Blk W X #[.int .i64 1, .slice ba zs.length bc, .int .i64 n] 33 ∧ W.ownsRow w1.heap.size 5 1 rv ts.length (u8s ts)) → W.cell? ⟨X, 2, none⟩ = some (.int .i64 n) ∧ (convert 22 9 rv).run Try.prog W = .ok (.string T) W) := Lib.hid (fun W h => ⟨h.1.cell 2, HT.out _ _ _ h.2⟩)
              have H2 := Lib.hid (And.intro k2 r2)
              clear k2 r2 ho2 hq2 HW HR
              go_wp2
              go_region_held (fun W => W.cell? ⟨X, 2, none⟩ = some (.int .i64 n) ∧ (convert 22 9 rv).run Try.prog W = .ok (.string T) W) (first | exact KS.out _ K3.out | exact KS.out _ K2.out) (first | (go_at_call 14; (with_reducible refine HQ2.out.mono ?_); rintro e w3 ⟨k3, r3, rv3, rfl, ho3⟩; have cv3 := HT.out _ _ _ ho3; have K3 : Hid (Blk w3 X #[.int .i64 1, .slice ba zs.length bc, .int .i64 n] 33 ∧ w3.ownsRow w1.heap.size 5 1 rv ts.length (u8s ts)) := Lib.hid ⟨K2.out.1.kept k3 (by omega), own_kp K2.out.2 k3 (fun j e => by omega)⟩; have HP3 : Hid (Pl w w3 p q C xs2) := Lib.hid (HP1.out.both H2.out.1 H2.out.2 ((Kp.of_below (S := fun j => j = q) (Below.refl _ _).drew).trans k3 (fun j e => .inl e)) r3 (show w.heap.size ≤ w2.heap.size by have := H2.out.1.size; have := HP1.out.bel.size; omega)); clear ho3 k3 r3))
              all_goals go_wp2_with fail
              all_goals go_meet
              all_goals exact ⟨_, _, rfl, rfl, HP3.out⟩
            · have d1 : (kind == 1) = false := by simp [k1]
              by_cases k2 : kind = 2
              · subst k2
                obtain ⟨ts, hts⟩ : ∃ ts, xs.take n.toNat = ts := ⟨_, rfl⟩
                obtain ⟨T, hT⟩ : ∃ T, bstr ts = T := ⟨_, rfl⟩
                have hw := peek_any (some ⟨p, 0, none⟩) xs n w1 (tells_ring HP1.out.ring)
                have hr := fun W (h : RB W w.heap.size q C xs) => rpeek_any W w.heap.size q C xs n h (by omega)
                simp only [hts] at hw hr
                have HW := Lib.hid hw
                have HR := Lib.hid hr
                have HT : Hid (∀ W B v, W.ownsRow B 5 1 v ts.length (u8s ts) → (convert 22 9 v).run Try.prog W = .ok (.string T) W) := Lib.hid (fun W B v h => by rw [← hT]; exact slc_string (own_slc h))
                have htI : (ts.length : Int) ≤ 64 := by
                  have : ts.length ≤ xs.length := by rw [← hts, List.length_take]; exact Nat.min_le_right _ _
                  omega
                clear hw hr hts hT k0 k1
                go_wp2_with (first | (go_at_call 15; (with_reducible refine HW.out.mono ?_); rintro e w2 ⟨b2, rv, rfl, ho2⟩; refine Hid.out ?_))
                refine Lib.hid ?_
                clear x0 x1 x2
                have hP2 := HP1.out.below b2
                have HQ2 := Lib.hid (HR.out w2.drew (hP2.ref.below (Below.refl _ _).drew))
                have hRR : ∀ v, w2.drew.cell? ⟨q, 1, none⟩ = some v → ∀ k, v.ownBlock = some k → k < w1.heap.size := fun v hv k hk => row_ref HP1.out.ref v (by rw [← b2.cell (p := ⟨q, 1, none⟩) (show q < w1.heap.size by omega)]; exact hv) k hk
                obtain ⟨ca, cc, rfl⟩ := row_form ho2
                have HL2 : Hid (Lp w w2.drew p q C xs ca ts.length) := Lib.hid (Lp.new (hP2.below (W' := w2.drew) (Below.refl _ _).drew) HP1.out.bel.size (show w2.drew.ownsRow w1.heap.size 5 1 (.slice ca ts.length cc) ts.length (u8s ts) from ho2) hRR)
                have K2 : Hid (Blk w2.drew X #[.int .i64 2, .slice ba zs.length bc, .int .i64 n] 33 ∧ w2.drew.ownsRow w1.heap.size 5 1 (.slice ca ts.length cc) ts.length (u8s ts)) := Lib.hid ⟨(HX.out.below b2).below (w' := w2.drew) (Below.refl _ _).drew, ho2⟩
                have KS : Hid (∀ W, (Blk W X #[.int .i64 2, .slice ba zs.length bc, .int .i64 n] 33 ∧ W.ownsRow w1.heap.size 5 1 (.slice ca ts.length cc) ts.length (u8s ts)) → W.cell? ⟨X, 2, none⟩ = some (.int .i64 n) ∧ (convert 22 9 (.slice ca ts.length cc)).run Try.prog W = .ok (.string T) W) := Lib.hid (fun W h => ⟨h.1.cell 2, HT.out _ _ _ h.2⟩)
                have HRR := Lib.hid hRR
                clear b2 ho2 hP2 hRR HW HR
                go_wp2
                go_region_held (fun W => W.cell? ⟨X, 2, none⟩ = some (.int .i64 n) ∧ (convert 22 9 (.slice ca ts.length cc)).run Try.prog W = .ok (.string T) W) (first | exact KS.out _ K3.out | exact KS.out _ K2.out) (first | (go_at_call 16; (with_reducible refine HQ2.out.mono ?_); rintro e w3 ⟨b3, rv3, rfl, ho3⟩; have cv3 := HT.out _ _ _ ho3; have K3 : Hid (Blk w3 X #[.int .i64 2, .slice ba zs.length bc, .int .i64 n] 33 ∧ w3.ownsRow w1.heap.size 5 1 (.slice ca ts.length cc) ts.length (u8s ts)) := Lib.hid ⟨K2.out.1.below b3, own_below K2.out.2 b3⟩; have HL3 : Hid (Lp w w3 p q C xs ca ts.length) := Lib.hid (Lp.new (HL2.out.pl.below b3) HP1.out.bel.size (own_below K2.out.2 b3) (fun v hv k hk => HRR.out v (by rw [← b3.cell (p := ⟨q, 1, none⟩) HL2.out.pl.ref.lt]; exact hv) k hk)); clear ho3 b3))
                all_goals clear KS K2 HL2 HRR HQ2 cv3
                all_goals go_wp2
                all_goals go_loopw [122] (fun i wv => ∃ j : Nat, j ≤ ts.length ∧ i = .int .i64 (j : Int) ∧ Lp w wv p q C xs ca ts.length) (fun i _ => ts.length - (intOf i).toNat)
                case atStart => exact ⟨0, Nat.zero_le _, rfl, HL3.out⟩
                case round =>
                  obtain ⟨j, hj, rfl, hL⟩ := hrel
                  by_cases hjn : j < ts.length
                  · obtain ⟨g, rfl, f1, ⟨x, c1⟩, hs⟩ := hL.step j hjn
                    have hjl : (j : Int) < (ts.length : Int) := by omega
                    have HE := Lib.hid hs
                    clear hL hs
                    go_wp2
                    go_roundw
                    case rel => exact ⟨j + 1, by omega, by go_num, HE.out _⟩
                    case measure => simp [intOf]; omega
                  · obtain rfl : j = ts.length := by omega
                    have HE := Lib.hid hL.pl
                    clear hL
                    go_wp2
                    go_meet
                    exact ⟨_, _, rfl, rfl, HE.out⟩
              · have d2 : (kind == 2) = false := by simp [k2]
                by_cases k3 : kind = 3
                · subst k3
                  have HW := Lib.hid (copy_any w1 p C xs HP1.out.ring (by omega))
                  clear k0 k1 k2
                  go_wp2_with (first | (go_at_call 17; (with_reducible refine HW.out.mono ?_); rintro e w2 ⟨rfl, b2, r2⟩; refine Hid.out ?_))
                  refine Lib.hid ?_
                  have hP2 := HP1.out.below b2
                  obtain ⟨p', hp'⟩ : ∃ p', w1.heap.size = p' := ⟨_, rfl⟩
                  rw [hp'] at r2 ⊢
                  have hx2 := HX.out.below b2
                  have y1 := hx2.cell 1
                  have HW2 := Lib.hid (write_any w2 p C xs _ zs hP2.ring (src_of HS.out hP2.bel hP2.lp))
                  have H2 := Lib.hid (And.intro hP2 (And.intro r2 hx2))
                  clear hP2 b2 r2 hx2 HW x0 x1 x2
                  generalize xs ++ zs.take (C - xs.length) = xs2 at *
                  go_wp2_with (first | (go_at_call 11; (with_reducible refine HW2.out.mono ?_); rintro e w3 ⟨rfl, k3, r3⟩; refine Hid.out ?_))
                  refine Lib.hid ?_
                  have HW3 := Lib.hid (read_any w3 p C xs2 1 r3)
                  have H3 := Lib.hid (And.intro k3 r3)
                  clear y1 k3 r3 HW2
                  go_wp2_with (first | (go_at_call 13; (with_reducible refine HW3.out.mono ?_); rintro e w4 ⟨k4, r4, rv, rfl, ho4⟩; refine Hid.out ?_))
                  refine Lib.hid ?_
                  have hE : Pl w w4 p' q C xs := by
                    obtain ⟨hP2, r2, -⟩ := H2.out
                    obtain ⟨k3, r3⟩ := H3.out
                    obtain ⟨h1, h2⟩ := hP2.one k3 r3
                    have hne : p' ≠ p := by omega
                    exact ⟨h1.trans (k4.below h1.size (fun j e => by have := hP2.lp; omega)), (r2.kept k3 hne).kept k4 hne, h2.beside r3 k4, by omega, hP2.lq⟩
                  clear k4 r4 ho4
                  go_wp2
                  go_meet
                  exact ⟨_, _, rfl, rfl, hE⟩
                · have d3 : (kind == 3) = false := by simp [k3]
                  clear k0 k1 k2 k3
                  go_wp2
                  go_meet
                  exact ⟨_, _, rfl, rfl, HP1.out⟩
        case rest =>
          obtain ⟨p', xs', rfl, rfl, hP'⟩ := hcut
          obtain ⟨v, hB1, hB2⟩ := id hP'.ref
          have hcl := hP'.ring.cap_le
          have hA := all_any (some ⟨p', 0, none⟩) xs' wc.drew (tells_ring (Rg.below (w := wc) hP'.ring (Below.refl _ _).drew))
          have hL := fun W (hb : Below wc.drew.heap.size wc.drew W) => len_any W p' C xs' ((Rg.below (w := wc) hP'.ring (Below.refl _ _).drew).below hb)
          have hG := fun W (hb : Below wc.drew.heap.size wc.drew W) => room_any W p' C xs' ((Rg.below (w := wc) hP'.ring (Below.refl _ _).drew).below hb)
          have hK := fun W (hb : Below wc.drew.heap.size wc.drew W) => cap_any W p' C xs' ((Rg.below (w := wc) hP'.ring (Below.refl _ _).drew).below hb)
          have HPd : Hid (Pl w wc.drew p' q C xs') := Lib.hid (hP'.below (Below.refl _ _).drew)
          have HSB := Lib.hid (own_slc hB2)
          obtain ⟨va, vc, rfl⟩ := row_form hB2
          obtain ⟨T, hT⟩ : ∃ T, bstr xs' = T := ⟨_, rfl⟩
          have KS : Hid (∀ W, Below wc.heap.size wc W → W.cell? ⟨q, 1, none⟩ = some (.slice va xs'.length vc) ∧ (convert 22 9 (.slice va xs'.length vc)).run Try.prog W = .ok (.string T) W) := Lib.hid (fun W hb => ⟨(hB1.below hb).cell 1, by rw [← hT]; exact slc_string (HSB.out.below hb)⟩)
          have HTT : Hid (∀ W r, W.ownsRow wc.drew.heap.size 5 1 r xs'.length (u8s xs') → (convert 22 9 r).run Try.prog W = .ok (.string T) W) := Lib.hid (fun W r h => by rw [← hT]; exact slc_string (own_slc h))
          have hsub : (C : Int) - (xs'.length : Int) = ((C - xs'.length : Nat) : Int) := by omega
          have hLI : (xs'.length : Int) ≤ 64 := by omega
          have hGI : ((C - xs'.length : Nat) : Int) ≤ 64 := by omega
          have HA := Lib.hid hA
          have HL := Lib.hid hL
          have HG := Lib.hid hG
          have HK := Lib.hid hK
          have hwG : IntKind.i64.wrap ((C - xs'.length : Nat) : Int) = ((C - xs'.length : Nat) : Int) := by rw [IntKind.wrap_i64]; omega
          generalize ((C - xs'.length : Nat) : Int) = G at *
          clear hA hL hG hK hT hB1 hB2 hP' hcl x0 x1 x2 hP
          have B0 := Lib.hid (Below.refl wc.heap.size wc).drew
          go_wp2
          go_region_held (fun W => W.cell? ⟨q, 1, none⟩ = some (.slice va xs'.length vc) ∧ (convert 22 9 (.slice va xs'.length vc)).run Try.prog W = .ok (.string T) W) (first | exact KS.out _ B6.out | exact KS.out _ B0.out) (first | (go_at_call 18; (with_reducible refine HA.out.mono ?_); rintro e w6 ⟨b6, rv, rfl, ho⟩; have cv6 := HTT.out _ _ ho; have B6 : Hid (Below wc.heap.size wc w6) := Lib.hid ((Below.refl wc.heap.size wc).drew.trans b6); have HP6 := Lib.hid (HPd.out.below b6); clear ho) | (go_at_call 19; (with_reducible refine (HL.out _ b6).mono ?_); rintro e w7 ⟨rfl, rfl⟩) | (go_at_call 20; (with_reducible refine (HG.out _ b6).mono ?_); rintro e w7 ⟨rfl, rfl⟩) | (go_at_call 21; (with_reducible refine (HK.out _ b6).mono ?_); rintro e w7 ⟨rfl, rfl⟩))
          all_goals go_wp2
          all_goals go_roundw
          all_goals first | exact ⟨k + 1, p', xs', by omega, rfl, by go_num, HP6.out⟩ | (simp [intOf]; omega)
    · obtain rfl : k = l.length := by omega
      have HB := Lib.hid hP.bel
      clear hP
      go_wp2
      go_ret
      exact ⟨rfl, HB.out⟩
end Go.Proofs.Ytgenefedicdohaa.Rpy
namespace Go.Proofs.Ytgenefedicdohaa.Walk
open Go Go.RowKit Kit Rop Rpy
theorem ringPlays (c : Int) (v1 : Value) (ys : List Nat) (v2 : Value) (l : List Opr) (W : World) (hc : (Lit.int .i64 c).wf = true) (h1 : Slc .u8 W v1 ys) (_ : ∀ x ∈ ys, x < 256) (h2 : OpsAt W v2 l) :
    Calls Try.prog 3 #[.int .i64 c, v1, v2] W fun e w' => e = .returned (.bool true) ∧ Below W.heap.size W w' := by
  by_cases hf : Fine l ∧ ys.length ≤ 300
  · by_cases hb : 1 ≤ c ∧ c ≤ 64 ∧ (ys.length : Int) ≤ c
    · obtain ⟨C, rfl⟩ := Int.eq_ofNat_of_zero_le (show 0 ≤ c by omega)
      exact plays_fine C v1 v2 ys l W h1 h2 hf.1 hf.2 (by omega) (by omega)
    · exact plays_bad c v1 v2 ys l W h1 h2 hf.1 hf.2 hb
  · exact plays_far c v1 v2 ys l W h1 h2 hf
end Go.Proofs.Ytgenefedicdohaa.Walk
