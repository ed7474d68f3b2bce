/-
  PipeSides: the walk through its calls.
-/
import Derived.Test.YtfpdbcjnhgddoaaPsd
namespace Go.Proofs.Ytfpdbcjnhgddoaa.Pse
open Go Go.RowKit Go.Shelf Kit Bk Rgm Rgt Rgw Rgp Rgn Rst Pm Pw Px Pr Ps Po Pn Pal Pop Pac Psd
set_option linter.unusedVariables false

set_option maxRecDepth 100000 in
set_option maxHeartbeats 8000000 in
theorem sides_fine (st : Str) (bv v : Value) (l : List Opr) (w : World) (h0 : Slc .u8 w bv st.xs) (h1 : OpsAt w v l) (hf : Fine l) (hl : st.xs.length ≤ 200) (hg : GoodS st) :
    Calls Try.prog 6 #[stv st bv, v] w fun e w' => e = .returned (.bool true) ∧ Below w.heap.size w w' := by
  have kc := fun (w : World) (C : Array Value) (n c : Nat) => Lib.run_convert_bytes_const (P := Try.prog) w 22 5 C n c Try.underlying22 Try.underlying5
  obtain ⟨wb, hwb, hb, hs⟩ := one_box w st.c st.r st.u bv
  have HO := Lib.hid (h1.below hb)
  have HB := Lib.hid hb
  have HSt : Hid (∀ W, Below wb.heap.size wb W → _) := Lib.hid (fun W h => start_ok wb W st bv (h0.below (hb.trans (h.mono hb.size))) hg h)
  obtain ⟨a, cap, rfl, c1, c2, -⟩ := h0
  have HS : Hid (∀ W, Below wb.heap.size wb W → W.cell? ⟨w.heap.size, 0, none⟩ = some (.int .i64 st.c) ∧ W.cell? ⟨w.heap.size, 1, none⟩ = some (.slice a st.xs.length cap) ∧ W.cell? ⟨w.heap.size, 2, none⟩ = some (.int .i64 st.r) ∧ W.cell? ⟨w.heap.size, 3, none⟩ = some (.int .i64 st.u)) := Lib.hid (fun W h => ⟨(hs.below h).cell 0, (hs.below h).cell 1, (hs.below h).cell 2, (hs.below h).cell 3⟩)
  have d0 : decide (200 < (st.xs.length : Int)) = false := decide_eq_false (by omega)
  have d1 : decide (200 < st.xs.length) = false := decide_eq_false (by omega)
  obtain ⟨a1, cap1, rfl, l1, m1, H1⟩ := id HO.out
  have D1 := Lib.hid H1
  have b1l : (l.length : Int) ≤ 200 := by have := hf.1; omega
  have HF := Lib.hid hf
  unfold maxLen at m1
  clear h1 hb hs hl c1 c2 hg H1 hf l1
  go_enter Try.func6, Try.ntmps6
  go_wp2_with (first | (go_at_call 29; (with_reducible refine (alive_any _).mono ?_); rintro e w1 ⟨rfl, b1⟩; obtain ⟨x0, x1, x2, x3⟩ := HS.out _ b1; refine Hid.out ?_))
  refine Lib.hid ?_
  clear hwb
  obtain ⟨C, s, hC1, hC2, hC3, hs1, hs2, hs3, hof⟩ := HSt.out _ b1
  have HE := Lib.hid hof
  have B1 := Lib.hid b1
  clear hC1 hC2 hC3 hs1 hs2 hs3 hof HSt b1
  go_wp2_with (first | (go_at_call 9; (with_reducible refine (great_fine _ l _ (OpsAt.below HO.out B1.out) HF.out).mono ?_); rintro e w2 ⟨rfl, rfl⟩) | (go_at_call 10; (with_reducible refine HE.out.mono ?_); rintro e w3 ⟨p, r, rfl, on3⟩; replace on3 := Lib.hid on3))
  clear x0 x1 x2 x3 d0 d1 B1 HE HS
  go_loopw [48] (fun i wr => ∃ (k : Nat) (s : Sta), k ≤ l.length ∧ i = .int .i64 (k : Int) ∧ Ons wb wr p r C s) (fun i _ => l.length - (intOf i).toNat)
  case atStart => exact ⟨0, s, Nat.zero_le _, rfl, on3.out⟩
  case round =>
    clear on3
    obtain ⟨k, s, hk, rfl, hO⟩ := hrel
    by_cases hlt : k < l.length
    · rcases D1.out with h0 | ⟨b, off, rfl, hb, h4⟩
      · subst h0; simp at hlt
      · have hkl : (k : Int) < (l.length : Int) := by omega
        obtain ⟨c0, ⟨bv, c1, hs⟩, c2, c3, -⟩ := h4 k hlt
        generalize l[k] = q at *
        obtain ⟨kind, zs, n, x⟩ := q
        dsimp only at c0 c1 c2 c3 hs
        have x0 := (hO.bel.cell (p := ⟨b, off + k * 4, none⟩) hb).trans c0
        have x1 := (hO.bel.cell (p := ⟨b, off + k * 4 + 1, none⟩) hb).trans c1
        have x2 := (hO.bel.cell (p := ⟨b, off + k * 4 + 2, none⟩) hb).trans c2
        have x3 := (hO.bel.cell (p := ⟨b, off + k * 4 + 3, none⟩) hb).trans c3
        have HOn := Lib.hid hO
        have HW := Lib.hid (pwrite_any wr p r C s.xs s.R s.U bv zs hO.pp (hO.src hs))
        have HR := Lib.hid (pread_any wr p r C s.xs s.R s.U n hO.pp)
        have HOp := Lib.hid (popen_any wr p r C s.xs s.R s.U x hO.pp)
        have HCl := Lib.hid (pclose_any wr p r C s.xs s.R s.U x hO.pp)
        unfold WriteR at HW
        unfold ReadR at HR
        have hbv := hs
        clear h4 c0 c1 c2 c3 hs hO HO
        go_upto_block 2 with fail
        clear D1 HF
        go_cut [6] (fun pp wx => pp = .pointer (some ⟨p, 0, none⟩) ∧ ∃ s' : Sta, Ons wb wx p r C s')
        case first =>
          by_cases k0 : kind = 0
          · subst k0
            clear HR HOp HCl x2 x3
            obtain ⟨ba, bc, rfl, -⟩ := id hbv
            go_wp2_with (go_at_call 12; (with_reducible refine HW.out.mono ?_); rintro e w4 ⟨rfl, hk4, hr4⟩)
            go_meet
            exact ⟨rfl, ⟨_, _, _⟩, HOn.out.step hk4 hr4⟩
          · have e0 : (kind == 0) = false := by simp [k0]
            by_cases k1 : kind = 1
            · subst k1
              clear HW HOp HCl x1 x3 hbv k0
              go_wp2_with (go_at_call 14; (with_reducible refine HR.out.mono ?_); rintro e w4 ⟨hk4, hr4, rv, rfl, ho4⟩)
              go_meet
              exact ⟨rfl, ⟨_, _, _⟩, HOn.out.step hk4 hr4⟩
            · have e1 : (kind == 1) = false := by simp [k1]
              by_cases k2 : kind = 2
              · subst k2
                clear HW HR HCl x1 x2 hbv k0 k1
                go_wp2_with (go_at_call 16; (with_reducible refine HOp.out.mono ?_); rintro e w4 ⟨rfl, hk4, hr4⟩)
                go_meet
                exact ⟨rfl, ⟨s.xs, nR x s.R (oN (sc x s.R s.U)), nU x s.U (oN (sc x s.R s.U))⟩, HOn.out.step hk4 hr4⟩
              · have e2 : (kind == 2) = false := by simp [k2]
                by_cases k3 : kind = 3
                · subst k3
                  clear HW HR HOp x1 x2 hbv k0 k1 k2
                  go_wp2_with (go_at_call 18; (with_reducible refine HCl.out.mono ?_); rintro e w4 ⟨rfl, hk4, hr4⟩)
                  go_meet
                  exact ⟨rfl, ⟨s.xs, nR x s.R (sc x s.R s.U - 1), nU x s.U (sc x s.R s.U - 1)⟩, HOn.out.step hk4 hr4⟩
                · have e3 : (kind == 3) = false := by simp [k3]
                  clear HW HR HOp HCl x1 x2 x3 hbv k0 k1 k2 k3
                  go_wp2
                  go_meet
                  exact ⟨rfl, s, HOn.out⟩
        case rest =>
          obtain ⟨rfl, s', hO⟩ := hcut
          clear x0 x1 x2 x3 HW HR HOp HCl HOn hbv hb
          have hcl := hO.pp.ring.cap_le
          have hrd := side_rd (C := C) s'
          have hwr := side_wr s' hcl.2
          have HC := Lib.hid (pcopy_any wc p r C s'.xs s'.R s'.U hO.pp)
          have HOn := Lib.hid hO
          have HS1 := Lib.hid (And.intro hrd hwr)
          clear hO hcl hrd hwr
          go_wp2_with (go_at_call 20; (with_reducible refine HC.out.mono ?_); rintro e w5 ⟨q, t, rfl, b5, hq, ht, p5⟩; refine Hid.out ?_)
          refine Lib.hid ?_
          have lp := HOn.out.pp.ltp
          have lr := HOn.out.pp.ltr
          have lw := HOn.out.bel.size
          have HR5 := Lib.hid (pread_any w5 q t C s'.xs s'.R s'.U 1 p5)
          unfold ReadR at HR5
          have hO5 := HOn.out.below b5
          have HO5 : Hid (∀ W, Kr q t w5 W → Ons wb W p r C s') := Lib.hid (fun W k => ons_beside hO5 k (by omega) (by omega) ⟨by omega, by omega⟩ ⟨by omega, by omega⟩)
          clear b5 hq ht p5 lp lr lw hO5 HOn HC
          obtain ⟨fa, hfa⟩ : ∃ fa, rW s'.xs s'.R s'.U 1 = fa := ⟨_, rfl⟩
          obtain ⟨fe, hfe⟩ : ∃ fe, rE s'.R 1 = fe := ⟨_, rfl⟩
          rw [hfa, hfe] at HR5
          go_wp2_with (go_at_call 14; (with_reducible refine HR5.out.mono ?_); rintro e w6 ⟨k6, -, rv, rfl, o6⟩; refine Hid.out ?_)
          refine Lib.hid ?_
          have hO6 := HO5.out _ k6
          have HC := Lib.hid (pcopy_any w6 p r C s'.xs s'.R s'.U hO6.pp)
          have HOn := Lib.hid hO6
          clear k6 o6 hO6 HO5 HR5
          go_wp2_with (go_at_call 20; (with_reducible refine HC.out.mono ?_); rintro e w7 ⟨q2, t2, rfl, b7, hq, ht, p7⟩; refine Hid.out ?_)
          refine Lib.hid ?_
          have lp := HOn.out.pp.ltp
          have lr := HOn.out.pp.ltr
          have lw := HOn.out.bel.size
          have hbl := (Below.refl w7.heap.size w7).alloc (Nat.le_refl _) (.cells #[.int .u8 97] 5 (1, 2))
          have HW7 := Lib.hid (pwrite_any (w7.alloc (.cells #[.int .u8 97] 5 (1, 2))) q2 t2 C s'.xs s'.R s'.U (.slice (some ⟨w7.heap.size, 0, none⟩) 1 1) [97] (p7.below hbl) (lit_src (n := 1) (l := [97]) p7.ltr rfl rfl (by decide)))
          unfold WriteR at HW7
          have hO7 := (HOn.out.below b7).alloc (.cells #[.int .u8 97] 5 (1, 2))
          have HO7 : Hid (∀ W, Kr q2 t2 (w7.alloc (.cells #[.int .u8 97] 5 (1, 2))) W → Ons wb W p r C s') := Lib.hid (fun W k => ons_beside hO7 k (by omega) (by omega) ⟨by omega, by omega⟩ ⟨by omega, by omega⟩)
          clear b7 hq ht p7 lp lr lw hO7 HOn HC hbl
          obtain ⟨ga, hga⟩ : ∃ ga, wW C s'.xs s'.R s'.U [97] = ga := ⟨_, rfl⟩
          obtain ⟨ge, hge⟩ : ∃ ge, wE s'.U = ge := ⟨_, rfl⟩
          rw [hga, hge] at HW7
          go_wp2_with (go_at_call 12; (with_reducible refine HW7.out.mono ?_); rintro e w8 ⟨rfl, k8, -⟩; refine Hid.out ?_)
          refine Lib.hid ?_
          have HO8 := Lib.hid (HO7.out _ k8)
          have hRf := fun W (h : Ons wb W p r C s') => pready_any W p r C s'.xs s'.R s'.U false h.pp
          have hRt := fun W (h : Ons wb W p r C s') => pready_any W p r C s'.xs s'.R s'.U true h.pp
          have HRd := Lib.hid (fun W (h : Ons wb W p r C s') => readers_any W p r C s'.xs s'.R s'.U h.pp)
          have HWd := Lib.hid (fun W (h : Ons wb W p r C s') => writers_any W p r C s'.xs s'.R s'.U h.pp)
          obtain ⟨hrd, hwr⟩ := HS1.out
          rw [hfa, hfe] at hrd
          rw [hga, hge] at hwr
          clear k8 HO7 HW7 hfa hfe hga hge HS1
          generalize rdy C s'.xs s'.R s'.U false = rf at *
          generalize rdy C s'.xs s'.R s'.U true = rt at *
          have HRf := Lib.hid hRf
          have HRt := Lib.hid hRt
          clear hRf hRt
          have hrd2 : (fe = 90 ∧ rf = false) ∨ (fe = 0 ∧ fa = 1 ∧ rf = false ∧ ((s'.U : Int) == 0) = false) ∨ (fe = 0 ∧ (fa == 1) = false ∧ rf = true ∧ ((s'.U : Int) == 0) = false) ∨ (fe = 0 ∧ (fa == 1) = false ∧ rf = true ∧ ((s'.U : Int) == 0) = true) := by
            rcases hrd with h | h | ⟨h1, h2, h3⟩
            · exact .inl h
            · exact .inr (.inl h)
            · cases z : ((s'.U : Int) == 0)
              · exact .inr (.inr (.inl ⟨h1, h2, h3, rfl⟩))
              · exact .inr (.inr (.inr ⟨h1, h2, h3, rfl⟩))
          have hwr2 : (ge = 90 ∧ rt = false) ∨ (ge = 0 ∧ ga = 1 ∧ rt = false ∧ ((s'.R : Int) == 0) = false) ∨ (ge = 0 ∧ (ga == 1) = false ∧ rt = true ∧ ((s'.R : Int) == 0) = false) ∨ (ge = 0 ∧ (ga == 1) = false ∧ rt = true ∧ ((s'.R : Int) == 0) = true) := by
            rcases hwr with h | h | ⟨h1, h2, h3⟩
            · exact .inl h
            · exact .inr (.inl h)
            · cases z : ((s'.R : Int) == 0)
              · exact .inr (.inr (.inl ⟨h1, h2, h3, rfl⟩))
              · exact .inr (.inr (.inr ⟨h1, h2, h3, rfl⟩))
          clear hrd hwr
          rcases hrd2 with ⟨rfl, rfl⟩ | ⟨rfl, rfl, rfl, u0⟩ | ⟨rfl, u1, rfl, u0⟩ | ⟨rfl, u1, rfl, u0⟩
          all_goals rcases hwr2 with ⟨rfl, rfl⟩ | ⟨rfl, rfl, rfl, v0⟩ | ⟨rfl, v1, rfl, v0⟩ | ⟨rfl, v1, rfl, v0⟩
          all_goals go_wp2_with (first | (go_at_call 26; (with_reducible refine (HRf.out _ HO8.out).mono ?_); rintro e w9 ⟨rfl, b9⟩; replace HO8 := Lib.hid (HO8.out.below b9); clear b9) | (go_at_call 26; (with_reducible refine (HRt.out _ HO8.out).mono ?_); rintro e w9 ⟨rfl, b9⟩; replace HO8 := Lib.hid (HO8.out.below b9); clear b9) | (go_at_call 22; (with_reducible refine (HRd.out _ HO8.out).mono ?_); rintro e w9 ⟨rfl, rfl⟩) | (go_at_call 23; (with_reducible refine (HWd.out _ HO8.out).mono ?_); rintro e w9 ⟨rfl, rfl⟩))
          all_goals go_roundw
          all_goals first | exact ⟨k + 1, s', by omega, by go_num, HO8.out⟩ | (simp [intOf]; omega)
    · obtain rfl : k = l.length := by omega
      have HOn := Lib.hid hO
      clear hO HO HF D1
      go_wp2
      go_ret
      exact ⟨rfl, HB.out.trans (HOn.out.bel.mono HB.out.size)⟩
end Go.Proofs.Ytfpdbcjnhgddoaa.Pse
namespace Go.Proofs.Ytfpdbcjnhgddoaa.Walk
open Go Go.RowKit Kit Pop Pac Psd Pse
theorem pipeSides (st : Str) (bv v : Value) (l : List Opr) (W : World) (h0 : Slc .u8 W bv st.xs) (_ : (Lit.int .i64 st.c).wf = true) (_ : (Lit.int .i64 st.r).wf = true) (_ : (Lit.int .i64 st.u).wf = true) (h1 : OpsAt W v l) :
    Calls Try.prog 6 #[.agg #[.int .i64 st.c, bv, .int .i64 st.r, .int .i64 st.u], v] W fun e w' => e = .returned (.bool true) ∧ Below W.heap.size W w' := by
  by_cases hf : Fine l
  · by_cases hl : st.xs.length ≤ 200
    · by_cases hg : GoodS st
      · exact sides_fine st bv v l W h0 h1 hf hl hg
      · exact sides_bad st bv v l W h0 h1 hf hl hg
    · exact sides_far st bv v l W h0 h1 hf (by omega)
  · exact sides_great st bv v l W h1 hf
end Go.Proofs.Ytfpdbcjnhgddoaa.Walk
