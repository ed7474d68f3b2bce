/-
  PipeCounts: the walk.
-/
import Derived.Test.YtfpdbcjnhgddoaaPcw
namespace Go.Proofs.Ytfpdbcjnhgddoaa.Pcx
open Go Go.RowKit Go.Shelf Kit Bk Rgm Rgt Rgw Rgp Rgn Rst Pm Pw Px Pr Ps Po Pn Pal Pop Pac Pcw
set_option linter.unusedVariables false

/-- The state with one side's count set. -/
def cs (s : Sta) (x : Bool) (m : Nat) : Sta := ⟨s.xs, nR x s.R m, nU x s.U m⟩
theorem cs_self (s : Sta) (x : Bool) : cs s x (sc x s.R s.U) = s := by unfold cs; rw [nR_same, nU_same]
theorem cs_sc (s : Sta) (x : Bool) (m : Nat) : sc x (cs s x m).R (cs s x m).U = m := sc_new x s.R s.U m
theorem cs_cs (s : Sta) (x : Bool) (m k : Nat) : (⟨(cs s x m).xs, nR x (cs s x m).R k, nU x (cs s x m).U k⟩ : Sta) = cs s x k := by cases x <;> rfl
theorem ons_le {w W : World} {p r C : Nat} {s : Sta} (x : Bool) (h : Ons w W p r C s) : sc x s.R s.U ≤ 64 := sc_le x h.pp
/-- Open and Close of the law's side. -/
theorem copen {w W : World} {p r C m : Nat} {s : Sta} {x : Bool} (h : Ons w W p r C (cs s x m)) :
    Calls Try.prog 16 #[.pointer (some ⟨p, 0, none⟩), .bool x] W fun e w' => e = .returned (.int .i64 (oE m)) ∧ Ons w w' p r C (cs s x (oN m)) := by
  refine (popen_any W p r C _ _ _ x h.pp).mono fun e w' ⟨h1, h2, h3⟩ => ?_
  rw [cs_sc] at h1 h3
  have h4 := h.step h2 h3
  exact ⟨h1, by have := cs_cs s x m (oN m); rw [← this]; exact h4⟩
theorem cclose {w W : World} {p r C m : Nat} {s : Sta} {x : Bool} (h : Ons w W p r C (cs s x m)) :
    Calls Try.prog 18 #[.pointer (some ⟨p, 0, none⟩), .bool x] W fun e w' => e = .returned (.tuple #[.bool (m == 1), .int .i64 (cE m)]) ∧ Ons w w' p r C (cs s x (m - 1)) := by
  refine (pclose_any W p r C _ _ _ x h.pp).mono fun e w' ⟨h1, h2, h3⟩ => ?_
  rw [cs_sc] at h1 h3
  have h4 := h.step h2 h3
  exact ⟨h1, by have := cs_cs s x m (m - 1); rw [← this]; exact h4⟩
theorem ccount0 {w W : World} {p r C : Nat} {s : Sta} (h : Ons w W p r C s) : Calls Try.prog 22 #[.pointer (some ⟨p, 0, none⟩)] W fun e w' => e = .returned (.int .i64 (sc false s.R s.U : Int)) ∧ W = w' := readers_any W p r C _ _ _ h.pp
theorem ccount1 {w W : World} {p r C : Nat} {s : Sta} (h : Ons w W p r C s) : Calls Try.prog 23 #[.pointer (some ⟨p, 0, none⟩)] W fun e w' => e = .returned (.int .i64 (sc true s.R s.U : Int)) ∧ W = w' := writers_any W p r C _ _ _ h.pp
/-- All bytes, as a text. -/
theorem call_any {w W : World} {p r C : Nat} {s : Sta} (h : Ons w W p r C s) : Calls Try.prog 21 #[.pointer (some ⟨p, 0, none⟩)] W fun e w' => Ons w w' p r C s ∧ Below W.heap.size W w' ∧ ∃ rv, e = .returned rv ∧ (convert 22 9 rv).run Try.prog w' = .ok (.string (bstr s.xs)) w' :=
  (pall_any W p r C _ _ _ h.pp).mono fun e w' ⟨h1, rv, h2, h3⟩ => ⟨h.below h1, h1, rv, h2, slc_string (own_slc h3)⟩

set_option maxRecDepth 100000 in
set_option maxHeartbeats 8000000 in
theorem counts_fine (st : Str) (bv v : Value) (l : List Opr) (o : Opr) (bo : Value) (w : World) (h0 : Slc .u8 w bv st.xs) (h1 : OpsAt w v l) (hf : Fine l) (hl : st.xs.length ≤ 200) (hg : GoodS st) (hn : (Lit.int .i64 o.n).wf = true) :
    Calls Try.prog 8 #[stv st bv, v, opv o bo] w fun e w' => e = .returned (.bool true) ∧ Below w.heap.size w w' := by
  obtain ⟨kd, yo, n, x⟩ := o
  dsimp only at hn ⊢
  have hmx : Try.prog.follows .mixedOrders = true := by kernel_rfl
  obtain ⟨wb, hwb, hb, hs, ho, hsz⟩ := two_boxes w st.c st.r st.u kd n bv bo x
  have HO := Lib.hid (h1.below hb)
  have HB := Lib.hid hb
  have HSt : Hid (∀ W, Below wb.heap.size wb W → _) := Lib.hid (fun W h => start_ok wb W st bv (h0.below (hb.trans (h.mono hb.size))) hg h)
  obtain ⟨a, cap, rfl, c1, c2, -⟩ := h0
  have HS : Hid (∀ W, Below wb.heap.size wb W → W.cell? ⟨w.heap.size, 0, none⟩ = some (.int .i64 st.c) ∧ W.cell? ⟨w.heap.size, 1, none⟩ = some (.slice a st.xs.length cap) ∧ W.cell? ⟨w.heap.size, 2, none⟩ = some (.int .i64 st.r) ∧ W.cell? ⟨w.heap.size, 3, none⟩ = some (.int .i64 st.u)) := Lib.hid (fun W h => ⟨(hs.below h).cell 0, (hs.below h).cell 1, (hs.below h).cell 2, (hs.below h).cell 3⟩)
  obtain ⟨X, hX⟩ : ∃ X, w.heap.size + 1 = X := ⟨_, rfl⟩
  rw [hX] at ho
  have HX : Hid (∀ W, Below wb.heap.size wb W → W.cell? ⟨X, 2, none⟩ = some (.int .i64 n) ∧ W.cell? ⟨X, 3, none⟩ = some (.bool x)) := Lib.hid (fun W h => ⟨(ho.below h).cell 2, (ho.below h).cell 3⟩)
  have d0 : decide (200 < (st.xs.length : Int)) = false := decide_eq_false (by omega)
  have d1 : decide (200 < st.xs.length) = false := decide_eq_false (by omega)
  obtain ⟨a1, cap1, rfl, l1, m1, H1⟩ := id HO.out
  have D1 := Lib.hid H1
  have b1l : (l.length : Int) ≤ 200 := by have := hf.1; omega
  have HF := Lib.hid hf
  have hn2 := i64_bd hn
  have HN2 := Lib.hid hn2
  unfold maxLen at m1
  clear h1 hb hs ho hl c1 c2 hg H1 hf l1 hn hn2
  go_enter Try.func8, Try.ntmps8
  go_wp2_with (first | (go_at_call 29; (with_reducible refine (alive_any _).mono ?_); rintro e w1 ⟨rfl, b1⟩; obtain ⟨x0, x1, x2, x3⟩ := HS.out _ b1; refine Hid.out ?_))
  refine Lib.hid ?_
  clear hwb
  obtain ⟨C, s, hC1, hC2, hC3, hs1, hs2, hs3, hof⟩ := HSt.out _ b1
  have HE := Lib.hid hof
  have B1 := Lib.hid b1
  clear hC1 hC2 hC3 hs1 hs2 hs3 hof HSt b1
  go_wp2_with (first | (go_at_call 9; (with_reducible refine (great_fine _ l _ (OpsAt.below HO.out B1.out) HF.out).mono ?_); rintro e w2 ⟨rfl, rfl⟩) | (go_at_call 10; (with_reducible refine HE.out.mono ?_); rintro e w3 ⟨p, r, rfl, on3⟩; replace on3 := Lib.hid on3))
  clear x0 x1 x2 x3 d0 d1 B1 HE HS
  go_loopw [54] (fun i wr => ∃ (k : Nat) (s : Sta), k ≤ l.length ∧ i = .int .i64 (k : Int) ∧ Ons wb wr p r C s) (fun i _ => l.length - (intOf i).toNat)
  case atStart => exact ⟨0, s, Nat.zero_le _, rfl, on3.out⟩
  case round =>
    obtain ⟨k, s, hk, rfl, hO⟩ := hrel
    by_cases hlt : k < l.length
    · rcases D1.out with h0 | ⟨b, off, rfl, hb, h4⟩
      · subst h0; simp at hlt
      · have hkl : (k : Int) < (l.length : Int) := by omega
        obtain ⟨c0, ⟨bv, c1, hs⟩, c2, c3, -⟩ := h4 k hlt
        generalize l[k] = q at *
        have x0 := (hO.bel.cell (p := ⟨b, off + k * 4, none⟩) hb).trans c0
        have x1 := (hO.bel.cell (p := ⟨b, off + k * 4 + 1, none⟩) hb).trans c1
        have x2 := (hO.bel.cell (p := ⟨b, off + k * 4 + 2, none⟩) hb).trans c2
        have x3 := (hO.bel.cell (p := ⟨b, off + k * 4 + 3, none⟩) hb).trans c3
        have HA := Lib.hid (act_any wr p r C s q bv hO.pp (hO.src hs))
        have HOn := Lib.hid hO
        unfold ActR at HA
        clear h4 c0 c1 c2 c3 hs hO
        go_wp2_with (go_at_call 30; (with_reducible refine HA.out.mono ?_); rintro e w4 ⟨rfl, hk4, hr4⟩; have HE := Lib.hid (HOn.out.step hk4 hr4); clear hk4 hr4)
        go_roundw
        case rel => exact ⟨k + 1, nxt C q s, by omega, by go_num, HE.out⟩
        case measure => simp [intOf]; omega
    · obtain rfl : k = l.length := by omega
      clear on3 D1 HF HO
      obtain ⟨y2, y3⟩ := HX.out _ hO.bel
      cases x
      · -- the side is false
        have hc64 := ons_le false hO
        have HCt := Lib.hid (fun W (h : Ons wb W p r C s) => ccount0 h)
        have hO1 : Ons wb wr.drew p r C (cs s false (sc false s.R s.U)) := by rw [cs_self]; exact hO.drew
        have HO1 := Lib.hid hO1
        have HOn : Hid (Ons wb wr.drew p r C s) := Lib.hid hO.drew
        have HA := Lib.hid (fun W (h : Ons wb W p r C s) => call_any h)
        obtain ⟨c0, hc0⟩ : ∃ c0, sc false s.R s.U = c0 := ⟨_, rfl⟩
        obtain ⟨S, hS⟩ : ∃ S, bstr s.xs = S := ⟨_, rfl⟩
        rw [hc0] at hc64 HO1 HCt
        rw [hS] at HA
        have HS2 := Lib.hid hS
        have HW0 : Hid (cs s false c0 = s) := Lib.hid (by rw [← hc0]; exact cs_self s false)
        clear hc0 hS hO hO1
        go_wp2
        go_region_held (fun _ => True) (trivial) (first | (go_at_call 22; (with_reducible refine (HCt.out _ HOn.out).mono ?_); rintro e w6 ⟨rfl, rfl⟩) | (go_at_call 21; (with_reducible refine (HA.out _ HOn.out).mono ?_); rintro e w7 ⟨h7, -, rv, rfl, cv7⟩; have H7 : Hid (Ons wb w7 p r C (cs s false c0)) := Lib.hid (by rw [HW0.out]; exact h7)))
        clear y2 y3 cv7 h7 HCt HO1 HOn HA HW0
        go_wp2
        go_loopw [14, 15] (fun m i wl => ∃ (j k : Nat), m = .int .i64 (j : Int) ∧ i = .int .i64 (k : Int) ∧ k ≤ 70 ∧ c0 + j ≤ 64 ∧ (c0 = 0 → j = 0) ∧ Ons wb wl p r C (cs s false (c0 + j))) (fun _ i _ => 70 - (intOf i).toNat)
        case atStart => exact ⟨0, 0, rfl, rfl, Nat.zero_le _, hc64, fun _ => rfl, H7.out⟩
        case round =>
          clear H7
          obtain ⟨j, k, rfl, rfl, hk, hj, hcj, hO⟩ := hrel
          obtain ⟨y2, y3⟩ := HX.out _ hO.bel
          have hkI : (k : Int) ≤ 70 := by omega
          have hjI : (j : Int) ≤ 64 := by omega
          have hcI : (c0 : Int) ≤ 64 := by omega
          by_cases hgo : k < 70 ∧ (k : Int) < n
          · have d0 : decide ((k : Int) < 70) = true := decide_eq_true (by omega)
            have d1 : decide (k < 70) = true := decide_eq_true hgo.1
            have d2 : decide ((k : Int) < n) = true := decide_eq_true hgo.2
            have hop := copen hO
            have HRel : Hid (k + 1 ≤ 70 ∧ c0 + j ≤ 64 ∧ (c0 = 0 → j = 0)) := Lib.hid ⟨by omega, hj, hcj⟩
            by_cases z0 : c0 = 0
            · have e0 : decide ((0 : Int) < (c0 : Int)) = false := decide_eq_false (by omega)
              have e1 : decide (0 < c0) = false := decide_eq_false (by omega)
              have hj0 := hcj z0
              rw [show oE (c0 + j) = 90 by unfold oE; rw [if_pos (.inl (by omega))], show oN (c0 + j) = c0 + j by unfold oN; rw [if_pos (.inl (by omega))]] at hop
              have HOp := Lib.hid hop
              clear hop hO z0 hj0 hgo hcj
              go_wp2_with (go_at_call 16; (with_reducible refine HOp.out.mono ?_); rintro e w8 ⟨rfl, h8⟩; replace h8 := Lib.hid h8)
              go_roundw
              case rel => exact ⟨j, k + 1, rfl, by go_num, HRel.out.1, HRel.out.2.1, HRel.out.2.2, h8.out⟩
              case measure => (have := HRel.out.1); simp [intOf]; omega
            · have e0 : decide ((0 : Int) < (c0 : Int)) = true := decide_eq_true (by omega)
              have e1 : decide (0 < c0) = true := decide_eq_true (by omega)
              by_cases z1 : c0 + j = 64
              · have e2 : decide ((c0 : Int) + (j : Int) < 64) = false := decide_eq_false (by omega)
                rw [show oE (c0 + j) = 90 by unfold oE; rw [if_pos (.inr z1)], show oN (c0 + j) = c0 + j by unfold oN; rw [if_pos (.inr z1)]] at hop
                have HOp := Lib.hid hop
                clear hop hO z1 hgo
                go_wp2_with (go_at_call 16; (with_reducible refine HOp.out.mono ?_); rintro e w8 ⟨rfl, h8⟩; replace h8 := Lib.hid h8)
                go_roundw
                case rel => exact ⟨j, k + 1, rfl, by go_num, HRel.out.1, HRel.out.2.1, HRel.out.2.2, h8.out⟩
                case measure => (have := HRel.out.1); simp [intOf]; omega
              · have e2 : decide ((c0 : Int) + (j : Int) < 64) = true := decide_eq_true (by omega)
                have hno : ¬ (c0 + j = 0 ∨ c0 + j = 64) := by omega
                rw [show oE (c0 + j) = 0 by unfold oE; rw [if_neg hno], show oN (c0 + j) = c0 + (j + 1) by unfold oN; rw [if_neg hno]; rfl] at hop
                have HOp := Lib.hid hop
                have HRl : Hid (c0 + (j + 1) ≤ 64 ∧ c0 ≠ 0) := Lib.hid ⟨by omega, z0⟩
                clear hop hO hno hgo hcj
                go_wp2_with (go_at_call 16; (with_reducible refine HOp.out.mono ?_); rintro e w8 ⟨rfl, h8⟩; replace h8 := Lib.hid h8)
                go_roundw
                case rel => exact ⟨j + 1, k + 1, by go_num, by go_num, HRel.out.1, HRl.out.1, fun e => absurd e HRl.out.2, h8.out⟩
                case measure => (have := HRel.out.1); simp [intOf]; omega
          · have hex : decide (k < 70) = false ∧ decide ((k : Int) < 70) = false ∨ decide (k < 70) = true ∧ decide ((k : Int) < 70) = true ∧ decide ((k : Int) < n) = false := by
              by_cases z : k < 70
              · exact .inr ⟨decide_eq_true z, decide_eq_true (by omega), decide_eq_false (fun e => hgo ⟨z, e⟩)⟩
              · exact .inl ⟨decide_eq_false z, decide_eq_false (by omega)⟩
            have HOl := Lib.hid hO
            have hjs : ((c0 + j : Nat) : Int) = (c0 : Int) + (j : Int) := by omega
            have HJ := Lib.hid (And.intro hj hjs)
            clear hO hgo hcj hj hjs
            rcases hex with ⟨d1, d0⟩ | ⟨d1, d0, d2⟩
            · go_wp2
              clear y2 y3 d1 d0
              go_loopw [17] (fun q wq => ∃ m : Nat, q = .int .i64 (m : Int) ∧ m ≤ 64 ∧ Ons wb wq p r C (cs s false m)) (fun q _ => (intOf q).toNat)
              case atStart => exact ⟨c0 + j, by rw [HJ.out.2], HJ.out.1, HOl.out⟩
              case round =>
                clear HOl HJ hkI hjI hcI
                obtain ⟨m, rfl, hm, hO⟩ := hrel
                obtain ⟨y2, y3⟩ := HX.out _ hO.bel
                have hmI : (m : Int) ≤ 64 := by omega
                by_cases z : 0 < m
                · have e0 : decide ((0 : Int) < (m : Int)) = true := decide_eq_true (by omega)
                  have e1 : decide (0 < m) = true := decide_eq_true z
                  have hcl := cclose hO
                  rw [show cE m = 0 by unfold cE; rw [if_neg (by omega)]] at hcl
                  obtain ⟨B, hBm⟩ : ∃ B, (m == 1) = B := ⟨_, rfl⟩
                  have hB2 : ((m : Int) == 1) = B := by
                    rw [← hBm]
                    by_cases e : m = 1
                    · subst e; rfl
                    · rw [show (m == 1) = false by simp [e]]; simp; omega
                  rw [hBm] at hcl
                  have hct := fun W (h : Ons wb W p r C (cs s false (m - 1))) => ccount0 h
                  have hmm : ((m - 1 : Nat) : Int) = (m : Int) - 1 := by omega
                  have HMM := Lib.hid (And.intro hmm z)
                  simp only [cs_sc, hmm] at hct
                  have HCl := Lib.hid hcl
                  have HCn := Lib.hid hct
                  clear hcl hct hBm hmm z hO
                  go_wp2_with (first | (go_at_call 18; (with_reducible refine HCl.out.mono ?_); rintro e w8 ⟨rfl, h8⟩; replace h8 := Lib.hid h8) | (go_at_call 22; (with_reducible refine (HCn.out _ h8.out).mono ?_); rintro e w9 ⟨rfl, rfl⟩))
                  go_roundw
                  case rel => exact ⟨m - 1, by rw [HMM.out.1], by omega, h8.out⟩
                  case measure => (have := HMM.out.2); simp [intOf]; omega
                · obtain rfl : m = 0 := by omega
                  have HCl : Hid (Calls Try.prog 18 #[.pointer (some ⟨p, 0, none⟩), .bool false] _ fun e w' => e = .returned (.tuple #[.bool false, .int .i64 90]) ∧ Ons wb w' p r C (cs s false 0)) := Lib.hid (cclose hO)
                  have HOp : Hid (∀ W, Ons wb W p r C (cs s false 0) → Calls Try.prog 16 #[.pointer (some ⟨p, 0, none⟩), .bool false] W fun e w' => e = .returned (.int .i64 90) ∧ Ons wb w' p r C (cs s false 0)) := Lib.hid (fun W h => copen h)
                  have hA := fun W (h : Ons wb W p r C (cs s false 0)) => call_any h
                  rw [show (cs s false 0).xs = s.xs from rfl, HS2.out] at hA
                  have hG := fun W (h : Ons wb W p r C (cs s false 0)) => gone_any W p r C _ _ _ h.pp
                  have hR := fun W (h : Ons wb W p r C (cs s false 0)) => readers_any W p r C _ _ _ h.pp
                  have hU := fun W (h : Ons wb W p r C (cs s false 0)) => writers_any W p r C _ _ _ h.pp
                  have hRl := hO.pp.hR
                  have hUl := hO.pp.hU
                  generalize (cs s false 0).R = R at *
                  generalize (cs s false 0).U = U at *
                  have hsum : ((R : Int) + (U : Int) == 0) = ((R : Int) == 0 && (U : Int) == 0) := by
                    rw [Bool.eq_iff_iff]
                    simp
                    omega
                  have hRI : (R : Int) ≤ 64 := by omega
                  have hUI : (U : Int) ≤ 64 := by omega
                  generalize ((R : Int) == 0 && (U : Int) == 0) = G at *
                  have HA := Lib.hid hA
                  have HG := Lib.hid hG
                  have HR := Lib.hid hR
                  have HU := Lib.hid hU
                  clear hA hG hR hU hRl hUl hO
                  go_wp2_with (first | (go_at_call 18; (with_reducible refine HCl.out.mono ?_); rintro e w8 ⟨rfl, h8⟩; replace h8 := Lib.hid h8; obtain ⟨z2, z3⟩ := HX.out _ h8.out.bel) | (go_at_call 16; (with_reducible refine (HOp.out _ h8.out).mono ?_); rintro e w9 ⟨rfl, h9⟩; replace h9 := Lib.hid h9) | (go_at_call 21; (with_reducible refine (HA.out _ h9.out).mono ?_); rintro e wa ⟨ha, -, rv, rfl, cva⟩; replace ha := Lib.hid ha) | (go_at_call 25; (with_reducible refine (HG.out _ ha.out).mono ?_); rintro e wc ⟨rfl, rfl⟩) | (go_at_call 22; (with_reducible refine (HR.out _ ha.out).mono ?_); rintro e wc ⟨rfl, rfl⟩) | (go_at_call 23; (with_reducible refine (HU.out _ ha.out).mono ?_); rintro e wc ⟨rfl, rfl⟩))
                  go_ret
                  exact ⟨rfl, HB.out.trans (ha.out.bel.mono HB.out.size)⟩
            · go_wp2
              clear y2 y3 d1 d0
              go_loopw [17] (fun q wq => ∃ m : Nat, q = .int .i64 (m : Int) ∧ m ≤ 64 ∧ Ons wb wq p r C (cs s false m)) (fun q _ => (intOf q).toNat)
              case atStart => exact ⟨c0 + j, by rw [HJ.out.2], HJ.out.1, HOl.out⟩
              case round =>
                clear HOl HJ hkI hjI hcI
                obtain ⟨m, rfl, hm, hO⟩ := hrel
                obtain ⟨y2, y3⟩ := HX.out _ hO.bel
                have hmI : (m : Int) ≤ 64 := by omega
                by_cases z : 0 < m
                · have e0 : decide ((0 : Int) < (m : Int)) = true := decide_eq_true (by omega)
                  have e1 : decide (0 < m) = true := decide_eq_true z
                  have hcl := cclose hO
                  rw [show cE m = 0 by unfold cE; rw [if_neg (by omega)]] at hcl
                  obtain ⟨B, hBm⟩ : ∃ B, (m == 1) = B := ⟨_, rfl⟩
                  have hB2 : ((m : Int) == 1) = B := by
                    rw [← hBm]
                    by_cases e : m = 1
                    · subst e; rfl
                    · rw [show (m == 1) = false by simp [e]]; simp; omega
                  rw [hBm] at hcl
                  have hct := fun W (h : Ons wb W p r C (cs s false (m - 1))) => ccount0 h
                  have hmm : ((m - 1 : Nat) : Int) = (m : Int) - 1 := by omega
                  have HMM := Lib.hid (And.intro hmm z)
                  simp only [cs_sc, hmm] at hct
                  have HCl := Lib.hid hcl
                  have HCn := Lib.hid hct
                  clear hcl hct hBm hmm z hO
                  go_wp2_with (first | (go_at_call 18; (with_reducible refine HCl.out.mono ?_); rintro e w8 ⟨rfl, h8⟩; replace h8 := Lib.hid h8) | (go_at_call 22; (with_reducible refine (HCn.out _ h8.out).mono ?_); rintro e w9 ⟨rfl, rfl⟩))
                  go_roundw
                  case rel => exact ⟨m - 1, by rw [HMM.out.1], by omega, h8.out⟩
                  case measure => (have := HMM.out.2); simp [intOf]; omega
                · obtain rfl : m = 0 := by omega
                  have HCl : Hid (Calls Try.prog 18 #[.pointer (some ⟨p, 0, none⟩), .bool false] _ fun e w' => e = .returned (.tuple #[.bool false, .int .i64 90]) ∧ Ons wb w' p r C (cs s false 0)) := Lib.hid (cclose hO)
                  have HOp : Hid (∀ W, Ons wb W p r C (cs s false 0) → Calls Try.prog 16 #[.pointer (some ⟨p, 0, none⟩), .bool false] W fun e w' => e = .returned (.int .i64 90) ∧ Ons wb w' p r C (cs s false 0)) := Lib.hid (fun W h => copen h)
                  have hA := fun W (h : Ons wb W p r C (cs s false 0)) => call_any h
                  rw [show (cs s false 0).xs = s.xs from rfl, HS2.out] at hA
                  have hG := fun W (h : Ons wb W p r C (cs s false 0)) => gone_any W p r C _ _ _ h.pp
                  have hR := fun W (h : Ons wb W p r C (cs s false 0)) => readers_any W p r C _ _ _ h.pp
                  have hU := fun W (h : Ons wb W p r C (cs s false 0)) => writers_any W p r C _ _ _ h.pp
                  have hRl := hO.pp.hR
                  have hUl := hO.pp.hU
                  generalize (cs s false 0).R = R at *
                  generalize (cs s false 0).U = U at *
                  have hsum : ((R : Int) + (U : Int) == 0) = ((R : Int) == 0 && (U : Int) == 0) := by
                    rw [Bool.eq_iff_iff]
                    simp
                    omega
                  have hRI : (R : Int) ≤ 64 := by omega
                  have hUI : (U : Int) ≤ 64 := by omega
                  generalize ((R : Int) == 0 && (U : Int) == 0) = G at *
                  have HA := Lib.hid hA
                  have HG := Lib.hid hG
                  have HR := Lib.hid hR
                  have HU := Lib.hid hU
                  clear hA hG hR hU hRl hUl hO
                  go_wp2_with (first | (go_at_call 18; (with_reducible refine HCl.out.mono ?_); rintro e w8 ⟨rfl, h8⟩; replace h8 := Lib.hid h8; obtain ⟨z2, z3⟩ := HX.out _ h8.out.bel) | (go_at_call 16; (with_reducible refine (HOp.out _ h8.out).mono ?_); rintro e w9 ⟨rfl, h9⟩; replace h9 := Lib.hid h9) | (go_at_call 21; (with_reducible refine (HA.out _ h9.out).mono ?_); rintro e wa ⟨ha, -, rv, rfl, cva⟩; replace ha := Lib.hid ha) | (go_at_call 25; (with_reducible refine (HG.out _ ha.out).mono ?_); rintro e wc ⟨rfl, rfl⟩) | (go_at_call 22; (with_reducible refine (HR.out _ ha.out).mono ?_); rintro e wc ⟨rfl, rfl⟩) | (go_at_call 23; (with_reducible refine (HU.out _ ha.out).mono ?_); rintro e wc ⟨rfl, rfl⟩))
                  go_ret
                  exact ⟨rfl, HB.out.trans (ha.out.bel.mono HB.out.size)⟩
      · -- the side is true
        have hc64 := ons_le true hO
        have HCt := Lib.hid (fun W (h : Ons wb W p r C s) => ccount1 h)
        have hO1 : Ons wb wr.drew p r C (cs s true (sc true s.R s.U)) := by rw [cs_self]; exact hO.drew
        have HO1 := Lib.hid hO1
        have HOn : Hid (Ons wb wr.drew p r C s) := Lib.hid hO.drew
        have HA := Lib.hid (fun W (h : Ons wb W p r C s) => call_any h)
        obtain ⟨c0, hc0⟩ : ∃ c0, sc true s.R s.U = c0 := ⟨_, rfl⟩
        obtain ⟨S, hS⟩ : ∃ S, bstr s.xs = S := ⟨_, rfl⟩
        rw [hc0] at hc64 HO1 HCt
        rw [hS] at HA
        have HS2 := Lib.hid hS
        have HW0 : Hid (cs s true c0 = s) := Lib.hid (by rw [← hc0]; exact cs_self s true)
        clear hc0 hS hO hO1
        go_wp2
        go_region_held (fun _ => True) (trivial) (first | (go_at_call 23; (with_reducible refine (HCt.out _ HOn.out).mono ?_); rintro e w6 ⟨rfl, rfl⟩) | (go_at_call 21; (with_reducible refine (HA.out _ HOn.out).mono ?_); rintro e w7 ⟨h7, -, rv, rfl, cv7⟩; have H7 : Hid (Ons wb w7 p r C (cs s true c0)) := Lib.hid (by rw [HW0.out]; exact h7)))
        clear y2 y3 cv7 h7 HCt HO1 HOn HA HW0
        go_wp2
        go_loopw [14, 15] (fun m i wl => ∃ (j k : Nat), m = .int .i64 (j : Int) ∧ i = .int .i64 (k : Int) ∧ k ≤ 70 ∧ c0 + j ≤ 64 ∧ (c0 = 0 → j = 0) ∧ Ons wb wl p r C (cs s true (c0 + j))) (fun _ i _ => 70 - (intOf i).toNat)
        case atStart => exact ⟨0, 0, rfl, rfl, Nat.zero_le _, hc64, fun _ => rfl, H7.out⟩
        case round =>
          clear H7
          obtain ⟨j, k, rfl, rfl, hk, hj, hcj, hO⟩ := hrel
          obtain ⟨y2, y3⟩ := HX.out _ hO.bel
          have hkI : (k : Int) ≤ 70 := by omega
          have hjI : (j : Int) ≤ 64 := by omega
          have hcI : (c0 : Int) ≤ 64 := by omega
          by_cases hgo : k < 70 ∧ (k : Int) < n
          · have d0 : decide ((k : Int) < 70) = true := decide_eq_true (by omega)
            have d1 : decide (k < 70) = true := decide_eq_true hgo.1
            have d2 : decide ((k : Int) < n) = true := decide_eq_true hgo.2
            have hop := copen hO
            have HRel : Hid (k + 1 ≤ 70 ∧ c0 + j ≤ 64 ∧ (c0 = 0 → j = 0)) := Lib.hid ⟨by omega, hj, hcj⟩
            by_cases z0 : c0 = 0
            · have e0 : decide ((0 : Int) < (c0 : Int)) = false := decide_eq_false (by omega)
              have e1 : decide (0 < c0) = false := decide_eq_false (by omega)
              have hj0 := hcj z0
              rw [show oE (c0 + j) = 90 by unfold oE; rw [if_pos (.inl (by omega))], show oN (c0 + j) = c0 + j by unfold oN; rw [if_pos (.inl (by omega))]] at hop
              have HOp := Lib.hid hop
              clear hop hO z0 hj0 hgo hcj
              go_wp2_with (go_at_call 16; (with_reducible refine HOp.out.mono ?_); rintro e w8 ⟨rfl, h8⟩; replace h8 := Lib.hid h8)
              go_roundw
              case rel => exact ⟨j, k + 1, rfl, by go_num, HRel.out.1, HRel.out.2.1, HRel.out.2.2, h8.out⟩
              case measure => (have := HRel.out.1); simp [intOf]; omega
            · have e0 : decide ((0 : Int) < (c0 : Int)) = true := decide_eq_true (by omega)
              have e1 : decide (0 < c0) = true := decide_eq_true (by omega)
              by_cases z1 : c0 + j = 64
              · have e2 : decide ((c0 : Int) + (j : Int) < 64) = false := decide_eq_false (by omega)
                rw [show oE (c0 + j) = 90 by unfold oE; rw [if_pos (.inr z1)], show oN (c0 + j) = c0 + j by unfold oN; rw [if_pos (.inr z1)]] at hop
                have HOp := Lib.hid hop
                clear hop hO z1 hgo
                go_wp2_with (go_at_call 16; (with_reducible refine HOp.out.mono ?_); rintro e w8 ⟨rfl, h8⟩; replace h8 := Lib.hid h8)
                go_roundw
                case rel => exact ⟨j, k + 1, rfl, by go_num, HRel.out.1, HRel.out.2.1, HRel.out.2.2, h8.out⟩
                case measure => (have := HRel.out.1); simp [intOf]; omega
              · have e2 : decide ((c0 : Int) + (j : Int) < 64) = true := decide_eq_true (by omega)
                have hno : ¬ (c0 + j = 0 ∨ c0 + j = 64) := by omega
                rw [show oE (c0 + j) = 0 by unfold oE; rw [if_neg hno], show oN (c0 + j) = c0 + (j + 1) by unfold oN; rw [if_neg hno]; rfl] at hop
                have HOp := Lib.hid hop
                have HRl : Hid (c0 + (j + 1) ≤ 64 ∧ c0 ≠ 0) := Lib.hid ⟨by omega, z0⟩
                clear hop hO hno hgo hcj
                go_wp2_with (go_at_call 16; (with_reducible refine HOp.out.mono ?_); rintro e w8 ⟨rfl, h8⟩; replace h8 := Lib.hid h8)
                go_roundw
                case rel => exact ⟨j + 1, k + 1, by go_num, by go_num, HRel.out.1, HRl.out.1, fun e => absurd e HRl.out.2, h8.out⟩
                case measure => (have := HRel.out.1); simp [intOf]; omega
          · have hex : decide (k < 70) = false ∧ decide ((k : Int) < 70) = false ∨ decide (k < 70) = true ∧ decide ((k : Int) < 70) = true ∧ decide ((k : Int) < n) = false := by
              by_cases z : k < 70
              · exact .inr ⟨decide_eq_true z, decide_eq_true (by omega), decide_eq_false (fun e => hgo ⟨z, e⟩)⟩
              · exact .inl ⟨decide_eq_false z, decide_eq_false (by omega)⟩
            have HOl := Lib.hid hO
            have hjs : ((c0 + j : Nat) : Int) = (c0 : Int) + (j : Int) := by omega
            have HJ := Lib.hid (And.intro hj hjs)
            clear hO hgo hcj hj hjs
            rcases hex with ⟨d1, d0⟩ | ⟨d1, d0, d2⟩
            · go_wp2
              clear y2 y3 d1 d0
              go_loopw [17] (fun q wq => ∃ m : Nat, q = .int .i64 (m : Int) ∧ m ≤ 64 ∧ Ons wb wq p r C (cs s true m)) (fun q _ => (intOf q).toNat)
              case atStart => exact ⟨c0 + j, by rw [HJ.out.2], HJ.out.1, HOl.out⟩
              case round =>
                clear HOl HJ hkI hjI hcI
                obtain ⟨m, rfl, hm, hO⟩ := hrel
                obtain ⟨y2, y3⟩ := HX.out _ hO.bel
                have hmI : (m : Int) ≤ 64 := by omega
                by_cases z : 0 < m
                · have e0 : decide ((0 : Int) < (m : Int)) = true := decide_eq_true (by omega)
                  have e1 : decide (0 < m) = true := decide_eq_true z
                  have hcl := cclose hO
                  rw [show cE m = 0 by unfold cE; rw [if_neg (by omega)]] at hcl
                  obtain ⟨B, hBm⟩ : ∃ B, (m == 1) = B := ⟨_, rfl⟩
                  have hB2 : ((m : Int) == 1) = B := by
                    rw [← hBm]
                    by_cases e : m = 1
                    · subst e; rfl
                    · rw [show (m == 1) = false by simp [e]]; simp; omega
                  rw [hBm] at hcl
                  have hct := fun W (h : Ons wb W p r C (cs s true (m - 1))) => ccount1 h
                  have hmm : ((m - 1 : Nat) : Int) = (m : Int) - 1 := by omega
                  have HMM := Lib.hid (And.intro hmm z)
                  simp only [cs_sc, hmm] at hct
                  have HCl := Lib.hid hcl
                  have HCn := Lib.hid hct
                  clear hcl hct hBm hmm z hO
                  go_wp2_with (first | (go_at_call 18; (with_reducible refine HCl.out.mono ?_); rintro e w8 ⟨rfl, h8⟩; replace h8 := Lib.hid h8) | (go_at_call 23; (with_reducible refine (HCn.out _ h8.out).mono ?_); rintro e w9 ⟨rfl, rfl⟩))
                  go_roundw
                  case rel => exact ⟨m - 1, by rw [HMM.out.1], by omega, h8.out⟩
                  case measure => (have := HMM.out.2); simp [intOf]; omega
                · obtain rfl : m = 0 := by omega
                  have HCl : Hid (Calls Try.prog 18 #[.pointer (some ⟨p, 0, none⟩), .bool true] _ fun e w' => e = .returned (.tuple #[.bool false, .int .i64 90]) ∧ Ons wb w' p r C (cs s true 0)) := Lib.hid (cclose hO)
                  have HOp : Hid (∀ W, Ons wb W p r C (cs s true 0) → Calls Try.prog 16 #[.pointer (some ⟨p, 0, none⟩), .bool true] W fun e w' => e = .returned (.int .i64 90) ∧ Ons wb w' p r C (cs s true 0)) := Lib.hid (fun W h => copen h)
                  have hA := fun W (h : Ons wb W p r C (cs s true 0)) => call_any h
                  rw [show (cs s true 0).xs = s.xs from rfl, HS2.out] at hA
                  have hG := fun W (h : Ons wb W p r C (cs s true 0)) => gone_any W p r C _ _ _ h.pp
                  have hR := fun W (h : Ons wb W p r C (cs s true 0)) => readers_any W p r C _ _ _ h.pp
                  have hU := fun W (h : Ons wb W p r C (cs s true 0)) => writers_any W p r C _ _ _ h.pp
                  have hRl := hO.pp.hR
                  have hUl := hO.pp.hU
                  generalize (cs s true 0).R = R at *
                  generalize (cs s true 0).U = U at *
                  have hsum : ((R : Int) + (U : Int) == 0) = ((R : Int) == 0 && (U : Int) == 0) := by
                    rw [Bool.eq_iff_iff]
                    simp
                    omega
                  have hRI : (R : Int) ≤ 64 := by omega
                  have hUI : (U : Int) ≤ 64 := by omega
                  generalize ((R : Int) == 0 && (U : Int) == 0) = G at *
                  have HA := Lib.hid hA
                  have HG := Lib.hid hG
                  have HR := Lib.hid hR
                  have HU := Lib.hid hU
                  clear hA hG hR hU hRl hUl hO
                  go_wp2_with (first | (go_at_call 18; (with_reducible refine HCl.out.mono ?_); rintro e w8 ⟨rfl, h8⟩; replace h8 := Lib.hid h8; obtain ⟨z2, z3⟩ := HX.out _ h8.out.bel) | (go_at_call 16; (with_reducible refine (HOp.out _ h8.out).mono ?_); rintro e w9 ⟨rfl, h9⟩; replace h9 := Lib.hid h9) | (go_at_call 21; (with_reducible refine (HA.out _ h9.out).mono ?_); rintro e wa ⟨ha, -, rv, rfl, cva⟩; replace ha := Lib.hid ha) | (go_at_call 25; (with_reducible refine (HG.out _ ha.out).mono ?_); rintro e wc ⟨rfl, rfl⟩) | (go_at_call 22; (with_reducible refine (HR.out _ ha.out).mono ?_); rintro e wc ⟨rfl, rfl⟩) | (go_at_call 23; (with_reducible refine (HU.out _ ha.out).mono ?_); rintro e wc ⟨rfl, rfl⟩))
                  go_ret
                  exact ⟨rfl, HB.out.trans (ha.out.bel.mono HB.out.size)⟩
            · go_wp2
              clear y2 y3 d1 d0
              go_loopw [17] (fun q wq => ∃ m : Nat, q = .int .i64 (m : Int) ∧ m ≤ 64 ∧ Ons wb wq p r C (cs s true m)) (fun q _ => (intOf q).toNat)
              case atStart => exact ⟨c0 + j, by rw [HJ.out.2], HJ.out.1, HOl.out⟩
              case round =>
                clear HOl HJ hkI hjI hcI
                obtain ⟨m, rfl, hm, hO⟩ := hrel
                obtain ⟨y2, y3⟩ := HX.out _ hO.bel
                have hmI : (m : Int) ≤ 64 := by omega
                by_cases z : 0 < m
                · have e0 : decide ((0 : Int) < (m : Int)) = true := decide_eq_true (by omega)
                  have e1 : decide (0 < m) = true := decide_eq_true z
                  have hcl := cclose hO
                  rw [show cE m = 0 by unfold cE; rw [if_neg (by omega)]] at hcl
                  obtain ⟨B, hBm⟩ : ∃ B, (m == 1) = B := ⟨_, rfl⟩
                  have hB2 : ((m : Int) == 1) = B := by
                    rw [← hBm]
                    by_cases e : m = 1
                    · subst e; rfl
                    · rw [show (m == 1) = false by simp [e]]; simp; omega
                  rw [hBm] at hcl
                  have hct := fun W (h : Ons wb W p r C (cs s true (m - 1))) => ccount1 h
                  have hmm : ((m - 1 : Nat) : Int) = (m : Int) - 1 := by omega
                  have HMM := Lib.hid (And.intro hmm z)
                  simp only [cs_sc, hmm] at hct
                  have HCl := Lib.hid hcl
                  have HCn := Lib.hid hct
                  clear hcl hct hBm hmm z hO
                  go_wp2_with (first | (go_at_call 18; (with_reducible refine HCl.out.mono ?_); rintro e w8 ⟨rfl, h8⟩; replace h8 := Lib.hid h8) | (go_at_call 23; (with_reducible refine (HCn.out _ h8.out).mono ?_); rintro e w9 ⟨rfl, rfl⟩))
                  go_roundw
                  case rel => exact ⟨m - 1, by rw [HMM.out.1], by omega, h8.out⟩
                  case measure => (have := HMM.out.2); simp [intOf]; omega
                · obtain rfl : m = 0 := by omega
                  have HCl : Hid (Calls Try.prog 18 #[.pointer (some ⟨p, 0, none⟩), .bool true] _ fun e w' => e = .returned (.tuple #[.bool false, .int .i64 90]) ∧ Ons wb w' p r C (cs s true 0)) := Lib.hid (cclose hO)
                  have HOp : Hid (∀ W, Ons wb W p r C (cs s true 0) → Calls Try.prog 16 #[.pointer (some ⟨p, 0, none⟩), .bool true] W fun e w' => e = .returned (.int .i64 90) ∧ Ons wb w' p r C (cs s true 0)) := Lib.hid (fun W h => copen h)
                  have hA := fun W (h : Ons wb W p r C (cs s true 0)) => call_any h
                  rw [show (cs s true 0).xs = s.xs from rfl, HS2.out] at hA
                  have hG := fun W (h : Ons wb W p r C (cs s true 0)) => gone_any W p r C _ _ _ h.pp
                  have hR := fun W (h : Ons wb W p r C (cs s true 0)) => readers_any W p r C _ _ _ h.pp
                  have hU := fun W (h : Ons wb W p r C (cs s true 0)) => writers_any W p r C _ _ _ h.pp
                  have hRl := hO.pp.hR
                  have hUl := hO.pp.hU
                  generalize (cs s true 0).R = R at *
                  generalize (cs s true 0).U = U at *
                  have hsum : ((R : Int) + (U : Int) == 0) = ((R : Int) == 0 && (U : Int) == 0) := by
                    rw [Bool.eq_iff_iff]
                    simp
                    omega
                  have hRI : (R : Int) ≤ 64 := by omega
                  have hUI : (U : Int) ≤ 64 := by omega
                  generalize ((R : Int) == 0 && (U : Int) == 0) = G at *
                  have HA := Lib.hid hA
                  have HG := Lib.hid hG
                  have HR := Lib.hid hR
                  have HU := Lib.hid hU
                  clear hA hG hR hU hRl hUl hO
                  go_wp2_with (first | (go_at_call 18; (with_reducible refine HCl.out.mono ?_); rintro e w8 ⟨rfl, h8⟩; replace h8 := Lib.hid h8; obtain ⟨z2, z3⟩ := HX.out _ h8.out.bel) | (go_at_call 16; (with_reducible refine (HOp.out _ h8.out).mono ?_); rintro e w9 ⟨rfl, h9⟩; replace h9 := Lib.hid h9) | (go_at_call 21; (with_reducible refine (HA.out _ h9.out).mono ?_); rintro e wa ⟨ha, -, rv, rfl, cva⟩; replace ha := Lib.hid ha) | (go_at_call 25; (with_reducible refine (HG.out _ ha.out).mono ?_); rintro e wc ⟨rfl, rfl⟩) | (go_at_call 22; (with_reducible refine (HR.out _ ha.out).mono ?_); rintro e wc ⟨rfl, rfl⟩) | (go_at_call 23; (with_reducible refine (HU.out _ ha.out).mono ?_); rintro e wc ⟨rfl, rfl⟩))
                  go_ret
                  exact ⟨rfl, HB.out.trans (ha.out.bel.mono HB.out.size)⟩
end Go.Proofs.Ytfpdbcjnhgddoaa.Pcx
namespace Go.Proofs.Ytfpdbcjnhgddoaa.Walk
open Go Go.RowKit Kit Pop Pac Pcw Pcx
theorem pipeCounts (st : Str) (bv v : Value) (l : List Opr) (o : Opr) (bo : Value) (W : World) (h0 : Slc .u8 W bv st.xs) (_ : (Lit.int .i64 st.c).wf = true) (_ : (Lit.int .i64 st.r).wf = true) (_ : (Lit.int .i64 st.u).wf = true) (h1 : OpsAt W v l) (_ : Slc .u8 W bo o.xs) (hn : (Lit.int .i64 o.n).wf = true) :
    Calls Try.prog 8 #[.agg #[.int .i64 st.c, bv, .int .i64 st.r, .int .i64 st.u], v, .agg #[.int .i64 o.kind, bo, .int .i64 o.n, .bool o.w]] W fun e w' => e = .returned (.bool true) ∧ Below W.heap.size W w' := by
  by_cases hf : Fine l
  · by_cases hl : st.xs.length ≤ 200
    · by_cases hg : GoodS st
      · exact counts_fine st bv v l o bo W h0 h1 hf hl hg hn
      · exact counts_bad st bv v l o bo W h0 h1 hf hl hg
    · exact counts_far st bv v l o bo W h0 h1 hf (by omega)
  · exact counts_great st bv v l o bo W h1 hf
end Go.Proofs.Ytfpdbcjnhgddoaa.Walk
