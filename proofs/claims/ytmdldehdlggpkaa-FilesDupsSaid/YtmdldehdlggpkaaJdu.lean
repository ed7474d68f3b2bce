/-
  FilesDups: the walk.
-/
import Derived.Test.YtmdldehdlggpkaaJf
namespace Go.Proofs.Ytmdldehdlggpkaa.Jdu
open Go Go.RowKit Kit Bk Jp Jm Ji Jo Ju Jd Je Jr Jq Js Jb Jx Jy Jz Jt Jf
set_option linter.unusedVariables false

theorem law_long (va : Value) (ops : List Opr) (w : World) (h : OpsAt w va ops) (hl : ¬ ops.length ≤ 200) (x : Value) :
    Calls Try.prog 6 #[va, x] w fun e w' => e = .returned (.bool true) ∧ Below w.heap.size w w' := by
  obtain ⟨ad, cap, rfl, h1, h2, h3⟩ := h
  have dl : decide ((200 : Int) < (ops.length : Int)) = true := decide_eq_true (by omega)
  clear h3 hl
  go_enter Try.func6, Try.ntmps6
  go_wp2_with (go_at_call 29; (with_reducible refine (Jw.alive_any _).mono ?_); rintro e w1 ⟨rfl, b1⟩; have B1 := Lib.hid b1; clear b1)
  go_ret
  exact ⟨rfl, B1.out⟩
/-- A twin: what a Dup that goes leaves, and the Close behind it. -/
theorem dup_facts {D : Nat → Nat} (hn : Nums D) {m : Nat} (hm : m < 8) (hz : D m ≠ 0) (hl : lst D 8 < 8) :
    uE D (m : Int) = 0 ∧ uN D (m : Int) = (lst D 8 : Int) ∧ uD D (m : Int) = up D (lst D 8) (D m) ∧ lst D 8 ≠ m := by
  have hg : ¬ gD D (m : Int) = -1 := fun e => hz ((gD_free hm).1 e)
  have hgv := gD_nat (D := D) hm
  have hmy : mayN (gD D (m : Int)) := by have := hn m; rw [hgv]; exact ⟨by omega, by omega⟩
  have hne : lst D 8 ≠ 8 := by omega
  refine ⟨?_, ?_, ?_, fun e => ?_⟩
  · unfold uE pE; rw [if_neg hg, if_pos hmy, if_neg hne]
  · unfold uN pN; rw [if_neg hg, if_pos ⟨hmy, hne⟩]
  · unfold uD pD; rw [if_neg hg, if_pos ⟨hmy, hne⟩, hgv, show Int.toNat ((D m : Int) - 1) + 1 = D m by omega]
  · exact hz (by have := lst_at D 8 hl; rw [e] at this; exact this)
theorem usd_len_up {R : Nat → Nat} {n m : Nat} (hm : m < n) (hz : R m = 0) (v : Nat) (hv : v ≠ 0) : (usd (up R m v) n).length = (usd R n).length + 1 := by
  induction n with
  | zero => exact absurd hm (Nat.not_lt_zero _)
  | succ n ih =>
    by_cases e : m = n
    · subst e
      rw [usd_no hz, usd_yes (by rw [up_same]; exact hv), List.length_append]
      rw [usd_ext (R := up R m v) (Q := R) (fun k hk => by rw [up_other _ _ _ _ (by omega)])]
      rfl
    · have h1 := ih (by omega)
      by_cases hz2 : R n = 0
      · rw [usd_no hz2, usd_no (by rw [up_other _ _ _ _ (Ne.symm e)]; exact hz2)]; exact h1
      · rw [usd_yes hz2, usd_yes (by rw [up_other _ _ _ _ (Ne.symm e)]; exact hz2), List.length_append, List.length_append, h1]
        simp
        try omega
theorem usd_len_down {R : Nat → Nat} {n m : Nat} (hm : m < n) (hz : R m ≠ 0) : (usd (up R m 0) n).length + 1 = (usd R n).length := by
  have h := usd_len_up (R := up R m 0) hm (up_same _ _ _) (R m) hz
  rw [Jo.up_up, up_self] at h
  exact h.symm

set_option maxRecDepth 100000 in
set_option maxHeartbeats 16000000 in
theorem dups_fine (va : Value) (ops : List Opr) (w : World) (h : OpsAt w va ops) (hl : ops.length ≤ 200) (a : Nat) (ha : a < 256) :
    Calls Try.prog 6 #[va, .int .u8 (a : Int)] w fun e w' => e = .returned (.bool true) ∧ Below w.heap.size w w' := by
  obtain ⟨ad, cap, rfl, h1, h2, h3⟩ := h
  have dl : decide ((200 : Int) < (ops.length : Int)) = false := decide_eq_false (by omega)
  have hli : (ops.length : Int) ≤ 200 := by omega
  have hwa : wrap64 (a : Int) = (a : Int) := IntWalk.wrap64_in _ (by omega)
  obtain ⟨m, hm⟩ : ∃ m, a % 8 = m := ⟨_, rfl⟩
  have hra : (a : Int).tmod 8 = (m : Int) := by rw [← hm]; rfl
  have hm8 : m < 8 := by omega
  have hm8i : (m : Int) < 8 := by omega
  have H3 := Lib.hid h3
  clear h3 ha hm
  go_enter Try.func6, Try.ntmps6
  go_wp2_with (first
    | (go_at_call 29; (with_reducible refine (Jw.alive_any _).mono ?_); rintro e w1 ⟨rfl, b1⟩; have B1 := Lib.hid b1; clear b1)
    | (go_at_call 10; (with_reducible refine (fresh_sta _).mono ?_); rintro e w2 ⟨p, rfl, hs⟩; have HS := Lib.hid hs; clear hs))
  go_loopw [28] (fun i wr => ∃ j : Nat, j ≤ ops.length ∧ i = .int .i64 (j : Int) ∧ Sta w1 wr p j) (fun i _ => ops.length - (intOf i).toNat)
  case atStart => exact ⟨0, Nat.zero_le _, rfl, HS.out⟩
  case round =>
    obtain ⟨j, hj, rfl, hs⟩ := hrel
    by_cases hlt : j < ops.length
    · rcases H3.out with h0 | ⟨ba, off, rfl, hb, h4⟩
      · subst h0; simp at hlt
      · obtain ⟨c0, c1, c2, c3, c4⟩ := OpAt.below (h4 j hlt) (B1.out.trans (hs.bel.mono B1.out.size)) hb
        have hd := hs.do_ (by omega) ops[j]
        generalize ops[j] = o at *
        have HD := Lib.hid hd
        have hlti : (j : Int) < (ops.length : Int) := by omega
        clear h4 hd hs
        go_wp2_with (go_at_call 11; (with_reducible refine HD.out.mono ?_); rintro e w3 ⟨rfl, hs2⟩; have HS2 := Lib.hid hs2; clear hs2)
        go_roundw
        case rel => exact ⟨j + 1, by omega, by go_num, HS2.out⟩
        case measure => simp [intOf]; omega
    · obtain rfl : j = ops.length := by omega
      obtain ⟨f, d, q, v, S, D, hbo, hg⟩ := hs
      clear H3
      have hp : wr.cell? ⟨p, 1, none⟩ = some (.pointer (some ⟨d, 0, none⟩)) := hbo.blk.cell 1
      have HG := Lib.hid (fget_any wr d D hbo.ds (m : Int))
      have HLn := Lib.hid (flen_any wr d D hbo.ds)
      have hul := usd_len D 8
      have hnum := hbo.ds.2
      have HE := Lib.hid (B1.out.trans (hbo.bel.mono B1.out.size))
      have HBo := Lib.hid hbo
      clear hbo hg
      by_cases hz : D m = 0
      · have hgm : gD D (m : Int) = -1 := (gD_free hm8).2 hz
        have hue : uE D (m : Int) = 103 := by unfold uE; rw [if_pos hgm]
        rw [hgm] at HG
        have HDp : Hid (∀ w5, Below wr.heap.size wr w5 → Calls Try.prog 24 #[.pointer (some ⟨d, 0, none⟩), .int .i64 (m : Int)] w5 fun e w' => (∃ z, e = .returned (.tuple #[.int .i64 z, .int .i64 103])) ∧ Below w.heap.size w w') := Lib.hid (fun w5 hb5 => (dup_any w5 d D (HBo.out.ds.below hb5) (m : Int)).mono fun e w' ⟨q1, q2, _⟩ => ⟨⟨uN D (m : Int), q1.trans (by rw [hue])⟩, (HE.out.trans (hb5.mono HE.out.size)).trans (q2.below (by have := HE.out.size; have := hb5.size; omega) (fun j e => by have := HBo.out.lo; have := B1.out.size; omega))⟩)
        have HPc : Hid (∀ w5, Below wr.heap.size wr w5 → w5.cell? ⟨p, 1, none⟩ = some (.pointer (some ⟨d, 0, none⟩))) := Lib.hid (fun w5 hb5 => (HBo.out.blk.below hb5).cell 1)
        generalize (usd D 8).length = L at *
        have hLi : (L : Int) ≤ 8 := by omega
        clear hz hgm hue hnum HBo
        go_wp2_with (first
          | (go_at_call 20; (with_reducible refine HG.out.mono ?_); rintro e w4 ⟨rfl, rfl⟩)
          | (go_at_call 19; (with_reducible refine HLn.out.mono ?_); rintro e w5 ⟨rfl, b5⟩; have hp5 := HPc.out w5 b5; have B5 := Lib.hid b5; clear b5)
          | (go_at_call 24; (with_reducible refine (HDp.out _ B5.out).mono ?_); rintro e w6 ⟨⟨z, rfl⟩, b6⟩; have B6 := Lib.hid b6; clear b6))
        go_ret
        exact ⟨rfl, B6.out⟩
      · have hgm : gD D (m : Int) = (D m : Int) - 1 := gD_nat hm8
        have hdm := hnum m
        rw [hgm] at HG
        by_cases hl8 : lst D 8 = 8
        · have hng : ¬ gD D (m : Int) = -1 := fun e => hz ((gD_free hm8).1 e)
          have hue : uE D (m : Int) = 102 := by
            unfold uE pE
            rw [if_neg hng, if_pos ⟨by rw [hgm]; omega, by rw [hgm]; omega⟩, if_pos hl8]
          have hL8 := usd_lst hl8
          have HDp : Hid (∀ w5, Below wr.heap.size wr w5 → Calls Try.prog 24 #[.pointer (some ⟨d, 0, none⟩), .int .i64 (m : Int)] w5 fun e w' => (∃ z, e = .returned (.tuple #[.int .i64 z, .int .i64 102])) ∧ Below w.heap.size w w') := Lib.hid (fun w5 hb5 => (dup_any w5 d D (HBo.out.ds.below hb5) (m : Int)).mono fun e w' ⟨q1, q2, _⟩ => ⟨⟨uN D (m : Int), q1.trans (by rw [hue])⟩, (HE.out.trans (hb5.mono HE.out.size)).trans (q2.below (by have := HE.out.size; have := hb5.size; omega) (fun j e => by have := HBo.out.lo; have := B1.out.size; omega))⟩)
          have HPc : Hid (∀ w5, Below wr.heap.size wr w5 → w5.cell? ⟨p, 1, none⟩ = some (.pointer (some ⟨d, 0, none⟩))) := Lib.hid (fun w5 hb5 => (HBo.out.blk.below hb5).cell 1)
          rw [hL8] at HLn
          obtain ⟨G, hG⟩ : ∃ G : Int, (D m : Int) - 1 = G := ⟨_, rfl⟩
          rw [hG] at HG
          have d0 : decide (G < 0) = false := decide_eq_false (by omega)
          clear hz hgm hue hnum HBo hng hl8 hL8 hdm hG
          go_wp2_with (first
            | (go_at_call 20; (with_reducible refine HG.out.mono ?_); rintro e w4 ⟨rfl, rfl⟩)
            | (go_at_call 19; (with_reducible refine HLn.out.mono ?_); rintro e w5 ⟨rfl, b5⟩; have hp5 := HPc.out w5 b5; have B5 := Lib.hid b5; clear b5)
            | (go_at_call 24; (with_reducible refine (HDp.out _ B5.out).mono ?_); rintro e w6 ⟨⟨z, rfl⟩, b6⟩; have B6 := Lib.hid b6; clear b6))
          go_ret
          exact ⟨rfl, B6.out⟩
        · have hll : lst D 8 < 8 := by have := lst_le D 8; omega
          obtain ⟨t1, t2, t3, t4⟩ := dup_facts hnum hm8 hz hll
          have hat := lst_at D 8 hll
          have hlow : ∀ k, k < lst D 8 → D k ≠ 0 := fun k hk => lst_low D 8 k hk
          have hlen := usd_len_up hll hat (D m) hz
          have hum : up D (lst D 8) (D m) m = D m := up_other _ _ _ _ (Ne.symm t4)
          have hlen2 := usd_len_down (R := up D (lst D 8) (D m)) hm8 (by rw [hum]; exact hz)
          have HDp := Lib.hid (fun w5 (hb5 : Below wr.heap.size wr w5) => dup_any w5 d D (HBo.out.ds.below hb5) (m : Int))
          rw [t1, t2, t3] at HDp
          have HPc : Hid (∀ w5, Below wr.heap.size wr w5 → w5.cell? ⟨p, 1, none⟩ = some (.pointer (some ⟨d, 0, none⟩))) := Lib.hid (fun w5 hb5 => (HBo.out.blk.below hb5).cell 1)
          obtain ⟨l, hlv⟩ : ∃ l, lst D 8 = l := ⟨_, rfl⟩
          rw [hlv] at hll hat hlow hlen hum hlen2 HDp t4
          have hgl : ∀ k : Nat, k < l → decide (gD (up D l (D m)) (k : Int) < 0) = false := fun k hk => by
            rw [gD_nat (by omega), up_other _ _ _ _ (by omega)]
            have := hlow k hk
            exact decide_eq_false (by omega)
          have hgu : gD (up D l (D m)) (m : Int) = (D m : Int) - 1 := by rw [gD_nat hm8, hum]
          have hgx : gD (up (up D l (D m)) m 0) (l : Int) = (D m : Int) - 1 := by rw [gD_nat hll, up_other _ _ _ _ t4, up_same]
          have hgy : gD (up (up D l (D m)) m 0) (m : Int) = -1 := by rw [gD_nat hm8, up_same]; rfl
          have HCl := Lib.hid (fun w7 (hd7 : Ds w7 d (up D l (D m))) => close_any w7 d (up D l (D m)) hd7 (m : Int))
          have hgn : ¬ gD (up D l (D m)) (m : Int) = -1 := by rw [hgu]; omega
          unfold cN cE cD at HCl
          rw [if_neg hgn, if_neg hgn, if_neg hgn, hgu, show Int.toNat (m : Int) = m by omega] at HCl
          obtain ⟨G, hG⟩ : ∃ G : Int, (D m : Int) - 1 = G := ⟨_, rfl⟩
          rw [hG] at HG hgx HCl
          have d0 : decide (G < 0) = false := decide_eq_false (by omega)
          have hlen3 : (usd (up (up D l (D m)) m 0) 8).length = (usd D 8).length := by omega
          generalize hX : up (up D l (D m)) m 0 = X at *
          generalize hU : up D l (D m) = U at *
          have HGx := Lib.hid (fun w8 (hx : Ds w8 d X) => fget_any w8 d X hx (l : Int))
          have HGy := Lib.hid (fun w8 (hx : Ds w8 d X) => fget_any w8 d X hx (m : Int))
          have HLx := Lib.hid (fun w8 (hx : Ds w8 d X) => flen_any w8 d X hx)
          have HGu := Lib.hid (fun w8 (hx : Ds w8 d U) (i : Int) => fget_any w8 d U hx i)
          rw [hgx] at HGx
          rw [hgy] at HGy
          rw [hlen3] at HLx
          generalize (usd D 8).length = L at *
          have hLi : (L : Int) ≤ 8 := by omega
          have hli8 : (l : Int) < 8 := by omega
          clear hz hgm hnum hl8 hdm hG t1 t2 t3 hat hlow hlen hum hlen2 hgu hgx hgy hgn hlen3 hlv hX hU
          go_wp2_with (first
            | (go_at_call 20; (with_reducible refine HG.out.mono ?_); rintro e w4 ⟨rfl, rfl⟩)
            | (go_at_call 19; (with_reducible refine HLn.out.mono ?_); rintro e w5 ⟨rfl, b5⟩; have hp5 := HPc.out w5 b5; have B5 := Lib.hid b5; clear b5)
            | (go_at_call 24; (with_reducible refine (HDp.out _ B5.out).mono ?_); rintro e w6 ⟨rfl, k6, g6⟩; have HB6 := Lib.hid ((HBo.out.below B5.out).onD k6 g6); have hp6 := HB6.out.blk.cell 1; clear k6 g6))
          go_loop [13] (fun i => ∃ k : Nat, k ≤ l ∧ i = .int .i64 (k : Int)) (fun i => l - (intOf i).toNat)
          case atStart => exact ⟨0, Nat.zero_le _, rfl⟩
          case round =>
            obtain ⟨k, hk, rfl⟩ := hrel
            by_cases hlt : k < l
            · have hkl : (k : Int) < (l : Int) := by omega
              have d1 := hgl k hlt
              have HGk := Lib.hid (HGu.out w6 HB6.out.ds (k : Int))
              generalize gD U (k : Int) = Gk at *
              clear hgl
              go_wp2_with (go_at_call 20; (with_reducible refine HGk.out.mono ?_); rintro e w7 ⟨rfl, rfl⟩)
              go_round
              case rel => exact ⟨k + 1, by omega, by go_num⟩
              case measure => simp [intOf]; omega
            · obtain rfl : k = l := by omega
              have HC7 := Lib.hid (HCl.out w6 HB6.out.ds)
              clear hgl
              go_wp2_with (first
                | (go_at_call 25; (with_reducible refine HC7.out.mono ?_); rintro e w7 ⟨rfl, k7, g7⟩; have HB7 := Lib.hid (HB6.out.onD k7 g7); have hp7 := HB7.out.blk.cell 1; clear k7 g7)
                | (go_at_call 20; first | ((with_reducible refine (HGx.out _ HB7.out.ds).mono ?_); rintro e w8 ⟨rfl, rfl⟩) | ((with_reducible refine (HGy.out _ HB7.out.ds).mono ?_); rintro e w8 ⟨rfl, rfl⟩))
                | (go_at_call 19; (with_reducible refine (HLx.out _ HB7.out.ds).mono ?_); rintro e w9 ⟨rfl, b9⟩; have B9 := Lib.hid (B1.out.trans ((HB7.out.below b9).bel.mono B1.out.size)); clear b9))
              go_ret
              exact ⟨rfl, B9.out⟩
end Go.Proofs.Ytmdldehdlggpkaa.Jdu
namespace Go.Proofs.Ytmdldehdlggpkaa.Walk
open Go Go.RowKit Kit Jdu Jb Jt
theorem filesDups (va : Value) (ops : List Opr) (a : Int) (W : World) (h : OpsAt W va ops) (wa : (Lit.int .u8 a).wf = true) :
    Calls Try.prog 6 #[va, .int .u8 a] W fun e w' => e = .returned (.bool true) ∧ Below W.heap.size W w' := by
  obtain ⟨n, rfl, hn⟩ := u8_nat wa
  by_cases hl : ops.length ≤ 200
  · exact dups_fine va ops W h hl n hn
  · exact law_long va ops W h hl _
end Go.Proofs.Ytmdldehdlggpkaa.Walk
