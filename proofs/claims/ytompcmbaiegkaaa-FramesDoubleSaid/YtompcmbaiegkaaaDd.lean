/-
  FramesDouble: the walk.
-/
import Derived.Test.YtompcmbaiegkaaaAp
namespace Go.Proofs.Ytompcmbaiegkaaa.Dd
open Go Go.RowKit Kit Fm Fo Fr Fw Fx Fy Fu Fv Gm Go2 Gr Gw Gn Da Db Dc Ea Pa Ap
set_option linter.unusedVariables false

set_option maxRecDepth 100000 in
set_option maxHeartbeats 2000000 in
theorem double_great (v : Value) (ops : List Opr) (w : World) (h : OpsAt w v ops) (hf : ¬ Fine ops) (k : Int) (vb : Value) (xs : List Nat) (hs : Slc .u8 w vb xs) :
    Calls Try.prog 6 #[v, .int .u8 k, vb] w fun e w' => e = .returned (.bool true) ∧ Below w.heap.size w w' := by
  obtain ⟨a2, cap2, rfl⟩ := slc_len hs
  have HO := Lib.hid h
  have HF := Lib.hid hf
  clear h hf hs
  go_enter Try.func6, Try.ntmps6
  go_wp2_with (first | (go_at_call 28; (with_reducible refine (alive_any _).mono ?_); rintro e w1 ⟨rfl, b1⟩; have B1 := Lib.hid b1; clear b1) | (go_at_call 10; (with_reducible refine (great_any _ ops _ (OpsAt.below HO.out B1.out) HF.out).mono ?_); rintro e w2 ⟨rfl, rfl⟩))
  go_ret
  exact ⟨rfl, B1.out⟩

set_option maxRecDepth 100000 in
set_option maxHeartbeats 2000000 in
theorem double_long (v : Value) (ops : List Opr) (w : World) (h : OpsAt w v ops) (hf : Fine ops) (k : Int) (vb : Value) (xs : List Nat) (hs : Slc .u8 w vb xs) (hl : 64 < xs.length) :
    Calls Try.prog 6 #[v, .int .u8 k, vb] w fun e w' => e = .returned (.bool true) ∧ Below w.heap.size w w' := by
  obtain ⟨a2, cap2, rfl⟩ := slc_len hs
  have HO := Lib.hid h
  have HF := Lib.hid hf
  have d0 : decide ((64 : Int) < (xs.length : Int)) = true := decide_eq_true (by omega)
  clear hl
  clear h hf hs
  go_enter Try.func6, Try.ntmps6
  go_wp2_with (first | (go_at_call 28; (with_reducible refine (alive_any _).mono ?_); rintro e w1 ⟨rfl, b1⟩; have B1 := Lib.hid b1; clear b1) | (go_at_call 10; (with_reducible refine (great_fine _ ops _ (OpsAt.below HO.out B1.out) HF.out).mono ?_); rintro e w2 ⟨rfl, rfl⟩))
  go_ret
  exact ⟨rfl, B1.out⟩

set_option maxRecDepth 100000 in
set_option maxHeartbeats 8000000 in
theorem double_fine (v : Value) (ops : List Opr) (w : World) (h : OpsAt w v ops) (hf : Fine ops) (kn : Nat) (hkn : kn < 256) (vb : Value) (xs : List Nat) (hs : Slc .u8 w vb xs) (hx : ∀ y ∈ xs, y < 256) (hl : xs.length ≤ 64) :
    Calls Try.prog 6 #[v, .int .u8 (kn : Int), vb] w fun e w' => e = .returned (.bool true) ∧ Below w.heap.size w w' := by
  have hwr : wrap64 (kn : Int) = (kn : Int) := IntWalk.wrap64_in _ (by omega)
  obtain ⟨n, hn⟩ : ∃ n : Nat, kn % 12 = n := ⟨_, rfl⟩
  have hrem : (kn : Int).tmod 12 = (n : Int) := by rw [← hn]; rfl
  have HN : Hid (n < 12) := Lib.hid (by rw [← hn]; exact Nat.mod_lt _ (by omega))
  clear hn hkn
  obtain ⟨a2, cap2, rfl⟩ := slc_len hs
  have d0 : decide ((64 : Int) < (xs.length : Int)) = false := decide_eq_false (by omega)
  have HO := Lib.hid h
  have HF := Lib.hid hf
  have HSl := Lib.hid hs
  have HL := Lib.hid hl
  have HX := Lib.hid hx
  clear h hf hs hl hx
  go_enter Try.func6, Try.ntmps6
  go_wp2_with (first | (go_at_call 28; (with_reducible refine (alive_any _).mono ?_); rintro e w0 ⟨rfl, b0⟩; have B0 := Lib.hid b0; clear b0) | (go_at_call 10; (with_reducible refine (great_fine _ ops _ (OpsAt.below HO.out B0.out) HF.out).mono ?_); rintro e w00 ⟨rfl, rfl⟩) | (go_at_call 11; (with_reducible refine (new_lit _ 12 12 rfl (by omega)).mono ?_); rintro e w1 ⟨b1, p, b, rfl, hp1, hp2, hp3⟩; refine Hid.out ?_))
  refine Lib.hid ?_
  have HP := Lib.hid (And.intro b1 (And.intro hp1 (And.intro hp2 hp3)))
  clear b1 hp1 hp2 hp3
  go_wp2_with (first | (go_at_call 12; (with_reducible refine (rnew_lit _ 12 12 rfl (by omega)).mono ?_); rintro e w2 ⟨b2, q, rr, rb, rfl, hq1, hq2, hq3, hq4⟩; refine Hid.out ?_))
  refine Lib.hid ?_
  have HS := Lib.hid (St.start HP.out.1 b2 HP.out.2.1 HP.out.2.2.1 hq1 hq2 hq3 HP.out.2.2.2 hq4)
  obtain ⟨aO, capO, rfl, hO1, hO2, hO3⟩ := OpsAt.below HO.out B0.out
  have HO3 := Lib.hid hO3
  have hol : (ops.length : Int) ≤ 150 := by have := HF.out.1; omega
  clear b2 hq1 hq2 hq3 hq4 hO3
  go_wp2
  go_loopw [44] (fun i wr => ∃ j : Nat, j ≤ ops.length ∧ i = .int .i64 (j : Int) ∧ ∃ R B B', St w0 wr j p b q rr rb 12 R B B') (fun i _ => ops.length - (intOf i).toNat)
  case atStart => exact ⟨0, Nat.zero_le _, rfl, _, _, _, HS.out⟩
  case round =>
    obtain ⟨j, hj, rfl, R, B, B', hst⟩ := hrel
    by_cases hlt : j < ops.length
    · rcases HO3.out with h0 | ⟨ba, off, rfl, hb, h4⟩
      · subst h0; simp at hlt
      · obtain ⟨c0, c1, c2, c3, ⟨bv, c4, hsl⟩, wf1, wf2, hxx⟩ := h4 j hlt
        have hbel := hst.bel
        have z0 := (hbel.cell (p := ⟨ba, off + j * 5, none⟩) hb).trans c0
        have z1 := (hbel.cell (p := ⟨ba, off + j * 5 + 1, none⟩) hb).trans c1
        have z2 := (hbel.cell (p := ⟨ba, off + j * 5 + 2, none⟩) hb).trans c2
        have z3 := (hbel.cell (p := ⟨ba, off + j * 5 + 3, none⟩) hb).trans c3
        have z4 := (hbel.cell (p := ⟨ba, off + j * 5 + 4, none⟩) hb).trans c4
        have hd := do_any w0 wr j p b q rr rb 12 R B B' hst (by omega) ops[j] bv hsl hxx (by have := HF.out.2 _ (List.getElem_mem hlt); omega) wf1 wf2
        have HD := Lib.hid hd
        generalize ops[j] = o at *
        clear hd hst hbel h4 c0 c1 c2 c3 c4 hsl wf1 wf2 hxx
        go_wp2_with (first | (go_at_call 16; (with_reducible refine HD.out.mono ?_); rintro e w5 ⟨rfl, R1, B1, B1', hs5, -⟩; have HS5 := Lib.hid hs5; clear hs5))
        go_roundw
        case rel => exact ⟨j + 1, by omega, by go_num, _, _, _, HS5.out⟩
        case measure => simp [intOf]; omega
    · obtain rfl : j = ops.length := by omega
      have HM := Lib.hid hst.mem
      have BB := Lib.hid (B0.out.trans (hst.bel.mono B0.out.size))
      have hlo : w.heap.size ≤ b := Nat.le_trans B0.out.size hst.lo.2.1
      have HLo := Lib.hid hlo
      have HFw := Lib.hid (fun k => Nat.le_trans (hst.agr.few k) HF.out.1)
      have HZr := Lib.hid hst.agr.zero
      clear hst hlo
      by_cases hr : R n = 0
      · have hk : rf 12 R (n : Int) = 0 := by rw [rf_nat HN.out]; exact hr
        have r1 := Lib.hid (read_no _ _ _ _ _ _ HM.out n 0 64 hk)
        have r2 := Lib.hid (double_no _ _ _ _ _ _ HM.out n hk)
        clear hk hr
        go_wp2_with (first | (go_at_call 22; (with_reducible refine r1.out.mono ?_); rintro e w6 ⟨rfl, rfl⟩) | (go_at_call 27; (with_reducible refine r2.out.mono ?_); rintro e w6 ⟨rfl, rfl⟩))
        go_ret
        exact ⟨rfl, BB.out⟩
      · have r1 := Lib.hid (read_whole _ _ _ _ _ _ HM.out n HN.out hr)
        have HR := Lib.hid hr
        clear hr
        go_wp2_with (first | (go_at_call 22; (with_reducible refine r1.out.mono ?_); rintro e w6 ⟨b6, ra, rfl, ha⟩; refine Hid.out ?_))
        refine Lib.hid ?_
        have hm6 := Mem.below HM.out b6
        have H6 := Lib.hid (And.intro b6 ha)
        clear b6 ha
        rcases least_or 12 R with hfull | ⟨m, h1, h2, h3⟩
        · have r2 := Lib.hid (double_full _ _ _ _ _ _ hm6 n HN.out hfull)
          clear hfull hm6
          go_wp2_with (first | (go_at_call 27; (with_reducible refine r2.out.mono ?_); rintro e w7 ⟨rfl, rfl⟩))
          go_ret
          exact ⟨rfl, BB.out.trans (H6.out.1.mono BB.out.size)⟩
        · have r2 := Lib.hid (double_ok _ _ _ _ _ _ hm6 n HN.out HR.out m h1 h2 h3)
          have hnm : n ≠ m := fun e => HR.out (by rw [e]; exact h2)
          have HNM := Lib.hid (And.intro hnm h1)
          have dnm : ((m : Int) == (n : Int)) = false := by simp; omega
          have hmn : ¬ m = n := fun e => hnm e.symm
          have dne : ((m : Int) != (n : Int)) = true := by simp; omega
          have hlt6 := hm6.lt
          have HLt := Lib.hid hlt6
          clear h1 h2 h3 hm6 hnm hlt6
          go_wp2_with (first | (go_at_call 27; (with_reducible refine r2.out.mono ?_); rintro e w7 ⟨rfl, hm7, hk7⟩; refine Hid.out ?_))
          refine Lib.hid ?_
          have hB7 := (BB.out.trans (H6.out.1.mono BB.out.size)).trans (hk7.below (Nat.le_trans BB.out.size H6.out.1.size) (fun j e => by subst e; exact HLo.out))
          have hwo : Calls Try.prog 26 #[.pointer (some ⟨p, 0, none⟩), .int .i64 (n : Int), .int .i64 0, .slice a2 xs.length cap2] w7 _ := write_ok w7 p b 12 _ _ hm7 n HN.out (by rw [up_other _ _ _ _ HNM.out.1]; exact HR.out) 0 _ xs (HSl.out.below hB7) HX.out (by have := HL.out; omega)
          have hrow7 : w7.ownsRow wr.heap.size 5 1 ra 64 (u8f (B n) 64) := H6.out.2.kept (kp_grown hk7) (by
            cases hv : ra.ownBlock with
            | none => exact .inl rfl
            | some r => exact .inr (fun e => by cases e; have := (H6.out.2.lt _ hv).1; have := HM.out.lt.2; omega))
          have HWo := Lib.hid hwo
          have H7 := Lib.hid (And.intro hB7 hrow7)
          clear hm7 hk7 hwo hB7 hrow7
          go_wp2_with (first | (go_at_call 26; (with_reducible refine HWo.out.mono ?_); rintro e w8 ⟨rfl, hm8, hk8⟩; refine Hid.out ?_))
          refine Lib.hid ?_
          have hB8 := H7.out.1.trans (hk8.below H7.out.1.size (fun j e => by subst e; exact HLo.out))
          have hrow8 := H7.out.2.kept (kp_grown hk8) (by
            cases hv : ra.ownBlock with
            | none => exact .inl rfl
            | some r => exact .inr (fun e => by cases e; have := (H6.out.2.lt _ hv).1; have := HM.out.lt.2; omega))
          have hrm : up R m 1 m ≠ 0 := by rw [up_same]; omega
          have r8 := read_whole _ _ _ _ _ _ hm8 m HNM.out.2 hrm
          rw [up_other _ _ _ _ (Ne.symm HNM.out.1), up_same] at r8
          have R8 := Lib.hid r8
          have H8 := Lib.hid (And.intro hB8 (And.intro hrow8 hm8))
          clear hm8 hk8 hB8 hrow8 hrm r8
          go_wp2_with (first | (go_at_call 22; (with_reducible refine R8.out.mono ?_); rintro e w9 ⟨b9, rc, rfl, hc9⟩; refine Hid.out ?_))
          refine Lib.hid ?_
          have hm9 := Mem.below H8.out.2.2 b9
          have s1 := slc_string (own_slcf (own_below H8.out.2.1 b9))
          have s2 := slc_string (own_slcf hc9)
          have hre := refs_in _ _ _ _ _ _ hm9 m HNM.out.2
          rw [up_same, Int.natCast_one] at hre
          have HRe := Lib.hid hre
          have B9 := Lib.hid (H8.out.1.trans (b9.mono H8.out.1.size))
          generalize bstr (bts (B n) 64) = S at *
          clear b9 hc9 hm9 hre
          go_wp2_with (first | (go_at_call 23; (with_reducible refine HRe.out.mono ?_); rintro e w10 ⟨rfl, rfl⟩))
          go_ret
          exact ⟨rfl, B9.out⟩
end Go.Proofs.Ytompcmbaiegkaaa.Dd
namespace Go.Proofs.Ytompcmbaiegkaaa.Walk
open Go Go.RowKit Kit Ea Dd
theorem framesDouble (v : Value) (ops : List Opr) (k : Int) (vb : Value) (xs : List Nat) (W : World) (h : OpsAt W v ops) (hk : (Lit.int .u8 k).wf = true) (hs : Slc .u8 W vb xs) (hx : ∀ y ∈ xs, y < 256) :
    Calls Try.prog 6 #[v, .int .u8 k, vb] W fun e w' => e = .returned (.bool true) ∧ Below W.heap.size W w' := by
  by_cases hf : Fine ops
  · by_cases hl : xs.length ≤ 64
    · obtain ⟨kn, rfl, hkn⟩ := u8_nat hk
      exact double_fine v ops W h hf kn hkn vb xs hs hx hl
    · exact double_long v ops W h hf k vb xs hs (by omega)
  · exact double_great v ops W h hf k vb xs hs
end Go.Proofs.Ytompcmbaiegkaaa.Walk
