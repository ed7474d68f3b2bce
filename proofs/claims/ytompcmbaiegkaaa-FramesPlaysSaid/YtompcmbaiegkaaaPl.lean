/-
  FramesPlays: the walk.
-/
import Derived.Test.YtompcmbaiegkaaaAp
import Derived.Deep.RegionHeld
namespace Go.Proofs.Ytompcmbaiegkaaa.Pl
open Go Go.RowKit Kit Fm Fo Fr Fw Fx Fy Fu Fv Gm Go2 Gr Gw Gn Da Db Dc Ea Pa Ap
set_option linter.unusedVariables false

theorem same_l (va vb : Value) (xs : List Nat) (L : Nat) (hL : L = xs.length) (w : World) (ha : Slc .i64 w va xs) (hb : Slc .i64 w vb xs) :
    Calls Try.prog 18 #[va, vb] w fun e w' => e = .returned (.bool true) ∧ Below w.heap.size w w' := same_any va vb xs w ha hb
theorem free_n (w : World) (p b n : Nat) (R : Nat → Nat) (B : Nat → Nat → Nat) (h : Mem w p b n R B) (L : Nat) (hL : (usd R n).length = L) :
    Calls Try.prog 20 #[.pointer (some ⟨p, 0, none⟩)] w fun e w' => e = .returned (.int .i64 ((n : Int) - (L : Int))) ∧ Below w.heap.size w w' := by
  rw [← hL]
  exact free_any w p b n R B h

set_option maxRecDepth 100000 in
set_option maxHeartbeats 2000000 in
theorem plays_great (n : Int) (v : Value) (ops : List Opr) (w : World) (h : OpsAt w v ops) (hf : ¬ Fine ops) :
    Calls Try.prog 3 #[.int .i64 n, v] w fun e w' => e = .returned (.bool true) ∧ Below w.heap.size w w' := by
  have HO := Lib.hid h
  clear h
  go_enter Try.func3, Try.ntmps3
  go_wp2_with (first | (go_at_call 10; (with_reducible refine (great_any _ ops _ HO.out hf).mono ?_); rintro e w2 ⟨rfl, rfl⟩))
  go_ret
  exact ⟨rfl, Below.refl _ _⟩
set_option maxRecDepth 100000 in
set_option maxHeartbeats 2000000 in
theorem plays_none (n : Int) (v : Value) (ops : List Opr) (w : World) (h : OpsAt w v ops) (hf : Fine ops) (hn : ¬ (1 ≤ n ∧ n ≤ 256)) :
    Calls Try.prog 3 #[.int .i64 n, v] w fun e w' => e = .returned (.bool true) ∧ Below w.heap.size w w' := by
  have HO := Lib.hid h
  have HF := Lib.hid hf
  have HN := Lib.hid hn
  clear h hf hn
  go_enter Try.func3, Try.ntmps3
  go_wp2_with (first | (go_at_call 10; (with_reducible refine (great_fine _ ops _ HO.out HF.out).mono ?_); rintro e w2 ⟨rfl, rfl⟩) | (go_at_call 11; (with_reducible refine (new_arg _ _ HN.out).mono ?_); rintro e w2 ⟨rfl, rfl⟩) | (go_at_call 12; (with_reducible refine (rnew_arg _ _ HN.out).mono ?_); rintro e w2 ⟨rfl, rfl⟩))
  go_ret
  exact ⟨rfl, Below.refl _ _⟩
set_option maxRecDepth 100000 in
set_option maxHeartbeats 32000000 in
theorem plays_fine (n : Nat) (hn : 1 ≤ n ∧ n ≤ 256) (v : Value) (ops : List Opr) (w : World) (h : OpsAt w v ops) (hf : Fine ops) :
    Calls Try.prog 3 #[.int .i64 (n : Int), v] w fun e w' => e = .returned (.bool true) ∧ Below w.heap.size w w' := by
  have HO := Lib.hid h
  have HF := Lib.hid hf
  have HN := Lib.hid hn
  have hn256 : (n : Int) ≤ 256 := by omega
  clear h hf hn
  go_enter Try.func3, Try.ntmps3
  go_wp2_with (first | (go_at_call 10; (with_reducible refine (great_fine _ ops _ HO.out HF.out).mono ?_); rintro e w0 ⟨rfl, rfl⟩) | (go_at_call 11; (with_reducible refine (new_ok _ _ HN.out).mono ?_); rintro e w1 ⟨b1, p, b, rfl, hp1, hp2, hp3⟩; refine Hid.out ?_))
  refine Lib.hid ?_
  have HP := Lib.hid (And.intro b1 (And.intro hp1 (And.intro hp2 hp3)))
  clear b1 hp1 hp2 hp3
  go_wp2_with (first | (go_at_call 12; (with_reducible refine (rnew_ok _ _ HN.out).mono ?_); rintro e w2 ⟨b2, q, rr, rb, rfl, hq1, hq2, hq3, hq4⟩; refine Hid.out ?_))
  refine Lib.hid ?_
  have HS0 := Lib.hid (St.start HP.out.1 b2 HP.out.2.1 HP.out.2.2.1 hq1 hq2 hq3 HP.out.2.2.2 hq4)
  obtain ⟨aO, capO, rfl, hO1, hO2, hO3⟩ := HO.out
  have HO3 := Lib.hid hO3
  have hol : (ops.length : Int) ≤ 150 := by have := HF.out.1; omega
  clear b2 hq1 hq2 hq3 hq4 hO3
  go_wp2
  go_loopw [5, 42] (fun f i wr => ∃ (j p b : Nat) (R : Nat → Nat) (B B' : Nat → Nat → Nat), f = .pointer (some ⟨p, 0, none⟩) ∧ j ≤ ops.length ∧ i = .int .i64 (j : Int) ∧ St w wr j p b q rr rb n R B B') (fun _ i _ => ops.length - (intOf i).toNat)
  case atStart => exact ⟨0, p, b, _, _, _, rfl, Nat.zero_le _, rfl, HS0.out⟩
  case round =>
    clear HP HS0 hO1 hO2
    obtain ⟨j, p, b, R, B, B', rfl, hj, rfl, hst⟩ := hrel
    have HS := Lib.hid hst
    clear hst
    by_cases hlt : j < ops.length
    · obtain ⟨ba, off, rfl, hba, o, bv, hC⟩ : ∃ (ba off : Nat), aO = some ⟨ba, off, none⟩ ∧ ba < w.heap.size ∧ ∃ (o : Opr) (bv : Value), w.cell? ⟨ba, off + j * 5, none⟩ = some (.int .i64 o.kind) ∧ w.cell? ⟨ba, off + j * 5 + 1, none⟩ = some (.int .i64 o.k) ∧ w.cell? ⟨ba, off + j * 5 + 2, none⟩ = some (.int .i64 o.off) ∧ w.cell? ⟨ba, off + j * 5 + 3, none⟩ = some (.int .i64 o.n) ∧ w.cell? ⟨ba, off + j * 5 + 4, none⟩ = some bv ∧ Slc .u8 w bv o.xs ∧ (Lit.int .i64 o.off).wf = true ∧ (Lit.int .i64 o.n).wf = true ∧ (∀ x ∈ o.xs, x < 256) ∧ o.xs.length ≤ 1000 := by
        rcases HO3.out with h0 | ⟨ba, off, e, hb, h4⟩
        · subst h0; simp at hlt
        · obtain ⟨c0, c1, c2, c3, ⟨bv, c4, hsl⟩, wf1, wf2, hxx⟩ := h4 j hlt
          exact ⟨ba, off, e, hb, ops[j], bv, c0, c1, c2, c3, c4, hsl, wf1, wf2, hxx, by have := HF.out.2 _ (List.getElem_mem hlt); omega⟩
      have HC := Lib.hid hC
      have k0 := (HS.out.bel.cell (p := ⟨ba, off + j * 5, none⟩) hba).trans hC.1
      have hjl : (j : Int) < (ops.length : Int) := by omega
      clear hC HO3
      by_cases h6 : o.kind = 6
      · rw [h6] at k0
        clear h6
        go_wp2_with (first | (go_at_call 13; (with_reducible refine (copy_ok _ _ _ _ _ _ HS.out.mem).mono ?_); rintro e wC ⟨bC, p2, b2, rfl, hp2, hb2, hm2⟩; refine Hid.out ?_))
        refine Lib.hid ?_
        have hbl := HS.out.mem.lt
        obtain ⟨at1, gt1, Rt, Bt, Bt', hFt, _, hAt⟩ := take_both p b q rr rb n j R B B' HS.out.agr (by omega)
        obtain ⟨ad1, gd1, Rd, Bd, Bd', hFd, _, _⟩ := drop_both p b q rr rb n (j + 1) Rt Bt Bt' hAt (by omega) 0
        have ht := hFt wC (Mem.below HS.out.mem bC)
        have HT := Lib.hid ht
        have HFd := Lib.hid hFd
        have hmC := Mem.below HS.out.mem bC
        have hstC := HS.out.below bC
        have hpl : w.heap.size ≤ p2 ∧ w.heap.size ≤ b2 := ⟨Nat.le_trans HS.out.bel.size hp2, Nat.le_trans HS.out.bel.size hb2⟩
        have HCp := Lib.hid (And.intro hm2 (And.intro hmC (And.intro hstC (And.intro hpl (And.intro hp2 (And.intro hb2 hbl))))))
        clear bC hp2 hb2 hm2 hbl hFt hFd hAt ht hmC hstC hpl k0
        go_wp2_with (first | (go_at_call 14; (with_reducible refine HT.out.mono ?_); rintro e wT ⟨rfl, hmT, hkT⟩; refine Hid.out ?_))
        refine Lib.hid ?_
        have HDr := Lib.hid (HFd.out wT hmT)
        have HmT := Lib.hid (And.intro hmT hkT)
        clear hmT hkT
        go_wp2_with (first | (go_at_call 15; (with_reducible refine HDr.out.mono ?_); rintro e wD ⟨rfl, hmD, hkD⟩; refine Hid.out ?_))
        refine Lib.hid ?_
        have hkTD : Kp (fun j => j = b) wC wD := HmT.out.2.trans hkD (fun _ e => .inl e)
        have hne1 : ¬ (p2 = b) := fun e => by have := HCp.out.2.2.2.2.1; have := HCp.out.2.2.2.2.2.2; omega
        have hne2 : ¬ (b2 = b) := fun e => by have := HCp.out.2.2.2.2.2.1; have := HCp.out.2.2.2.2.2.2; omega
        have HS2 : Hid (St w wD j p2 b2 q rr rb n R B B') := Lib.hid ⟨HCp.out.1.kept hkTD hne1 hne2, HCp.out.2.2.1.ref.beside HCp.out.2.1 hkTD, HS.out.agr, ⟨HCp.out.2.2.2.1.1, HCp.out.2.2.2.1.2, HS.out.lo.2.2⟩, HCp.out.2.2.1.bel.trans (hkTD.below HCp.out.2.2.1.bel.size (fun j e => by rw [e]; exact HS.out.lo.2.1))⟩
        clear hkTD hne1 hne2 hmD hkD HmT HDr HT HFd HCp HS
        have HS := HS2
        have hbel := HS.out.bel
        have z0 := (hbel.cell (p := ⟨ba, off + j * 5, none⟩) hba).trans HC.out.1
        have z1 := (hbel.cell (p := ⟨ba, off + j * 5 + 1, none⟩) hba).trans HC.out.2.1
        have z2 := (hbel.cell (p := ⟨ba, off + j * 5 + 2, none⟩) hba).trans HC.out.2.2.1
        have z3 := (hbel.cell (p := ⟨ba, off + j * 5 + 3, none⟩) hba).trans HC.out.2.2.2.1
        have z4 := (hbel.cell (p := ⟨ba, off + j * 5 + 4, none⟩) hba).trans HC.out.2.2.2.2.1
        have hd := do_any w _ j p2 b2 q rr rb n R B B' HS.out (by omega) o bv HC.out.2.2.2.2.2.1 HC.out.2.2.2.2.2.2.2.2.1 HC.out.2.2.2.2.2.2.2.2.2 HC.out.2.2.2.2.2.2.1 HC.out.2.2.2.2.2.2.2.1
        have HD := Lib.hid hd
        clear hd hbel
        go_wp2_with (first | (go_at_call 16; (with_reducible refine HD.out.mono ?_); rintro e w5 ⟨rfl, R1, B1, B1', hs5, -⟩; refine Hid.out ?_))
        refine Lib.hid ?_
        have HS5 := Lib.hid hs5
        clear hs5 z0 z1 z2 z3 z4
        go_wp2_with (first | (go_at_call 17; (with_reducible refine (used_any _ _ _ _ _ _ HS5.out.mem).mono ?_); rintro e w6 ⟨b6, r6, rfl, h6⟩; refine Hid.out ?_))
        refine Lib.hid ?_
        have hiu := IntsAt.of_row h6
        have hsu := own_ints h6
        have HU := Lib.hid (And.intro b6 (And.intro hiu hsu))
        obtain ⟨au, cu, rfl, hcu⟩ := hiu
        have HCu := Lib.hid hcu
        have hul := usd_len R1 n
        obtain ⟨L, hL⟩ : ∃ L, (usd R1 n).length = L := ⟨_, rfl⟩
        have hful := free_any
        rw [hL] at hul ⊢
        have HL := Lib.hid hL
        have HSu : Hid (Slc .i64 w6 (.slice au L cu) (usd R1 n)) := by
          have := HU.out.2.2
          rw [hL] at this
          exact this
        have hLn : (L : Int) ≤ (n : Int) := by omega
        have hwF : IntKind.i64.wrap ((n : Int) - (L : Int)) = (n : Int) - (L : Int) := by rw [IntKind.wrap_i64]; omega
        clear b6 h6 hcu hL hsu hful hul
        go_wp2_with (first | (go_at_call 19; (with_reducible refine (rused_any _ _ _ _ _ _ _ (HS5.out.ref.below HU.out.1)).mono ?_); rintro e w7 ⟨b7, r7, rfl, h7⟩; have B7 := Lib.hid b7; have H7 := Lib.hid (own_ints h7); clear b7 h7) | (go_at_call 18; first | ((with_reducible refine (same_l _ _ (usd R1 n) L HL.out.symm _ (HSu.out.below B7.out) H7.out).mono ?_); rintro e w8 ⟨rfl, b8⟩; have B8 := Lib.hid (B7.out.trans (b8.mono B7.out.size)); clear b8)) | (go_at_call 20; (with_reducible refine (free_n _ _ _ _ _ _ (Mem.below HS5.out.mem (HU.out.1.trans (B8.out.mono HU.out.1.size))) L HL.out).mono ?_); rintro e w9 ⟨rfl, b9⟩; have B9 := Lib.hid (B8.out.trans (b9.mono B8.out.size)); clear b9) | (go_at_call 21; (with_reducible refine (len_any _ _ _ _ _ _ (Mem.below HS5.out.mem (HU.out.1.trans (B9.out.mono HU.out.1.size)))).mono ?_); rintro e w10 ⟨rfl, rfl⟩))
        have H9 := Lib.hid (HS5.out.below (HU.out.1.trans (B9.out.mono HU.out.1.size)))
        go_loopw [90] (fun i wx => ∃ t : Nat, t ≤ L ∧ i = .int .i64 (t : Int) ∧ Below w6.heap.size w6 wx ∧ St w wx (j + 1) p2 b2 q rr rb n R1 B1 B1') (fun i _ => L - (intOf i).toNat)
        case atStart => exact ⟨0, Nat.zero_le _, rfl, B9.out, H9.out⟩
        case round =>
          obtain ⟨t, ht, rfl, hB, hSt⟩ := hrel
          have HR := Lib.hid (And.intro hB hSt)
          clear hB hSt
          by_cases htl : t < L
          · have hjl : t < (usd R1 n).length := by rw [HL.out]; exact htl
            obtain ⟨gu, rfl, hgu, hcc⟩ := HCu.out t hjl
            have cc := (HR.out.1.cell (p := ⟨gu, t, none⟩) hgu).trans hcc
            obtain ⟨hkn, hkr⟩ := usd_at R1 n t hjl
            obtain ⟨kk, hkk⟩ : ∃ kk, (usd R1 n)[t] = kk := ⟨_, rfl⟩
            rw [hkk] at cc hkn hkr
            have r1 := Lib.hid (read_whole _ _ _ _ _ _ HR.out.2.mem kk hkn hkr)
            have HK := Lib.hid (And.intro hkn hkr)
            have htL : (t : Int) < (L : Int) := by omega
            clear hcc hgu hkk hkn hkr hjl
            go_wp2_with (first | (go_at_call 22; (with_reducible refine r1.out.mono ?_); rintro e wR ⟨bR, ra, rfl, ha⟩; refine Hid.out ?_))
            refine Lib.hid ?_
            have hstR := HR.out.2.below bR
            have hsaT : bts (B1' kk) 64 = bts (B1 kk) 64 := bts_ext (fun i hi => hstR.agr.same kk HK.out.1 HK.out.2 i hi)
            obtain ⟨c1, c2, a1, a2, a3, a4, a5⟩ := hstR.ref.hd
            obtain ⟨ds1, q2, q2s, q2c⟩ := hstR.ref.refs
            obtain ⟨es1, q3, q3s, q3c⟩ := hstR.ref.rows
            obtain ⟨g9, cap9, cur9, e1, e2, e3, e4, e5⟩ := q3c kk HK.out.1
            obtain ⟨r0, hr0⟩ : ∃ r0 : Int, (R1 kk : Int) = r0 := ⟨_, rfl⟩
            have qc2 := q2c kk HK.out.1
            rw [hr0] at qc2
            have hrow : Slc .u8 wR (.slice (some ⟨g9, 0, none⟩) 64 cap9) (bts (B1' kk) 64) := ⟨_, cap9, by rw [bts_len], by rw [bts_len]; exact e2, e3, .inr ⟨g9, 0, rfl, e4.lt, fun i hi => by
              rw [bts_len] at hi
              rw [e4.cell, Nat.zero_add, e5 i hi]
              simp [bts, hi]⟩⟩
            rw [hsaT] at hrow
            have hd0 : Below wR.heap.size wR wR.drew := (Below.refl _ _).drew
            have v1 : (convert 31 9 ra).run Try.prog wR.drew = .ok (.string (bstr (bts (B1 kk) 64))) wR.drew := slc_string ((own_slcf ha).below hd0)
            have v2 : (convert 31 9 (.slice (some ⟨g9, 0, none⟩) 64 cap9)).run Try.prog wR.drew = .ok (.string (bstr (bts (B1 kk) 64))) wR.drew := slc_string (hrow.below hd0)
            have v3 : wR.drew.cell? ⟨q, 0, none⟩ = some (.slice (some ⟨rr, 0, none⟩) n c1) := a1.cell 0
            have v4 : wR.drew.cell? ⟨q, 1, none⟩ = some (.slice (some ⟨rb, 0, none⟩) n c2) := a1.cell 1
            have v5 : wR.drew.cell? ⟨rr, kk, none⟩ = some (.int .i64 r0) := (q2.cell kk).trans qc2
            have v6 : wR.drew.cell? ⟨rb, kk, none⟩ = some (.slice (some ⟨g9, 0, none⟩) 64 cap9) := (q3.cell kk).trans e1
            have hre := refs_in _ _ _ _ _ _ (Mem.below hstR.mem hd0) kk HK.out.1
            rw [hr0] at hre
            have HRe := Lib.hid hre
            have hkn2 : (kk : Int) < (n : Int) := by have := HK.out.1; omega
            generalize bstr (bts (B1 kk) 64) = T at *
            have HSS := Lib.hid (And.intro v1 (And.intro v2 (And.intro v3 (And.intro v4 (And.intro v5 v6)))))
            have HB7 := Lib.hid (And.intro (HR.out.1.trans (bR.mono HR.out.1.size)) (hstR.below hd0))
            clear bR ha hstR hsaT a1 a2 a3 a4 a5 q2 q2s q2c q3 q3s q3c e1 e2 e3 e4 e5 qc2 hrow hd0 hre hr0 v1 v2 v3 v4 v5 v6
            go_wp2
            go_region_held (fun w' => (convert 31 9 ra).run Try.prog w' = .ok (.string T) w' ∧ (convert 31 9 (.slice (some ⟨g9, 0, none⟩) 64 cap9)).run Try.prog w' = .ok (.string T) w' ∧ w'.cell? ⟨q, 0, none⟩ = some (.slice (some ⟨rr, 0, none⟩) n c1) ∧ w'.cell? ⟨q, 1, none⟩ = some (.slice (some ⟨rb, 0, none⟩) n c2) ∧ w'.cell? ⟨rr, kk, none⟩ = some (.int .i64 r0) ∧ w'.cell? ⟨rb, kk, none⟩ = some (.slice (some ⟨g9, 0, none⟩) 64 cap9)) (exact HSS.out) (first | (go_at_call 23; (with_reducible refine HRe.out.mono ?_); rintro e wS ⟨rfl, rfl⟩))
            all_goals go_wp2
            go_roundw
            case rel => exact ⟨t + 1, by omega, by go_num, HB7.out.1.drew, HB7.out.2⟩
            case measure => simp [intOf]; omega
          · obtain rfl : t = L := by omega
            have hbel := HR.out.2.bel
            have z1 := (hbel.cell (p := ⟨ba, off + j * 5 + 1, none⟩) hba).trans HC.out.2.1
            have hre := Lib.hid (refs_any _ _ _ _ _ _ HR.out.2.mem o.k)
            clear hbel
            by_cases hrk : rf n R1 o.k = 0
            · have his := Lib.hid (is_no _ _ _ _ _ _ _ HR.out.2.ref o.k hrk)
              rw [hrk] at hre
              clear hrk
              go_wp2_with (first | (go_at_call 24; (with_reducible refine his.out.mono ?_); rintro e wS ⟨rfl, rfl⟩) | (go_at_call 23; (with_reducible refine hre.out.mono ?_); rintro e wS ⟨rfl, rfl⟩))
              go_roundw
              case rel => exact ⟨j + 1, _, _, _, _, _, rfl, by omega, by go_num, HR.out.2⟩
              case measure => simp [intOf]; omega
            · obtain ⟨jk, hjk, hj1, hj2⟩ := rf_pos hrk
              have his := is_yes _ _ _ _ _ _ _ HR.out.2.ref jk hj1 hj2
              rw [← hjk] at his
              have HIs := Lib.hid his
              clear hrk hjk his
              go_wp2_with (first | (go_at_call 24; (with_reducible refine HIs.out.mono ?_); rintro e wS ⟨rfl, rfl⟩))
              go_roundw
              case rel => exact ⟨j + 1, _, _, _, _, _, rfl, by omega, by go_num, HR.out.2⟩
              case measure => simp [intOf]; omega
      · have d6 : (o.kind == 6) = false := by simpa using h6
        clear h6
        have hbel := HS.out.bel
        have z0 := (hbel.cell (p := ⟨ba, off + j * 5, none⟩) hba).trans HC.out.1
        have z1 := (hbel.cell (p := ⟨ba, off + j * 5 + 1, none⟩) hba).trans HC.out.2.1
        have z2 := (hbel.cell (p := ⟨ba, off + j * 5 + 2, none⟩) hba).trans HC.out.2.2.1
        have z3 := (hbel.cell (p := ⟨ba, off + j * 5 + 3, none⟩) hba).trans HC.out.2.2.2.1
        have z4 := (hbel.cell (p := ⟨ba, off + j * 5 + 4, none⟩) hba).trans HC.out.2.2.2.2.1
        have hd := do_any w _ j p b q rr rb n R B B' HS.out (by omega) o bv HC.out.2.2.2.2.2.1 HC.out.2.2.2.2.2.2.2.2.1 HC.out.2.2.2.2.2.2.2.2.2 HC.out.2.2.2.2.2.2.1 HC.out.2.2.2.2.2.2.2.1
        have HD := Lib.hid hd
        clear hd hbel
        go_wp2_with (first | (go_at_call 16; (with_reducible refine HD.out.mono ?_); rintro e w5 ⟨rfl, R1, B1, B1', hs5, -⟩; refine Hid.out ?_))
        refine Lib.hid ?_
        have HS5 := Lib.hid hs5
        clear hs5 z0 z1 z2 z3 z4
        go_wp2_with (first | (go_at_call 17; (with_reducible refine (used_any _ _ _ _ _ _ HS5.out.mem).mono ?_); rintro e w6 ⟨b6, r6, rfl, h6⟩; refine Hid.out ?_))
        refine Lib.hid ?_
        have hiu := IntsAt.of_row h6
        have hsu := own_ints h6
        have HU := Lib.hid (And.intro b6 (And.intro hiu hsu))
        obtain ⟨au, cu, rfl, hcu⟩ := hiu
        have HCu := Lib.hid hcu
        have hul := usd_len R1 n
        obtain ⟨L, hL⟩ : ∃ L, (usd R1 n).length = L := ⟨_, rfl⟩
        have hful := free_any
        rw [hL] at hul ⊢
        have HL := Lib.hid hL
        have HSu : Hid (Slc .i64 w6 (.slice au L cu) (usd R1 n)) := by
          have := HU.out.2.2
          rw [hL] at this
          exact this
        have hLn : (L : Int) ≤ (n : Int) := by omega
        have hwF : IntKind.i64.wrap ((n : Int) - (L : Int)) = (n : Int) - (L : Int) := by rw [IntKind.wrap_i64]; omega
        clear b6 h6 hcu hL hsu hful hul
        go_wp2_with (first | (go_at_call 19; (with_reducible refine (rused_any _ _ _ _ _ _ _ (HS5.out.ref.below HU.out.1)).mono ?_); rintro e w7 ⟨b7, r7, rfl, h7⟩; have B7 := Lib.hid b7; have H7 := Lib.hid (own_ints h7); clear b7 h7) | (go_at_call 18; first | ((with_reducible refine (same_l _ _ (usd R1 n) L HL.out.symm _ (HSu.out.below B7.out) H7.out).mono ?_); rintro e w8 ⟨rfl, b8⟩; have B8 := Lib.hid (B7.out.trans (b8.mono B7.out.size)); clear b8)) | (go_at_call 20; (with_reducible refine (free_n _ _ _ _ _ _ (Mem.below HS5.out.mem (HU.out.1.trans (B8.out.mono HU.out.1.size))) L HL.out).mono ?_); rintro e w9 ⟨rfl, b9⟩; have B9 := Lib.hid (B8.out.trans (b9.mono B8.out.size)); clear b9) | (go_at_call 21; (with_reducible refine (len_any _ _ _ _ _ _ (Mem.below HS5.out.mem (HU.out.1.trans (B9.out.mono HU.out.1.size)))).mono ?_); rintro e w10 ⟨rfl, rfl⟩))
        have H9 := Lib.hid (HS5.out.below (HU.out.1.trans (B9.out.mono HU.out.1.size)))
        go_loopw [90] (fun i wx => ∃ t : Nat, t ≤ L ∧ i = .int .i64 (t : Int) ∧ Below w6.heap.size w6 wx ∧ St w wx (j + 1) p b q rr rb n R1 B1 B1') (fun i _ => L - (intOf i).toNat)
        case atStart => exact ⟨0, Nat.zero_le _, rfl, B9.out, H9.out⟩
        case round =>
          obtain ⟨t, ht, rfl, hB, hSt⟩ := hrel
          have HR := Lib.hid (And.intro hB hSt)
          clear hB hSt
          by_cases htl : t < L
          · have hjl : t < (usd R1 n).length := by rw [HL.out]; exact htl
            obtain ⟨gu, rfl, hgu, hcc⟩ := HCu.out t hjl
            have cc := (HR.out.1.cell (p := ⟨gu, t, none⟩) hgu).trans hcc
            obtain ⟨hkn, hkr⟩ := usd_at R1 n t hjl
            obtain ⟨kk, hkk⟩ : ∃ kk, (usd R1 n)[t] = kk := ⟨_, rfl⟩
            rw [hkk] at cc hkn hkr
            have r1 := Lib.hid (read_whole _ _ _ _ _ _ HR.out.2.mem kk hkn hkr)
            have HK := Lib.hid (And.intro hkn hkr)
            have htL : (t : Int) < (L : Int) := by omega
            clear hcc hgu hkk hkn hkr hjl
            go_wp2_with (first | (go_at_call 22; (with_reducible refine r1.out.mono ?_); rintro e wR ⟨bR, ra, rfl, ha⟩; refine Hid.out ?_))
            refine Lib.hid ?_
            have hstR := HR.out.2.below bR
            have hsaT : bts (B1' kk) 64 = bts (B1 kk) 64 := bts_ext (fun i hi => hstR.agr.same kk HK.out.1 HK.out.2 i hi)
            obtain ⟨c1, c2, a1, a2, a3, a4, a5⟩ := hstR.ref.hd
            obtain ⟨ds1, q2, q2s, q2c⟩ := hstR.ref.refs
            obtain ⟨es1, q3, q3s, q3c⟩ := hstR.ref.rows
            obtain ⟨g9, cap9, cur9, e1, e2, e3, e4, e5⟩ := q3c kk HK.out.1
            obtain ⟨r0, hr0⟩ : ∃ r0 : Int, (R1 kk : Int) = r0 := ⟨_, rfl⟩
            have qc2 := q2c kk HK.out.1
            rw [hr0] at qc2
            have hrow : Slc .u8 wR (.slice (some ⟨g9, 0, none⟩) 64 cap9) (bts (B1' kk) 64) := ⟨_, cap9, by rw [bts_len], by rw [bts_len]; exact e2, e3, .inr ⟨g9, 0, rfl, e4.lt, fun i hi => by
              rw [bts_len] at hi
              rw [e4.cell, Nat.zero_add, e5 i hi]
              simp [bts, hi]⟩⟩
            rw [hsaT] at hrow
            have hd0 : Below wR.heap.size wR wR.drew := (Below.refl _ _).drew
            have v1 : (convert 31 9 ra).run Try.prog wR.drew = .ok (.string (bstr (bts (B1 kk) 64))) wR.drew := slc_string ((own_slcf ha).below hd0)
            have v2 : (convert 31 9 (.slice (some ⟨g9, 0, none⟩) 64 cap9)).run Try.prog wR.drew = .ok (.string (bstr (bts (B1 kk) 64))) wR.drew := slc_string (hrow.below hd0)
            have v3 : wR.drew.cell? ⟨q, 0, none⟩ = some (.slice (some ⟨rr, 0, none⟩) n c1) := a1.cell 0
            have v4 : wR.drew.cell? ⟨q, 1, none⟩ = some (.slice (some ⟨rb, 0, none⟩) n c2) := a1.cell 1
            have v5 : wR.drew.cell? ⟨rr, kk, none⟩ = some (.int .i64 r0) := (q2.cell kk).trans qc2
            have v6 : wR.drew.cell? ⟨rb, kk, none⟩ = some (.slice (some ⟨g9, 0, none⟩) 64 cap9) := (q3.cell kk).trans e1
            have hre := refs_in _ _ _ _ _ _ (Mem.below hstR.mem hd0) kk HK.out.1
            rw [hr0] at hre
            have HRe := Lib.hid hre
            have hkn2 : (kk : Int) < (n : Int) := by have := HK.out.1; omega
            generalize bstr (bts (B1 kk) 64) = T at *
            have HSS := Lib.hid (And.intro v1 (And.intro v2 (And.intro v3 (And.intro v4 (And.intro v5 v6)))))
            have HB7 := Lib.hid (And.intro (HR.out.1.trans (bR.mono HR.out.1.size)) (hstR.below hd0))
            clear bR ha hstR hsaT a1 a2 a3 a4 a5 q2 q2s q2c q3 q3s q3c e1 e2 e3 e4 e5 qc2 hrow hd0 hre hr0 v1 v2 v3 v4 v5 v6
            go_wp2
            go_region_held (fun w' => (convert 31 9 ra).run Try.prog w' = .ok (.string T) w' ∧ (convert 31 9 (.slice (some ⟨g9, 0, none⟩) 64 cap9)).run Try.prog w' = .ok (.string T) w' ∧ w'.cell? ⟨q, 0, none⟩ = some (.slice (some ⟨rr, 0, none⟩) n c1) ∧ w'.cell? ⟨q, 1, none⟩ = some (.slice (some ⟨rb, 0, none⟩) n c2) ∧ w'.cell? ⟨rr, kk, none⟩ = some (.int .i64 r0) ∧ w'.cell? ⟨rb, kk, none⟩ = some (.slice (some ⟨g9, 0, none⟩) 64 cap9)) (exact HSS.out) (first | (go_at_call 23; (with_reducible refine HRe.out.mono ?_); rintro e wS ⟨rfl, rfl⟩))
            all_goals go_wp2
            go_roundw
            case rel => exact ⟨t + 1, by omega, by go_num, HB7.out.1.drew, HB7.out.2⟩
            case measure => simp [intOf]; omega
          · obtain rfl : t = L := by omega
            have hbel := HR.out.2.bel
            have z1 := (hbel.cell (p := ⟨ba, off + j * 5 + 1, none⟩) hba).trans HC.out.2.1
            have hre := Lib.hid (refs_any _ _ _ _ _ _ HR.out.2.mem o.k)
            clear hbel
            by_cases hrk : rf n R1 o.k = 0
            · have his := Lib.hid (is_no _ _ _ _ _ _ _ HR.out.2.ref o.k hrk)
              rw [hrk] at hre
              clear hrk
              go_wp2_with (first | (go_at_call 24; (with_reducible refine his.out.mono ?_); rintro e wS ⟨rfl, rfl⟩) | (go_at_call 23; (with_reducible refine hre.out.mono ?_); rintro e wS ⟨rfl, rfl⟩))
              go_roundw
              case rel => exact ⟨j + 1, _, _, _, _, _, rfl, by omega, by go_num, HR.out.2⟩
              case measure => simp [intOf]; omega
            · obtain ⟨jk, hjk, hj1, hj2⟩ := rf_pos hrk
              have his := is_yes _ _ _ _ _ _ _ HR.out.2.ref jk hj1 hj2
              rw [← hjk] at his
              have HIs := Lib.hid his
              clear hrk hjk his
              go_wp2_with (first | (go_at_call 24; (with_reducible refine HIs.out.mono ?_); rintro e wS ⟨rfl, rfl⟩))
              go_roundw
              case rel => exact ⟨j + 1, _, _, _, _, _, rfl, by omega, by go_num, HR.out.2⟩
              case measure => simp [intOf]; omega
    · obtain rfl : j = ops.length := by omega
      go_wp2
      go_ret
      exact ⟨rfl, HS.out.bel⟩
end Go.Proofs.Ytompcmbaiegkaaa.Pl
namespace Go.Proofs.Ytompcmbaiegkaaa.Walk
open Go Go.RowKit Kit Ea Pl
theorem framesPlays (n : Int) (v : Value) (ops : List Opr) (W : World) (_ : (Lit.int .i64 n).wf = true) (h : OpsAt W v ops) :
    Calls Try.prog 3 #[.int .i64 n, v] W fun e w' => e = .returned (.bool true) ∧ Below W.heap.size W w' := by
  by_cases hf : Fine ops
  · by_cases hn : 1 ≤ n ∧ n ≤ 256
    · obtain ⟨m, rfl⟩ := Int.eq_ofNat_of_zero_le (show 0 ≤ n by omega)
      exact plays_fine m (by omega) v ops W h hf
    · exact plays_none n v ops W h hf hn
  · exact plays_great n v ops W h hf
end Go.Proofs.Ytompcmbaiegkaaa.Walk
