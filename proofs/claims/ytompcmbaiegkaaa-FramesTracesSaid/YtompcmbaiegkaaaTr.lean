/-
  FramesTraces: the walk.
-/
import Derived.Test.YtompcmbaiegkaaaAp
import Derived.Deep.RegionHeld
namespace Go.Proofs.Ytompcmbaiegkaaa.Tr
open Go Go.RowKit Kit Fm Fo Fr Fw Fx Fy Fu Fv Gm Go2 Gr Gw Gn Da Db Dc Ea Pa Ap
set_option linter.unusedVariables false
attribute [local go_sem ↓] mk_wrap

theorem usd_low {R : Nat → Nat} {m v k : Nat} (h : k ≤ m) : usd (up R m v) k = usd R k := by
  unfold usd
  refine List.filter_congr fun j hj => ?_
  have : j < k := by simpa using hj
  rw [up_other _ _ _ _ (by omega)]
theorem usd_up {R : Nat → Nat} {m : Nat} (hz : R m = 0) : ∀ n, m < n → (usd (up R m 1) n).length = (usd R n).length + 1
  | 0, h => absurd h (Nat.not_lt_zero _)
  | n + 1, h => by
    by_cases e : n = m
    · subst e
      rw [usd_yes (show up R n 1 n ≠ 0 by rw [up_same]; omega), usd_no hz, usd_low (Nat.le_refl _), List.length_append, List.length_singleton]
    · have ih := usd_up hz n (by omega)
      by_cases hn : R n = 0
      · rw [usd_no (show up R m 1 n = 0 by rw [up_other _ _ _ _ e]; exact hn), usd_no hn, ih]
      · rw [usd_yes (show up R m 1 n ≠ 0 by rw [up_other _ _ _ _ e]; exact hn), usd_yes hn, List.length_append, List.length_append, ih, List.length_singleton]
theorem usd_full {R : Nat → Nat} {n : Nat} (h : ∀ k, k < n → R k ≠ 0) : (usd R n).length = n := by
  unfold usd
  rw [List.filter_eq_self.2 (fun k hk => by simpa using h k (by simpa using hk)), List.length_range]
theorem free_twelve (w : World) (p b : Nat) (R : Nat → Nat) (B : Nat → Nat → Nat) (h : Mem w p b 12 R B) (F : Int) (hF : F = (12 : Int) - ((usd R 12).length : Int)) :
    Calls Try.prog 20 #[.pointer (some ⟨p, 0, none⟩)] w fun e w' => e = .returned (.int .i64 F) ∧ Below w.heap.size w w' := by
  rw [hF]
  exact free_any w p b 12 R B h
theorem fl {f : Nat} {args : Array Value} {w W : World} {E : Ending} (h : Calls Try.prog f args w fun x w' => x = E ∧ w' = W) : Calls Try.prog f args w fun x w' => x = E ∧ W = w' := h.mono fun x w' ⟨h1, h2⟩ => ⟨h1, h2.symm⟩
theorem up_up {α : Type} (R : Nat → α) (m : Nat) (x y : α) : up (up R m x) m y = up R m y := by
  funext j
  unfold up
  split <;> rfl
theorem up_id {R : Nat → Nat} {m : Nat} (h : R m = 0) : up R m 0 = R := by
  funext j
  unfold up
  split
  · rename_i e; subst e; exact h.symm
  · rfl

set_option maxRecDepth 100000 in
set_option maxHeartbeats 2000000 in
theorem traces_great (v : Value) (ops : List Opr) (w : World) (h : OpsAt w v ops) (hf : ¬ Fine ops) (k : Int) (vb : Value) (xs : List Nat) (hs : Slc .u8 w vb xs) :
    Calls Try.prog 5 #[v, .int .u8 k, vb] w fun e w' => e = .returned (.bool true) ∧ Below w.heap.size w w' := by
  obtain ⟨a2, cap2, rfl⟩ := slc_len hs
  have HO := Lib.hid h
  have HF := Lib.hid hf
  clear h hf hs
  go_enter Try.func5, Try.ntmps5
  go_wp2_with (first | (go_at_call 28; (with_reducible refine (alive_any _).mono ?_); rintro e w1 ⟨rfl, b1⟩; have B1 := Lib.hid b1; clear b1) | (go_at_call 10; (with_reducible refine (great_any _ ops _ (OpsAt.below HO.out B1.out) HF.out).mono ?_); rintro e w2 ⟨rfl, rfl⟩))
  go_ret
  exact ⟨rfl, B1.out⟩

set_option maxRecDepth 100000 in
set_option maxHeartbeats 2000000 in
theorem traces_long (v : Value) (ops : List Opr) (w : World) (h : OpsAt w v ops) (hf : Fine ops) (k : Int) (vb : Value) (xs : List Nat) (hs : Slc .u8 w vb xs) (hl : 64 < xs.length) :
    Calls Try.prog 5 #[v, .int .u8 k, vb] w fun e w' => e = .returned (.bool true) ∧ Below w.heap.size w w' := by
  obtain ⟨a2, cap2, rfl⟩ := slc_len hs
  have HO := Lib.hid h
  have HF := Lib.hid hf
  have d0 : decide ((64 : Int) < (xs.length : Int)) = true := decide_eq_true (by omega)
  clear hl
  clear h hf hs
  go_enter Try.func5, Try.ntmps5
  go_wp2_with (first | (go_at_call 28; (with_reducible refine (alive_any _).mono ?_); rintro e w1 ⟨rfl, b1⟩; have B1 := Lib.hid b1; clear b1) | (go_at_call 10; (with_reducible refine (great_fine _ ops _ (OpsAt.below HO.out B1.out) HF.out).mono ?_); rintro e w2 ⟨rfl, rfl⟩))
  go_ret
  exact ⟨rfl, B1.out⟩

set_option maxRecDepth 100000 in
set_option maxHeartbeats 16000000 in
theorem traces_fine (v : Value) (ops : List Opr) (w : World) (h : OpsAt w v ops) (hf : Fine ops) (kn : Nat) (hkn : kn < 256) (vb : Value) (xs : List Nat) (hs : Slc .u8 w vb xs) (hx : ∀ y ∈ xs, y < 256) (hl : xs.length ≤ 64) :
    Calls Try.prog 5 #[v, .int .u8 (kn : Int), vb] w fun e w' => e = .returned (.bool true) ∧ Below w.heap.size w w' := by
  have hwr : wrap64 (kn : Int) = (kn : Int) := IntWalk.wrap64_in _ (by omega)
  have hk256 : (kn : Int) < 256 := by omega
  have HK := Lib.hid hkn
  clear hkn
  obtain ⟨a2, cap2, rfl⟩ := slc_len hs
  have d0 : decide ((64 : Int) < (xs.length : Int)) = false := decide_eq_false (by omega)
  have HO := Lib.hid h
  have HF := Lib.hid hf
  have HSl := Lib.hid hs
  have HL := Lib.hid hl
  have HX := Lib.hid hx
  clear h hf hs hl hx
  go_enter Try.func5, Try.ntmps5
  go_wp2_with (first | (go_at_call 28; (with_reducible refine (alive_any _).mono ?_); rintro e w0 ⟨rfl, b0⟩; have B0 := Lib.hid b0; clear b0) | (go_at_call 10; (with_reducible refine (great_fine _ ops _ (OpsAt.below HO.out B0.out) HF.out).mono ?_); rintro e w00 ⟨rfl, rfl⟩) | (go_at_call 11; (with_reducible refine (new_lit _ 12 12 rfl (by omega)).mono ?_); rintro e w1 ⟨b1, p, b, rfl, hp1, hp2, hp3⟩; refine Hid.out ?_))
  refine Lib.hid ?_
  have HP := Lib.hid (And.intro b1 (And.intro hp1 (And.intro hp2 hp3)))
  clear b1 hp1 hp2 hp3
  go_wp2_with (first | (go_at_call 12; (with_reducible refine (rnew_lit _ 12 12 rfl (by omega)).mono ?_); rintro e w2 ⟨b2, q, rr, rb, rfl, hq1, hq2, hq3, hq4⟩; refine Hid.out ?_))
  refine Lib.hid ?_
  have HS := Lib.hid (St.start HP.out.1 b2 HP.out.2.1 HP.out.2.2.1 hq1 hq2 hq3 HP.out.2.2.2 hq4)
  obtain ⟨aO, capO, rfl, hO1, hO2, hO3⟩ := OpsAt.below HO.out B0.out
  have HO3 := Lib.hid hO3
  have hol : (ops.length : Int) ≤ 150 := by have := HF.out.1; omega
  clear b2 hq1 hq2 hq3 hq4 hO3
  go_wp2
  go_loopw [46] (fun i wr => ∃ j : Nat, j ≤ ops.length ∧ i = .int .i64 (j : Int) ∧ ∃ R B B', St w0 wr j p b q rr rb 12 R B B') (fun i _ => ops.length - (intOf i).toNat)
  case atStart => exact ⟨0, Nat.zero_le _, rfl, _, _, _, HS.out⟩
  case round =>
    obtain ⟨j, hj, rfl, R, B, B', hst⟩ := hrel
    by_cases hlt : j < ops.length
    · rcases HO3.out with h0 | ⟨ba, off, rfl, hb, h4⟩
      · subst h0; simp at hlt
      · obtain ⟨c0, c1, c2, c3, ⟨bv, c4, hsl⟩, wf1, wf2, hxx⟩ := h4 j hlt
        have hbel := hst.bel
        have z0 := (hbel.cell (p := ⟨ba, off + j * 5, none⟩) hb).trans c0
        have z1 := (hbel.cell (p := ⟨ba, off + j * 5 + 1, none⟩) hb).trans c1
        have z2 := (hbel.cell (p := ⟨ba, off + j * 5 + 2, none⟩) hb).trans c2
        have z3 := (hbel.cell (p := ⟨ba, off + j * 5 + 3, none⟩) hb).trans c3
        have z4 := (hbel.cell (p := ⟨ba, off + j * 5 + 4, none⟩) hb).trans c4
        have hd := do_any w0 wr j p b q rr rb 12 R B B' hst (by omega) ops[j] bv hsl hxx (by have := HF.out.2 _ (List.getElem_mem hlt); omega) wf1 wf2
        have HD := Lib.hid hd
        generalize ops[j] = o at *
        clear hd hst hbel h4 c0 c1 c2 c3 c4 hsl wf1 wf2 hxx
        go_wp2_with (first | (go_at_call 16; (with_reducible refine HD.out.mono ?_); rintro e w5 ⟨rfl, R1, B1, B1', hs5, -⟩; have HS5 := Lib.hid hs5; clear hs5))
        go_roundw
        case rel => exact ⟨j + 1, by omega, by go_num, _, _, _, HS5.out⟩
        case measure => simp [intOf]; omega
    · obtain rfl : j = ops.length := by omega
      have HM := Lib.hid hst.mem
      have BB := Lib.hid (B0.out.trans (hst.bel.mono B0.out.size))
      have hlo : w.heap.size ≤ b := Nat.le_trans B0.out.size hst.lo.2.1
      have HLo := Lib.hid hlo
      have HFw := Lib.hid (fun k => Nat.le_trans (hst.agr.few k) HF.out.1)
      have HZr := Lib.hid hst.agr.zero
      clear hst hlo
      go_wp2_with (first | (go_at_call 13; (with_reducible refine (copy_ok _ _ _ _ _ _ HM.out).mono ?_); rintro e w2 ⟨b2, p', b', rfl, hp2, hb2, hm2⟩; refine Hid.out ?_))
      refine Lib.hid ?_
      have hbl := HM.out.lt
      have hB2 := BB.out.trans (b2.mono BB.out.size)
      have hM2 := Mem.below HM.out b2
      have H2 := Lib.hid (And.intro hM2 (And.intro hm2 (And.intro hB2 (And.intro hp2 (And.intro hb2 hbl)))))
      clear b2 hp2 hb2 hm2 hM2 hbl hB2
      rcases least_or 12 R with hful | ⟨m, h1, h2, h3⟩
      · have ht := Lib.hid (take_full _ _ _ _ _ _ H2.out.1 hful)
        have hf0 := Lib.hid (free_twelve _ _ _ _ _ H2.out.1 0 (by rw [usd_full hful]; rfl))
        clear hful
        go_wp2_with (first | (go_at_call 14; (with_reducible refine ht.out.mono ?_); rintro e w6 ⟨rfl, rfl⟩) | (go_at_call 20; (with_reducible refine hf0.out.mono ?_); rintro e w7 ⟨rfl, b7⟩; have B7 := Lib.hid b7; clear b7))
        go_ret
        exact ⟨rfl, H2.out.2.2.1.trans (B7.out.mono H2.out.2.2.1.size)⟩
      · have ht := take_ok _ _ _ _ _ _ H2.out.1 m h1 h2 h3
        have hm3 := H2.out.1.setRef m 1 h1 (by omega)
        have hk3 : Kp (fun j => j = b) w2 (w2.setCell ⟨b, m * 65, none⟩ (.int .i64 1)) := Kp.set _ _ _ _ rfl
        rw [show ((1 : Nat) : Int) = 1 from rfl] at hm3
        obtain ⟨W3, hW3⟩ : ∃ W3, w2.setCell ⟨b, m * 65, none⟩ (.int .i64 1) = W3 := ⟨_, rfl⟩
        rw [hW3] at ht hm3 hk3
        have hw3 := H2.out.2.1.kept hk3 (fun e => by have := H2.out.2.2.2.1; have := H2.out.2.2.2.2.2; omega) (fun e => by have := H2.out.2.2.2.2.1; have := H2.out.2.2.2.2.2; omega)
        have hB3 := H2.out.2.2.1.trans (hk3.below H2.out.2.2.1.size (fun j e => by rw [e]; exact HLo.out))
        have hr3 := read_whole _ _ _ _ _ _ hm3 m h1 (by rw [up_same]; omega)
        have HT := Lib.hid (fl ht)
        have HR3 := Lib.hid hr3
        have H3 := Lib.hid (And.intro hm3 (And.intro hw3 (And.intro hB3 (And.intro h1 h2))))
        clear ht hm3 hk3 hw3 hB3 hr3 hW3 h1 h2 h3
        go_wp2_with (first | (go_at_call 14; (with_reducible refine HT.out.mono ?_); rintro e w6 ⟨rfl, rfl⟩) | (go_at_call 22; (with_reducible refine HR3.out.mono ?_); rintro e w4 ⟨b4, ra, rfl, ha⟩; refine Hid.out ?_))
        refine Lib.hid ?_
        have hm4 := Mem.below H3.out.1 b4
        have hw4 := Mem.below H3.out.2.1 b4
        have hB4 := H3.out.2.2.1.trans (b4.mono H3.out.2.2.1.size)
        have hzb : bts (B m) 64 = bts (fun _ => 0) 64 := bts_ext (fun i hi => HZr.out m H3.out.2.2.2.1 H3.out.2.2.2.2 i hi)
        have hsl4 := own_slcf ha
        rw [hzb] at hsl4
        obtain ⟨T, hT⟩ : ∃ T, bstr (bts (fun _ => 0) 64) = T := ⟨_, rfl⟩
        have hst : ∀ wx, Below w4.heap.size w4 wx → (convert 31 9 ra).run Try.prog wx = .ok (.string T) wx := fun wx hb => by rw [← hT]; exact slc_string (hsl4.below hb)
        have hmk := Gn.run_mkZ w4.drew
        have bz : Below w4.heap.size w4 (w4.alloc (.cells Gn.Z64 5)).drew := ((Below.refl _ _).alloc (Nat.le_refl _) _).drew
        have hsz : (convert 31 9 (.slice (some ⟨w4.heap.size, 0, none⟩) 64 64)).run Try.prog (w4.alloc (.cells Gn.Z64 5)).drew = .ok (.string T) (w4.alloc (.cells Gn.Z64 5)).drew := by
          rw [← hT]
          refine slc_string ⟨_, 64, by rw [bts_len], by rw [bts_len]; exact Nat.le_refl _, by unfold maxLen; omega, .inr ⟨w4.heap.size, 0, rfl, by simp, fun i hi => ?_⟩⟩
          rw [bts_len] at hi
          have hbz : Blk (w4.alloc (.cells Gn.Z64 5)).drew w4.heap.size Gn.Z64 5 := Blk.new w4 _ _
          rw [hbz.cell, Nat.zero_add, show Gn.Z64[i]? = some (.int .u8 0) from Go2.zero_bytes i hi]
          simp [bts, hi]
        have hf1 := free_twelve _ _ _ _ _ (Mem.below hm4 bz) ((12 : Int) - ((usd R 12).length : Int) - 1) (by rw [usd_up H3.out.2.2.2.2 12 H3.out.2.2.2.1]; omega)
        have hL := usd_len R 12
        obtain ⟨F, hF⟩ : ∃ F : Int, (12 : Int) - ((usd R 12).length : Int) = F := ⟨_, rfl⟩
        have hF0 : 0 ≤ F := by omega
        have hF12 : F ≤ 12 := by omega
        have hwF : IntKind.i64.wrap (F - 1) = F - 1 := by rw [IntKind.wrap_i64]; omega
        rw [hF] at hf1
        have HFr := Lib.hid hf1
        have HFe := Lib.hid hF
        have HSt := Lib.hid hst
        have HBz := Lib.hid bz
        have H4 := Lib.hid (And.intro hm4 (And.intro hw4 hB4))
        have b0d : Below w4.heap.size w4 w4.drew := (Below.refl _ _).drew
        have HB0 := Lib.hid b0d
        clear hm4 hw4 hB4 hzb hsl4 hst bz hf1 hF hL b4 ha b0d hT
        generalize Gn.Z64 = Z at *
        go_wp2
        go_region_held (fun w' => (convert 31 9 ra).run Try.prog w' = .ok (.string T) w') (exact HSt.out _ (by first | exact B6.out | exact B5.out | exact HBz.out | exact HB0.out)) (first | (go_at_call 20; first | ((with_reducible refine HFr.out.mono ?_); rintro e w5 ⟨rfl, b5⟩; have B5 := Lib.hid (HBz.out.trans (b5.mono HBz.out.size)); clear b5) | ((with_reducible refine (free_twelve _ _ _ _ _ (Mem.below H4.out.2.1 B5.out) F HFe.out.symm).mono ?_); rintro e w6 ⟨rfl, b6⟩; have B6 := Lib.hid (B5.out.trans (b6.mono B5.out.size)); clear b6)))
        have hB6 := H4.out.2.2.trans (B6.out.mono H4.out.2.2.size)
        have hwo : Calls Try.prog 26 #[.pointer (some ⟨p, 0, none⟩), .int .i64 (m : Int), .int .i64 0, .slice a2 xs.length cap2] w6 _ := write_ok w6 p b 12 _ _ (Mem.below H4.out.1 B6.out) m H3.out.2.2.2.1 (by rw [up_same]; omega) 0 _ xs (HSl.out.below hB6) HX.out (by have := HL.out; omega)
        have HWo := Lib.hid hwo
        have H6 := Lib.hid (And.intro (Mem.below H4.out.2.1 B6.out) hB6)
        have hHX := HX.out
        clear hwo hB6 hHX hmk hsz hF0 hF12
        go_wp2_with (first | (go_at_call 26; (with_reducible refine HWo.out.mono ?_); rintro e w7 ⟨rfl, hm7, hk7⟩; refine Hid.out ?_))
        refine Lib.hid ?_
        have hpb : ¬ (p' = b) := fun e => by have := H2.out.2.2.2.1; have := H2.out.2.2.2.2.2; omega
        have hbb : ¬ (b' = b) := fun e => by have := H2.out.2.2.2.2.1; have := H2.out.2.2.2.2.2; omega
        have HNe := Lib.hid (And.intro hpb hbb)
        have hB7 := H6.out.2.trans (hk7.below H6.out.2.size (fun j e => by rw [e]; exact HLo.out))
        have H7 := Lib.hid (And.intro hm7 (And.intro (H6.out.1.kept hk7 hpb hbb) hB7))
        clear hm7 hk7 hpb hbb hB7
        go_wp2
        go_loopw [100] (fun i wr => ∃ j : Nat, j ≤ kn ∧ i = .int .u8 (j : Int) ∧ (∃ B2, Mem wr p b 12 (up R m (1 + j)) B2) ∧ Mem wr p' b' 12 R B ∧ Below w.heap.size w wr) (fun i _ => kn - (intOf i).toNat)
        case atStart => exact ⟨0, Nat.zero_le _, rfl, ⟨_, H7.out.1⟩, H7.out.2.1, H7.out.2.2⟩
        case round =>
          obtain ⟨j, hj, rfl, ⟨B2, hm⟩, hw, hb⟩ := hrel
          by_cases hlt : j < kn
          · have hsh := share_ok _ _ _ _ _ _ hm m H3.out.2.2.2.1 (by rw [up_same]; omega)
            have hkn := HK.out
            have hm2 := hm.setRef m (1 + j + 1) H3.out.2.2.2.1 (by omega)
            rw [up_same] at hsh
            have hk1 : Kp (fun j => j = b) wr (wr.setCell ⟨b, m * 65, none⟩ (.int .i64 ((1 + j + 1 : Nat) : Int))) := Kp.set _ _ _ _ rfl
            rw [up_up] at hm2
            have HSh := Lib.hid (fl hsh)
            have HZ := Lib.hid (And.intro hm2 (And.intro (hw.kept hk1 HNe.out.1 HNe.out.2) (hb.trans (hk1.below hb.size (fun j e => by rw [e]; exact HLo.out)))))
            have hd : decide ((j : Int) < (kn : Int)) = true := decide_eq_true (by omega)
            have hjk : (j : Int) + 1 < 256 := by omega
            clear hsh hm2 hk1 hm hw hb hkn
            go_wp2_with (first | (go_at_call 25; (with_reducible refine HSh.out.mono ?_); rintro e w8 ⟨rfl, rfl⟩))
            go_roundw
            case rel => exact ⟨j + 1, by omega, by go_num, ⟨_, HZ.out.1⟩, HZ.out.2.1, HZ.out.2.2⟩
            case measure => simp [intOf]; omega
          · obtain rfl : j = kn := by omega
            have HZ := Lib.hid (And.intro (⟨_, hm⟩ : ∃ B2, Mem wr p b 12 (up R m (1 + j)) B2) (And.intro hw hb))
            clear hm hw hb
            go_wp2
            go_loopw [18] (fun i wr => ∃ t : Nat, t ≤ 1 + j ∧ i = .int .i64 ((t : Int) - 1) ∧ (∃ B2, Mem wr p b 12 (up R m t) B2) ∧ Mem wr p' b' 12 R B ∧ Below w.heap.size w wr) (fun i _ => (intOf i + 1).toNat)
            case atStart => exact ⟨1 + j, Nat.le_refl _, by congr 1; omega, HZ.out.1, HZ.out.2.1, HZ.out.2.2⟩
            case round =>
              obtain ⟨t, ht, rfl, ⟨B3, hm⟩, hw, hb⟩ := hrel
              by_cases h0 : t = 0
              · subst h0
                rw [up_id H3.out.2.2.2.2] at hm
                have HE := Lib.hid (And.intro hm (And.intro hw hb))
                have hre := refs_in _ _ _ _ _ _ hm m H3.out.2.2.2.1
                clear hm hw hb hre
                go_wp2_with (first | (go_at_call 17; first | ((with_reducible refine (used_any _ _ _ _ _ _ HE.out.1).mono ?_); rintro e w8 ⟨b8, r8, rfl, h8⟩; have B8 := Lib.hid b8; have H8 := Lib.hid h8; clear b8 h8) | ((with_reducible refine (used_any _ _ _ _ _ _ (Mem.below HE.out.2.1 B8.out)).mono ?_); rintro e w9 ⟨b9, r9, rfl, h9⟩; have B9 := Lib.hid b9; have H9 := Lib.hid h9; clear b9 h9)) | (go_at_call 18; (with_reducible refine (same_any _ _ (usd R 12) _ (own_ints (own_below H8.out B9.out)) (own_ints H9.out)).mono ?_); rintro e w10 ⟨rfl, b10⟩; have B10 := Lib.hid b10; clear b10) | (go_at_call 23; refine Hid.out ?_))
                refine Lib.hid ?_
                have hB10 := B8.out.trans ((B9.out.trans (B10.out.mono B9.out.size)).mono B8.out.size)
                have hre := refs_in _ _ _ _ _ _ (Mem.below HE.out.1 hB10) m H3.out.2.2.2.1
                rw [H3.out.2.2.2.2, Int.natCast_zero] at hre
                have HRe := Lib.hid hre
                have HBe := Lib.hid (HE.out.2.2.trans (hB10.mono HE.out.2.2.size))
                clear hre hB10
                go_wp2_with (first | (go_at_call 23; (with_reducible refine HRe.out.mono ?_); rintro e w11 ⟨rfl, rfl⟩))
                go_ret
                exact ⟨rfl, HBe.out⟩
              · have hkn := HK.out
                obtain ⟨t', rfl⟩ : ∃ t', t = t' + 1 := ⟨t - 1, by omega⟩
                have e1 : (((t' + 1 : Nat) : Int) - 1) = (t' : Int) := by omega
                rw [e1]
                have hdr : ∃ W B4, Calls Try.prog 15 #[.pointer (some ⟨p, 0, none⟩), .int .i64 (m : Int)] wr (fun e w' => e = .returned (.tuple #[.int .i64 (t' : Int), .int .i64 0]) ∧ W = w') ∧ Mem W p b 12 (up R m t') B4 ∧ Kp (fun j => j = b) wr W := by
                  cases t' with
                  | zero =>
                    have hd := drop_last _ _ _ _ _ _ hm m H3.out.2.2.2.1 (by rw [up_same])
                    have hm4 := Fo.Mem.dropped hm m H3.out.2.2.2.1
                    rw [up_up] at hm4
                    exact ⟨_, _, fl hd, hm4, (Kp.set (S := fun j => j = b) _ _ _ _ rfl).trans (Kp.sets (S := fun j => j = b) b rfl _ _ _) (fun _ h => .inl h)⟩
                  | succ r =>
                    have hd := drop_many _ _ _ _ _ _ hm m H3.out.2.2.2.1 r (by rw [up_same])
                    have hm4 := hm.setRef m (r + 1) H3.out.2.2.2.1 (by omega)
                    rw [up_up] at hm4
                    exact ⟨_, _, fl hd, hm4, Kp.set _ _ _ _ rfl⟩
                obtain ⟨W, B4, hdd, hm4, hk4⟩ := hdr
                have HDd := Lib.hid hdd
                have HZ2 := Lib.hid (And.intro (⟨_, hm4⟩ : ∃ B2, Mem W p b 12 (up R m t') B2) (And.intro (hw.kept hk4 HNe.out.1 HNe.out.2) (hb.trans (hk4.below hb.size (fun j e => by rw [e]; exact HLo.out)))))
                have hd0 : decide (0 ≤ (t' : Int)) = true := decide_eq_true (by omega)
                have ht256 : (t' : Int) ≤ 256 := by omega
                clear hdd hm4 hk4 hm hw hb e1 hkn
                go_wp2_with (first | (go_at_call 15; (with_reducible refine HDd.out.mono ?_); rintro e w8 ⟨rfl, rfl⟩))
                go_roundw
                case rel => exact ⟨t', by omega, by first | rfl | go_num, HZ2.out.1, HZ2.out.2.1, HZ2.out.2.2⟩
                case measure => simp [intOf]
end Go.Proofs.Ytompcmbaiegkaaa.Tr
namespace Go.Proofs.Ytompcmbaiegkaaa.Walk
open Go Go.RowKit Kit Ea Tr
theorem framesTraces (v : Value) (ops : List Opr) (k : Int) (vb : Value) (xs : List Nat) (W : World) (h : OpsAt W v ops) (hk : (Lit.int .u8 k).wf = true) (hs : Slc .u8 W vb xs) (hx : ∀ y ∈ xs, y < 256) :
    Calls Try.prog 5 #[v, .int .u8 k, vb] W fun e w' => e = .returned (.bool true) ∧ Below W.heap.size W w' := by
  by_cases hf : Fine ops
  · by_cases hl : xs.length ≤ 64
    · obtain ⟨kn, rfl, hkn⟩ := u8_nat hk
      exact traces_fine v ops W h hf kn hkn vb xs hs hx hl
    · exact traces_long v ops W h hf k vb xs hs (by omega)
  · exact traces_great v ops W h hf k vb xs hs
end Go.Proofs.Ytompcmbaiegkaaa.Walk
