/-
  FramesParts: the walk.
-/
import Derived.Test.YtompcmbaiegkaaaEa
namespace Go.Proofs.Ytompcmbaiegkaaa.Pa
open Go Go.RowKit Kit Fm Fo Fr Fw Fx Fy Fu Fv Gm Go2 Gr Gw Gn Da Db Dc Ea
set_option linter.unusedVariables false

theorem OpsAt.below {w w' : World} {v : Value} {ops : List Opr} (h : OpsAt w v ops) (hb : Below w.heap.size w w') : OpsAt w' v ops := by
  obtain ⟨a, cap, h1, h2, h3, h4⟩ := h
  refine ⟨a, cap, h1, h2, h3, ?_⟩
  rcases h4 with h4 | ⟨b, off, e, hlt, h5⟩
  · exact .inl h4
  · refine .inr ⟨b, off, e, Nat.lt_of_lt_of_le hlt hb.size, fun i hi => ?_⟩
    obtain ⟨c0, c1, c2, c3, ⟨bv, c4, hs⟩, r⟩ := h5 i hi
    exact ⟨(hb.cell (p := ⟨b, off + i * 5, none⟩) hlt).trans c0, (hb.cell (p := ⟨b, off + i * 5 + 1, none⟩) hlt).trans c1, (hb.cell (p := ⟨b, off + i * 5 + 2, none⟩) hlt).trans c2, (hb.cell (p := ⟨b, off + i * 5 + 3, none⟩) hlt).trans c3, ⟨bv, (hb.cell (p := ⟨b, off + i * 5 + 4, none⟩) hlt).trans c4, hs.below hb⟩, r⟩
theorem bts_add (f : Nat → Nat) (n m : Nat) : bts f (n + m) = bts f n ++ bts (fun i => f (n + i)) m := by
  unfold bts
  rw [List.range_add, List.map_append, List.map_map]
  rfl
theorem bstr_append (l r : List Nat) : bstr l ++ bstr r = bstr (l ++ r) := by
  apply ByteArray.ext
  simp [bstr, strOfNums, ByteArray.data_append]
theorem bstr_size (l : List Nat) : (bstr l).size = l.length := by unfold bstr; rw [strOfNums_size, List.length_map]

set_option maxRecDepth 100000 in
set_option maxHeartbeats 2000000 in
theorem parts_great (v : Value) (ops : List Opr) (w : World) (h : OpsAt w v ops) (hf : ¬ Fine ops) (x : Opr) (bv : Value) (cut : Int) :
    Calls Try.prog 9 #[v, .agg #[.int .i64 x.kind, .int .i64 x.k, .int .i64 x.off, .int .i64 x.n, bv], .int .u8 cut] w fun e w' => e = .returned (.bool true) ∧ Below w.heap.size w w' := by
  obtain ⟨kind, k, off, m, xs⟩ := x
  obtain ⟨wb, hwb⟩ : ∃ wb, w.alloc (.cells #[.int .i64 kind, .int .i64 k, .int .i64 off, .int .i64 m, bv] 33) = wb := ⟨_, rfl⟩
  have hb : Below w.heap.size w wb := by rw [← hwb]; exact (Below.refl _ _).alloc (Nat.le_refl _) _
  have HO := Lib.hid (OpsAt.below h hb)
  have HB := Lib.hid hb
  clear h hb
  go_enter Try.func9, Try.ntmps9
  go_wp2_with (first | (go_at_call 28; (with_reducible refine (alive_any _).mono ?_); rintro e w1 ⟨rfl, b1⟩; have B1 := Lib.hid b1; clear b1) | (go_at_call 10; (with_reducible refine (great_any _ ops _ (OpsAt.below HO.out B1.out) hf).mono ?_); rintro e w2 ⟨rfl, rfl⟩))
  go_ret
  exact ⟨rfl, HB.out.trans (B1.out.mono HB.out.size)⟩

set_option maxRecDepth 100000 in
set_option maxHeartbeats 4000000 in
theorem parts_fine (v : Value) (ops : List Opr) (w : World) (h : OpsAt w v ops) (hf : Fine ops) (x : Opr) (bv : Value) (cut : Int) (ho : (Lit.int .i64 x.off).wf = true) (hm : (Lit.int .i64 x.n).wf = true) (hc : (Lit.int .u8 cut).wf = true) :
    Calls Try.prog 9 #[v, .agg #[.int .i64 x.kind, .int .i64 x.k, .int .i64 x.off, .int .i64 x.n, bv], .int .u8 cut] w fun e w' => e = .returned (.bool true) ∧ Below w.heap.size w w' := by
  obtain ⟨kind, k, off, m, xs⟩ := x
  dsimp only at ho hm ⊢
  obtain ⟨ct, rfl, hct⟩ := u8_nat hc
  obtain ⟨wb, hwb⟩ : ∃ wb, w.alloc (.cells #[.int .i64 kind, .int .i64 k, .int .i64 off, .int .i64 m, bv] 33) = wb := ⟨_, rfl⟩
  have hb : Below w.heap.size w wb := by rw [← hwb]; exact (Below.refl _ _).alloc (Nat.le_refl _) _
  have hbx : Blk wb w.heap.size #[.int .i64 kind, .int .i64 k, .int .i64 off, .int .i64 m, bv] 33 := by rw [← hwb]; exact Blk.new _ _ _
  have HO := Lib.hid (OpsAt.below h hb)
  have HB := Lib.hid hb
  have HX := Lib.hid hbx
  have HF := Lib.hid hf
  have HWf := Lib.hid (And.intro ho hm)
  have HCt := Lib.hid hct
  clear h hb hbx hf ho hm hc hct
  go_enter Try.func9, Try.ntmps9
  go_wp2_with (first | (go_at_call 28; (with_reducible refine (alive_any _).mono ?_); rintro e w1 ⟨rfl, b1⟩; have B1 := Lib.hid b1; clear b1) | (go_at_call 10; (with_reducible refine (great_fine _ ops _ (OpsAt.below HO.out B1.out) HF.out).mono ?_); rintro e w2 ⟨rfl, rfl⟩) | (go_at_call 29; (with_reducible refine (grown_any _ ops _ (OpsAt.below HO.out B1.out) HF.out).mono ?_); rintro e w2 ⟨p, b, q, rr, rb, R, B, B', rfl, hs⟩; refine Hid.out ?_))
  refine Lib.hid ?_
  have hbx2 := (HX.out.below B1.out).below hs.bel
  have x1 := hbx2.cell 1
  have x2 := hbx2.cell 2
  have x3 := hbx2.cell 3
  have HX2 := Lib.hid hbx2
  have HM := Lib.hid hs.mem
  have BB := Lib.hid (HB.out.trans ((B1.out.trans (hs.bel.mono B1.out.size)).mono HB.out.size))
  clear hs hbx2
  by_cases hk : rf 12 R k = 0
  · have hr := read_no w2 p b 12 R B HM.out k off m hk
    have HR := Lib.hid hr
    clear hr hk
    go_wp2_with (first | (go_at_call 22; (with_reducible refine HR.out.mono ?_); rintro e w3 ⟨rfl, rfl⟩))
    go_ret
    exact ⟨rfl, BB.out⟩
  obtain ⟨j, rfl, hj, hjr⟩ := rf_pos hk
  clear hk
  by_cases hf : 0 ≤ off ∧ 0 ≤ m ∧ off + m ≤ 64
  · obtain ⟨o, rfl⟩ := Int.eq_ofNat_of_zero_le hf.1
    obtain ⟨l, rfl⟩ := Int.eq_ofNat_of_zero_le hf.2.1
    have hol : o + l ≤ 64 := by omega
    have hol2 : (o : Int) + (l : Int) ≤ 64 := by omega
    have hr := read_ok w2 p b 12 R B HM.out j hj hjr o l hol
    have HR := Lib.hid hr
    have HJ := Lib.hid (And.intro hj hjr)
    have HOL := Lib.hid hol
    have d0 : decide ((l : Int) < 0) = false := decide_eq_false (by omega)
    clear hr hf hj hjr hol
    go_wp2_with (first | (go_at_call 22; (with_reducible refine HR.out.mono ?_); rintro e w3 ⟨b3, r1, rfl, h3⟩; refine Hid.out ?_))
    refine Lib.hid ?_
    obtain ⟨ad1, cap1, rfl⟩ := Gn.row_form h3
    obtain ⟨n, hn⟩ : ∃ n : Nat, ct % (l + 1) = n := ⟨_, rfl⟩
    have hnl : n ≤ l := by rw [← hn]; exact Nat.le_of_lt_succ (Nat.mod_lt _ (by omega))
    have hrem : (ct : Int).tmod ((l : Int) + 1) = (n : Int) := by
      rw [← hn]
      rfl
    have hm3 := Mem.below HM.out b3
    have hr2 := Lib.hid (read_ok w3 p b 12 R B hm3 j HJ.out.1 HJ.out.2 o n (by have := HOL.out; omega))
    have hbx3 := HX2.out.below b3
    have y1 := hbx3.cell 1
    have y2 := hbx3.cell 2
    have y3 := hbx3.cell 3
    have HX3 := Lib.hid hbx3
    have HM3 := Lib.hid hm3
    have H3 := Lib.hid (And.intro h3 b3)
    have HN := Lib.hid hnl
    clear h3 b3 hbx3 hm3 hn hnl
    have hwr : wrap64 (ct : Int) = (ct : Int) := IntWalk.wrap64_in _ (by have := HCt.out; omega)
    have hn64 : (n : Int) ≤ 64 := by have := HN.out; have := HOL.out; omega
    go_wp2_with (first | (go_at_call 22; (with_reducible refine hr2.out.mono ?_); rintro e w4 ⟨b4, r2, rfl, h4⟩; refine Hid.out ?_))
    refine Lib.hid ?_
    have hm4 := Mem.below HM3.out b4
    have hbx4 := HX3.out.below b4
    have z1 := hbx4.cell 1
    have z2 := hbx4.cell 2
    have z3 := hbx4.cell 3
    have hr3 := read_ok w4 p b 12 R B hm4 j HJ.out.1 HJ.out.2 (o + n) (l - n) (by have := HOL.out; have := HN.out; omega)
    have e1 : ((o + n : Nat) : Int) = (o : Int) + (n : Int) := by omega
    have e2 : ((l - n : Nat) : Int) = (l : Int) - (n : Int) := by have := HN.out; omega
    rw [e1, e2] at hr3
    have HR3 := Lib.hid hr3
    have H4 := Lib.hid (And.intro h4 b4)
    have hln : (l : Int) - (n : Int) ≤ 64 := by omega
    have hln0 : 0 ≤ (l : Int) - (n : Int) := by have := HN.out; omega
    clear hr3 h4 b4 hm4 hbx4 e1 e2
    go_wp2_with (first | (go_at_call 22; (with_reducible refine HR3.out.mono ?_); rintro e w5 ⟨b5, r3, rfl, h5⟩; refine Hid.out ?_))
    refine Lib.hid ?_
    have k4 := own_below H4.out.1 b5
    have k3 := own_below (own_below H3.out.1 H4.out.2) b5
    have s1 := slc_string (own_slcf k3)
    have s2 := slc_string (own_slcf k4)
    have s3 := slc_string (own_slcf h5)
    have hcat : bstr (bts (fun i => B j (o + i)) n) ++ bstr (bts (fun i => B j (o + n + i)) (l - n)) = bstr (bts (fun i => B j (o + i)) l) := by
      rw [bstr_append]
      have := bts_add (fun i => B j (o + i)) n (l - n)
      rw [show n + (l - n) = l by have := HN.out; omega] at this
      rw [this]
      simp only [Nat.add_assoc]
    have hsz : ¬ 9223372036854775807 < (bstr (bts (fun i => B j (o + i)) n)).size + (bstr (bts (fun i => B j (o + n + i)) (l - n))).size := by
      rw [bstr_size, bstr_size, bts_len, bts_len]; have := HN.out; have := HOL.out; omega
    generalize bstr (bts (fun i => B j (o + i)) n) = S1 at *
    generalize bstr (bts (fun i => B j (o + n + i)) (l - n)) = S2 at *
    generalize bstr (bts (fun i => B j (o + i)) l) = S3 at *
    have BE := Lib.hid (BB.out.trans ((H3.out.2.trans ((H4.out.2.trans (b5.mono H4.out.2.size)).mono H3.out.2.size)).mono BB.out.size))
    clear b5 h5 k4 k3
    go_wp2
    go_ret
    exact ⟨rfl, BE.out⟩
  · have hr := read_arg w2 p b 12 R B HM.out j hj hjr off m HWf.out.1 HWf.out.2 hf
    have HR := Lib.hid hr
    clear hr hf
    go_wp2_with (first | (go_at_call 22; (with_reducible refine HR.out.mono ?_); rintro e w3 ⟨rfl, rfl⟩))
    go_ret
    exact ⟨rfl, BB.out⟩
end Go.Proofs.Ytompcmbaiegkaaa.Pa
namespace Go.Proofs.Ytompcmbaiegkaaa.Walk
open Go Go.RowKit Kit Ea Pa
theorem framesParts (v : Value) (ops : List Opr) (x : Opr) (bv : Value) (cut : Int) (W : World) (h : OpsAt W v ops) (_ : Slc .u8 W bv x.xs) (ho : (Lit.int .i64 x.off).wf = true) (hm : (Lit.int .i64 x.n).wf = true) (_ : ∀ y ∈ x.xs, y < 256) (hc : (Lit.int .u8 cut).wf = true) :
    Calls Try.prog 9 #[v, .agg #[.int .i64 x.kind, .int .i64 x.k, .int .i64 x.off, .int .i64 x.n, bv], .int .u8 cut] W fun e w' => e = .returned (.bool true) ∧ Below W.heap.size W w' := by
  by_cases hf : Fine ops
  · exact parts_fine v ops W h hf x bv cut ho hm hc
  · exact parts_great v ops W h hf x bv cut
end Go.Proofs.Ytompcmbaiegkaaa.Walk
