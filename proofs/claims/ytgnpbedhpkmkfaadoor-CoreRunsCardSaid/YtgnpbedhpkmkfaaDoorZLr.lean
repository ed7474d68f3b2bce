/-
  CoreRuns' walk.
-/
import Derived.Test.YtgnpbedhpkmkfaaDoorZLs
import Derived.Test.YtgnpbedhpkmkfaaDoorZRw
namespace Go.Proofs.YtgnpbedhpkmkfaaDoor.Walk
open Go Go.RowKit Kit Bk CoM CoR CoB CoC CoW CoI CoE CoY Bytes3 Sta Sm Ps RfA RfE RfJ IsaT IsaC Ru Rw
set_option linter.unusedVariables false
attribute [local go_sem ↓] ldc_wrap stc_wrap app_wrap lds_wrap

/-- What the law's loop holds. -/
def Mid (s : St) (b : CoM.Bs) (cnt : Nat) (x : St) (k : Nat) (t : Int) (b' : CoM.Bs) : Prop :=
  (∀ j, j ≤ k → (sq s b j).2.1 = 0) ∧ ((t = 0 ∧ x = (sq s b k).1 ∧ b' = (sq s b k).2.2) ∨ (k < cnt ∧ t ≠ 0 ∧ t = (sq s b (k + 1)).2.1 ∧ x = (sq s b (k + 1)).1 ∧ b' = (sq s b (k + 1)).2.2))
section
variable {s x : St} {b b' : CoM.Bs} {cnt k : Nat} {t : Int}
theorem Mid.start (s : St) (b : CoM.Bs) (cnt : Nat) : Mid s b cnt s 0 0 b := ⟨fun j hj => by
  obtain rfl : j = 0 := by omega
  rfl, .inl ⟨rfl, rfl, rfl⟩⟩
theorem Mid.trap (h : Mid s b cnt x k t b') (hk : k ≤ cnt) (ht : t ≠ 0) : Rw.Ends s b cnt x k t b' := by
  obtain ⟨h1, h2 | ⟨h2, h3, h4, h5, h6⟩⟩ := h
  · exact absurd h2.1 ht
  · exact ⟨hk, h1, .inr ⟨h2, by rw [← h4]; exact h3, h5, h4, h6⟩⟩
theorem Mid.full (h : Mid s b cnt x k t b') (hk : k = cnt) : Rw.Ends s b cnt x k t b' := by
  obtain ⟨h1, ⟨h2, h3, h4⟩ | h2⟩ := h
  · exact ⟨Nat.le_of_eq hk, h1, .inl ⟨hk, h3, h2, h4⟩⟩
  · exact absurd h2.1 (by omega)
theorem Mid.on (h : Mid s b cnt x k 0 b') (h0 : (stepP x b').2.1 = 0) : Mid s b cnt (stepP x b').1 (k + 1) 0 (stepP x b').2.2 := by
  obtain ⟨h1, ⟨h2, rfl, rfl⟩ | h2⟩ := h
  · exact ⟨fun j hj => by
      by_cases e : j ≤ k
      · exact h1 j e
      · obtain rfl : j = k + 1 := by omega
        exact h0, .inl ⟨rfl, rfl, rfl⟩⟩
  · exact absurd rfl h2.2.1
theorem Mid.off (h : Mid s b cnt x k 0 b') (hk : k < cnt) (h0 : (stepP x b').2.1 ≠ 0) : Mid s b cnt (stepP x b').1 k (stepP x b').2.1 (stepP x b').2.2 := by
  obtain ⟨h1, ⟨h2, rfl, rfl⟩ | h2⟩ := h
  · exact ⟨h1, .inr ⟨hk, h0, rfl, rfl, rfl⟩⟩
  · exact absurd rfl h2.2.1
end
theorem word_put4 (b : CoM.Bs) (a v : Nat) (hv : v < 4294967296) (h : a + 4 ≤ b.length) : wordAt (put4 b a v) a = v := by
  have e : ∀ i, i < 4 → at_ (put4 b a v) (a + i) = (bs v)[i]?.getD 0 := fun i hi => by
    rw [put4_wr b a v h, wrL_at _ _ _ (by simpa [bs] using h), if_pos ⟨by omega, by simp [bs]; omega⟩]
    congr 2
    omega
  unfold wordAt
  have e0 := e 0 (by decide)
  have e1 := e 1 (by decide)
  have e2 := e 2 (by decide)
  have e3 := e 3 (by decide)
  rw [Nat.add_zero] at e0
  rw [e0, e1, e2, e3]
  simp [bs, b0, b1, b2, b3]
  omega
theorem byte_put1 (b : CoM.Bs) (a v : Nat) (h : a < b.length) : at_ (put1 b a v) a = v % 256 := by
  unfold put1
  rw [at_set _ _ _ _ h, if_pos rfl]

set_option maxRecDepth 100000 in
set_option maxHeartbeats 8000000 in
theorem coreRuns (x : Sta) (v : Value) (xs : List Nat) (most av nv : Int) (w : World) (hx : x.Ok) (hs : Slc .u8 w v xs) (hb : ∀ y ∈ xs, y < 256) (hm : (Lit.int .i64 most).wf = true) (ha : (Lit.int .u32 av).wf = true) (hn : (Lit.int .u32 nv).wf = true) (hT : Tabs w) :
    Calls Tryd.prog 4 #[sv x, v, .int .i64 most, .int .u32 av, .int .u32 nv] w fun e w' => e = .returned (.bool true) ∧ Below w.heap.size w w' := by
  obtain ⟨av, rfl, hav⟩ := u32_nat ha
  obtain ⟨nv, rfl, hnv⟩ := u32_nat hn
  have hmb : -9223372036854775808 ≤ most ∧ most ≤ 9223372036854775807 := by simpa [Lit.wf, IntKind.min, IntKind.max, IntKind.signed, IntKind.bits] using hm
  have HS := hs
  obtain ⟨va, vcap, rfl, hvc, hvm, hvr⟩ := hs
  have hlm : xs.length ≤ maxLen := by omega
  unfold maxLen at hlm
  clear hvc hvm hvr hm ha hn
  have B1 := (Below.refl w.heap.size w).alloc (Nat.le_refl _) (.cells (svs x).toArray 25)
  by_cases hlen : 2000 < xs.length
  · clear hb HS hT
    go_enter Tryd.func4, Tryd.ntmps4
    go_wp2
    go_ret
    exact ⟨rfl, B1⟩
  by_cases hmost : 200 < most
  · have hl1 : ((xs.length : Nat) : Int) ≤ 2000 := by omega
    clear hb HS hT
    go_enter Tryd.func4, Tryd.ntmps4
    go_wp2
    go_ret
    exact ⟨rfl, B1⟩
  have hl1 : ((xs.length : Nat) : Int) ≤ 2000 := by omega
  have hmost1 : most ≤ 200 := by omega
  obtain ⟨cnt, hcnt, hc200⟩ : ∃ cnt : Nat, (most = (cnt : Int) ∨ (most ≤ 0 ∧ cnt = 0)) ∧ cnt ≤ 200 := by
    by_cases h : 0 ≤ most
    · exact ⟨most.toNat, .inl (by omega), by omega⟩
    · exact ⟨0, .inr ⟨by omega, rfl⟩, by omega⟩
  have hok := stOf_ok hx
  have HC := Lib.hid (fun wx => cpu_any x wx)
  have hld : (ldS (.pointer (some ⟨w.heap.size, 0, none⟩))).run Tryd.prog (w.alloc (.cells (svs x).toArray 25)) = .ok (sv x) (w.alloc (.cells (svs x).toArray 25)) :=
    run_loadAt_mid (P := Tryd.prog) _ w.heap.size 0 25 (svs x) _ (fun j v hj => by rw [Nat.zero_add, (Blk.new w _ _).cell, ← hj]; simp) Tryd.underlying25 rfl (by kernel_rfl)
  have HCN := Lib.hid hcnt
  clear hcnt
  go_enter Tryd.func4, Tryd.ntmps4
  go_wp2_with (first | (go_at_call 9; (with_reducible refine (HC.out _).mono ?_); rintro e w1 ⟨rfl, hb1⟩; refine Hid.out ?_))
  refine Lib.hid ?_
  have D1 := B1.trans (hb1.mono B1.size)
  have E1 := Blk.new w1 zcs 30
  have h1 := run_stC E1 rfl (cs_size (stOf x)) (cs_one _)
  have C2 := CoC.Blk.setAll E1 (ds := cs (stOf x)) rfl
  have D2 := below_all w1.heap.size D1.size (cs (stOf x)).toList 0 (D1.alloc D1.size (.cells zcs 30))
  have sz2 : (World.setCells (w1.alloc (.cells zcs 30)) w1.heap.size 0 (cs (stOf x)).toList).heap.size = w1.heap.size + 1 := by rw [size_sets, World.size_alloc]
  obtain ⟨w2, hw2⟩ : ∃ w2, World.setCells (w1.alloc (.cells zcs 30)) w1.heap.size 0 (cs (stOf x)).toList = w2 := ⟨_, rfl⟩
  rw [hw2] at h1 C2 D2 sz2
  have SZ2 := Lib.hid sz2
  clear sz2
  clear hw2 E1
  have l2 := run_ldC C2 (cs_size _)
  have E2 := Blk.new w2 zcs 30
  have h2 := run_stC E2 rfl (cs_size (stOf x)) (cs_one _)
  have C3 := CoY.Blk.otherAll (C2.below ((Below.refl _ _).alloc (Nat.le_refl _) (.cells zcs 30))) (g := w2.heap.size) (by have := SZ2.out; omega) (cs (stOf x)).toList 0
  have DD3 := CoC.Blk.setAll E2 (ds := cs (stOf x)) rfl
  have D3 := below_all w2.heap.size D2.size (cs (stOf x)).toList 0 (D2.alloc D2.size (.cells zcs 30))
  have sz3 : (World.setCells (w2.alloc (.cells zcs 30)) w2.heap.size 0 (cs (stOf x)).toList).heap.size = w2.heap.size + 1 := by rw [size_sets, World.size_alloc]
  obtain ⟨w3, hw3⟩ : ∃ w3, World.setCells (w2.alloc (.cells zcs 30)) w2.heap.size 0 (cs (stOf x)).toList = w3 := ⟨_, rfl⟩
  rw [hw3] at h2 C3 DD3 D3 sz3
  have SZ3 := Lib.hid sz3
  clear sz3
  clear hw3 E2 C2
  obtain ⟨w4, B1', ad1, cap1, h4, L1, hcp1, hB1, hB1', D4⟩ := copy_in w3 _ xs (HS.below D3) hb (by omega)
  have C4 := C3.below D4
  have DD4 := DD3.below D4
  have D4' := D3.trans (D4.mono D3.size)
  have M5 := Blk.new w4 #[sl ad1 xs cap1] 34
  have dm := (Below.refl w4.heap.size w4).alloc (Nat.le_refl _) (.cells #[sl ad1 xs cap1] 34)
  have D5 := D4'.alloc D4'.size (.cells #[sl ad1 xs cap1] 34)
  obtain ⟨w6, B2', ad2, cap2, h6, L2, hcp2, hB2, hB2', D6⟩ := copy_in (w4.alloc (.cells #[sl ad1 xs cap1] 34)) _ xs (HS.below D5) hb (by omega)
  have D6' := D5.trans (D6.mono D5.size)
  have I0 : Inv w1.heap.size w2.heap.size w4.heap.size B1' B2' ad1 ad2 cap1 cap2 (stOf x) (stOf x) xs xs w6 := ⟨(C4.below dm).below D6, (DD4.below dm).below D6, M5.below D6, Lies.below (Lies.below L1 dm) D6, L2, hcp1, hcp2, by have := hB2; simp only [World.size_alloc] at this; have := SZ2.out; have := SZ3.out; omega⟩
  simp only [World.size_alloc] at h6
  have hCw : w.heap.size ≤ w1.heap.size := D1.size
  clear D1 D2 D3 D4 D4' D5 D6 M5 dm C3 C4 DD3 DD4 L1 L2 hb1 HS hb B1 hld HC
  have HM0 := Lib.hid (Mid.start (stOf x) xs cnt)
  obtain ⟨s0, hs0⟩ : ∃ s0, stOf x = s0 := ⟨_, rfl⟩
  rw [hs0] at HM0 I0 hok h1 h2 l2
  rw [hs0]
  clear hs0
  go_wp2
  go_loopw [15, 16] (fun i e wr => ∃ (k : Nat) (tr : Int) (s : St) (bs : CoM.Bs), i = .int .i64 (k : Int) ∧ e = .int .i64 tr ∧ k ≤ cnt ∧ bs.length = xs.length ∧ s.Ok ∧ Inv w1.heap.size w2.heap.size w4.heap.size B1' B2' ad1 ad2 cap1 cap2 s0 s xs bs wr ∧ Below w.heap.size w wr ∧ Mid s0 xs cnt s k tr bs) (fun i e _ => if intOf e = 0 then 201 - (intOf i).toNat else 0)
  case atStart => exact ⟨0, 0, s0, xs, rfl, rfl, Nat.zero_le _, rfl, hok, I0, D6', HM0.out⟩
  case round =>
    obtain ⟨k, tr0, s, bs, rfl, rfl, hk, hln, hsok, I, DW, hmid⟩ := hrel
    have HLN := Lib.hid (show sl ad2 bs cap2 = sl ad2 xs cap2 by unfold sl; rw [hln])
    have HLL := Lib.hid hln
    clear hln
    clear I0 D6' h1 h2 l2 h4 h6 hcp1 hcp2 HM0
    have DWH := Lib.hid DW
    have hord := I.o
    have HORD := Lib.hid hord
    have hB1n : w.heap.size ≤ B1' := by omega
    have hB2n : w.heap.size ≤ B2' := by omega
    have HB1N := Lib.hid hB1n
    have HB2N := Lib.hid hB2n
    have HCW := Lib.hid hCw
    have HMD := Lib.hid hmid
    clear hord hB1 hB1' hB2 hB2' hB1n hB2n hCw DW hmid
    have HI := Lib.hid I
    clear I
    have hk0 : (0 : Int) ≤ (k : Int) := by omega
    by_cases hlt : (k : Int) < most
    · have d : decide ((k : Int) < most) = true := decide_eq_true hlt
      have hkc : k < cnt := by rcases HCN.out with h | h <;> omega
      by_cases htr0 : (tr0 == 0) = true
      · obtain rfl : tr0 = 0 := by simpa using htr0
        clear htr0
        have l8 := run_ldC HI.out.d (cs_size s)
        obtain ⟨s', hs'⟩ : ∃ s', (stepP s bs).1 = s' := ⟨_, rfl⟩
        obtain ⟨tr, htr⟩ : ∃ tr, (stepP s bs).2.1 = tr := ⟨_, rfl⟩
        obtain ⟨b', hb'⟩ : ∃ b', (stepP s bs).2.2 = b' := ⟨_, rfl⟩
        have HON : Hid (tr = 0 → Mid s0 xs cnt s' (k + 1) 0 b') := Lib.hid (fun h => by
          have := HMD.out.on (by rw [htr]; exact h)
          rw [hs', hb'] at this
          exact this)
        have HOFF : Hid (tr ≠ 0 → Mid s0 xs cnt s' k tr b') := Lib.hid (fun h => by
          have := HMD.out.off hkc (by rw [htr]; exact h)
          rw [hs', hb', htr] at this
          exact this)
        have hlb : b'.length = bs.length := by rw [← hb']; exact step_len s bs
        have hsok' : s'.Ok := by rw [← hs']; exact step_ok hsok HI.out.l2.small
        have HSB : Hid (∀ wx, Lies wx B2' ad2 cap2 bs → B2' < wx.heap.size → Calls Tryd.prog 13 #[.agg (cs s), sl ad2 xs cap2] wx fun e w' => e = .returned (.tuple #[.agg (cs s'), .int .i64 tr]) ∧ Wrote wx B2' ad2 cap2 b' w') := Lib.hid (fun wx hl hbx => by
          have := rstep_any wx B2' ad2 cap2 bs hl hbx s hsok
          rw [hs', htr, hb', HLN.out] at this
          exact this)
        clear hs' htr hb'
        go_wp2_with (first | (go_at_call 13; (with_reducible refine (HSB.out _ HI.out.l2 (by have := HI.out.o; omega)).mono ?_); rintro e wd ⟨rfl, hwd⟩; refine Hid.out ?_))
        refine Lib.hid ?_
        have HIe := Lib.hid (HI.out.w2 hlb hwd)
        have DWe := Lib.hid (below_wrote DWH.out hwd HB2N.out DWH.out.size)
        clear hwd l8
        have Q1 := Blk.new wd zcs 30
        have h1 := run_stC Q1 rfl (cs_size s') (cs_one _)
        have Q2 := CoC.Blk.setAll Q1 (ds := cs s') rfl
        have bc := below_all wd.heap.size (Nat.le_refl _) (cs s').toList 0 ((Below.refl wd.heap.size wd).alloc (Nat.le_refl _) (.cells zcs 30))
        obtain ⟨we, hwe⟩ : ∃ we, World.setCells (wd.alloc (.cells zcs 30)) wd.heap.size 0 (cs s').toList = we := ⟨_, rfl⟩
        rw [hwe] at h1 Q2 bc
        have HIf := Lib.hid (HIe.out.below bc)
        have DWf := Lib.hid (DWe.out.trans (bc.mono DWe.out.size))
        have l9 := run_ldC Q2 (cs_size s')
        have h2 := run_stC HIf.out.d (cs_size s) (cs_size s') (cs_one _)
        have I9 := HIf.out.setD s'
        have D9 := below_all w2.heap.size (by have := HCW.out; have := HORD.out; omega) (cs s').toList 0 DWf.out
        obtain ⟨w9, hw9⟩ : ∃ w9, World.setCells we w2.heap.size 0 (cs s').toList = w9 := ⟨_, rfl⟩
        rw [hw9] at h2 I9 D9
        have HI9 := Lib.hid I9
        have HD9 := Lib.hid D9
        have HKC := Lib.hid hkc
        have HLB := Lib.hid hlb
        clear Q1 Q2 hwe bc hw9 I9 D9 hlb
        by_cases ht : (tr == 0) = true
        · obtain rfl : tr = 0 := by simpa using ht
          clear ht
          go_wp2
          go_roundw
          case rel => exact ⟨k + 1, 0, s', b', by go_num, rfl, HKC.out, HLB.out.trans HLL.out, hsok', HI9.out, HD9.out, HON.out rfl⟩
          case measure => have := HKC.out; simp [intOf]; omega
        · have ht' : (tr == 0) = false := by simpa using ht
          have hne : tr ≠ 0 := by simpa using ht
          have HNE := Lib.hid hne
          clear ht hne
          go_wp2
          go_roundw
          case rel => exact ⟨k, tr, s', b', rfl, rfl, Nat.le_of_lt HKC.out, HLB.out.trans HLL.out, hsok', HI9.out, HD9.out, HOFF.out HNE.out⟩
          case measure => have := HKC.out; have h := HNE.out; simp [intOf, h]; omega
      · have ht' : (tr0 == 0) = false := by simpa using htr0
        have hE := HMD.out.trap hk (by simpa using htr0)
        clear htr0
        have HE := Lib.hid hE
        have HR : Hid (Calls Tryd.prog 15 #[.agg (cs s0), mv w4.heap.size, .int .i64 most] wr fun e w' => e = .returned (.tuple #[.agg (cs s), .int .i64 (k : Int), .int .i64 tr0]) ∧ Wrote wr B1' ad1 cap1 bs w') := Lib.hid (by
          have hr := run_any w wr hT DWH.out w4.heap.size B1' ad1 cap1 xs HI.out.m HI.out.l1 (by have := HORD.out; omega) (by have := HI.out.o; omega) HB1N.out s0 hok most cnt HCN.out (by omega)
          refine hr.mono ?_
          rintro e w' ⟨y, k', t', c', hE', he, hw⟩
          obtain ⟨rfl, rfl, rfl, rfl⟩ := hE'.det HE.out
          exact ⟨he, hw⟩)
        have hmi := mki
        have l7 := run_ldC HI.out.c (cs_size s0)
        clear hE
        go_wp2_with (first | (go_at_call 15; (with_reducible refine HR.out.mono ?_); rintro e wd ⟨rfl, hwd⟩; refine Hid.out ?_))
        refine Lib.hid ?_
        have HIe := Lib.hid (HI.out.w1 HLL.out hwd)
        have DWe := Lib.hid (below_wrote DWH.out hwd HB1N.out DWH.out.size)
        clear hwd l7 hmi HR
        have Q1 := Blk.new wd zcs 30
        have h1 := run_stC Q1 rfl (cs_size s) (cs_one _)
        have Q2 := CoC.Blk.setAll Q1 (ds := cs s) rfl
        have bc := below_all wd.heap.size (Nat.le_refl _) (cs s).toList 0 ((Below.refl wd.heap.size wd).alloc (Nat.le_refl _) (.cells zcs 30))
        obtain ⟨we, hwe⟩ : ∃ we, World.setCells (wd.alloc (.cells zcs 30)) wd.heap.size 0 (cs s).toList = we := ⟨_, rfl⟩
        rw [hwe] at h1 Q2 bc
        have HIf := Lib.hid (HIe.out.below bc)
        have DWf := Lib.hid (DWe.out.trans (bc.mono DWe.out.size))
        have HQ := Lib.hid Q2
        clear Q1 Q2 hwe bc
        go_wp2
        obtain ⟨T, hTT⟩ : ∃ T, bstr bs = T := ⟨_, rfl⟩
        have HSt := Lib.hid (fun wx (hb : Below we.heap.size we wx) => (show (ldC (.pointer (some ⟨wd.heap.size, 0, none⟩))).run Tryd.prog wx = .ok (.agg (cs s)) wx ∧ (ldC (.pointer (some ⟨w2.heap.size, 0, none⟩))).run Tryd.prog wx = .ok (.agg (cs s)) wx ∧ wx.cell? ⟨w4.heap.size, 0, none⟩ = some (sl ad1 bs cap1) ∧ (convert 26 9 (sl ad1 bs cap1)).run Tryd.prog wx = .ok (.string T) wx ∧ (convert 26 9 (sl ad2 xs cap2)).run Tryd.prog wx = .ok (.string T) wx from
          ⟨run_ldC (HQ.out.below hb) (cs_size _), run_ldC (HIf.out.below hb).d (cs_size _), (HIf.out.below hb).m.cell 0, by rw [← hTT]; exact slc_string (lies_slc (HIf.out.below hb).l1 HIf.out.cp1), by rw [← hTT, ← HLN.out]; exact slc_string (lies_slc (HIf.out.below hb).l2 HIf.out.cp2)⟩))
        have HSM := Lib.hid (fun wx => same_any s hsok wx)
        have B0 := (Below.refl we.heap.size we).drew
        clear hTT h1
        go_region_held (fun wx => (ldC (.pointer (some ⟨wd.heap.size, 0, none⟩))).run Tryd.prog wx = .ok (.agg (cs s)) wx ∧ (ldC (.pointer (some ⟨w2.heap.size, 0, none⟩))).run Tryd.prog wx = .ok (.agg (cs s)) wx ∧ wx.cell? ⟨w4.heap.size, 0, none⟩ = some (sl ad1 bs cap1) ∧ (convert 26 9 (sl ad1 bs cap1)).run Tryd.prog wx = .ok (.string T) wx ∧ (convert 26 9 (sl ad2 xs cap2)).run Tryd.prog wx = .ok (.string T) wx) (first | exact HSt.out _ B7 | exact HSt.out _ B0 | go_keep) ((go_at_call 14; (with_reducible refine (HSM.out _).mono ?_); rintro e w7 ⟨rfl, hb7⟩; have B7 := B0.trans hb7))
        have I7 := HIf.out.below B7
        have DW7 := DWf.out.trans (B7.mono DWf.out.size)
        have HI7 := Lib.hid I7
        have HD7 := Lib.hid DW7
        have hln := HLL.out
        have hln1 := HLL.out
        clear I7 DW7 B7 B0 hb7 HSM HSt
        by_cases hfour : av + 4 ≤ xs.length
        · have d4 : decide ((av : Int) + 4 ≤ ((xs.length : Nat) : Int)) = true := decide_eq_true (by omega)
          have d1 : decide ((av : Int) < ((xs.length : Nat) : Int)) = true := decide_eq_true (by omega)
          have q1 : Hid (Calls Tryd.prog 16 #[pm w4.heap.size, .int .u32 (av : Int)] w7 fun e w' => e = .returned (.tuple #[.int .u8 ((at_ bs av : Nat) : Int), .bool true]) ∧ w7 = w') := Lib.hid (by
            have h := byte_yes w7 w4.heap.size B1' ad1 cap1 bs HI7.out.m HI7.out.l1 av hav (by have := HI7.out.l1.le; have e1 := put1_len bs av 7; have e2 := put4_len bs av nv; have e3 := put1_len (put4 bs av nv) av 7; omega)
            exact h)
          have q2 := Lib.hid (setWord_yes w7 w4.heap.size B1' ad1 cap1 bs HI7.out.m HI7.out.l1 av hav nv hnv (by omega))
          obtain ⟨hbw, hcb, cw, fw, ltw⟩ := Lies.at_cell HI7.out.l2 (i := av) (by omega)
          subst hbw
          clear cw fw
          have HAV := Lib.hid hav
          have HH := Lib.hid (show av + 4 ≤ xs.length from by omega)
          go_wp2_with (first | (go_at_call 16; (with_reducible refine q1.out.mono ?_); rintro e w' ⟨rfl, rfl⟩; refine Hid.out ?_))
          refine Lib.hid ?_
          go_wp2_with (first | (go_at_call 17; (with_reducible refine q2.out.mono ?_); rintro e w8 ⟨rfl, hw8⟩; refine Hid.out ?_))
          refine Lib.hid ?_
          have hl8 : (put4 bs av nv).length = bs.length := put4_len _ _ _
          have HI8 := Lib.hid (HI7.out.w1 hl8 hw8)
          have HD8 := Lib.hid (below_wrote HD7.out hw8 HB1N.out HD7.out.size)
          clear hw8
          have q3 : Hid (Calls Tryd.prog 18 #[pm w4.heap.size, .int .u32 (av : Int)] w8 fun e w' => e = .returned (.tuple #[.int .u32 (nv : Int), .bool true]) ∧ w8 = w') := Lib.hid (by
            have h := word_yes w8 w4.heap.size B1' ad1 cap1 (put4 bs av nv) HI8.out.m HI8.out.l1 av hav (by omega)
            rw [word_put4 bs av nv hnv (by omega)] at h
            exact h)
          have q4 : Hid (Calls Tryd.prog 19 #[pm w4.heap.size, .int .u32 (av : Int), .int .u8 7] w8 fun e w' => e = .returned (.bool true) ∧ Wrote w8 B1' ad1 cap1 (put1 (put4 bs av nv) av 7) w') := Lib.hid (setByte_yes w8 w4.heap.size B1' ad1 cap1 (put4 bs av nv) HI8.out.m HI8.out.l1 av hav 7 (by have e2 := put4_len bs av nv; omega))
          go_wp2_with (first | (go_at_call 18; (with_reducible refine q3.out.mono ?_); rintro e w' ⟨rfl, rfl⟩; refine Hid.out ?_))
          refine Lib.hid ?_
          go_wp2_with (first | (go_at_call 19; (with_reducible refine q4.out.mono ?_); rintro e w9 ⟨rfl, hw9⟩; refine Hid.out ?_))
          refine Lib.hid ?_
          have HI9 := Lib.hid (HI8.out.w1 (put1_len _ _ _) hw9)
          have HD9 := Lib.hid (below_wrote HD8.out hw9 HB1N.out HD8.out.size)
          clear hw9
          have q5 : Hid (Calls Tryd.prog 16 #[pm w4.heap.size, .int .u32 (av : Int)] w9 fun e w' => e = .returned (.tuple #[.int .u8 7, .bool true]) ∧ w9 = w') := Lib.hid (by
            have h := byte_yes w9 w4.heap.size B1' ad1 cap1 (put1 (put4 bs av nv) av 7) HI9.out.m HI9.out.l1 av hav (by have := HI9.out.l1.le; have e1 := put1_len bs av 7; have e2 := put4_len bs av nv; have e3 := put1_len (put4 bs av nv) av 7; omega)
            rw [byte_put1 (put4 bs av nv) av 7 (by have e2 := put4_len bs av nv; omega)] at h
            exact h)
          obtain ⟨-, -, cw, fw, -⟩ := Lies.at_cell HI9.out.l2 (i := av) (by omega)
          go_wp2_with (first | (go_at_call 16; (with_reducible refine q5.out.mono ?_); rintro e w' ⟨rfl, rfl⟩; refine Hid.out ?_))
          refine Lib.hid ?_
          obtain ⟨B, hB⟩ : ∃ B : Int, ((at_ bs av : Nat) : Int) = B := ⟨_, rfl⟩
          try rw [hB] at cw
          try rw [hB]
          go_wp2
          go_ret
          exact ⟨rfl, HD9.out⟩
        by_cases his : av < xs.length
        · have d4 : decide ((av : Int) + 4 ≤ ((xs.length : Nat) : Int)) = false := decide_eq_false (by omega)
          have d1 : decide ((av : Int) < ((xs.length : Nat) : Int)) = true := decide_eq_true (by omega)
          have q1 : Hid (Calls Tryd.prog 16 #[pm w4.heap.size, .int .u32 (av : Int)] w7 fun e w' => e = .returned (.tuple #[.int .u8 ((at_ bs av : Nat) : Int), .bool true]) ∧ w7 = w') := Lib.hid (by
            have h := byte_yes w7 w4.heap.size B1' ad1 cap1 bs HI7.out.m HI7.out.l1 av hav (by have := HI7.out.l1.le; have e1 := put1_len bs av 7; have e2 := put4_len bs av nv; have e3 := put1_len (put4 bs av nv) av 7; omega)
            exact h)
          have q2 := Lib.hid (setWord_no w7 w4.heap.size B1' ad1 cap1 bs HI7.out.m HI7.out.l1 (av : Int) (by omega) (by omega) nv hnv (by omega))
          obtain ⟨hbw, hcb, cw, fw, ltw⟩ := Lies.at_cell HI7.out.l2 (i := av) (by omega)
          subst hbw
          clear cw fw
          have HAV := Lib.hid hav
          have HH := Lib.hid (show av < xs.length ∧ ¬ av + 4 ≤ xs.length from by omega)
          go_wp2_with (first | (go_at_call 16; (with_reducible refine q1.out.mono ?_); rintro e w' ⟨rfl, rfl⟩; refine Hid.out ?_))
          refine Lib.hid ?_
          go_wp2_with (first | (go_at_call 17; (with_reducible refine q2.out.mono ?_); rintro e w8 ⟨rfl, hw8⟩; refine Hid.out ?_))
          refine Lib.hid ?_
          have HI8 := Lib.hid (HI7.out.below hw8)
          have HD8 := Lib.hid (HD7.out.trans (hw8.mono HD7.out.size))
          clear hw8
          have q3 := Lib.hid (word_no w8 w4.heap.size B1' ad1 cap1 bs HI8.out.m HI8.out.l1 (av : Int) (by omega) (by omega) (by omega))
          have q4 : Hid (Calls Tryd.prog 19 #[pm w4.heap.size, .int .u32 (av : Int), .int .u8 7] w8 fun e w' => e = .returned (.bool true) ∧ Wrote w8 B1' ad1 cap1 (put1 bs av 7) w') := Lib.hid (setByte_yes w8 w4.heap.size B1' ad1 cap1 bs HI8.out.m HI8.out.l1 av hav 7 (by have e2 := put4_len bs av nv; omega))
          go_wp2_with (first | (go_at_call 18; (with_reducible refine q3.out.mono ?_); rintro e w' ⟨rfl, rfl⟩; refine Hid.out ?_))
          refine Lib.hid ?_
          go_wp2_with (first | (go_at_call 19; (with_reducible refine q4.out.mono ?_); rintro e w9 ⟨rfl, hw9⟩; refine Hid.out ?_))
          refine Lib.hid ?_
          have HI9 := Lib.hid (HI8.out.w1 (put1_len _ _ _) hw9)
          have HD9 := Lib.hid (below_wrote HD8.out hw9 HB1N.out HD8.out.size)
          clear hw9
          have q5 : Hid (Calls Tryd.prog 16 #[pm w4.heap.size, .int .u32 (av : Int)] w9 fun e w' => e = .returned (.tuple #[.int .u8 7, .bool true]) ∧ w9 = w') := Lib.hid (by
            have h := byte_yes w9 w4.heap.size B1' ad1 cap1 (put1 bs av 7) HI9.out.m HI9.out.l1 av hav (by have := HI9.out.l1.le; have e1 := put1_len bs av 7; have e2 := put4_len bs av nv; have e3 := put1_len (put4 bs av nv) av 7; omega)
            rw [byte_put1 bs av 7 (by have e2 := put4_len bs av nv; omega)] at h
            exact h)
          obtain ⟨-, -, cw, fw, -⟩ := Lies.at_cell HI9.out.l2 (i := av) (by omega)
          go_wp2_with (first | (go_at_call 16; (with_reducible refine q5.out.mono ?_); rintro e w' ⟨rfl, rfl⟩; refine Hid.out ?_))
          refine Lib.hid ?_
          obtain ⟨B, hB⟩ : ∃ B : Int, ((at_ bs av : Nat) : Int) = B := ⟨_, rfl⟩
          try rw [hB] at cw
          try rw [hB]
          go_wp2
          go_ret
          exact ⟨rfl, HD9.out⟩
        · have d4 : decide ((av : Int) + 4 ≤ ((xs.length : Nat) : Int)) = false := decide_eq_false (by omega)
          have d1 : decide ((av : Int) < ((xs.length : Nat) : Int)) = false := decide_eq_false (by omega)
          have q1 := Lib.hid (byte_no w7 w4.heap.size B1' ad1 cap1 bs HI7.out.m HI7.out.l1 (av : Int) (by omega) (by omega) (by omega))
          have q2 := Lib.hid (setWord_no w7 w4.heap.size B1' ad1 cap1 bs HI7.out.m HI7.out.l1 (av : Int) (by omega) (by omega) nv hnv (by omega))
          have HAV := Lib.hid hav
          have HH := Lib.hid (show ¬ av < xs.length from by omega)
          go_wp2_with (first | (go_at_call 16; (with_reducible refine q1.out.mono ?_); rintro e w' ⟨rfl, rfl⟩; refine Hid.out ?_))
          refine Lib.hid ?_
          go_wp2_with (first | (go_at_call 17; (with_reducible refine q2.out.mono ?_); rintro e w8 ⟨rfl, hw8⟩; refine Hid.out ?_))
          refine Lib.hid ?_
          have HI8 := Lib.hid (HI7.out.below hw8)
          have HD8 := Lib.hid (HD7.out.trans (hw8.mono HD7.out.size))
          clear hw8
          have q3 := Lib.hid (word_no w8 w4.heap.size B1' ad1 cap1 bs HI8.out.m HI8.out.l1 (av : Int) (by omega) (by omega) (by omega))
          have q4 : Hid (Calls Tryd.prog 19 #[pm w4.heap.size, .int .u32 (av : Int), .int .u8 7] w8 fun e w' => e = .returned (.bool false) ∧ Below w8.heap.size w8 w') := Lib.hid (setByte_no w8 w4.heap.size B1' ad1 cap1 bs HI8.out.m HI8.out.l1 (av : Int) (by omega) (by omega) 7 (by omega))
          go_wp2_with (first | (go_at_call 18; (with_reducible refine q3.out.mono ?_); rintro e w' ⟨rfl, rfl⟩; refine Hid.out ?_))
          refine Lib.hid ?_
          go_wp2_with (first | (go_at_call 19; (with_reducible refine q4.out.mono ?_); rintro e w9 ⟨rfl, hw9⟩; refine Hid.out ?_))
          refine Lib.hid ?_
          have HI9 := Lib.hid (HI8.out.below hw9)
          have HD9 := Lib.hid (HD8.out.trans (hw9.mono HD8.out.size))
          clear hw9
          have q5 := Lib.hid (byte_no w9 w4.heap.size B1' ad1 cap1 bs HI9.out.m HI9.out.l1 (av : Int) (by omega) (by omega) (by omega))
          go_wp2_with (first | (go_at_call 16; (with_reducible refine q5.out.mono ?_); rintro e w' ⟨rfl, rfl⟩; refine Hid.out ?_))
          refine Lib.hid ?_
          obtain ⟨B, hB⟩ : ∃ B : Int, ((at_ bs av : Nat) : Int) = B := ⟨_, rfl⟩
          go_wp2
          go_ret
          exact ⟨rfl, HD9.out⟩
    · have d : decide ((k : Int) < most) = false := decide_eq_false hlt
      have hE := HMD.out.full (by rcases HCN.out with h | h <;> omega)
      have HE := Lib.hid hE
      have HR : Hid (Calls Tryd.prog 15 #[.agg (cs s0), mv w4.heap.size, .int .i64 most] wr fun e w' => e = .returned (.tuple #[.agg (cs s), .int .i64 (k : Int), .int .i64 tr0]) ∧ Wrote wr B1' ad1 cap1 bs w') := Lib.hid (by
        have hr := run_any w wr hT DWH.out w4.heap.size B1' ad1 cap1 xs HI.out.m HI.out.l1 (by have := HORD.out; omega) (by have := HI.out.o; omega) HB1N.out s0 hok most cnt HCN.out (by omega)
        refine hr.mono ?_
        rintro e w' ⟨y, k', t', c', hE', he, hw⟩
        obtain ⟨rfl, rfl, rfl, rfl⟩ := hE'.det HE.out
        exact ⟨he, hw⟩)
      have hmi := mki
      have l7 := run_ldC HI.out.c (cs_size s0)
      clear hE
      go_wp2_with (first | (go_at_call 15; (with_reducible refine HR.out.mono ?_); rintro e wd ⟨rfl, hwd⟩; refine Hid.out ?_))
      refine Lib.hid ?_
      have HIe := Lib.hid (HI.out.w1 HLL.out hwd)
      have DWe := Lib.hid (below_wrote DWH.out hwd HB1N.out DWH.out.size)
      clear hwd l7 hmi HR
      have Q1 := Blk.new wd zcs 30
      have h1 := run_stC Q1 rfl (cs_size s) (cs_one _)
      have Q2 := CoC.Blk.setAll Q1 (ds := cs s) rfl
      have bc := below_all wd.heap.size (Nat.le_refl _) (cs s).toList 0 ((Below.refl wd.heap.size wd).alloc (Nat.le_refl _) (.cells zcs 30))
      obtain ⟨we, hwe⟩ : ∃ we, World.setCells (wd.alloc (.cells zcs 30)) wd.heap.size 0 (cs s).toList = we := ⟨_, rfl⟩
      rw [hwe] at h1 Q2 bc
      have HIf := Lib.hid (HIe.out.below bc)
      have DWf := Lib.hid (DWe.out.trans (bc.mono DWe.out.size))
      have HQ := Lib.hid Q2
      clear Q1 Q2 hwe bc
      go_wp2
      obtain ⟨T, hTT⟩ : ∃ T, bstr bs = T := ⟨_, rfl⟩
      have HSt := Lib.hid (fun wx (hb : Below we.heap.size we wx) => (show (ldC (.pointer (some ⟨wd.heap.size, 0, none⟩))).run Tryd.prog wx = .ok (.agg (cs s)) wx ∧ (ldC (.pointer (some ⟨w2.heap.size, 0, none⟩))).run Tryd.prog wx = .ok (.agg (cs s)) wx ∧ wx.cell? ⟨w4.heap.size, 0, none⟩ = some (sl ad1 bs cap1) ∧ (convert 26 9 (sl ad1 bs cap1)).run Tryd.prog wx = .ok (.string T) wx ∧ (convert 26 9 (sl ad2 xs cap2)).run Tryd.prog wx = .ok (.string T) wx from
        ⟨run_ldC (HQ.out.below hb) (cs_size _), run_ldC (HIf.out.below hb).d (cs_size _), (HIf.out.below hb).m.cell 0, by rw [← hTT]; exact slc_string (lies_slc (HIf.out.below hb).l1 HIf.out.cp1), by rw [← hTT, ← HLN.out]; exact slc_string (lies_slc (HIf.out.below hb).l2 HIf.out.cp2)⟩))
      have HSM := Lib.hid (fun wx => same_any s hsok wx)
      have B0 := (Below.refl we.heap.size we).drew
      clear hTT h1
      go_region_held (fun wx => (ldC (.pointer (some ⟨wd.heap.size, 0, none⟩))).run Tryd.prog wx = .ok (.agg (cs s)) wx ∧ (ldC (.pointer (some ⟨w2.heap.size, 0, none⟩))).run Tryd.prog wx = .ok (.agg (cs s)) wx ∧ wx.cell? ⟨w4.heap.size, 0, none⟩ = some (sl ad1 bs cap1) ∧ (convert 26 9 (sl ad1 bs cap1)).run Tryd.prog wx = .ok (.string T) wx ∧ (convert 26 9 (sl ad2 xs cap2)).run Tryd.prog wx = .ok (.string T) wx) (first | exact HSt.out _ B7 | exact HSt.out _ B0 | go_keep) ((go_at_call 14; (with_reducible refine (HSM.out _).mono ?_); rintro e w7 ⟨rfl, hb7⟩; have B7 := B0.trans hb7))
      have I7 := HIf.out.below B7
      have DW7 := DWf.out.trans (B7.mono DWf.out.size)
      have HI7 := Lib.hid I7
      have HD7 := Lib.hid DW7
      have hln := HLL.out
      have hln1 := HLL.out
      clear I7 DW7 B7 B0 hb7 HSM HSt
      by_cases hfour : av + 4 ≤ xs.length
      · have d4 : decide ((av : Int) + 4 ≤ ((xs.length : Nat) : Int)) = true := decide_eq_true (by omega)
        have d1 : decide ((av : Int) < ((xs.length : Nat) : Int)) = true := decide_eq_true (by omega)
        have q1 : Hid (Calls Tryd.prog 16 #[pm w4.heap.size, .int .u32 (av : Int)] w7 fun e w' => e = .returned (.tuple #[.int .u8 ((at_ bs av : Nat) : Int), .bool true]) ∧ w7 = w') := Lib.hid (by
          have h := byte_yes w7 w4.heap.size B1' ad1 cap1 bs HI7.out.m HI7.out.l1 av hav (by have := HI7.out.l1.le; have e1 := put1_len bs av 7; have e2 := put4_len bs av nv; have e3 := put1_len (put4 bs av nv) av 7; omega)
          exact h)
        have q2 := Lib.hid (setWord_yes w7 w4.heap.size B1' ad1 cap1 bs HI7.out.m HI7.out.l1 av hav nv hnv (by omega))
        obtain ⟨hbw, hcb, cw, fw, ltw⟩ := Lies.at_cell HI7.out.l2 (i := av) (by omega)
        subst hbw
        clear cw fw
        have HAV := Lib.hid hav
        have HH := Lib.hid (show av + 4 ≤ xs.length from by omega)
        go_wp2_with (first | (go_at_call 16; (with_reducible refine q1.out.mono ?_); rintro e w' ⟨rfl, rfl⟩; refine Hid.out ?_))
        refine Lib.hid ?_
        go_wp2_with (first | (go_at_call 17; (with_reducible refine q2.out.mono ?_); rintro e w8 ⟨rfl, hw8⟩; refine Hid.out ?_))
        refine Lib.hid ?_
        have hl8 : (put4 bs av nv).length = bs.length := put4_len _ _ _
        have HI8 := Lib.hid (HI7.out.w1 hl8 hw8)
        have HD8 := Lib.hid (below_wrote HD7.out hw8 HB1N.out HD7.out.size)
        clear hw8
        have q3 : Hid (Calls Tryd.prog 18 #[pm w4.heap.size, .int .u32 (av : Int)] w8 fun e w' => e = .returned (.tuple #[.int .u32 (nv : Int), .bool true]) ∧ w8 = w') := Lib.hid (by
          have h := word_yes w8 w4.heap.size B1' ad1 cap1 (put4 bs av nv) HI8.out.m HI8.out.l1 av hav (by omega)
          rw [word_put4 bs av nv hnv (by omega)] at h
          exact h)
        have q4 : Hid (Calls Tryd.prog 19 #[pm w4.heap.size, .int .u32 (av : Int), .int .u8 7] w8 fun e w' => e = .returned (.bool true) ∧ Wrote w8 B1' ad1 cap1 (put1 (put4 bs av nv) av 7) w') := Lib.hid (setByte_yes w8 w4.heap.size B1' ad1 cap1 (put4 bs av nv) HI8.out.m HI8.out.l1 av hav 7 (by have e2 := put4_len bs av nv; omega))
        go_wp2_with (first | (go_at_call 18; (with_reducible refine q3.out.mono ?_); rintro e w' ⟨rfl, rfl⟩; refine Hid.out ?_))
        refine Lib.hid ?_
        go_wp2_with (first | (go_at_call 19; (with_reducible refine q4.out.mono ?_); rintro e w9 ⟨rfl, hw9⟩; refine Hid.out ?_))
        refine Lib.hid ?_
        have HI9 := Lib.hid (HI8.out.w1 (put1_len _ _ _) hw9)
        have HD9 := Lib.hid (below_wrote HD8.out hw9 HB1N.out HD8.out.size)
        clear hw9
        have q5 : Hid (Calls Tryd.prog 16 #[pm w4.heap.size, .int .u32 (av : Int)] w9 fun e w' => e = .returned (.tuple #[.int .u8 7, .bool true]) ∧ w9 = w') := Lib.hid (by
          have h := byte_yes w9 w4.heap.size B1' ad1 cap1 (put1 (put4 bs av nv) av 7) HI9.out.m HI9.out.l1 av hav (by have := HI9.out.l1.le; have e1 := put1_len bs av 7; have e2 := put4_len bs av nv; have e3 := put1_len (put4 bs av nv) av 7; omega)
          rw [byte_put1 (put4 bs av nv) av 7 (by have e2 := put4_len bs av nv; omega)] at h
          exact h)
        obtain ⟨-, -, cw, fw, -⟩ := Lies.at_cell HI9.out.l2 (i := av) (by omega)
        go_wp2_with (first | (go_at_call 16; (with_reducible refine q5.out.mono ?_); rintro e w' ⟨rfl, rfl⟩; refine Hid.out ?_))
        refine Lib.hid ?_
        obtain ⟨B, hB⟩ : ∃ B : Int, ((at_ bs av : Nat) : Int) = B := ⟨_, rfl⟩
        try rw [hB] at cw
        try rw [hB]
        go_wp2
        go_ret
        exact ⟨rfl, HD9.out⟩
      by_cases his : av < xs.length
      · have d4 : decide ((av : Int) + 4 ≤ ((xs.length : Nat) : Int)) = false := decide_eq_false (by omega)
        have d1 : decide ((av : Int) < ((xs.length : Nat) : Int)) = true := decide_eq_true (by omega)
        have q1 : Hid (Calls Tryd.prog 16 #[pm w4.heap.size, .int .u32 (av : Int)] w7 fun e w' => e = .returned (.tuple #[.int .u8 ((at_ bs av : Nat) : Int), .bool true]) ∧ w7 = w') := Lib.hid (by
          have h := byte_yes w7 w4.heap.size B1' ad1 cap1 bs HI7.out.m HI7.out.l1 av hav (by have := HI7.out.l1.le; have e1 := put1_len bs av 7; have e2 := put4_len bs av nv; have e3 := put1_len (put4 bs av nv) av 7; omega)
          exact h)
        have q2 := Lib.hid (setWord_no w7 w4.heap.size B1' ad1 cap1 bs HI7.out.m HI7.out.l1 (av : Int) (by omega) (by omega) nv hnv (by omega))
        obtain ⟨hbw, hcb, cw, fw, ltw⟩ := Lies.at_cell HI7.out.l2 (i := av) (by omega)
        subst hbw
        clear cw fw
        have HAV := Lib.hid hav
        have HH := Lib.hid (show av < xs.length ∧ ¬ av + 4 ≤ xs.length from by omega)
        go_wp2_with (first | (go_at_call 16; (with_reducible refine q1.out.mono ?_); rintro e w' ⟨rfl, rfl⟩; refine Hid.out ?_))
        refine Lib.hid ?_
        go_wp2_with (first | (go_at_call 17; (with_reducible refine q2.out.mono ?_); rintro e w8 ⟨rfl, hw8⟩; refine Hid.out ?_))
        refine Lib.hid ?_
        have HI8 := Lib.hid (HI7.out.below hw8)
        have HD8 := Lib.hid (HD7.out.trans (hw8.mono HD7.out.size))
        clear hw8
        have q3 := Lib.hid (word_no w8 w4.heap.size B1' ad1 cap1 bs HI8.out.m HI8.out.l1 (av : Int) (by omega) (by omega) (by omega))
        have q4 : Hid (Calls Tryd.prog 19 #[pm w4.heap.size, .int .u32 (av : Int), .int .u8 7] w8 fun e w' => e = .returned (.bool true) ∧ Wrote w8 B1' ad1 cap1 (put1 bs av 7) w') := Lib.hid (setByte_yes w8 w4.heap.size B1' ad1 cap1 bs HI8.out.m HI8.out.l1 av hav 7 (by have e2 := put4_len bs av nv; omega))
        go_wp2_with (first | (go_at_call 18; (with_reducible refine q3.out.mono ?_); rintro e w' ⟨rfl, rfl⟩; refine Hid.out ?_))
        refine Lib.hid ?_
        go_wp2_with (first | (go_at_call 19; (with_reducible refine q4.out.mono ?_); rintro e w9 ⟨rfl, hw9⟩; refine Hid.out ?_))
        refine Lib.hid ?_
        have HI9 := Lib.hid (HI8.out.w1 (put1_len _ _ _) hw9)
        have HD9 := Lib.hid (below_wrote HD8.out hw9 HB1N.out HD8.out.size)
        clear hw9
        have q5 : Hid (Calls Tryd.prog 16 #[pm w4.heap.size, .int .u32 (av : Int)] w9 fun e w' => e = .returned (.tuple #[.int .u8 7, .bool true]) ∧ w9 = w') := Lib.hid (by
          have h := byte_yes w9 w4.heap.size B1' ad1 cap1 (put1 bs av 7) HI9.out.m HI9.out.l1 av hav (by have := HI9.out.l1.le; have e1 := put1_len bs av 7; have e2 := put4_len bs av nv; have e3 := put1_len (put4 bs av nv) av 7; omega)
          rw [byte_put1 bs av 7 (by have e2 := put4_len bs av nv; omega)] at h
          exact h)
        obtain ⟨-, -, cw, fw, -⟩ := Lies.at_cell HI9.out.l2 (i := av) (by omega)
        go_wp2_with (first | (go_at_call 16; (with_reducible refine q5.out.mono ?_); rintro e w' ⟨rfl, rfl⟩; refine Hid.out ?_))
        refine Lib.hid ?_
        obtain ⟨B, hB⟩ : ∃ B : Int, ((at_ bs av : Nat) : Int) = B := ⟨_, rfl⟩
        try rw [hB] at cw
        try rw [hB]
        go_wp2
        go_ret
        exact ⟨rfl, HD9.out⟩
      · have d4 : decide ((av : Int) + 4 ≤ ((xs.length : Nat) : Int)) = false := decide_eq_false (by omega)
        have d1 : decide ((av : Int) < ((xs.length : Nat) : Int)) = false := decide_eq_false (by omega)
        have q1 := Lib.hid (byte_no w7 w4.heap.size B1' ad1 cap1 bs HI7.out.m HI7.out.l1 (av : Int) (by omega) (by omega) (by omega))
        have q2 := Lib.hid (setWord_no w7 w4.heap.size B1' ad1 cap1 bs HI7.out.m HI7.out.l1 (av : Int) (by omega) (by omega) nv hnv (by omega))
        have HAV := Lib.hid hav
        have HH := Lib.hid (show ¬ av < xs.length from by omega)
        go_wp2_with (first | (go_at_call 16; (with_reducible refine q1.out.mono ?_); rintro e w' ⟨rfl, rfl⟩; refine Hid.out ?_))
        refine Lib.hid ?_
        go_wp2_with (first | (go_at_call 17; (with_reducible refine q2.out.mono ?_); rintro e w8 ⟨rfl, hw8⟩; refine Hid.out ?_))
        refine Lib.hid ?_
        have HI8 := Lib.hid (HI7.out.below hw8)
        have HD8 := Lib.hid (HD7.out.trans (hw8.mono HD7.out.size))
        clear hw8
        have q3 := Lib.hid (word_no w8 w4.heap.size B1' ad1 cap1 bs HI8.out.m HI8.out.l1 (av : Int) (by omega) (by omega) (by omega))
        have q4 : Hid (Calls Tryd.prog 19 #[pm w4.heap.size, .int .u32 (av : Int), .int .u8 7] w8 fun e w' => e = .returned (.bool false) ∧ Below w8.heap.size w8 w') := Lib.hid (setByte_no w8 w4.heap.size B1' ad1 cap1 bs HI8.out.m HI8.out.l1 (av : Int) (by omega) (by omega) 7 (by omega))
        go_wp2_with (first | (go_at_call 18; (with_reducible refine q3.out.mono ?_); rintro e w' ⟨rfl, rfl⟩; refine Hid.out ?_))
        refine Lib.hid ?_
        go_wp2_with (first | (go_at_call 19; (with_reducible refine q4.out.mono ?_); rintro e w9 ⟨rfl, hw9⟩; refine Hid.out ?_))
        refine Lib.hid ?_
        have HI9 := Lib.hid (HI8.out.below hw9)
        have HD9 := Lib.hid (HD8.out.trans (hw9.mono HD8.out.size))
        clear hw9
        have q5 := Lib.hid (byte_no w9 w4.heap.size B1' ad1 cap1 bs HI9.out.m HI9.out.l1 (av : Int) (by omega) (by omega) (by omega))
        go_wp2_with (first | (go_at_call 16; (with_reducible refine q5.out.mono ?_); rintro e w' ⟨rfl, rfl⟩; refine Hid.out ?_))
        refine Lib.hid ?_
        obtain ⟨B, hB⟩ : ∃ B : Int, ((at_ bs av : Nat) : Int) = B := ⟨_, rfl⟩
        go_wp2
        go_ret
        exact ⟨rfl, HD9.out⟩
end Go.Proofs.YtgnpbedhpkmkfaaDoor.Walk
