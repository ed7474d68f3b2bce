/-
  CoreSteps' walk.
-/
import Derived.Test.YtgnpbedhpkmkfaaDoorZPs
import Derived.Test.YtgnpbedhpkmkfaaDoorZRfi
namespace Go.Proofs.YtgnpbedhpkmkfaaDoor.Walk
open Go Go.RowKit Kit Bk CoM CoR CoB CoC CoW CoI CoE CoY Bytes3 Sta Sm Ps RfA RfE RfJ IsaT IsaC
set_option linter.unusedVariables false

/-- What a law's world holds: two Cpus, a Ram, its bytes, the other bytes. -/
structure Inv (C D M B1 B2 : Nat) (ad1 ad2 : Option Addr) (cap1 cap2 : Nat) (s1 s2 : St) (b1 b2 : CoM.Bs) (w : World) : Prop where
  c : Blk w C (cs s1) 30
  d : Blk w D (cs s2) 30
  m : RamAt w M ad1 cap1 b1
  l1 : Lies w B1 ad1 cap1 b1
  l2 : Lies w B2 ad2 cap2 b2
  cp1 : b1.length ≤ cap1 ∧ cap1 ≤ maxLen
  cp2 : b2.length ≤ cap2 ∧ cap2 ≤ maxLen
  o : C < D ∧ D < B1 ∧ B1 < M ∧ M < B2 ∧ B2 < w.heap.size
section
variable {C D M B1 B2 : Nat} {ad1 ad2 : Option Addr} {cap1 cap2 : Nat} {s1 s2 : St} {b1 b2 : CoM.Bs} {w w' : World}
theorem Inv.below (h : Inv C D M B1 B2 ad1 ad2 cap1 cap2 s1 s2 b1 b2 w) (k : Below w.heap.size w w') : Inv C D M B1 B2 ad1 ad2 cap1 cap2 s1 s2 b1 b2 w' :=
  ⟨h.c.below k, h.d.below k, h.m.below k, Lies.below h.l1 k, Lies.below h.l2 k, h.cp1, h.cp2, by have := h.o; have := k.size; omega⟩
theorem Inv.w1 (h : Inv C D M B1 B2 ad1 ad2 cap1 cap2 s1 s2 b1 b2 w) {b : CoM.Bs} (hl : b.length = b1.length) (k : Wrote w B1 ad1 cap1 b w') : Inv C D M B1 B2 ad1 ad2 cap1 cap2 s1 s2 b b2 w' := by
  have o := h.o
  refine ⟨h.c.kept k.kp (by omega), h.d.kept k.kp (by omega), ?_, k.lies, Lies.kept h.l2 k.kp (by omega), by rw [hl]; exact h.cp1, h.cp2, by have := k.kp.size; omega⟩
  have := h.m.kept k.kp (show ¬ M = B1 by omega)
  unfold RamAt sl
  rw [hl]
  exact this
theorem Inv.w2 (h : Inv C D M B1 B2 ad1 ad2 cap1 cap2 s1 s2 b1 b2 w) {b : CoM.Bs} (hl : b.length = b2.length) (k : Wrote w B2 ad2 cap2 b w') : Inv C D M B1 B2 ad1 ad2 cap1 cap2 s1 s2 b1 b w' := by
  have o := h.o
  exact ⟨h.c.kept k.kp (by omega), h.d.kept k.kp (by omega), h.m.kept k.kp (by omega), Lies.kept h.l1 k.kp (by omega), k.lies, h.cp1, by rw [hl]; exact h.cp2, by have := k.kp.size; omega⟩
theorem Inv.setC (h : Inv C D M B1 B2 ad1 ad2 cap1 cap2 s1 s2 b1 b2 w) (s : St) : Inv C D M B1 B2 ad1 ad2 cap1 cap2 s s2 b1 b2 (w.setCells C 0 (cs s).toList) := by
  have o := h.o
  have k := Kp.sets (S := fun j => j = C) C rfl (cs s).toList 0 w
  exact ⟨CoC.Blk.setAll h.c rfl, h.d.kept k (by omega), h.m.kept k (by omega), Lies.kept h.l1 k (by omega), Lies.kept h.l2 k (by omega), h.cp1, h.cp2, by have := k.size; omega⟩
theorem Inv.setD (h : Inv C D M B1 B2 ad1 ad2 cap1 cap2 s1 s2 b1 b2 w) (s : St) : Inv C D M B1 B2 ad1 ad2 cap1 cap2 s1 s b1 b2 (w.setCells D 0 (cs s).toList) := by
  have o := h.o
  have k := Kp.sets (S := fun j => j = D) D rfl (cs s).toList 0 w
  exact ⟨h.c.kept k (by omega), CoC.Blk.setAll h.d rfl, h.m.kept k (by omega), Lies.kept h.l1 k (by omega), Lies.kept h.l2 k (by omega), h.cp1, h.cp2, by have := k.size; omega⟩
end
end Go.Proofs.YtgnpbedhpkmkfaaDoor.Walk

/-
  CoreSteps' walk.
-/
namespace Go.Proofs.YtgnpbedhpkmkfaaDoor.Walk
open Go Go.RowKit Kit Bk CoM CoR CoB CoC CoW CoI CoE CoY Bytes3 Sta Sm Ps RfA RfE RfJ IsaT IsaC
set_option linter.unusedVariables false
def ldS (p : Value) : Sem Value := Instr.loadAt 25 p
theorem lds_wrap (p : Value) : Instr.loadAt 25 p = ldS p := rfl
attribute [local go_sem ↓] ldc_wrap stc_wrap app_wrap lds_wrap

theorem size_sets (g : Nat) : ∀ (vs : List Value) (o : Nat) (w : World), (w.setCells g o vs).heap.size = w.heap.size
  | [], _, _ => rfl
  | v :: r, o, w => (size_sets g r (o + 1) _).trans (by simp [World.setCell])
theorem below_wrote {n : Nat} {w w1 w2 : World} {B : Nat} {ad : Option Addr} {cap : Nat} {b : CoM.Bs} (D : Below n w w1) (k : Wrote w1 B ad cap b w2) (hB : n ≤ B) (hn : n ≤ w1.heap.size) : Below n w w2 := D.trans (k.kp.below hn (fun j e => by omega))
theorem mki (M : Nat) (w : World) : (Instr.makeInterface 32 (pm M)).run Tryd.prog w = .ok (mv M) w := by kernel_rfl

set_option maxRecDepth 100000 in
set_option maxHeartbeats 4000000 in
theorem coreSteps (x : Sta) (v : Value) (xs : List Nat) (many : Int) (w : World) (hx : x.Ok) (hs : Slc .u8 w v xs) (hb : ∀ y ∈ xs, y < 256) (hm : (Lit.int .u8 many).wf = true) (hT : Tabs w) :
    Calls Tryd.prog 3 #[sv x, v, .int .u8 many] w fun e w' => e = .returned (.bool true) ∧ Below w.heap.size w w' := by
  obtain ⟨many, rfl, hmany⟩ := u8_nat hm
  have HS := hs
  obtain ⟨va, vcap, rfl, hvc, hvm, hvr⟩ := hs
  have hlm : xs.length ≤ maxLen := by omega
  unfold maxLen at hlm
  clear hvc hvm hvr hm
  have B1 := (Below.refl w.heap.size w).alloc (Nat.le_refl _) (.cells (svs x).toArray 25)
  by_cases hlen : 2000 < xs.length
  · clear hb HS hT
    go_enter Tryd.func3, Tryd.ntmps3
    go_wp2
    go_ret
    exact ⟨rfl, B1⟩
  · have hl1 : ((xs.length : Nat) : Int) ≤ 2000 := by omega
    have hok := stOf_ok hx
    have HC := Lib.hid (fun wx => cpu_any x wx)
    have hld : (ldS (.pointer (some ⟨w.heap.size, 0, none⟩))).run Tryd.prog (w.alloc (.cells (svs x).toArray 25)) = .ok (sv x) (w.alloc (.cells (svs x).toArray 25)) :=
      run_loadAt_mid (P := Tryd.prog) _ w.heap.size 0 25 (svs x) _ (fun j v hj => by rw [Nat.zero_add, (Blk.new w _ _).cell, ← hj]; simp) Tryd.underlying25 rfl (by kernel_rfl)
    go_enter Tryd.func3, Tryd.ntmps3
    go_wp2_with (first | (go_at_call 9; (with_reducible refine (HC.out _).mono ?_); rintro e w1 ⟨rfl, hb1⟩; refine Hid.out ?_))
    refine Lib.hid ?_
    have D1 := B1.trans (hb1.mono B1.size)
    have E1 := Blk.new w1 zcs 30
    have h1 := run_stC E1 rfl (cs_size (stOf x)) (cs_one _)
    have C2 := CoC.Blk.setAll E1 (ds := cs (stOf x)) rfl
    have D2 := below_all w1.heap.size D1.size (cs (stOf x)).toList 0 (D1.alloc D1.size (.cells zcs 30))
    have sz2 : (World.setCells (w1.alloc (.cells zcs 30)) w1.heap.size 0 (cs (stOf x)).toList).heap.size = w1.heap.size + 1 := by rw [size_sets, World.size_alloc]
    obtain ⟨w2, hw2⟩ : ∃ w2, World.setCells (w1.alloc (.cells zcs 30)) w1.heap.size 0 (cs (stOf x)).toList = w2 := ⟨_, rfl⟩
    rw [hw2] at h1 C2 D2 sz2
    have SZ2 := Lib.hid sz2
    clear sz2
    clear hw2 E1
    have l2 := run_ldC C2 (cs_size _)
    have E2 := Blk.new w2 zcs 30
    have h2 := run_stC E2 rfl (cs_size (stOf x)) (cs_one _)
    have C3 := CoY.Blk.otherAll (C2.below ((Below.refl _ _).alloc (Nat.le_refl _) (.cells zcs 30))) (g := w2.heap.size) (by have := SZ2.out; omega) (cs (stOf x)).toList 0
    have DD3 := CoC.Blk.setAll E2 (ds := cs (stOf x)) rfl
    have D3 := below_all w2.heap.size D2.size (cs (stOf x)).toList 0 (D2.alloc D2.size (.cells zcs 30))
    have sz3 : (World.setCells (w2.alloc (.cells zcs 30)) w2.heap.size 0 (cs (stOf x)).toList).heap.size = w2.heap.size + 1 := by rw [size_sets, World.size_alloc]
    obtain ⟨w3, hw3⟩ : ∃ w3, World.setCells (w2.alloc (.cells zcs 30)) w2.heap.size 0 (cs (stOf x)).toList = w3 := ⟨_, rfl⟩
    rw [hw3] at h2 C3 DD3 D3 sz3
    have SZ3 := Lib.hid sz3
    clear sz3
    clear hw3 E2 C2
    obtain ⟨w4, B1', ad1, cap1, h4, L1, hcp1, hB1, hB1', D4⟩ := copy_in w3 _ xs (HS.below D3) hb (by omega)
    have C4 := C3.below D4
    have DD4 := DD3.below D4
    have D4' := D3.trans (D4.mono D3.size)
    have M5 := Blk.new w4 #[sl ad1 xs cap1] 34
    have dm := (Below.refl w4.heap.size w4).alloc (Nat.le_refl _) (.cells #[sl ad1 xs cap1] 34)
    have D5 := D4'.alloc D4'.size (.cells #[sl ad1 xs cap1] 34)
    obtain ⟨w6, B2', ad2, cap2, h6, L2, hcp2, hB2, hB2', D6⟩ := copy_in (w4.alloc (.cells #[sl ad1 xs cap1] 34)) _ xs (HS.below D5) hb (by omega)
    have D6' := D5.trans (D6.mono D5.size)
    have I0 : Inv w1.heap.size w2.heap.size w4.heap.size B1' B2' ad1 ad2 cap1 cap2 (stOf x) (stOf x) xs xs w6 := ⟨(C4.below dm).below D6, (DD4.below dm).below D6, M5.below D6, Lies.below (Lies.below L1 dm) D6, L2, hcp1, hcp2, by have := hB2; simp only [World.size_alloc] at this; have := SZ2.out; have := SZ3.out; omega⟩
    simp only [World.size_alloc] at h6
    have hCw : w.heap.size ≤ w1.heap.size := D1.size
    clear D1 D2 D3 D4 D4' D5 D6 M5 dm C3 C4 DD3 DD4 L1 L2 hb1 HS hb B1 hld HC
    go_wp2
    go_loopw [11] (fun i wr => ∃ (k : Nat) (s : St) (bs : CoM.Bs), i = .int .i64 (k : Int) ∧ k ≤ 100 ∧ bs.length = xs.length ∧ s.Ok ∧ Inv w1.heap.size w2.heap.size w4.heap.size B1' B2' ad1 ad2 cap1 cap2 s s bs bs wr ∧ Below w.heap.size w wr) (fun i _ => 100 - (intOf i).toNat)
    case atStart => exact ⟨0, stOf x, xs, rfl, by omega, rfl, hok, I0, D6'⟩
    case round =>
      obtain ⟨k, s, bs, rfl, hk, hln, hsok, I, DW⟩ := hrel
      have HLN := Lib.hid (show sl ad2 bs cap2 = sl ad2 xs cap2 by unfold sl; rw [hln])
      have HLL := Lib.hid hln
      clear hln
      clear I0 D6' h1 h2 l2 h4 h6 hcp1 hcp2
      have DWH := Lib.hid DW
      have hord := I.o
      have HORD := Lib.hid hord
      have hB1n : w.heap.size ≤ B1' := by omega
      have hB2n : w.heap.size ≤ B2' := by omega
      have HB1N := Lib.hid hB1n
      have HB2N := Lib.hid hB2n
      have HCW := Lib.hid hCw
      clear hord hB1 hB1' hB2 hB2' hB1n hB2n hCw DW
      have HI := Lib.hid I
      clear I
      have hm100 : (many : Int) % 100 < 100 := by omega
      have hk0 : (0 : Int) ≤ (k : Int) := by omega
      by_cases hlt : (k : Int) < (many : Int) % 100
      · have d : decide ((k : Int) < (many : Int) % 100) = true := decide_eq_true hlt
        have l7 := run_ldC HI.out.c (cs_size s)
        have hT0 := Lib.hid (fun wx (hb : Below wr.heap.size wr wx) => (hT.below DWH.out).below hb)
        have hmi := mki
        obtain ⟨t1, ht1⟩ : ∃ t1, (touchP s bs).1 = t1 := ⟨_, rfl⟩
        obtain ⟨t2, ht2⟩ : ∃ t2, (touchP s bs).2.1 = t2 := ⟨_, rfl⟩
        obtain ⟨t3, ht3⟩ : ∃ t3, (touchP s bs).2.2 = t3 := ⟨_, rfl⟩
        have HTA : Hid (Calls Tryd.prog 10 #[.agg (cs s), mv w4.heap.size] wr fun e w' => e = .returned (.tuple #[uv t1, .int .i64 t2, .bool t3]) ∧ Below wr.heap.size wr w') := Lib.hid (by
          have := touches_any wr (hT.below DWH.out) w4.heap.size B1' ad1 cap1 bs HI.out.m HI.out.l1 s hsok
          rw [ht1, ht2, ht3] at this
          exact this)
        have HTB : Hid (∀ wx, Below wr.heap.size wr wx → Calls Tryd.prog 11 #[.agg (cs s), sl ad2 xs cap2] wx fun e w' => e = .returned (.tuple #[uv t1, .int .i64 t2, .bool t3]) ∧ Below wx.heap.size wx w') := Lib.hid (fun wx hb => by
          have := rtouches_any wx B2' ad2 cap2 bs (Lies.below HI.out.l2 hb) s hsok
          rw [ht1, ht2, ht3, HLN.out] at this
          exact this)
        go_wp2_with (first | (go_at_call 10; (with_reducible refine HTA.out.mono ?_); rintro e wa ⟨rfl, hba⟩; refine Hid.out ?_))
        refine Lib.hid ?_
        have l8 := run_ldC (HI.out.below hba).d (cs_size s)
        go_wp2_with (first | (go_at_call 11; (with_reducible refine (HTB.out _ hba).mono ?_); rintro e wb ⟨rfl, hbb⟩; refine Hid.out ?_))
        refine Lib.hid ?_
        have hb2 := hba.trans (hbb.mono hba.size)
        have HIb := Lib.hid (HI.out.below hb2)
        have DWb := Lib.hid (DWH.out.trans (hb2.mono DWH.out.size))
        have l9 := run_ldC HIb.out.c (cs_size s)
        obtain ⟨s', hs'⟩ : ∃ s', (stepP s bs).1 = s' := ⟨_, rfl⟩
        obtain ⟨tr, htr⟩ : ∃ tr, (stepP s bs).2.1 = tr := ⟨_, rfl⟩
        obtain ⟨b', hb'⟩ : ∃ b', (stepP s bs).2.2 = b' := ⟨_, rfl⟩
        have hlb : b'.length = bs.length := by rw [← hb']; exact step_len s bs
        have hsok' : s'.Ok := by rw [← hs']; exact step_ok hsok HI.out.l1.small
        have HSA : Hid (Calls Tryd.prog 12 #[.agg (cs s), mv w4.heap.size] wb fun e w' => e = .returned (.tuple #[.agg (cs s'), .int .i64 tr]) ∧ Wrote wb B1' ad1 cap1 b' w') := Lib.hid (by
          have := step_any wb (hT0.out _ hb2) w4.heap.size B1' ad1 cap1 bs HIb.out.m HIb.out.l1 (by have := HORD.out; omega) s hsok
          rw [hs', htr, hb'] at this
          exact this)
        have HSB : Hid (∀ wx, Lies wx B2' ad2 cap2 bs → B2' < wx.heap.size → Calls Tryd.prog 13 #[.agg (cs s), sl ad2 xs cap2] wx fun e w' => e = .returned (.tuple #[.agg (cs s'), .int .i64 tr]) ∧ Wrote wx B2' ad2 cap2 b' w') := Lib.hid (fun wx hl hbx => by
          have := rstep_any wx B2' ad2 cap2 bs hl hbx s hsok
          rw [hs', htr, hb', HLN.out] at this
          exact this)
        clear l7 l8 hs' htr hb' ht1 ht2 ht3 hba hbb hb2 HTA HTB
        go_wp2_with (first | (go_at_call 12; (with_reducible refine HSA.out.mono ?_); rintro e wc ⟨rfl, hwc⟩; refine Hid.out ?_))
        refine Lib.hid ?_
        have HIc := Lib.hid (HIb.out.w1 hlb hwc)
        have DWc := Lib.hid (below_wrote DWb.out hwc HB1N.out DWb.out.size)
        clear hwc l9
        have P1 := Blk.new wc zcs 30
        have h1 := run_stC P1 rfl (cs_size s') (cs_one _)
        have P2 := CoC.Blk.setAll P1 (ds := cs s') rfl
        have bc := below_all wc.heap.size (Nat.le_refl _) (cs s').toList 0 ((Below.refl wc.heap.size wc).alloc (Nat.le_refl _) (.cells zcs 30))
        obtain ⟨wc2, hwc2⟩ : ∃ wc2, World.setCells (wc.alloc (.cells zcs 30)) wc.heap.size 0 (cs s').toList = wc2 := ⟨_, rfl⟩
        rw [hwc2] at h1 P2 bc
        have HId := Lib.hid (HIc.out.below bc)
        have DWd := Lib.hid (DWc.out.trans (bc.mono DWc.out.size))
        have hPP : Hid (B2' < wc.heap.size) := Lib.hid (by have := HIc.out.o; omega)
        have l8 := run_ldC HId.out.d (cs_size s)
        clear P1 hwc2 bc
        go_wp2_with (first | (go_at_call 13; (with_reducible refine (HSB.out _ HId.out.l2 (by have := HId.out.o; omega)).mono ?_); rintro e wd ⟨rfl, hwd⟩; refine Hid.out ?_))
        refine Lib.hid ?_
        have HIe := Lib.hid (HId.out.w2 hlb hwd)
        have DWe := Lib.hid (below_wrote DWd.out hwd HB2N.out DWd.out.size)
        have P3 := P2.kept hwd.kp (by have := hPP.out; omega)
        clear hwd l8 P2 h1
        have Q1 := Blk.new wd zcs 30
        have h1 := run_stC Q1 rfl (cs_size s') (cs_one _)
        have Q2 := CoC.Blk.setAll Q1 (ds := cs s') rfl
        have bc := below_all wd.heap.size (Nat.le_refl _) (cs s').toList 0 ((Below.refl wd.heap.size wd).alloc (Nat.le_refl _) (.cells zcs 30))
        obtain ⟨we, hwe⟩ : ∃ we, World.setCells (wd.alloc (.cells zcs 30)) wd.heap.size 0 (cs s').toList = we := ⟨_, rfl⟩
        rw [hwe] at h1 Q2 bc
        have HIf := Lib.hid (HIe.out.below bc)
        have DWf := Lib.hid (DWe.out.trans (bc.mono DWe.out.size))
        have P4 := P3.below bc
        have hQ : Hid (wc.heap.size < wd.heap.size) := Lib.hid P3.lt
        clear P3 Q1 hwe bc
        have HP := Lib.hid P4
        have HQ := Lib.hid Q2
        clear P4 Q2
        go_wp2
        have hsl : sl ad2 b' cap2 = sl ad2 xs cap2 := by unfold sl; rw [hlb, HLL.out]
        obtain ⟨T, hTT⟩ : ∃ T, bstr b' = T := ⟨_, rfl⟩
        have HSt := Lib.hid (fun wx (hb : Below we.heap.size we wx) => (show (ldC (.pointer (some ⟨wc.heap.size, 0, none⟩))).run Tryd.prog wx = .ok (.agg (cs s')) wx ∧ (ldC (.pointer (some ⟨wd.heap.size, 0, none⟩))).run Tryd.prog wx = .ok (.agg (cs s')) wx ∧ wx.cell? ⟨w4.heap.size, 0, none⟩ = some (sl ad1 b' cap1) ∧ (convert 26 9 (sl ad1 b' cap1)).run Tryd.prog wx = .ok (.string T) wx ∧ (convert 26 9 (sl ad2 xs cap2)).run Tryd.prog wx = .ok (.string T) wx from
          ⟨run_ldC (HP.out.below hb) (cs_size _), run_ldC (HQ.out.below hb) (cs_size _), (HIf.out.below hb).m.cell 0, by rw [← hTT]; exact slc_string (lies_slc (HIf.out.below hb).l1 HIf.out.cp1), by rw [← hTT, ← hsl]; exact slc_string (lies_slc (HIf.out.below hb).l2 HIf.out.cp2)⟩))
        have HSM := Lib.hid (fun wx => same_any s' hsok' wx)
        have B0 := (Below.refl we.heap.size we).drew
        clear hsl hTT h1
        go_region_held (fun wx => (ldC (.pointer (some ⟨wc.heap.size, 0, none⟩))).run Tryd.prog wx = .ok (.agg (cs s')) wx ∧ (ldC (.pointer (some ⟨wd.heap.size, 0, none⟩))).run Tryd.prog wx = .ok (.agg (cs s')) wx ∧ wx.cell? ⟨w4.heap.size, 0, none⟩ = some (sl ad1 b' cap1) ∧ (convert 26 9 (sl ad1 b' cap1)).run Tryd.prog wx = .ok (.string T) wx ∧ (convert 26 9 (sl ad2 xs cap2)).run Tryd.prog wx = .ok (.string T) wx) (first | exact HSt.out _ B7 | exact HSt.out _ B0 | go_keep) ((go_at_call 14; (with_reducible refine (HSM.out _).mono ?_); rintro e w7 ⟨rfl, hb7⟩; have B7 := B0.trans hb7))
        have HI7 := HIf.out.below B7
        have DW7 := DWf.out.trans (B7.mono DWf.out.size)
        have P7 := HP.out.below B7
        have Q7 := HQ.out.below B7
        have l1 := run_ldC P7 (cs_size s')
        have h1 := run_stC HI7.c (cs_size s) (cs_size s') (cs_one _)
        have I8 := HI7.setC s'
        have D8 := below_all w1.heap.size HCW.out (cs s').toList 0 DW7
        have o8 := HI7.o
        have Q8 := CoY.Blk.otherAll Q7 (g := w1.heap.size) (by have := hQ.out; have := hPP.out; omega) (cs s').toList 0
        obtain ⟨w8, hw8⟩ : ∃ w8, World.setCells w7 w1.heap.size 0 (cs s').toList = w8 := ⟨_, rfl⟩
        rw [hw8] at h1 I8 D8 Q8
        have l2 := run_ldC Q8 (cs_size s')
        have h2 := run_stC I8.d (cs_size s) (cs_size s') (cs_one _)
        have I9 := I8.setD s'
        have D9 := below_all w2.heap.size (by have := HCW.out; omega) (cs s').toList 0 D8
        obtain ⟨w9, hw9⟩ : ∃ w9, World.setCells w8 w2.heap.size 0 (cs s').toList = w9 := ⟨_, rfl⟩
        rw [hw9] at h2 I9 D9
        have HI9 := Lib.hid I9
        have HD9 := Lib.hid D9
        have HD7 := Lib.hid DW7
        have HO := Lib.hid (show k + 1 ≤ 100 by omega)
        have HK := Lib.hid hlt
        clear HI7 P7 Q7 I8 D8 Q8 hw8 hw9 I9 D9 DW7 B7 B0 hb7 o8 hmi
        by_cases htr : (tr != 0) = true
        · go_wp2
          go_ret
          exact ⟨rfl, HD7.out⟩
        · have htr' : (tr != 0) = false := by simpa using htr
          clear htr
          go_wp2
          go_roundw
          case rel => exact ⟨k + 1, s', b', by go_num, HO.out, by rw [hlb]; exact HLL.out, hsok', HI9.out, HD9.out⟩
          case measure => have := HK.out; simp [intOf]; omega
      · have d : decide ((k : Int) < (many : Int) % 100) = false := decide_eq_false hlt
        go_wp2
        go_ret
        exact ⟨rfl, DWH.out⟩
end Go.Proofs.YtgnpbedhpkmkfaaDoor.Walk
