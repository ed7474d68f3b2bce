/-
  CoreTouches' walk.
-/
import Derived.Test.YtgnpbedhpkmkfaaDoorZAl
import Derived.Test.YtgnpbedhpkmkfaaDoorZTp
namespace Go.Proofs.YtgnpbedhpkmkfaaDoor.Walk
open Go Go.RowKit Kit Bk CoM CoR CoB CoC CoW CoI CoE CoY Bytes3 Sta Sm Ps Tp IsaT IsaC Ru Rw Ar Av
open IsaP (Ml)
open Al (mki alive_any)
set_option linter.unusedVariables false
def ldS (p : Value) : Sem Value := Instr.loadAt 25 p
theorem lds_wrap (p : Value) : Instr.loadAt 25 p = ldS p := rfl
attribute [local go_sem ↓] ldc_wrap stc_wrap app_wrap lds_wrap
theorem size_sets (g : Nat) : ∀ (vs : List Value) (o : Nat) (w : World), (w.setCells g o vs).heap.size = w.heap.size
  | [], _, _ => rfl
  | v :: r, o, w => (size_sets g r (o + 1) _).trans (by simp [World.setCell])

/-- What lies there once the step is done. -/
structure Tv (C N M B1 : Nat) (ad1 : Option Addr) (cap1 : Nat) (s s' : St) (b' : CoM.Bs) (w : World) : Prop where
  c : Blk w C (cs s) 30
  n : Blk w N (cs s') 30
  m : RamAt w M ad1 cap1 b'
  l : Lies w B1 ad1 cap1 b'
  cp : b'.length ≤ cap1 ∧ cap1 ≤ maxLen
theorem Tv.below {C N M B1 : Nat} {ad1 : Option Addr} {cap1 : Nat} {s s' : St} {b' : CoM.Bs} {w w' : World} (h : Tv C N M B1 ad1 cap1 s s' b' w) (k : Below w.heap.size w w') : Tv C N M B1 ad1 cap1 s s' b' w' :=
  ⟨h.c.below k, h.n.below k, h.m.below k, Lies.below h.l k, h.cp⟩
theorem slc_take {w : World} {a : Option Addr} {cap n : Nat} {ys : List Nat} (h : Slc .u8 w (.slice a ys.length cap) ys) (hn : n ≤ ys.length) : Slc .u8 w (.slice a n cap) (ys.take n) := by
  obtain ⟨a', cap', e, h1, h2, h3⟩ := h
  cases e
  have hl : (ys.take n).length = n := by simp; omega
  refine ⟨a, cap, by rw [hl], by rw [hl]; omega, h2, ?_⟩
  rcases h3 with h3 | ⟨b, off, rfl, hlt, hc⟩
  · exact .inl (by rw [h3]; simp)
  · refine .inr ⟨b, off, rfl, hlt, fun i hi => ?_⟩
    rw [hl] at hi
    rw [hc i (by omega), List.getElem?_take_of_lt hi]
/-- A byte of a slice that came in. -/
theorem slc_at {w : World} {a : Option Addr} {n cap : Nat} {xs : List Nat} (h : Slc .u8 w (.slice a n cap) xs) {i : Nat} (hi : i < xs.length) : ∃ b off, a = some ⟨b, off, none⟩ ∧ w.cell? ⟨b, off + i, none⟩ = some (.int .u8 ((at_ xs i : Nat) : Int)) := by
  obtain ⟨a', cap', e, h1, h2, h3⟩ := h
  cases e
  rcases h3 with h3 | ⟨b, off, rfl, hlt, hc⟩
  · rw [h3] at hi; simp at hi
  · exact ⟨b, off, rfl, hc i hi⟩

theorem Lies.set {w : World} {B : Nat} {ad : Option Addr} {cap : Nat} {c : CoM.Bs} (h : Lies w B ad cap c) {k v : Nat} (hk : k < c.length) (hv : v < 256) : Lies (w.setCell ⟨B, k, none⟩ (.int .u8 ((v : Nat) : Int))) B ad cap (c.set k v) := by
  refine ⟨by simpa using h.le, fun i => ?_, ?_⟩
  · rw [at_set _ _ _ _ hk]
    split
    · exact hv
    · exact h.small i
  · rcases h.row with e | ⟨rfl, h2, h3, cells, T, h4, h5⟩
    · rw [e] at hk; simp at hk
    · refine .inr ⟨rfl, by simpa using h2, h3, cells.setIfInBounds k (.int .u8 ((v : Nat) : Int)), T, h4.set k _, fun i hi => ?_⟩
      have hi' : i < c.length := by simpa using hi
      rw [at_set _ _ _ _ hk, Array.getElem?_setIfInBounds]
      split
      · rename_i e
        subst e
        have := (Array.getElem?_eq_some_iff.1 (h5 k hk)).1
        rw [if_pos this]
      · exact h5 i hi'

set_option maxRecDepth 100000 in
set_option maxHeartbeats 8000000 in
theorem coreTouches (x : Sta) (v u : Value) (xs ys : List Nat) (w : World) (hx : x.Ok) (hs1 : Slc .u8 w v xs) (hx1 : ∀ y ∈ xs, y < 256) (hs2 : Slc .u8 w u ys) (hx2 : ∀ y ∈ ys, y < 256) (hT : Tabs w) (hM : Ml w) :
    Calls Tryd.prog 6 #[sv x, v, u] w fun e w' => e = .returned (.bool true) ∧ Below w.heap.size w w' := by
  have HS1 := Lib.hid hs1
  have HS2 := Lib.hid hs2
  have HX1 := Lib.hid hx1
  have HX2 := Lib.hid hx2
  obtain ⟨va, vcap, rfl, hvc, hvm, hvr⟩ := hs1
  obtain ⟨ua, ucap, rfl, huc, hum, hur⟩ := hs2
  have hl1 : xs.length ≤ maxLen := by omega
  have hl2 : ys.length ≤ maxLen := by omega
  unfold maxLen at hl1 hl2
  have HUC := Lib.hid (And.intro huc hum)
  have HA := Lib.hid (fun wx (hb : Below w.heap.size w wx) => alive_any wx (hT.below hb) (hM.below hb))
  have HT := Lib.hid (fun wx (hb : Below w.heap.size w wx) => hT.below hb)
  clear hvc hvm hvr huc hum hur hx1 hx2 hT hM
  have hok := stOf_ok hx
  have B1 := (Below.refl w.heap.size w).alloc (Nat.le_refl _) (.cells (svs x).toArray 25)
  have K1 := Blk.new w (svs x).toArray 25
  have HC := Lib.hid (fun wx => cpu_any x wx)
  go_enter Tryd.func6, Tryd.ntmps6
  go_wp2_with (first | (go_at_call 21; (with_reducible refine (HA.out _ B1).mono ?_); rintro e w0 ⟨rfl, hb0⟩; refine Hid.out ?_))
  refine Lib.hid ?_
  have HD0 := Lib.hid (B1.trans (hb0.mono B1.size))
  have K2 := K1.below hb0
  clear K1 hb0 HA B1
  by_cases g1 : 2000 < xs.length
  · clear K2
    go_wp2
    go_ret
    exact ⟨rfl, HD0.out⟩
  have g1' : ((xs.length : Nat) : Int) ≤ 2000 := by omega
  clear g1
  by_cases g2 : ys.length < xs.length
  · have g2' : ((ys.length : Nat) : Int) < ((xs.length : Nat) : Int) := by omega
    clear K2
    go_wp2
    go_ret
    exact ⟨rfl, HD0.out⟩
  have g2' : ((xs.length : Nat) : Int) ≤ ((ys.length : Nat) : Int) := by omega
  have HG2 := Lib.hid (show xs.length ≤ ys.length by omega)
  clear g2
  by_cases g3 : 4000 < ys.length
  · have g3' : 4000 < ((ys.length : Nat) : Int) := by omega
    clear K2
    go_wp2
    go_ret
    exact ⟨rfl, HD0.out⟩
  have g3' : ((ys.length : Nat) : Int) ≤ 4000 := by omega
  clear g3
  have hld : (ldS (.pointer (some ⟨w.heap.size, 0, none⟩))).run Tryd.prog w0 = .ok (sv x) w0 :=
    run_loadAt_mid (P := Tryd.prog) _ w.heap.size 0 25 (svs x) _ (fun j v hj => by rw [Nat.zero_add, K2.cell, ← hj]; simp) Tryd.underlying25 rfl (by kernel_rfl)
  clear K2
  go_wp2_with (first | (go_at_call 9; (with_reducible refine (HC.out _).mono ?_); rintro e w1 ⟨rfl, hb1⟩; refine Hid.out ?_))
  refine Lib.hid ?_
  have D1 := HD0.out.trans (hb1.mono HD0.out.size)
  have E1 := Blk.new w1 zcs 30
  have h1 := run_stC E1 rfl (cs_size (stOf x)) (cs_one _)
  have C2 := CoC.Blk.setAll E1 (ds := cs (stOf x)) rfl
  have D2 := below_all w1.heap.size D1.size (cs (stOf x)).toList 0 (D1.alloc D1.size (.cells zcs 30))
  obtain ⟨s, hs⟩ : ∃ s, stOf x = s := ⟨_, rfl⟩
  rw [hs] at h1 C2 D2 hok
  rw [hs]
  clear hs
  obtain ⟨w2, hw2⟩ : ∃ w2, World.setCells (w1.alloc (.cells zcs 30)) w1.heap.size 0 (cs s).toList = w2 := ⟨_, rfl⟩
  rw [hw2] at h1 C2 D2
  clear hw2 E1 hld HC hb1
  obtain ⟨w4, B1', ad1, cap1, h4, L1, hcp1, hB1, hB1', D4⟩ := copy_in w2 _ xs (HS1.out.below D2) HX1.out (by omega)
  have C4 := C2.below D4
  have D4' := D2.trans (D4.mono D2.size)
  have M5 := Blk.new w4 #[sl ad1 xs cap1] 34
  have dm := (Below.refl w4.heap.size w4).alloc (Nat.le_refl _) (.cells #[sl ad1 xs cap1] 34)
  have D5 := D4'.alloc D4'.size (.cells #[sl ad1 xs cap1] 34)
  have HC5 := Lib.hid (C4.below dm)
  have HM5 := Lib.hid M5
  have HL5 := Lib.hid (Lies.below L1 dm)
  have HD5 := Lib.hid D5
  have HCP := Lib.hid hcp1
  have HOR := Lib.hid (show w.heap.size ≤ w1.heap.size ∧ w1.heap.size < B1' ∧ B1' < w4.heap.size from ⟨D1.size, by have := C2.lt; omega, hB1'⟩)
  have HT5 := Lib.hid (HT.out _ D5)
  clear D1 D2 D4 D4' D5 M5 dm C2 C4 L1 hB1 hB1' hcp1
  have l7 := run_ldC HC5.out (cs_size s)
  have hmi := mki
  obtain ⟨t1, ht1⟩ : ∃ t1, (touchP s xs).1 = t1 := ⟨_, rfl⟩
  obtain ⟨t2, ht2⟩ : ∃ t2, (touchP s xs).2.1 = t2 := ⟨_, rfl⟩
  obtain ⟨t3, ht3⟩ : ∃ t3, (touchP s xs).2.2 = t3 := ⟨_, rfl⟩
  have HTA : Hid (Calls Tryd.prog 10 #[.agg (cs s), mv w4.heap.size] (w4.alloc (.cells #[sl ad1 xs cap1] 34)) fun e w' => e = .returned (.tuple #[uv t1, .int .i64 t2, .bool t3]) ∧ Below (w4.alloc (.cells #[sl ad1 xs cap1] 34)).heap.size (w4.alloc (.cells #[sl ad1 xs cap1] 34)) w') := Lib.hid (by
    have := touches_any _ HT5.out w4.heap.size B1' ad1 cap1 xs HM5.out HL5.out s hok
    rw [ht1, ht2, ht3] at this
    exact this)
  obtain ⟨s', hs'⟩ : ∃ s', (stepP s xs).1 = s' := ⟨_, rfl⟩
  obtain ⟨tr, htr⟩ : ∃ tr, (stepP s xs).2.1 = tr := ⟨_, rfl⟩
  obtain ⟨b', hb'⟩ : ∃ b', (stepP s xs).2.2 = b' := ⟨_, rfl⟩
  have hlb : b'.length = xs.length := by rw [← hb']; exact step_len s xs
  have hsok' : s'.Ok := by rw [← hs']; exact step_ok hok HL5.out.small
  have HTR : Hid (tr ≠ 0 → s' = s ∧ b' = xs) := Lib.hid (fun h => by
    rw [← hs', ← hb']
    exact step_trapped s xs (by rw [htr]; exact h))
  have HTU : Hid (∀ i, at_ b' i ≠ at_ xs i → t3 = true ∧ t1 ≤ (i : Int) ∧ (i : Int) < t1 + t2) := Lib.hid (fun i h => by
    rw [← ht1, ← ht2, ← ht3]
    exact step_turns s xs i (by rw [hb']; exact h))
  have HNE : Hid (∀ c : CoM.Bs, c.length = xs.length → (∀ i, i < xs.length → s.pc ≤ (i : Int) → (i : Int) < s.pc + 4 → at_ c i = at_ xs i) → (0 < t2 → ∀ i, i < xs.length → t1 ≤ (i : Int) → (i : Int) < t1 + t2 → at_ c i = at_ xs i) → (stepP s c).1 = s' ∧ (stepP s c).2.1 = tr) := Lib.hid (fun c hl k1 k2 => by
    rw [← hs', ← htr]
    exact step_near s hok xs c hl k1 (by rw [ht1, ht2]; exact k2))
  have htb : 0 ≤ t1 ∧ t1 < 4294967296 ∧ 0 ≤ t2 ∧ t2 ≤ 4 := by
    rw [← ht1, ← ht2]
    unfold touchP
    split
    · exact ⟨by decide, by decide, by decide, by decide⟩
    · rename_i k A B i _
      split
      · have h0 := m32_bd (s.r B + m32 i)
        refine ⟨h0.1, h0.2, ?_, ?_⟩ <;> (unfold lng; dsimp only; split <;> (try split) <;> decide)
      · exact ⟨by decide, by decide, by decide, by decide⟩
  have HSA : Hid (∀ wx, Below (w4.alloc (.cells #[sl ad1 xs cap1] 34)).heap.size (w4.alloc (.cells #[sl ad1 xs cap1] 34)) wx → Calls Tryd.prog 12 #[.agg (cs s), mv w4.heap.size] wx fun e w' => e = .returned (.tuple #[.agg (cs s'), .int .i64 tr]) ∧ Wrote wx B1' ad1 cap1 b' w') := Lib.hid (fun wx hb => by
    have := step_any wx (HT5.out.below hb) w4.heap.size B1' ad1 cap1 xs (HM5.out.below hb) (Lies.below HL5.out hb) (by have := HOR.out; omega) s hok
    rw [hs', htr, hb'] at this
    exact this)
  clear hs' htr hb' ht1 ht2 ht3
  go_wp2_with (first | (go_at_call 10; (with_reducible refine HTA.out.mono ?_); rintro e wa ⟨rfl, hba⟩; refine Hid.out ?_))
  refine Lib.hid ?_
  have l8 := run_ldC (HC5.out.below hba) (cs_size s)
  clear l7 h1 h4
  go_wp2_with (first | (go_at_call 12; (with_reducible refine (HSA.out _ hba).mono ?_); rintro e wc ⟨rfl, hwc⟩; refine Hid.out ?_))
  refine Lib.hid ?_
  have Da := HD5.out.trans (hba.mono HD5.out.size)
  have Dc : Below w.heap.size w wc := Da.trans (hwc.kp.below Da.size (fun j e => by have := HOR.out; omega))
  have Cc := (HC5.out.below hba).kept hwc.kp (by have := HOR.out; omega)
  have Mc : RamAt wc w4.heap.size ad1 cap1 b' := by
    have := (HM5.out.below hba).kept hwc.kp (show ¬ w4.heap.size = B1' by have := HOR.out; omega)
    unfold RamAt sl
    rw [hlb]
    exact this
  have P1 := Blk.new wc zcs 30
  have h1 := run_stC P1 rfl (cs_size s') (cs_one _)
  have P2 := CoC.Blk.setAll P1 (ds := cs s') rfl
  have bc := below_all wc.heap.size (Nat.le_refl _) (cs s').toList 0 ((Below.refl wc.heap.size wc).alloc (Nat.le_refl _) (.cells zcs 30))
  obtain ⟨wq, hwq⟩ : ∃ wc2, World.setCells (wc.alloc (.cells zcs 30)) wc.heap.size 0 (cs s').toList = wc2 := ⟨_, rfl⟩
  rw [hwq] at h1 P2 bc
  have HV : Hid (Tv w1.heap.size wc.heap.size w4.heap.size B1' ad1 cap1 s s' b' wq) := Lib.hid ⟨Cc.below bc, P2, Mc.below bc, Lies.below hwc.lies bc, by rw [hlb]; exact HCP.out⟩
  have HDq := Lib.hid (Dc.trans (bc.mono Dc.size))
  have HOQ := Lib.hid (show wc.heap.size < wq.heap.size from P2.lt)
  have HSL : Hid (∀ wx, Below wq.heap.size wq wx → Slc .u8 wx (.slice va xs.length vcap) xs) := Lib.hid (fun wx hb => HS1.out.below (HDq.out.trans (hb.mono HDq.out.size)))
  clear Da Dc Cc Mc P1 P2 bc hwq hwc hba l8 HTA HSA HD5 HL5 HM5 HC5 HT5 HD0
  have HLB := Lib.hid hlb
  have HTB := Lib.hid htb
  have HOK := Lib.hid (And.intro hok hsok')
  clear hlb htb hok hsok'
  go_wp2
  go_loopw [15] (fun i wr => ∃ k : Nat, i = .int .i64 (k : Int) ∧ k ≤ xs.length ∧ Below wq.heap.size wq wr) (fun i _ => xs.length - (intOf i).toNat)
  case atStart => exact ⟨0, rfl, Nat.zero_le _, Below.refl _ _⟩
  case round =>
    obtain ⟨k, rfl, hk, hB⟩ := hrel
    have HB := Lib.hid hB
    have hk0 : (0 : Int) ≤ (k : Int) := by omega
    obtain ⟨tb1, tb2, tb3, tb4⟩ := HTB.out
    clear hB h1
    by_cases hlt : k < xs.length
    · have d0 : decide ((k : Int) < ((xs.length : Nat) : Int)) = true := decide_eq_true (by omega)
      obtain ⟨gb, go, hva, hca⟩ := slc_at (HSL.out _ HB.out) hlt
      subst hva
      obtain ⟨had, hcb, cb, fb, ltb⟩ := Lies.at_cell (HV.out.below HB.out).l (i := k) (by have := HLB.out; omega)
      subst had
      have cm : wr.cell? ⟨w4.heap.size, 0, none⟩ = some (.slice (some ⟨B1', 0, none⟩) (xs.length : Nat) cap1) := by
        rw [← HLB.out]
        exact (HV.out.below HB.out).m.cell 0
      have HKL := Lib.hid (show k + 1 ≤ xs.length by omega)
      clear hcb fb ltb
      by_cases heq : at_ b' k = at_ xs k
      · rw [heq] at cb
        obtain ⟨P, hP⟩ : ∃ P : Int, ((at_ xs k : Nat) : Int) = P := ⟨_, rfl⟩
        rw [hP] at cb hca
        clear heq hP
        cases t3 with
        | false =>
          go_wp2
          go_quiet (fail)
          go_wp2
          go_roundw
          case rel => exact ⟨k + 1, by go_num, HKL.out, by first | exact HB.out | exact HB.out.trans (drew_below _ _ _)⟩
          case measure => have := HKL.out; simp [intOf]; omega
        | true =>
          by_cases q1 : t1 ≤ (k : Int)
          · have e1 : decide (t1 ≤ (k : Int)) = true := decide_eq_true q1
            obtain ⟨z, hz⟩ : ∃ z, decide ((k : Int) < t1 + t2) = z := ⟨_, rfl⟩
            clear q1
            go_wp2
            go_quiet (fail)
            go_wp2
            go_roundw
            case rel => exact ⟨k + 1, by go_num, HKL.out, by first | exact HB.out | exact HB.out.trans (drew_below _ _ _)⟩
            case measure => have := HKL.out; simp [intOf]; omega
          · have e1 : decide (t1 ≤ (k : Int)) = false := decide_eq_false q1
            clear q1
            go_wp2
            go_quiet (fail)
            go_wp2
            go_roundw
            case rel => exact ⟨k + 1, by go_num, HKL.out, by first | exact HB.out | exact HB.out.trans (drew_below _ _ _)⟩
            case measure => have := HKL.out; simp [intOf]; omega
      · obtain ⟨rfl, q1, q2⟩ := HTU.out k heq
        have e1 : decide (t1 ≤ (k : Int)) = true := decide_eq_true q1
        have e2 : decide ((k : Int) < t1 + t2) = true := decide_eq_true q2
        have hne : (((at_ b' k : Nat) : Int) != ((at_ xs k : Nat) : Int)) = true := by simp; omega
        obtain ⟨P, hP⟩ : ∃ P : Int, ((at_ xs k : Nat) : Int) = P := ⟨_, rfl⟩
        obtain ⟨R, hR⟩ : ∃ R : Int, ((at_ b' k : Nat) : Int) = R := ⟨_, rfl⟩
        rw [hP] at hca hne
        rw [hR] at cb hne
        clear heq hP hR q1 q2
        go_wp2
        go_quiet (fail)
        go_wp2
        go_roundw
        case rel => exact ⟨k + 1, by go_num, HKL.out, by first | exact HB.out | exact HB.out.trans (drew_below _ _ _)⟩
        case measure => have := HKL.out; simp [intOf]; omega
    · have d0 : decide ((k : Int) < ((xs.length : Nat) : Int)) = false := decide_eq_false (by omega)
      by_cases htr : (tr != 0) = true
      · obtain ⟨e1, e2⟩ := HTR.out (by simpa using htr)
        obtain ⟨T, hTT⟩ : ∃ T, bstr xs = T := ⟨_, rfl⟩
        have HSt := Lib.hid (fun wx (hb : Below wq.heap.size wq wx) => (show (ldC (.pointer (some ⟨wc.heap.size, 0, none⟩))).run Tryd.prog wx = .ok (.agg (cs s)) wx ∧ (ldC (.pointer (some ⟨w1.heap.size, 0, none⟩))).run Tryd.prog wx = .ok (.agg (cs s)) wx ∧ wx.cell? ⟨w4.heap.size, 0, none⟩ = some (.slice ad1 (xs.length : Nat) cap1) ∧ (convert 26 9 (.slice ad1 (xs.length : Nat) cap1)).run Tryd.prog wx = .ok (.string T) wx ∧ (convert 26 9 (.slice va (xs.length : Nat) vcap)).run Tryd.prog wx = .ok (.string T) wx from by
          have hv := HV.out.below hb
          rw [e1, e2] at hv
          exact ⟨run_ldC hv.n (cs_size _), run_ldC hv.c (cs_size _), hv.m.cell 0, by rw [← hTT]; exact slc_string (lies_slc hv.l hv.cp), by rw [← hTT]; exact slc_string (HSL.out _ hb)⟩))
        have HSM0 := Lib.hid (fun wx => same_any s HOK.out.1 wx)
        have B0 : Below wq.heap.size wq wr.drew := HB.out.drew
        clear hTT e1 e2
        go_wp2
        go_region_held (fun wx => (ldC (.pointer (some ⟨wc.heap.size, 0, none⟩))).run Tryd.prog wx = .ok (.agg (cs s)) wx ∧ (ldC (.pointer (some ⟨w1.heap.size, 0, none⟩))).run Tryd.prog wx = .ok (.agg (cs s)) wx ∧ wx.cell? ⟨w4.heap.size, 0, none⟩ = some (.slice ad1 (xs.length : Nat) cap1) ∧ (convert 26 9 (.slice ad1 (xs.length : Nat) cap1)).run Tryd.prog wx = .ok (.string T) wx ∧ (convert 26 9 (.slice va (xs.length : Nat) vcap)).run Tryd.prog wx = .ok (.string T) wx) (first | exact HSt.out _ B8 | exact HSt.out _ B0 | go_keep) ((go_at_call 14; (with_reducible refine (HSM0.out _).mono ?_); rintro e wf ⟨rfl, hb8⟩; have B8 := B0.trans (hb8.mono B0.size)))
        clear B0 hb8 HSM0 HSt
        have hcap : ((xs.length : Nat) : Int) ≤ (ucap : Int) := by have := HUC.out.1; omega
        have hlt9 : (ys.take xs.length).length = xs.length := by simp; omega
        obtain ⟨w6, B2', ad2, cap2, h6, L2, hcp2, hB2, hB2', D6⟩ := copy_in wf _ (ys.take xs.length) (slc_take (HS2.out.below (HDq.out.trans (B8.mono HDq.out.size))) HG2.out) (fun y hy => HX2.out y (List.mem_of_mem_take hy)) (by omega)
        have hsl2 : sl ad2 (ys.take xs.length) cap2 = .slice ad2 (xs.length : Nat) cap2 := by unfold sl; rw [hlt9]
        rw [hsl2] at h6
        have HB6 := Lib.hid (B8.trans (D6.mono B8.size))
        have HL6 := Lib.hid L2
        have HB2n := Lib.hid (show wq.heap.size ≤ B2' from Nat.le_trans B8.size hB2)
        have H29 := Lib.hid hlt9
        have HB29 := Lib.hid hB2'
        clear L2 hcp2 hB2 hB2' D6 hsl2 B8 hlt9
        go_wp2
        clear h6 hcap
        go_loopw [18] (fun i wr => ∃ (k2 : Nat) (c : CoM.Bs), i = .int .i64 (k2 : Int) ∧ k2 ≤ xs.length ∧ c.length = xs.length ∧ Below wq.heap.size wq wr ∧ Lies wr B2' ad2 cap2 c ∧ (∀ i, i < k2 → ((s.pc ≤ (i : Int) ∧ (i : Int) < s.pc + 4) ∨ (0 < t2 ∧ t1 ≤ (i : Int) ∧ (i : Int) < t1 + t2)) → at_ c i = at_ xs i) ∧ B2' < wr.heap.size) (fun i _ => xs.length - (intOf i).toNat)
        case atStart => exact ⟨0, ys.take xs.length, rfl, Nat.zero_le _, H29.out, HB6.out, HL6.out, fun i hi => absurd hi (by omega), HB29.out⟩
        case round =>
          obtain ⟨k2, c, rfl, hk2, hcl, hB', hL', hP', hBlt⟩ := hrel
          have hk20 : (0 : Int) ≤ (k2 : Int) := by omega
          have HBs := Lib.hid hB'
          have HLs := Lib.hid hL'
          have HPs := Lib.hid hP'
          have HBm := Lib.hid hBlt
          have HCL := Lib.hid hcl
          clear hB' hL' hP' hBlt hcl
          by_cases hlt2 : k2 < xs.length
          · have d0 : decide ((k2 : Int) < ((xs.length : Nat) : Int)) = true := decide_eq_true (by omega)
            have cpc : wr.cell? ⟨w1.heap.size, 10, none⟩ = some (uv s.pc) := by rw [(HV.out.below HBs.out).c.cell, cs_pc]
            have hp0 := HOK.out.1.p0
            have hp1 := HOK.out.1.p1
            have hv : at_ xs k2 < 256 := by
              unfold at_
              rw [List.getElem?_eq_getElem hlt2]
              exact HX1.out _ (List.getElem_mem _)
            obtain ⟨gb, go, hva, hca⟩ := slc_at (HSL.out _ HBs.out) hlt2
            subst hva
            obtain ⟨had, hcb, cb, fb, ltb⟩ := Lies.at_cell HLs.out (i := k2) (by have := HCL.out; omega)
            subst had
            have HLt := Lib.hid (Lies.set HLs.out (k := k2) (v := at_ xs k2) (by have := HCL.out; omega) hv)
            have HBt := Lib.hid (HBs.out.setCell (p := ⟨B2', k2, none⟩) HB2n.out (.int .u8 ((at_ xs k2 : Nat) : Int)))
            have HBl : Hid (B2' < (wr.setCell ⟨B2', k2, none⟩ (.int .u8 ((at_ xs k2 : Nat) : Int))).heap.size) := Lib.hid (by simpa [World.setCell] using HBm.out)
            have HPt : Hid (∀ i, i < k2 + 1 → ((s.pc ≤ (i : Int) ∧ (i : Int) < s.pc + 4) ∨ (0 < t2 ∧ t1 ≤ (i : Int) ∧ (i : Int) < t1 + t2)) → at_ (c.set k2 (at_ xs k2)) i = at_ xs i) := Lib.hid (fun i hi hp => by
              rw [at_set _ _ _ _ (by have := HCL.out; omega)]
              by_cases e : k2 = i
              · rw [if_pos e, e]
              · rw [if_neg e]; exact HPs.out i (by omega) hp)
            have HKL := Lib.hid (show k2 + 1 ≤ xs.length by omega)
            clear hcb ltb hv
            by_cases a1 : s.pc ≤ (k2 : Int)
            · have e1 : decide (s.pc ≤ (k2 : Int)) = true := decide_eq_true a1
              by_cases a2 : (k2 : Int) < s.pc + 4
              · have e2 : decide ((k2 : Int) < s.pc + 4) = true := decide_eq_true a2
                clear a1 a2
                go_wp2
                go_roundw
                case rel => exact ⟨k2 + 1, c.set k2 (at_ xs k2), by go_num, HKL.out, by rw [List.length_set]; exact HCL.out, HBt.out, HLt.out, HPt.out, HBl.out⟩
                case measure => have := HKL.out; simp [intOf]; omega
              · have e2 : decide ((k2 : Int) < s.pc + 4) = false := decide_eq_false a2
                replace a1 := And.intro a1 a2
                clear a2
                by_cases l0 : 0 < t2
                · have f0 : decide (0 < t2) = true := decide_eq_true l0
                  by_cases q1 : t1 ≤ (k2 : Int)
                  · have f1 : decide (t1 ≤ (k2 : Int)) = true := decide_eq_true q1
                    by_cases q2 : (k2 : Int) < t1 + t2
                    · have f2 : decide ((k2 : Int) < t1 + t2) = true := decide_eq_true q2
                      clear l0 q1 q2 a1
                      go_wp2
                      go_roundw
                      case rel => exact ⟨k2 + 1, c.set k2 (at_ xs k2), by go_num, HKL.out, by rw [List.length_set]; exact HCL.out, HBt.out, HLt.out, HPt.out, HBl.out⟩
                      case measure => have := HKL.out; simp [intOf]; omega
                    · have f2 : decide ((k2 : Int) < t1 + t2) = false := decide_eq_false q2
                      have HNP := Lib.hid (show ¬ ((s.pc ≤ (k2 : Int) ∧ (k2 : Int) < s.pc + 4) ∨ (0 < t2 ∧ t1 ≤ (k2 : Int) ∧ (k2 : Int) < t1 + t2)) from by omega)
                      clear l0 q1 q2 a1
                      go_wp2
                      go_roundw
                      case rel => exact ⟨k2 + 1, c, by go_num, HKL.out, HCL.out, HBs.out, HLs.out, fun i hi hp => by
                        by_cases e : i = k2
                        · subst e; exact absurd hp HNP.out
                        · exact HPs.out i (by omega) hp, HBm.out⟩
                      case measure => have := HKL.out; simp [intOf]; omega
                  · have f1 : decide (t1 ≤ (k2 : Int)) = false := decide_eq_false q1
                    have HNP := Lib.hid (show ¬ ((s.pc ≤ (k2 : Int) ∧ (k2 : Int) < s.pc + 4) ∨ (0 < t2 ∧ t1 ≤ (k2 : Int) ∧ (k2 : Int) < t1 + t2)) from by omega)
                    clear l0 q1 a1
                    go_wp2
                    go_roundw
                    case rel => exact ⟨k2 + 1, c, by go_num, HKL.out, HCL.out, HBs.out, HLs.out, fun i hi hp => by
                      by_cases e : i = k2
                      · subst e; exact absurd hp HNP.out
                      · exact HPs.out i (by omega) hp, HBm.out⟩
                    case measure => have := HKL.out; simp [intOf]; omega
                · have f0 : decide (0 < t2) = false := decide_eq_false l0
                  have HNP := Lib.hid (show ¬ ((s.pc ≤ (k2 : Int) ∧ (k2 : Int) < s.pc + 4) ∨ (0 < t2 ∧ t1 ≤ (k2 : Int) ∧ (k2 : Int) < t1 + t2)) from by omega)
                  clear l0 a1
                  go_wp2
                  go_roundw
                  case rel => exact ⟨k2 + 1, c, by go_num, HKL.out, HCL.out, HBs.out, HLs.out, fun i hi hp => by
                    by_cases e : i = k2
                    · subst e; exact absurd hp HNP.out
                    · exact HPs.out i (by omega) hp, HBm.out⟩
                  case measure => have := HKL.out; simp [intOf]; omega
            · have e1 : decide (s.pc ≤ (k2 : Int)) = false := decide_eq_false a1
              by_cases l0 : 0 < t2
              · have f0 : decide (0 < t2) = true := decide_eq_true l0
                by_cases q1 : t1 ≤ (k2 : Int)
                · have f1 : decide (t1 ≤ (k2 : Int)) = true := decide_eq_true q1
                  by_cases q2 : (k2 : Int) < t1 + t2
                  · have f2 : decide ((k2 : Int) < t1 + t2) = true := decide_eq_true q2
                    clear l0 q1 q2 a1
                    go_wp2
                    go_roundw
                    case rel => exact ⟨k2 + 1, c.set k2 (at_ xs k2), by go_num, HKL.out, by rw [List.length_set]; exact HCL.out, HBt.out, HLt.out, HPt.out, HBl.out⟩
                    case measure => have := HKL.out; simp [intOf]; omega
                  · have f2 : decide ((k2 : Int) < t1 + t2) = false := decide_eq_false q2
                    have HNP := Lib.hid (show ¬ ((s.pc ≤ (k2 : Int) ∧ (k2 : Int) < s.pc + 4) ∨ (0 < t2 ∧ t1 ≤ (k2 : Int) ∧ (k2 : Int) < t1 + t2)) from by omega)
                    clear l0 q1 q2 a1
                    go_wp2
                    go_roundw
                    case rel => exact ⟨k2 + 1, c, by go_num, HKL.out, HCL.out, HBs.out, HLs.out, fun i hi hp => by
                      by_cases e : i = k2
                      · subst e; exact absurd hp HNP.out
                      · exact HPs.out i (by omega) hp, HBm.out⟩
                    case measure => have := HKL.out; simp [intOf]; omega
                · have f1 : decide (t1 ≤ (k2 : Int)) = false := decide_eq_false q1
                  have HNP := Lib.hid (show ¬ ((s.pc ≤ (k2 : Int) ∧ (k2 : Int) < s.pc + 4) ∨ (0 < t2 ∧ t1 ≤ (k2 : Int) ∧ (k2 : Int) < t1 + t2)) from by omega)
                  clear l0 q1 a1
                  go_wp2
                  go_roundw
                  case rel => exact ⟨k2 + 1, c, by go_num, HKL.out, HCL.out, HBs.out, HLs.out, fun i hi hp => by
                    by_cases e : i = k2
                    · subst e; exact absurd hp HNP.out
                    · exact HPs.out i (by omega) hp, HBm.out⟩
                  case measure => have := HKL.out; simp [intOf]; omega
              · have f0 : decide (0 < t2) = false := decide_eq_false l0
                have HNP := Lib.hid (show ¬ ((s.pc ≤ (k2 : Int) ∧ (k2 : Int) < s.pc + 4) ∨ (0 < t2 ∧ t1 ≤ (k2 : Int) ∧ (k2 : Int) < t1 + t2)) from by omega)
                clear l0 a1
                go_wp2
                go_roundw
                case rel => exact ⟨k2 + 1, c, by go_num, HKL.out, HCL.out, HBs.out, HLs.out, fun i hi hp => by
                  by_cases e : i = k2
                  · subst e; exact absurd hp HNP.out
                  · exact HPs.out i (by omega) hp, HBm.out⟩
                case measure => have := HKL.out; simp [intOf]; omega
          · have d0 : decide ((k2 : Int) < ((xs.length : Nat) : Int)) = false := decide_eq_false (by omega)
            have b9 := (Below.refl wr.heap.size wr).alloc (Nat.le_refl _) (.cells #[.slice ad2 (xs.length : Nat) cap2] 34)
            have M9 := Blk.new wr #[.slice ad2 (xs.length : Nat) cap2] 34
            have hBa := HBs.out.trans (b9.mono HBs.out.size)
            have hDa := HDq.out.trans (hBa.mono HDq.out.size)
            have l9 := run_ldC (HV.out.below hBa).c (cs_size s)
            have HSO : Hid (Calls Tryd.prog 12 #[.agg (cs s), mv wr.heap.size] (wr.alloc (.cells #[.slice ad2 (xs.length : Nat) cap2] 34)) fun e w' => e = .returned (.tuple #[.agg (cs s'), .int .i64 tr]) ∧ Wrote (wr.alloc (.cells #[.slice ad2 (xs.length : Nat) cap2] 34)) B2' ad2 cap2 (stepP s c).2.2 w') := Lib.hid (by
              have hm : RamAt (wr.alloc (.cells #[.slice ad2 (xs.length : Nat) cap2] 34)) wr.heap.size ad2 cap2 c := by
                unfold RamAt sl
                rw [HCL.out]
                exact M9
              have h := step_any _ (HT.out _ hDa) wr.heap.size B2' ad2 cap2 c hm (Lies.below HLs.out b9) (by have := HBm.out; omega) s HOK.out.1
              obtain ⟨r1, r2⟩ := HNE.out c HCL.out (fun i hi p q => HPs.out i (by omega) (.inl ⟨p, q⟩)) (fun h0 i hi p q => HPs.out i (by omega) (.inr ⟨h0, p, q⟩))
              rw [r1, r2] at h
              exact h)
            have HDa := Lib.hid hDa
            have HBa := Lib.hid hBa
            clear M9 b9 hBa hDa
            go_wp2_with (first | (go_at_call 12; (with_reducible refine HSO.out.mono ?_); rintro e wd ⟨rfl, hwd⟩; refine Hid.out ?_))
            refine Lib.hid ?_
            have Nd := (HV.out.below HBa.out).n.kept hwd.kp (by have h1 := HB2n.out; have h2 := HOQ.out; omega)
            have Dd := HDa.out.trans (hwd.kp.below HDa.out.size (fun j e => by have h1 := HB2n.out; have h2 := HDq.out.size; omega))
            have Q1 := Blk.new wd zcs 30
            have h1 := run_stC Q1 rfl (cs_size s') (cs_one _)
            have Q2 := CoC.Blk.setAll Q1 (ds := cs s') rfl
            have bc := below_all wd.heap.size (Nat.le_refl _) (cs s').toList 0 ((Below.refl wd.heap.size wd).alloc (Nat.le_refl _) (.cells zcs 30))
            obtain ⟨we, hwe⟩ : ∃ we, World.setCells (wd.alloc (.cells zcs 30)) wd.heap.size 0 (cs s').toList = we := ⟨_, rfl⟩
            rw [hwe] at h1 Q2 bc
            have m1 := run_ldC Q2 (cs_size s')
            have m2 := run_ldC (Nd.below bc) (cs_size s')
            have HDe := Lib.hid (Dd.trans (bc.mono Dd.size))
            have HSM := Lib.hid (fun wx => same_any s' HOK.out.2 wx)
            clear Nd Dd Q1 Q2 bc hwe hwd l9 HSO
            go_wp2_with (first | (go_at_call 14; (with_reducible refine (HSM.out _).mono ?_); rintro e w7 ⟨rfl, hb7⟩; refine Hid.out ?_))
            refine Lib.hid ?_
            go_wp2
            go_ret
            exact ⟨rfl, HDe.out.trans (hb7.mono HDe.out.size)⟩
      · have htr' : (tr != 0) = false := by simpa using htr
        clear htr
        go_wp2
        go_quiet (fail)
        have B8 : Below wq.heap.size wq (wr.drewN nq) := HB.out.trans (drew_below _ _ _)
        generalize wr.drewN nq = wf at B8 ⊢
        have hcap : ((xs.length : Nat) : Int) ≤ (ucap : Int) := by have := HUC.out.1; omega
        have hlt9 : (ys.take xs.length).length = xs.length := by simp; omega
        obtain ⟨w6, B2', ad2, cap2, h6, L2, hcp2, hB2, hB2', D6⟩ := copy_in wf _ (ys.take xs.length) (slc_take (HS2.out.below (HDq.out.trans (B8.mono HDq.out.size))) HG2.out) (fun y hy => HX2.out y (List.mem_of_mem_take hy)) (by omega)
        have hsl2 : sl ad2 (ys.take xs.length) cap2 = .slice ad2 (xs.length : Nat) cap2 := by unfold sl; rw [hlt9]
        rw [hsl2] at h6
        have HB6 := Lib.hid (B8.trans (D6.mono B8.size))
        have HL6 := Lib.hid L2
        have HB2n := Lib.hid (show wq.heap.size ≤ B2' from Nat.le_trans B8.size hB2)
        have H29 := Lib.hid hlt9
        have HB29 := Lib.hid hB2'
        clear L2 hcp2 hB2 hB2' D6 hsl2 B8 hlt9
        go_wp2
        clear h6 hcap
        go_loopw [18] (fun i wr => ∃ (k2 : Nat) (c : CoM.Bs), i = .int .i64 (k2 : Int) ∧ k2 ≤ xs.length ∧ c.length = xs.length ∧ Below wq.heap.size wq wr ∧ Lies wr B2' ad2 cap2 c ∧ (∀ i, i < k2 → ((s.pc ≤ (i : Int) ∧ (i : Int) < s.pc + 4) ∨ (0 < t2 ∧ t1 ≤ (i : Int) ∧ (i : Int) < t1 + t2)) → at_ c i = at_ xs i) ∧ B2' < wr.heap.size) (fun i _ => xs.length - (intOf i).toNat)
        case atStart => exact ⟨0, ys.take xs.length, rfl, Nat.zero_le _, H29.out, HB6.out, HL6.out, fun i hi => absurd hi (by omega), HB29.out⟩
        case round =>
          obtain ⟨k2, c, rfl, hk2, hcl, hB', hL', hP', hBlt⟩ := hrel
          have hk20 : (0 : Int) ≤ (k2 : Int) := by omega
          have HBs := Lib.hid hB'
          have HLs := Lib.hid hL'
          have HPs := Lib.hid hP'
          have HBm := Lib.hid hBlt
          have HCL := Lib.hid hcl
          clear hB' hL' hP' hBlt hcl
          by_cases hlt2 : k2 < xs.length
          · have d0 : decide ((k2 : Int) < ((xs.length : Nat) : Int)) = true := decide_eq_true (by omega)
            have cpc : wr.cell? ⟨w1.heap.size, 10, none⟩ = some (uv s.pc) := by rw [(HV.out.below HBs.out).c.cell, cs_pc]
            have hp0 := HOK.out.1.p0
            have hp1 := HOK.out.1.p1
            have hv : at_ xs k2 < 256 := by
              unfold at_
              rw [List.getElem?_eq_getElem hlt2]
              exact HX1.out _ (List.getElem_mem _)
            obtain ⟨gb, go, hva, hca⟩ := slc_at (HSL.out _ HBs.out) hlt2
            subst hva
            obtain ⟨had, hcb, cb, fb, ltb⟩ := Lies.at_cell HLs.out (i := k2) (by have := HCL.out; omega)
            subst had
            have HLt := Lib.hid (Lies.set HLs.out (k := k2) (v := at_ xs k2) (by have := HCL.out; omega) hv)
            have HBt := Lib.hid (HBs.out.setCell (p := ⟨B2', k2, none⟩) HB2n.out (.int .u8 ((at_ xs k2 : Nat) : Int)))
            have HBl : Hid (B2' < (wr.setCell ⟨B2', k2, none⟩ (.int .u8 ((at_ xs k2 : Nat) : Int))).heap.size) := Lib.hid (by simpa [World.setCell] using HBm.out)
            have HPt : Hid (∀ i, i < k2 + 1 → ((s.pc ≤ (i : Int) ∧ (i : Int) < s.pc + 4) ∨ (0 < t2 ∧ t1 ≤ (i : Int) ∧ (i : Int) < t1 + t2)) → at_ (c.set k2 (at_ xs k2)) i = at_ xs i) := Lib.hid (fun i hi hp => by
              rw [at_set _ _ _ _ (by have := HCL.out; omega)]
              by_cases e : k2 = i
              · rw [if_pos e, e]
              · rw [if_neg e]; exact HPs.out i (by omega) hp)
            have HKL := Lib.hid (show k2 + 1 ≤ xs.length by omega)
            clear hcb ltb hv
            by_cases a1 : s.pc ≤ (k2 : Int)
            · have e1 : decide (s.pc ≤ (k2 : Int)) = true := decide_eq_true a1
              by_cases a2 : (k2 : Int) < s.pc + 4
              · have e2 : decide ((k2 : Int) < s.pc + 4) = true := decide_eq_true a2
                clear a1 a2
                go_wp2
                go_roundw
                case rel => exact ⟨k2 + 1, c.set k2 (at_ xs k2), by go_num, HKL.out, by rw [List.length_set]; exact HCL.out, HBt.out, HLt.out, HPt.out, HBl.out⟩
                case measure => have := HKL.out; simp [intOf]; omega
              · have e2 : decide ((k2 : Int) < s.pc + 4) = false := decide_eq_false a2
                replace a1 := And.intro a1 a2
                clear a2
                by_cases l0 : 0 < t2
                · have f0 : decide (0 < t2) = true := decide_eq_true l0
                  by_cases q1 : t1 ≤ (k2 : Int)
                  · have f1 : decide (t1 ≤ (k2 : Int)) = true := decide_eq_true q1
                    by_cases q2 : (k2 : Int) < t1 + t2
                    · have f2 : decide ((k2 : Int) < t1 + t2) = true := decide_eq_true q2
                      clear l0 q1 q2 a1
                      go_wp2
                      go_roundw
                      case rel => exact ⟨k2 + 1, c.set k2 (at_ xs k2), by go_num, HKL.out, by rw [List.length_set]; exact HCL.out, HBt.out, HLt.out, HPt.out, HBl.out⟩
                      case measure => have := HKL.out; simp [intOf]; omega
                    · have f2 : decide ((k2 : Int) < t1 + t2) = false := decide_eq_false q2
                      have HNP := Lib.hid (show ¬ ((s.pc ≤ (k2 : Int) ∧ (k2 : Int) < s.pc + 4) ∨ (0 < t2 ∧ t1 ≤ (k2 : Int) ∧ (k2 : Int) < t1 + t2)) from by omega)
                      clear l0 q1 q2 a1
                      go_wp2
                      go_roundw
                      case rel => exact ⟨k2 + 1, c, by go_num, HKL.out, HCL.out, HBs.out, HLs.out, fun i hi hp => by
                        by_cases e : i = k2
                        · subst e; exact absurd hp HNP.out
                        · exact HPs.out i (by omega) hp, HBm.out⟩
                      case measure => have := HKL.out; simp [intOf]; omega
                  · have f1 : decide (t1 ≤ (k2 : Int)) = false := decide_eq_false q1
                    have HNP := Lib.hid (show ¬ ((s.pc ≤ (k2 : Int) ∧ (k2 : Int) < s.pc + 4) ∨ (0 < t2 ∧ t1 ≤ (k2 : Int) ∧ (k2 : Int) < t1 + t2)) from by omega)
                    clear l0 q1 a1
                    go_wp2
                    go_roundw
                    case rel => exact ⟨k2 + 1, c, by go_num, HKL.out, HCL.out, HBs.out, HLs.out, fun i hi hp => by
                      by_cases e : i = k2
                      · subst e; exact absurd hp HNP.out
                      · exact HPs.out i (by omega) hp, HBm.out⟩
                    case measure => have := HKL.out; simp [intOf]; omega
                · have f0 : decide (0 < t2) = false := decide_eq_false l0
                  have HNP := Lib.hid (show ¬ ((s.pc ≤ (k2 : Int) ∧ (k2 : Int) < s.pc + 4) ∨ (0 < t2 ∧ t1 ≤ (k2 : Int) ∧ (k2 : Int) < t1 + t2)) from by omega)
                  clear l0 a1
                  go_wp2
                  go_roundw
                  case rel => exact ⟨k2 + 1, c, by go_num, HKL.out, HCL.out, HBs.out, HLs.out, fun i hi hp => by
                    by_cases e : i = k2
                    · subst e; exact absurd hp HNP.out
                    · exact HPs.out i (by omega) hp, HBm.out⟩
                  case measure => have := HKL.out; simp [intOf]; omega
            · have e1 : decide (s.pc ≤ (k2 : Int)) = false := decide_eq_false a1
              by_cases l0 : 0 < t2
              · have f0 : decide (0 < t2) = true := decide_eq_true l0
                by_cases q1 : t1 ≤ (k2 : Int)
                · have f1 : decide (t1 ≤ (k2 : Int)) = true := decide_eq_true q1
                  by_cases q2 : (k2 : Int) < t1 + t2
                  · have f2 : decide ((k2 : Int) < t1 + t2) = true := decide_eq_true q2
                    clear l0 q1 q2 a1
                    go_wp2
                    go_roundw
                    case rel => exact ⟨k2 + 1, c.set k2 (at_ xs k2), by go_num, HKL.out, by rw [List.length_set]; exact HCL.out, HBt.out, HLt.out, HPt.out, HBl.out⟩
                    case measure => have := HKL.out; simp [intOf]; omega
                  · have f2 : decide ((k2 : Int) < t1 + t2) = false := decide_eq_false q2
                    have HNP := Lib.hid (show ¬ ((s.pc ≤ (k2 : Int) ∧ (k2 : Int) < s.pc + 4) ∨ (0 < t2 ∧ t1 ≤ (k2 : Int) ∧ (k2 : Int) < t1 + t2)) from by omega)
                    clear l0 q1 q2 a1
                    go_wp2
                    go_roundw
                    case rel => exact ⟨k2 + 1, c, by go_num, HKL.out, HCL.out, HBs.out, HLs.out, fun i hi hp => by
                      by_cases e : i = k2
                      · subst e; exact absurd hp HNP.out
                      · exact HPs.out i (by omega) hp, HBm.out⟩
                    case measure => have := HKL.out; simp [intOf]; omega
                · have f1 : decide (t1 ≤ (k2 : Int)) = false := decide_eq_false q1
                  have HNP := Lib.hid (show ¬ ((s.pc ≤ (k2 : Int) ∧ (k2 : Int) < s.pc + 4) ∨ (0 < t2 ∧ t1 ≤ (k2 : Int) ∧ (k2 : Int) < t1 + t2)) from by omega)
                  clear l0 q1 a1
                  go_wp2
                  go_roundw
                  case rel => exact ⟨k2 + 1, c, by go_num, HKL.out, HCL.out, HBs.out, HLs.out, fun i hi hp => by
                    by_cases e : i = k2
                    · subst e; exact absurd hp HNP.out
                    · exact HPs.out i (by omega) hp, HBm.out⟩
                  case measure => have := HKL.out; simp [intOf]; omega
              · have f0 : decide (0 < t2) = false := decide_eq_false l0
                have HNP := Lib.hid (show ¬ ((s.pc ≤ (k2 : Int) ∧ (k2 : Int) < s.pc + 4) ∨ (0 < t2 ∧ t1 ≤ (k2 : Int) ∧ (k2 : Int) < t1 + t2)) from by omega)
                clear l0 a1
                go_wp2
                go_roundw
                case rel => exact ⟨k2 + 1, c, by go_num, HKL.out, HCL.out, HBs.out, HLs.out, fun i hi hp => by
                  by_cases e : i = k2
                  · subst e; exact absurd hp HNP.out
                  · exact HPs.out i (by omega) hp, HBm.out⟩
                case measure => have := HKL.out; simp [intOf]; omega
          · have d0 : decide ((k2 : Int) < ((xs.length : Nat) : Int)) = false := decide_eq_false (by omega)
            have b9 := (Below.refl wr.heap.size wr).alloc (Nat.le_refl _) (.cells #[.slice ad2 (xs.length : Nat) cap2] 34)
            have M9 := Blk.new wr #[.slice ad2 (xs.length : Nat) cap2] 34
            have hBa := HBs.out.trans (b9.mono HBs.out.size)
            have hDa := HDq.out.trans (hBa.mono HDq.out.size)
            have l9 := run_ldC (HV.out.below hBa).c (cs_size s)
            have HSO : Hid (Calls Tryd.prog 12 #[.agg (cs s), mv wr.heap.size] (wr.alloc (.cells #[.slice ad2 (xs.length : Nat) cap2] 34)) fun e w' => e = .returned (.tuple #[.agg (cs s'), .int .i64 tr]) ∧ Wrote (wr.alloc (.cells #[.slice ad2 (xs.length : Nat) cap2] 34)) B2' ad2 cap2 (stepP s c).2.2 w') := Lib.hid (by
              have hm : RamAt (wr.alloc (.cells #[.slice ad2 (xs.length : Nat) cap2] 34)) wr.heap.size ad2 cap2 c := by
                unfold RamAt sl
                rw [HCL.out]
                exact M9
              have h := step_any _ (HT.out _ hDa) wr.heap.size B2' ad2 cap2 c hm (Lies.below HLs.out b9) (by have := HBm.out; omega) s HOK.out.1
              obtain ⟨r1, r2⟩ := HNE.out c HCL.out (fun i hi p q => HPs.out i (by omega) (.inl ⟨p, q⟩)) (fun h0 i hi p q => HPs.out i (by omega) (.inr ⟨h0, p, q⟩))
              rw [r1, r2] at h
              exact h)
            have HDa := Lib.hid hDa
            have HBa := Lib.hid hBa
            clear M9 b9 hBa hDa
            go_wp2_with (first | (go_at_call 12; (with_reducible refine HSO.out.mono ?_); rintro e wd ⟨rfl, hwd⟩; refine Hid.out ?_))
            refine Lib.hid ?_
            have Nd := (HV.out.below HBa.out).n.kept hwd.kp (by have h1 := HB2n.out; have h2 := HOQ.out; omega)
            have Dd := HDa.out.trans (hwd.kp.below HDa.out.size (fun j e => by have h1 := HB2n.out; have h2 := HDq.out.size; omega))
            have Q1 := Blk.new wd zcs 30
            have h1 := run_stC Q1 rfl (cs_size s') (cs_one _)
            have Q2 := CoC.Blk.setAll Q1 (ds := cs s') rfl
            have bc := below_all wd.heap.size (Nat.le_refl _) (cs s').toList 0 ((Below.refl wd.heap.size wd).alloc (Nat.le_refl _) (.cells zcs 30))
            obtain ⟨we, hwe⟩ : ∃ we, World.setCells (wd.alloc (.cells zcs 30)) wd.heap.size 0 (cs s').toList = we := ⟨_, rfl⟩
            rw [hwe] at h1 Q2 bc
            have m1 := run_ldC Q2 (cs_size s')
            have m2 := run_ldC (Nd.below bc) (cs_size s')
            have HDe := Lib.hid (Dd.trans (bc.mono Dd.size))
            have HSM := Lib.hid (fun wx => same_any s' HOK.out.2 wx)
            clear Nd Dd Q1 Q2 bc hwe hwd l9 HSO
            go_wp2_with (first | (go_at_call 14; (with_reducible refine (HSM.out _).mono ?_); rintro e w7 ⟨rfl, hb7⟩; refine Hid.out ?_))
            refine Lib.hid ?_
            go_wp2
            go_ret
            exact ⟨rfl, HDe.out.trans (hb7.mono HDe.out.size)⟩
end Go.Proofs.YtgnpbedhpkmkfaaDoor.Walk
