/-
  FramesApart: the walk where the bytes fit; the statement's step.
-/
import Derived.Test.YtompcmbaiegkaaaAp
namespace Go.Proofs.Ytompcmbaiegkaaa.Aq
open Go Go.RowKit Kit Fm Fo Fr Fw Fx Fy Fu Fv Gm Go2 Gr Gw Gn Da Db Dc Ea Pa Ap
set_option linter.unusedVariables false
attribute [local go_sem ↓] cpy_wrap sl_wrap

theorem run_slO (w : World) (g ca o : Nat) (ho : o ≤ 64) : (slO (.slice (some ⟨g, 0, none⟩) 64 ca) (some (.int .i64 (o : Int)))).run Try.prog w = .ok (.slice (some ⟨g, if ca = o then 0 else o, none⟩) (64 - o) (ca - o)) w := by
  have hu : Try.prog.underlying 31 = some (.slice (Try.prog.elem 31)) := by kernel_rfl
  have he : Try.prog.elem 31 = 5 := by kernel_rfl
  have hsz : (sizeOf (Try.prog.elem 31)).run Try.prog w = .ok 1 w := by
    rw [he]
    have hi : (Try.prog.info? 5).map (·.size) = some 1 := by kernel_rfl
    cases hq : Try.prog.info? 5 with
    | none => rw [hq] at hi; cases hi
    | some i => rw [hq] at hi; simp [sizeOf, typeInfo, hq]; simpa using hi
  unfold slO
  rw [run_sliceAt_slice w _ _ _ _ _ hu, run_slice_l w _ _ _ _ hu .i64 (o : Int) (by omega) (by omega), hsz]
  simp only [Result.andThen_ok, sliced, Int.toNat_natCast, Nat.mul_one]
  by_cases e : ca = o
  · rw [if_pos e, if_pos e]
  · rw [if_neg e, if_neg e, Option.map_some, Addr.add_mid, Nat.zero_add]
theorem run_cpy (w : World) (g o O dl dc : Nat) (a2 : Option Addr) (cap2 : Nat) (xs : List Nat) (hs : Slc .u8 w (.slice a2 xs.length cap2) xs) (cur : Array Value) (T : TypeId) (hb : Blk w g cur T) (hn : o + xs.length ≤ cur.size) (hd : xs.length ≤ dl) (hO : 0 < xs.length → O = o) :
    (cpyO #[31, 31] 3 #[.slice (some ⟨g, O, none⟩) dl dc, .slice a2 xs.length cap2]).run Try.prog w = .ok (goInt xs.length) (w.setCells g o (u8s xs)) := by
  obtain ⟨a, cap, e, hcap, hmax, hread⟩ := hs
  cases e
  rcases hread with rfl | ⟨g2, o2, rfl, hlt, hcell⟩
  · exact run_copy_none w _ _ _ 5 _ _ _ _ 0 _ Try.underlying31 (by kernel_rfl) (by simp)
  · by_cases h0 : xs.length = 0
    · obtain rfl : xs = [] := List.length_eq_zero_iff.1 h0
      exact run_copy_none w _ _ _ 5 _ _ _ _ 0 _ Try.underlying31 (by kernel_rfl) (by simp)
    · rw [hO (by omega)]
      have hl : (u8s xs).length = xs.length := by simp [u8s]
      have hth := hb.there o xs.length hn
      have := run_copy_cells (P := Try.prog) w 31 31 3 5 g o dl dc ⟨g2, o2, none⟩ xs.length cap2 (u8s xs) Try.underlying31 (by kernel_rfl) (by rw [hl]; exact (Nat.min_eq_left hd).symm)
        (fun j v hj => by
          have hjl : j < xs.length := by rw [← hl]; exact (List.getElem?_eq_some_iff.1 hj).1
          rw [u8s_at xs j hjl] at hj
          cases hj
          rw [Addr.add_mid]
          exact hcell j hjl)
        (fun j hj => (hth j (by rw [← hl]; exact hj)).1) (fun j hj => (hth j (by rw [← hl]; exact hj)).2) (u8s_one xs)
      rw [hl] at this
      exact this
/-- Bytes copied over a row of the call's own. -/
theorem wrote_slc (w : World) (g ca : Nat) (f : Nat → Nat) (o : Nat) (xs : List Nat) (cur : Array Value) (hb : Blk w g cur 5) (hc : 64 ≤ ca) (hm : ca ≤ maxLen) (hsz : cur.size = ca) (hf : ∀ i, i < 64 → cur[i]? = some (.int .u8 (f i : Int))) (ho : o + xs.length ≤ 64) :
    Slc .u8 (w.setCells g o (u8s xs)) (.slice (some ⟨g, 0, none⟩) 64 ca) (bts (wr f o xs) 64) := by
  have hl : (u8s xs).length = xs.length := by simp [u8s]
  obtain ⟨ds, h1, h2, h3, h4⟩ := hb.sets (u8s xs) o
  rw [hl] at h3 h4
  refine ⟨_, ca, by rw [bts_len], by rw [bts_len]; exact hc, hm, .inr ⟨g, 0, rfl, h1.lt, fun i hi => ?_⟩⟩
  rw [bts_len] at hi
  have e : (bts (wr f o xs) 64)[i]?.getD 0 = wr f o xs i := by simp [bts, hi]
  rw [e, Nat.zero_add, h1.cell]
  unfold Fw.wr
  by_cases e2 : o ≤ i ∧ i < o + xs.length
  · rw [if_pos e2]
    have := h4 (i - o) (by omega) (by omega)
    rw [show o + (i - o) = i by omega] at this
    rw [this, u8s_at xs _ (by omega)]
  · rw [if_neg e2, h3 i (by omega), hf i hi]


set_option maxRecDepth 100000 in
set_option maxHeartbeats 2000000 in
theorem apart_wide (v : Value) (ops : List Opr) (w : World) (h : OpsAt w v ops) (hf : Fine ops) (kind k off m : Int) (xs : List Nat) (bv : Value) (hs : Slc .u8 w bv xs) (hl : 100 < xs.length) :
    Calls Try.prog 8 #[v, .agg #[.int .i64 kind, .int .i64 k, .int .i64 off, .int .i64 m, bv]] w fun e w' => e = .returned (.bool true) ∧ Below w.heap.size w w' := by
  obtain ⟨wb, hwb⟩ : ∃ wb, w.alloc (.cells #[.int .i64 kind, .int .i64 k, .int .i64 off, .int .i64 m, bv] 33) = wb := ⟨_, rfl⟩
  have hb : Below w.heap.size w wb := by rw [← hwb]; exact (Below.refl _ _).alloc (Nat.le_refl _) _
  have hbx : Blk wb w.heap.size #[.int .i64 kind, .int .i64 k, .int .i64 off, .int .i64 m, bv] 33 := by rw [← hwb]; exact Blk.new _ _ _
  have HO := Lib.hid (OpsAt.below h hb)
  have HB := Lib.hid hb
  have HX := Lib.hid hbx
  have HF := Lib.hid hf
  obtain ⟨a2, cap2, rfl⟩ := slc_len hs
  have d0 : decide ((100 : Int) < (xs.length : Int)) = true := decide_eq_true (by omega)
  clear h hb hbx hf hs hl
  go_enter Try.func8, Try.ntmps8
  go_wp2_with (first | (go_at_call 28; (with_reducible refine (alive_any _).mono ?_); rintro e w1 ⟨rfl, b1⟩; have B1 := Lib.hid b1; have x4 := (HX.out.below b1).cell 4; clear b1) | (go_at_call 10; (with_reducible refine (great_fine _ ops _ (OpsAt.below HO.out B1.out) HF.out).mono ?_); rintro e w2 ⟨rfl, rfl⟩))
  go_ret
  exact ⟨rfl, HB.out.trans (B1.out.mono HB.out.size)⟩

set_option maxRecDepth 100000 in
set_option maxHeartbeats 8000000 in
theorem apart_fit (v : Value) (ops : List Opr) (w : World) (h : OpsAt w v ops) (hf : Fine ops) (kind k off m : Int) (xs : List Nat) (bv : Value) (hs : Slc .u8 w bv xs) (ho : (Lit.int .i64 off).wf = true) (hx : ∀ y ∈ xs, y < 256) (hl : xs.length ≤ 100) (o : Nat) (hoo : off = (o : Int)) (hol : o + xs.length ≤ 64) :
    Calls Try.prog 8 #[v, .agg #[.int .i64 kind, .int .i64 k, .int .i64 off, .int .i64 m, bv]] w fun e w' => e = .returned (.bool true) ∧ Below w.heap.size w w' := by
  obtain ⟨wb, hwb⟩ : ∃ wb, w.alloc (.cells #[.int .i64 kind, .int .i64 k, .int .i64 off, .int .i64 m, bv] 33) = wb := ⟨_, rfl⟩
  have hb : Below w.heap.size w wb := by rw [← hwb]; exact (Below.refl _ _).alloc (Nat.le_refl _) _
  have hbx : Blk wb w.heap.size #[.int .i64 kind, .int .i64 k, .int .i64 off, .int .i64 m, bv] 33 := by rw [← hwb]; exact Blk.new _ _ _
  have HO := Lib.hid (OpsAt.below h hb)
  have HB := Lib.hid hb
  have HX := Lib.hid hbx
  have HF := Lib.hid hf
  have HSl := Lib.hid hs
  have HWf := Lib.hid (And.intro ho hx)
  have HLn := Lib.hid hl
  obtain ⟨a2, cap2, rfl⟩ := slc_len hs
  subst hoo
  have HOL := Lib.hid hol
  have d0 : decide ((100 : Int) < (xs.length : Int)) = false := decide_eq_false (by omega)
  have d1 : decide (0 ≤ (o : Int)) = true := decide_eq_true (by omega)
  have d2 : decide ((o : Int) ≤ 64) = true := decide_eq_true (by omega)
  have d3 : decide ((xs.length : Int) ≤ 64 - (o : Int)) = true := decide_eq_true (by omega)
  have e3 : IntKind.i64.wrap (64 - (o : Int)) = 64 - (o : Int) := by rw [IntKind.wrap_i64]; omega
  clear hl hol
  clear h hb hbx hf hs ho hx
  go_enter Try.func8, Try.ntmps8
  go_wp2_with (first | (go_at_call 28; (with_reducible refine (alive_any _).mono ?_); rintro e w1 ⟨rfl, b1⟩; have B1 := Lib.hid b1; have x4 := (HX.out.below b1).cell 4; clear b1) | (go_at_call 10; (with_reducible refine (great_fine _ ops _ (OpsAt.below HO.out B1.out) HF.out).mono ?_); rintro e w2 ⟨rfl, rfl⟩) | (go_at_call 29; (with_reducible refine (grown_any _ ops _ (OpsAt.below HO.out B1.out) HF.out).mono ?_); rintro e w2 ⟨p, b, q, rr, rb, R, B, B', rfl, hs⟩; have HS := Lib.hid hs; clear hs) | (go_at_call 13; (with_reducible refine (copy_ok _ _ _ _ _ _ HS.out.mem).mono ?_); rintro e w3 ⟨b3, p', b', rfl, hp3, hb3, hm3⟩; refine Hid.out ?_))
  refine Lib.hid ?_
  have hbl := HS.out.mem.lt
  have hbx3 := ((HX.out.below B1.out).below HS.out.bel).below b3
  have y1 := hbx3.cell 1
  have y2 := hbx3.cell 2
  have y4 := hbx3.cell 4
  have hW0 := HB.out.trans ((B1.out.trans (HS.out.bel.mono B1.out.size)).mono HB.out.size)
  have H3 := Lib.hid (And.intro (Mem.below HS.out.mem b3) (And.intro hm3 (And.intro hbx3 (And.intro (hW0.trans (b3.mono hW0.size)) (And.intro b3 (And.intro hb3 (And.intro hp3 hbl)))))))
  clear b3 hm3 hbx3 hW0 hp3 hb3 hbl x4
  by_cases hk : rf 12 R k = 0
  · obtain ⟨E, hE, hwr⟩ : ∃ E : Int, E ≠ 0 ∧ Calls Try.prog 26 #[.pointer (some ⟨p, 0, none⟩), .int .i64 k, .int .i64 (o : Int), .slice a2 xs.length cap2] w3 fun e w' => e = .returned (.int .i64 E) ∧ w3 = w' := ⟨41, by omega, write_no w3 p b 12 R B H3.out.1 k o a2 xs.length cap2 hk⟩
    have HK0 := Lib.hid hk
    clear hk
    have HWr := Lib.hid hwr
    have hEd : (E == 0) = false := by simpa using hE
    clear hwr hE
    go_wp2_with (first | (go_at_call 26; (with_reducible refine HWr.out.mono ?_); rintro e w4 ⟨rfl, rfl⟩) | (go_at_call 17; (with_reducible refine (used_any _ _ _ _ _ _ H3.out.2.1).mono ?_); rintro e w5 ⟨b5, ru, rfl, hu⟩; refine Hid.out ?_))
    refine Lib.hid ?_
    have hiu := IntsAt.of_row hu
    have HU := Lib.hid (And.intro b5 hiu)
    obtain ⟨au, cu, rfl, hcu⟩ := hiu
    have HCu := Lib.hid hcu
    have hul : ((usd R 12).length : Int) ≤ 12 := by have := usd_len R 12; omega
    obtain ⟨L, hL⟩ : ∃ L, (usd R 12).length = L := ⟨_, rfl⟩
    rw [hL] at hul
    have HL := Lib.hid hL
    rw [hL]
    clear b5 hu hcu hL y1 y2 y4
    go_wp2
    go_loopw [63] (fun i wr => ∃ j : Nat, j ≤ L ∧ i = .int .i64 (j : Int) ∧ Below w5.heap.size w5 wr) (fun i _ => L - (intOf i).toNat)
    case atStart => exact ⟨0, Nat.zero_le _, rfl, Below.refl _ _⟩
    case round =>
      obtain ⟨j, hj, rfl, hB⟩ := hrel
      have hB3 := HU.out.1.trans (hB.mono HU.out.1.size)
      have hbxr := H3.out.2.2.1.below hB3
      have y1 := hbxr.cell 1
      have HB3 := Lib.hid (And.intro hB (And.intro hB3 hbxr))
      clear hB hB3 hbxr
      by_cases hlt : j < L
      · have hjl : j < (usd R 12).length := by rw [HL.out]; exact hlt
        obtain ⟨gu, rfl, hgu, hcc⟩ := HCu.out j hjl
        have cc := (HB3.out.1.cell (p := ⟨gu, j, none⟩) hgu).trans hcc
        obtain ⟨hkn, hkr⟩ := usd_at R 12 j hjl
        obtain ⟨kk, hkk⟩ : ∃ kk, (usd R 12)[j] = kk := ⟨_, rfl⟩
        rw [hkk] at cc hkn hkr
        have r1 := Lib.hid (read_whole _ _ _ _ _ _ (Mem.below H3.out.2.1 HB3.out.2.1) kk hkn hkr)
        have HK := Lib.hid (And.intro hkn hkr)
        have hq : ((kk : Int) == k) = false := by
          cases hq : ((kk : Int) == k) with
          | false => rfl
          | true =>
            exfalso
            have : (kk : Int) = k := by simpa using hq
            have h0 := HK0.out
            rw [← this, rf_nat hkn] at h0
            exact hkr h0
        clear hcc hgu hkk hkn hkr hjl
        go_wp2_with (first | (go_at_call 22; (with_reducible refine r1.out.mono ?_); rintro e w6 ⟨b6, ra, rfl, ha⟩; refine Hid.out ?_))
        refine Lib.hid ?_
        have r2 := Lib.hid (read_whole _ _ _ _ _ _ (Mem.below (Mem.below H3.out.1 HB3.out.2.1) b6) kk HK.out.1 HK.out.2)
        have z1 := (HB3.out.2.2.below b6).cell 1
        have H6 := Lib.hid (And.intro b6 ha)
        obtain ⟨aa, ca, rfl⟩ := Gn.row_form ha
        clear b6 ha
        go_wp2_with (first | (go_at_call 22; (with_reducible refine r2.out.mono ?_); rintro e w7 ⟨b7, rb2, rfl, hb2⟩; refine Hid.out ?_))
        refine Lib.hid ?_
        have s1 := slc_string (own_slcf (own_below H6.out.2 b7))
        have s2 := slc_string (own_slcf hb2)
        have u1 := ((HB3.out.2.2.below H6.out.1).below b7).cell 1
        generalize bstr (bts (B kk) 64) = S at *
        have H7 := Lib.hid (HB3.out.1.trans ((H6.out.1.trans (b7.mono H6.out.1.size)).mono HB3.out.1.size))
        clear b7 hb2 z1 y1
        go_wp2
        go_roundw
        case rel => exact ⟨j + 1, by omega, by go_num, H7.out⟩
        case measure => simp [intOf]; omega
      · obtain rfl : j = L := by omega
        have hre := refs_any _ _ _ _ _ _ (Mem.below H3.out.2.1 HB3.out.2.1) k
        rw [HK0.out] at hre
        have HRe := Lib.hid hre
        clear hre
        go_wp2_with (first | (go_at_call 23; (with_reducible refine HRe.out.mono ?_); rintro e w8 ⟨rfl, rfl⟩))
        go_ret
        exact ⟨rfl, H3.out.2.2.2.1.trans (HB3.out.2.1.mono H3.out.2.2.2.1.size)⟩
  obtain ⟨j0, rfl, hj0, hr0⟩ := rf_pos hk
  have hsl3 := HSl.out.below H3.out.2.2.2.1
  have hwr := write_ok w3 p b 12 R B H3.out.1 j0 hj0 hr0 o _ xs hsl3 HWf.out.2 HOL.out
  have HWr := Lib.hid hwr
  have HJ0 := Lib.hid (And.intro hj0 hr0)
  clear hwr hk hj0 hr0 hsl3
  go_wp2_with (first | (go_at_call 26; (with_reducible refine HWr.out.mono ?_); rintro e w4 ⟨rfl, hm4, hk4⟩; refine Hid.out ?_))
  refine Lib.hid ?_
  have hxb : w.heap.size < b := Nat.lt_of_lt_of_le HX.out.lt (Nat.le_trans B1.out.size HS.out.lo.2.1)
  have hbx4 := H3.out.2.2.1.kept hk4 (fun e => by omega)
  have hm4' := H3.out.2.1.kept hk4 (fun e => by have := H3.out.2.2.2.2.2.2.2; have := H3.out.2.2.2.2.2.2.1; have := H3.out.2.2.2.2.2.1; omega) (fun e => by have := H3.out.2.2.2.2.2.2.2; have := H3.out.2.2.2.2.2.2.1; have := H3.out.2.2.2.2.2.1; omega)
  have hW4 := H3.out.2.2.2.1.trans (hk4.below (Nat.le_trans (by omega) H3.out.2.2.2.1.size) (fun j e => by omega))
  have y2 := hbx4.cell 2
  have y4 := hbx4.cell 4
  have H4 := Lib.hid (And.intro hm4 (And.intro hm4' (And.intro hbx4 hW4)))
  clear hm4 hk4 hm4' hbx4 hW4 hxb
  go_wp2_with (first | (go_at_call 17; (with_reducible refine (used_any _ _ _ _ _ _ H4.out.2.1).mono ?_); rintro e w5 ⟨b5, ru, rfl, hu⟩; refine Hid.out ?_))
  refine Lib.hid ?_
  have hiu := IntsAt.of_row hu
  have HU := Lib.hid (And.intro b5 hiu)
  obtain ⟨au, cu, rfl, hcu⟩ := hiu
  have HCu := Lib.hid hcu
  have hul : ((usd R 12).length : Int) ≤ 12 := by have := usd_len R 12; omega
  obtain ⟨L, hL⟩ : ∃ L, (usd R 12).length = L := ⟨_, rfl⟩
  rw [hL] at hul
  have HL := Lib.hid hL
  rw [hL]
  clear b5 hu hcu hL y2 y4
  go_wp2
  go_loopw [63] (fun i wr => ∃ j : Nat, j ≤ L ∧ i = .int .i64 (j : Int) ∧ Below w5.heap.size w5 wr) (fun i _ => L - (intOf i).toNat)
  case atStart => exact ⟨0, Nat.zero_le _, rfl, Below.refl _ _⟩
  case round =>
    obtain ⟨j, hj, rfl, hB⟩ := hrel
    have hB3 := HU.out.1.trans (hB.mono HU.out.1.size)
    have hbxr := H4.out.2.2.1.below hB3
    have y1 := hbxr.cell 1
    have HB3 := Lib.hid (And.intro hB (And.intro hB3 hbxr))
    clear hB hB3 hbxr
    by_cases hlt : j < L
    · have hjl : j < (usd R 12).length := by rw [HL.out]; exact hlt
      obtain ⟨gu, rfl, hgu, hcc⟩ := HCu.out j hjl
      have cc := (HB3.out.1.cell (p := ⟨gu, j, none⟩) hgu).trans hcc
      obtain ⟨hkn, hkr⟩ := usd_at R 12 j hjl
      obtain ⟨kk, hkk⟩ : ∃ kk, (usd R 12)[j] = kk := ⟨_, rfl⟩
      rw [hkk] at cc hkn hkr
      have r1 := Lib.hid (read_whole _ _ _ _ _ _ (Mem.below H4.out.2.1 HB3.out.2.1) kk hkn hkr)
      have HK := Lib.hid (And.intro hkn hkr)
      clear hcc hgu hkk hkn hkr hjl
      go_wp2_with (first | (go_at_call 22; (with_reducible refine r1.out.mono ?_); rintro e w6 ⟨b6, ra, rfl, ha⟩; refine Hid.out ?_))
      refine Lib.hid ?_
      have r2 := Lib.hid (read_whole _ _ _ _ _ _ (Mem.below (Mem.below H4.out.1 HB3.out.2.1) b6) kk HK.out.1 HK.out.2)
      have z1 := (HB3.out.2.2.below b6).cell 1
      have H6 := Lib.hid (And.intro b6 ha)
      obtain ⟨aa, ca, rfl⟩ := Gn.row_form ha
      clear b6 ha
      go_wp2_with (first | (go_at_call 22; (with_reducible refine r2.out.mono ?_); rintro e w7 ⟨b7, rb2, rfl, hb2⟩; refine Hid.out ?_))
      refine Lib.hid ?_
      have hbx7 := (HB3.out.2.2.below H6.out.1).below b7
      have u1 := hbx7.cell 1
      by_cases hkj : kk = j0
      · subst hkj
        rw [up_same] at hb2
        have hq : ((kk : Int) == (kk : Int)) = true := by simp
        have ha7 := own_below H6.out.2 b7
        have hlt6 := ha7.lt
        obtain ⟨_, ⟨e9, h0⟩ | ⟨g, cap9, cur, e9, hg, hbg, hn9, hm9, hsz9, htk⟩⟩ := ha7
        · omega
        cases e9
        rw [Nat.mul_one] at hsz9
        have hbg2 : Blk w7.drew g cur 5 := hbg
        have hcur : ∀ i, i < 64 → cur[i]? = some (.int .u8 (B kk i : Int)) := fun i hi => by
          have := congrArg (fun z => z[i]?) htk
          simp only [List.getElem?_take, Nat.mul_one, hi, if_true, Array.getElem?_toList] at this
          rw [this]
          exact u8f_at _ _ _ hi
        have hB7 : Below w.heap.size w w7 := H4.out.2.2.2.trans ((HB3.out.2.1.trans ((H6.out.1.trans (b7.mono H6.out.1.size)).mono HB3.out.2.1.size)).mono H4.out.2.2.2.size)
        have hslo := fun W => run_slO W g ca o (by have := HOL.out; omega)
        have hcp := run_cpy w7.drew g o (if ca = o then 0 else o) (64 - o) (ca - o) a2 cap2 xs ((HSl.out.below hB7).below ((Below.refl _ _).drew)) cur _ hbg2 (by have := HOL.out; omega) (by have := HOL.out; omega) (fun h0 => by have := HOL.out; rw [if_neg (by omega)])
        have hws := wrote_slc w7.drew g ca (B kk) o xs cur hbg2 hn9 hm9 hsz9 hcur HOL.out
        have hk8 : Kp (fun j => j = g) w7 (w7.drew.setCells g o (u8s xs)) := ((Kp.refl (fun j => j = g) w7).drew).trans (Kp.sets (S := fun j => j = g) g rfl _ _ _) (fun _ e => .inl e)
        have hg6 : g < w6.heap.size := by
          rcases H6.out.2.lt g rfl with ⟨_, h2⟩
          exact h2
        have hrb := hb2.kept (kp_grown hk8) (by
          cases hv : rb2.ownBlock with
          | none => exact .inl rfl
          | some r => exact .inr (fun e => by cases e; have := (hb2.lt _ hv).1; omega))
        have s1 := slc_string hws
        have s2 := slc_string (own_slcf hrb)
        have hgx : ¬ (w.heap.size = g) := fun e => by subst e; exact absurd (hbx7.inj hbg).2 (by decide)
        have u2 := hbx7.cell 2
        have u4 := hbx7.cell 4
        have hgl : (H6.out.2.lt g rfl).1 = (H6.out.2.lt g rfl).1 := rfl
        have H7 := Lib.hid (HB3.out.1.trans (((H6.out.1.trans (b7.mono H6.out.1.size)).trans (hk8.below (Nat.le_trans H6.out.1.size b7.size) (fun j e => by subst e; exact (H6.out.2.lt _ rfl).1))).mono HB3.out.1.size))
        generalize w7.drew.setCells g o (u8s xs) = w8 at *
        generalize bstr (bts (Fw.wr (B kk) o xs) 64) = S at *
        generalize (if ca = o then 0 else o) = O at *
        clear b7 hb2 z1 y1 hlt6 hbg hbg2 hcur htk hB7 hws hk8 hrb hgx hgl hbx7 hm9 hsz9 hn9 hg hg6
        go_wp2
        go_region
        go_wp2
        go_roundw
        case rel => exact ⟨j + 1, by omega, by go_num, H7.out⟩
        case measure => simp [intOf]; omega
      · rw [up_other _ _ _ _ hkj] at hb2
        have hq : ((kk : Int) == (j0 : Int)) = false := by simp; omega
        have s1 := slc_string (own_slcf (own_below H6.out.2 b7))
        have s2 := slc_string (own_slcf hb2)
        generalize bstr (bts (B kk) 64) = S at *
        have H7 := Lib.hid (HB3.out.1.trans ((H6.out.1.trans (b7.mono H6.out.1.size)).mono HB3.out.1.size))
        clear b7 hb2 z1 y1 hbx7
        go_wp2
        go_roundw
        case rel => exact ⟨j + 1, by omega, by go_num, H7.out⟩
        case measure => simp [intOf]; omega
    · obtain rfl : j = L := by omega
      have hre := refs_in _ _ _ _ _ _ (Mem.below H4.out.2.1 HB3.out.2.1) j0 HJ0.out.1
      obtain ⟨r0, hr0⟩ : ∃ r0 : Int, (R j0 : Int) = r0 := ⟨_, rfl⟩
      rw [hr0] at hre
      have hd : decide (0 < r0) = true := decide_eq_true (by have := HJ0.out.2; omega)
      have HRe := Lib.hid hre
      clear hre hr0
      go_wp2_with (first | (go_at_call 23; (with_reducible refine HRe.out.mono ?_); rintro e w8 ⟨rfl, rfl⟩))
      go_ret
      exact ⟨rfl, H4.out.2.2.2.trans (HB3.out.2.1.mono H4.out.2.2.2.size)⟩
end Go.Proofs.Ytompcmbaiegkaaa.Aq
namespace Go.Proofs.Ytompcmbaiegkaaa.Walk
open Go Go.RowKit Kit Ea Pa Ap Aq
theorem framesApart (v : Value) (ops : List Opr) (x : Opr) (bv : Value) (W : World) (h : OpsAt W v ops) (hs : Slc .u8 W bv x.xs) (ho : (Lit.int .i64 x.off).wf = true) (_ : (Lit.int .i64 x.n).wf = true) (hx : ∀ y ∈ x.xs, y < 256) :
    Calls Try.prog 8 #[v, .agg #[.int .i64 x.kind, .int .i64 x.k, .int .i64 x.off, .int .i64 x.n, bv]] W fun e w' => e = .returned (.bool true) ∧ Below W.heap.size W w' := by
  by_cases hf : Fine ops
  · by_cases hl : x.xs.length ≤ 100
    · by_cases h1 : x.off < 0
      · exact apart_f1 v ops W h hf x.kind x.k x.off x.n x.xs bv hs ho hx hl h1
      by_cases h2 : 64 < x.off
      · exact apart_f2 v ops W h hf x.kind x.k x.off x.n x.xs bv hs ho hx hl h2
      by_cases h3 : 64 - x.off < (x.xs.length : Int)
      · exact apart_f3 v ops W h hf x.kind x.k x.off x.n x.xs bv hs ho hx hl (by omega) (by omega) h3
      · obtain ⟨o, ho2⟩ := Int.eq_ofNat_of_zero_le (show 0 ≤ x.off by omega)
        exact apart_fit v ops W h hf x.kind x.k x.off x.n x.xs bv hs ho hx hl o ho2 (by omega)
    · exact apart_wide v ops W h hf x.kind x.k x.off x.n x.xs bv hs (by omega)
  · exact apart_great v ops W h hf x bv
end Go.Proofs.Ytompcmbaiegkaaa.Walk
