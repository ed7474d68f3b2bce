/-
  FramesApart: the walks.
-/
import Derived.Test.YtompcmbaiegkaaaPa
namespace Go.Proofs.Ytompcmbaiegkaaa.Ap
open Go Go.RowKit Kit Fm Fo Fr Fw Fx Fy Fu Fv Gm Go2 Gr Gw Gn Da Db Dc Ea Pa
set_option linter.unusedVariables false
attribute [local go_sem ↓] cpy_wrap

/-- A cut of a slice of bytes, behind a name that a walk does not open. -/
def slO (v : Value) (l : Option Value) : Sem Value := Instr.sliceAt 31 v l none none
theorem sl_wrap (v : Value) (l : Option Value) : Instr.sliceAt 31 v l none none = slO v l := rfl
attribute [local go_sem ↓] sl_wrap

theorem ops_low {w w' : World} {v : Value} {ops : List Opr} (h : OpsAt w v ops) (hb : Below w.heap.size w w') : OpsAt w' v ops := OpsAt.below h hb
theorem read_whole (w : World) (p b n : Nat) (R : Nat → Nat) (B : Nat → Nat → Nat) (h : Mem w p b n R B) (k : Nat) (hk : k < n) (hr : R k ≠ 0) :
    Calls Try.prog 22 #[.pointer (some ⟨p, 0, none⟩), .int .i64 (k : Int), .int .i64 0, .int .i64 64] w fun e w' => Below w.heap.size w w' ∧ ∃ r, e = .returned (.tuple #[r, .int .i64 0]) ∧ w'.ownsRow w.heap.size 5 1 r 64 (u8f (B k) 64) := by
  have := read_ok w p b n R B h k hk hr 0 64 (by omega)
  simp only [Nat.zero_add] at this
  exact this
theorem usd_at (R : Nat → Nat) (n i : Nat) (h : i < (usd R n).length) : (usd R n)[i] < n ∧ R (usd R n)[i] ≠ 0 := usd_mem.1 (List.getElem_mem h)
theorem ints_cell {w : World} {base g cap : Nat} {l : List Nat} (h : w.ownsRow base 3 1 (.slice (some ⟨g, 0, none⟩) l.length cap) l.length (ints l)) (i : Nat) (hi : i < l.length) : w.cell? ⟨g, i, none⟩ = some (.int .i64 (l[i] : Int)) := by
  have := h.cellAt i (by omega)
  rw [this]
  simp [ints, hi]
/-- A slice of numbers, as its cells. -/
def IntsAt (w : World) (v : Value) (l : List Nat) : Prop := ∃ a cap, v = .slice a l.length cap ∧ ∀ i, (h : i < l.length) → ∃ g, a = some ⟨g, 0, none⟩ ∧ g < w.heap.size ∧ w.cell? ⟨g, i, none⟩ = some (.int .i64 (l[i] : Int))
theorem IntsAt.of_row {w : World} {base : Nat} {v : Value} {l : List Nat} (h : w.ownsRow base 3 1 v l.length (ints l)) : IntsAt w v l := by
  rcases h.2 with ⟨rfl, h0⟩ | ⟨g, cap, cur, rfl, hg, hh, r⟩
  · exact ⟨none, 0, by rw [h0], fun i hi => by omega⟩
  · exact ⟨_, cap, rfl, fun i hi => ⟨g, rfl, (Array.getElem?_eq_some_iff.1 hh).1, ints_cell h i hi⟩⟩
theorem IntsAt.below {w w' : World} {v : Value} {l : List Nat} (h : IntsAt w v l) (hb : Below w.heap.size w w') : IntsAt w' v l := by
  obtain ⟨a, cap, h1, h2⟩ := h
  refine ⟨a, cap, h1, fun i hi => ?_⟩
  obtain ⟨g, e, hlt, hc⟩ := h2 i hi
  exact ⟨g, e, Nat.lt_of_lt_of_le hlt hb.size, (hb.cell (p := ⟨g, i, none⟩) hlt).trans hc⟩
theorem bts_ext {f f' : Nat → Nat} {m : Nat} (h : ∀ i, i < m → f i = f' i) : bts f m = bts f' m := by
  unfold bts
  refine List.map_congr_left fun i hi => ?_
  rw [h i (by simpa using hi)]
theorem kp_grown {w w' : World} {g : Nat} (h : Kp (fun j => j = g) w w') : w.grownBy w' (some g) := ⟨h.os, h.tape, h.output, h.size, fun k hk hn => h.block k hk (fun e => hn (by rw [e]))⟩
theorem slc_len {k : IntKind} {w : World} {v : Value} {xs : List Nat} (h : Slc k w v xs) : ∃ a cap, v = .slice a xs.length cap := by
  obtain ⟨a, cap, e, _⟩ := h
  exact ⟨a, cap, e⟩

set_option maxRecDepth 100000 in
set_option maxHeartbeats 2000000 in
theorem apart_great (v : Value) (ops : List Opr) (w : World) (h : OpsAt w v ops) (hf : ¬ Fine ops) (x : Opr) (bv : Value) :
    Calls Try.prog 8 #[v, .agg #[.int .i64 x.kind, .int .i64 x.k, .int .i64 x.off, .int .i64 x.n, bv]] w fun e w' => e = .returned (.bool true) ∧ Below w.heap.size w w' := by
  obtain ⟨kind, k, off, m, xs⟩ := x
  obtain ⟨wb, hwb⟩ : ∃ wb, w.alloc (.cells #[.int .i64 kind, .int .i64 k, .int .i64 off, .int .i64 m, bv] 33) = wb := ⟨_, rfl⟩
  have hb : Below w.heap.size w wb := by rw [← hwb]; exact (Below.refl _ _).alloc (Nat.le_refl _) _
  have HO := Lib.hid (OpsAt.below h hb)
  have HB := Lib.hid hb
  clear h hb
  go_enter Try.func8, Try.ntmps8
  go_wp2_with (first | (go_at_call 28; (with_reducible refine (alive_any _).mono ?_); rintro e w1 ⟨rfl, b1⟩; have B1 := Lib.hid b1; clear b1) | (go_at_call 10; (with_reducible refine (great_any _ ops _ (OpsAt.below HO.out B1.out) hf).mono ?_); rintro e w2 ⟨rfl, rfl⟩))
  go_ret
  exact ⟨rfl, HB.out.trans (B1.out.mono HB.out.size)⟩

set_option maxRecDepth 100000 in
set_option maxHeartbeats 8000000 in
theorem apart_f1 (v : Value) (ops : List Opr) (w : World) (h : OpsAt w v ops) (hf : Fine ops) (kind k off m : Int) (xs : List Nat) (bv : Value) (hs : Slc .u8 w bv xs) (ho : (Lit.int .i64 off).wf = true) (hx : ∀ y ∈ xs, y < 256) (hl : xs.length ≤ 100) (hnf : off < 0) :
    Calls Try.prog 8 #[v, .agg #[.int .i64 kind, .int .i64 k, .int .i64 off, .int .i64 m, bv]] w fun e w' => e = .returned (.bool true) ∧ Below w.heap.size w w' := by
  obtain ⟨wb, hwb⟩ : ∃ wb, w.alloc (.cells #[.int .i64 kind, .int .i64 k, .int .i64 off, .int .i64 m, bv] 33) = wb := ⟨_, rfl⟩
  have hb : Below w.heap.size w wb := by rw [← hwb]; exact (Below.refl _ _).alloc (Nat.le_refl _) _
  have hbx : Blk wb w.heap.size #[.int .i64 kind, .int .i64 k, .int .i64 off, .int .i64 m, bv] 33 := by rw [← hwb]; exact Blk.new _ _ _
  have HO := Lib.hid (OpsAt.below h hb)
  have HB := Lib.hid hb
  have HX := Lib.hid hbx
  have HF := Lib.hid hf
  have HSl := Lib.hid hs
  have HWf := Lib.hid (And.intro ho hx)
  have HLn := Lib.hid hl
  obtain ⟨a2, cap2, rfl⟩ := slc_len hs
  have d0 : decide ((100 : Int) < (xs.length : Int)) = false := decide_eq_false (by omega)
  have HNF : Hid (¬ (0 ≤ off ∧ off + (xs.length : Int) ≤ 64)) := Lib.hid (by omega)
  have d1 : decide (0 ≤ off) = false := decide_eq_false (by omega)
  clear hnf
  clear hl
  clear h hb hbx hf hs ho hx
  go_enter Try.func8, Try.ntmps8
  go_wp2_with (first | (go_at_call 28; (with_reducible refine (alive_any _).mono ?_); rintro e w1 ⟨rfl, b1⟩; have B1 := Lib.hid b1; have x4 := (HX.out.below b1).cell 4; clear b1) | (go_at_call 10; (with_reducible refine (great_fine _ ops _ (OpsAt.below HO.out B1.out) HF.out).mono ?_); rintro e w2 ⟨rfl, rfl⟩) | (go_at_call 29; (with_reducible refine (grown_any _ ops _ (OpsAt.below HO.out B1.out) HF.out).mono ?_); rintro e w2 ⟨p, b, q, rr, rb, R, B, B', rfl, hs⟩; have HS := Lib.hid hs; clear hs) | (go_at_call 13; (with_reducible refine (copy_ok _ _ _ _ _ _ HS.out.mem).mono ?_); rintro e w3 ⟨b3, p', b', rfl, hp3, hb3, hm3⟩; refine Hid.out ?_))
  refine Lib.hid ?_
  have hbl := HS.out.mem.lt
  have hbx3 := ((HX.out.below B1.out).below HS.out.bel).below b3
  have y1 := hbx3.cell 1
  have y2 := hbx3.cell 2
  have y4 := hbx3.cell 4
  have hW0 := HB.out.trans ((B1.out.trans (HS.out.bel.mono B1.out.size)).mono HB.out.size)
  have H3 := Lib.hid (And.intro (Mem.below HS.out.mem b3) (And.intro hm3 (And.intro hbx3 (And.intro (hW0.trans (b3.mono hW0.size)) (And.intro b3 (And.intro hb3 (And.intro hp3 hbl)))))))
  clear b3 hm3 hbx3 hW0 hp3 hb3 hbl x4
  obtain ⟨E, hE, hwr⟩ : ∃ E : Int, E ≠ 0 ∧ Calls Try.prog 26 #[.pointer (some ⟨p, 0, none⟩), .int .i64 k, .int .i64 off, .slice a2 xs.length cap2] w3 fun e w' => e = .returned (.int .i64 E) ∧ w3 = w' := by
    by_cases hk : rf 12 R k = 0
    · exact ⟨41, by omega, write_no w3 p b 12 R B H3.out.1 k off a2 xs.length cap2 hk⟩
    · obtain ⟨j, rfl, hj, hr⟩ := rf_pos hk
      exact ⟨2, by omega, write_arg w3 p b 12 R B H3.out.1 j hj hr off HWf.out.1 a2 xs.length cap2 (by have := HLn.out; omega) HNF.out⟩
  have HWr := Lib.hid hwr
  have hEd : (E == 0) = false := by simpa using hE
  clear hwr hE
  go_wp2_with (first | (go_at_call 26; (with_reducible refine HWr.out.mono ?_); rintro e w4 ⟨rfl, rfl⟩) | (go_at_call 17; (with_reducible refine (used_any _ _ _ _ _ _ H3.out.2.1).mono ?_); rintro e w5 ⟨b5, ru, rfl, hu⟩; refine Hid.out ?_))
  refine Lib.hid ?_
  have hiu := IntsAt.of_row hu
  have HU := Lib.hid (And.intro b5 hiu)
  obtain ⟨au, cu, rfl, hcu⟩ := hiu
  have HCu := Lib.hid hcu
  have hul : ((usd R 12).length : Int) ≤ 12 := by have := usd_len R 12; omega
  obtain ⟨L, hL⟩ : ∃ L, (usd R 12).length = L := ⟨_, rfl⟩
  rw [hL] at hul
  have HL := Lib.hid hL
  rw [hL]
  clear b5 hu hcu hL y1 y2 y4
  go_wp2
  go_loopw [63] (fun i wr => ∃ j : Nat, j ≤ L ∧ i = .int .i64 (j : Int) ∧ Below w5.heap.size w5 wr) (fun i _ => L - (intOf i).toNat)
  case atStart => exact ⟨0, Nat.zero_le _, rfl, Below.refl _ _⟩
  case round =>
    obtain ⟨j, hj, rfl, hB⟩ := hrel
    have hB3 := HU.out.1.trans (hB.mono HU.out.1.size)
    have hbxr := H3.out.2.2.1.below hB3
    have y1 := hbxr.cell 1
    have HB3 := Lib.hid (And.intro hB (And.intro hB3 hbxr))
    clear hB hB3 hbxr
    by_cases hlt : j < L
    · have hjl : j < (usd R 12).length := by rw [HL.out]; exact hlt
      obtain ⟨gu, rfl, hgu, hcc⟩ := HCu.out j hjl
      have cc := (HB3.out.1.cell (p := ⟨gu, j, none⟩) hgu).trans hcc
      obtain ⟨hkn, hkr⟩ := usd_at R 12 j hjl
      obtain ⟨kk, hkk⟩ : ∃ kk, (usd R 12)[j] = kk := ⟨_, rfl⟩
      rw [hkk] at cc hkn hkr
      have r1 := Lib.hid (read_whole _ _ _ _ _ _ (Mem.below H3.out.2.1 HB3.out.2.1) kk hkn hkr)
      have HK := Lib.hid (And.intro hkn hkr)
      clear hcc hgu hkk hkn hkr hjl
      go_wp2_with (first | (go_at_call 22; (with_reducible refine r1.out.mono ?_); rintro e w6 ⟨b6, ra, rfl, ha⟩; refine Hid.out ?_))
      refine Lib.hid ?_
      have r2 := Lib.hid (read_whole _ _ _ _ _ _ (Mem.below (Mem.below H3.out.1 HB3.out.2.1) b6) kk HK.out.1 HK.out.2)
      have z1 := (HB3.out.2.2.below b6).cell 1
      have H6 := Lib.hid (And.intro b6 ha)
      obtain ⟨aa, ca, rfl⟩ := Gn.row_form ha
      clear b6 ha
      go_wp2_with (first | (go_at_call 22; (with_reducible refine r2.out.mono ?_); rintro e w7 ⟨b7, rb2, rfl, hb2⟩; refine Hid.out ?_))
      refine Lib.hid ?_
      have s1 := slc_string (own_slcf (own_below H6.out.2 b7))
      have s2 := slc_string (own_slcf hb2)
      have u1 := ((HB3.out.2.2.below H6.out.1).below b7).cell 1
      generalize bstr (bts (B kk) 64) = S at *
      have H7 := Lib.hid (HB3.out.1.trans ((H6.out.1.trans (b7.mono H6.out.1.size)).mono HB3.out.1.size))
      clear b7 hb2 z1 y1
      cases hq : ((kk : Int) == k) with
      | false =>
        go_wp2
        go_roundw
        case rel => exact ⟨j + 1, by omega, by go_num, H7.out⟩
        case measure => simp [intOf]; omega
      | true =>
        go_wp2
        go_roundw
        case rel => exact ⟨j + 1, by omega, by go_num, H7.out⟩
        case measure => simp [intOf]; omega
    · obtain rfl : j = L := by omega
      go_wp2
      go_ret
      exact ⟨rfl, H3.out.2.2.2.1.trans (HB3.out.2.1.mono H3.out.2.2.2.1.size)⟩

set_option maxRecDepth 100000 in
set_option maxHeartbeats 8000000 in
theorem apart_f2 (v : Value) (ops : List Opr) (w : World) (h : OpsAt w v ops) (hf : Fine ops) (kind k off m : Int) (xs : List Nat) (bv : Value) (hs : Slc .u8 w bv xs) (ho : (Lit.int .i64 off).wf = true) (hx : ∀ y ∈ xs, y < 256) (hl : xs.length ≤ 100) (hnf : 64 < off) :
    Calls Try.prog 8 #[v, .agg #[.int .i64 kind, .int .i64 k, .int .i64 off, .int .i64 m, bv]] w fun e w' => e = .returned (.bool true) ∧ Below w.heap.size w w' := by
  obtain ⟨wb, hwb⟩ : ∃ wb, w.alloc (.cells #[.int .i64 kind, .int .i64 k, .int .i64 off, .int .i64 m, bv] 33) = wb := ⟨_, rfl⟩
  have hb : Below w.heap.size w wb := by rw [← hwb]; exact (Below.refl _ _).alloc (Nat.le_refl _) _
  have hbx : Blk wb w.heap.size #[.int .i64 kind, .int .i64 k, .int .i64 off, .int .i64 m, bv] 33 := by rw [← hwb]; exact Blk.new _ _ _
  have HO := Lib.hid (OpsAt.below h hb)
  have HB := Lib.hid hb
  have HX := Lib.hid hbx
  have HF := Lib.hid hf
  have HSl := Lib.hid hs
  have HWf := Lib.hid (And.intro ho hx)
  have HLn := Lib.hid hl
  obtain ⟨a2, cap2, rfl⟩ := slc_len hs
  have d0 : decide ((100 : Int) < (xs.length : Int)) = false := decide_eq_false (by omega)
  have HNF : Hid (¬ (0 ≤ off ∧ off + (xs.length : Int) ≤ 64)) := Lib.hid (by omega)
  have d1 : decide (0 ≤ off) = true := decide_eq_true (by omega)
  have d2 : decide (off ≤ 64) = false := decide_eq_false (by omega)
  clear hnf
  clear hl
  clear h hb hbx hf hs ho hx
  go_enter Try.func8, Try.ntmps8
  go_wp2_with (first | (go_at_call 28; (with_reducible refine (alive_any _).mono ?_); rintro e w1 ⟨rfl, b1⟩; have B1 := Lib.hid b1; have x4 := (HX.out.below b1).cell 4; clear b1) | (go_at_call 10; (with_reducible refine (great_fine _ ops _ (OpsAt.below HO.out B1.out) HF.out).mono ?_); rintro e w2 ⟨rfl, rfl⟩) | (go_at_call 29; (with_reducible refine (grown_any _ ops _ (OpsAt.below HO.out B1.out) HF.out).mono ?_); rintro e w2 ⟨p, b, q, rr, rb, R, B, B', rfl, hs⟩; have HS := Lib.hid hs; clear hs) | (go_at_call 13; (with_reducible refine (copy_ok _ _ _ _ _ _ HS.out.mem).mono ?_); rintro e w3 ⟨b3, p', b', rfl, hp3, hb3, hm3⟩; refine Hid.out ?_))
  refine Lib.hid ?_
  have hbl := HS.out.mem.lt
  have hbx3 := ((HX.out.below B1.out).below HS.out.bel).below b3
  have y1 := hbx3.cell 1
  have y2 := hbx3.cell 2
  have y4 := hbx3.cell 4
  have hW0 := HB.out.trans ((B1.out.trans (HS.out.bel.mono B1.out.size)).mono HB.out.size)
  have H3 := Lib.hid (And.intro (Mem.below HS.out.mem b3) (And.intro hm3 (And.intro hbx3 (And.intro (hW0.trans (b3.mono hW0.size)) (And.intro b3 (And.intro hb3 (And.intro hp3 hbl)))))))
  clear b3 hm3 hbx3 hW0 hp3 hb3 hbl x4
  obtain ⟨E, hE, hwr⟩ : ∃ E : Int, E ≠ 0 ∧ Calls Try.prog 26 #[.pointer (some ⟨p, 0, none⟩), .int .i64 k, .int .i64 off, .slice a2 xs.length cap2] w3 fun e w' => e = .returned (.int .i64 E) ∧ w3 = w' := by
    by_cases hk : rf 12 R k = 0
    · exact ⟨41, by omega, write_no w3 p b 12 R B H3.out.1 k off a2 xs.length cap2 hk⟩
    · obtain ⟨j, rfl, hj, hr⟩ := rf_pos hk
      exact ⟨2, by omega, write_arg w3 p b 12 R B H3.out.1 j hj hr off HWf.out.1 a2 xs.length cap2 (by have := HLn.out; omega) HNF.out⟩
  have HWr := Lib.hid hwr
  have hEd : (E == 0) = false := by simpa using hE
  clear hwr hE
  go_wp2_with (first | (go_at_call 26; (with_reducible refine HWr.out.mono ?_); rintro e w4 ⟨rfl, rfl⟩) | (go_at_call 17; (with_reducible refine (used_any _ _ _ _ _ _ H3.out.2.1).mono ?_); rintro e w5 ⟨b5, ru, rfl, hu⟩; refine Hid.out ?_))
  refine Lib.hid ?_
  have hiu := IntsAt.of_row hu
  have HU := Lib.hid (And.intro b5 hiu)
  obtain ⟨au, cu, rfl, hcu⟩ := hiu
  have HCu := Lib.hid hcu
  have hul : ((usd R 12).length : Int) ≤ 12 := by have := usd_len R 12; omega
  obtain ⟨L, hL⟩ : ∃ L, (usd R 12).length = L := ⟨_, rfl⟩
  rw [hL] at hul
  have HL := Lib.hid hL
  rw [hL]
  clear b5 hu hcu hL y1 y2 y4
  go_wp2
  go_loopw [63] (fun i wr => ∃ j : Nat, j ≤ L ∧ i = .int .i64 (j : Int) ∧ Below w5.heap.size w5 wr) (fun i _ => L - (intOf i).toNat)
  case atStart => exact ⟨0, Nat.zero_le _, rfl, Below.refl _ _⟩
  case round =>
    obtain ⟨j, hj, rfl, hB⟩ := hrel
    have hB3 := HU.out.1.trans (hB.mono HU.out.1.size)
    have hbxr := H3.out.2.2.1.below hB3
    have y1 := hbxr.cell 1
    have HB3 := Lib.hid (And.intro hB (And.intro hB3 hbxr))
    clear hB hB3 hbxr
    by_cases hlt : j < L
    · have hjl : j < (usd R 12).length := by rw [HL.out]; exact hlt
      obtain ⟨gu, rfl, hgu, hcc⟩ := HCu.out j hjl
      have cc := (HB3.out.1.cell (p := ⟨gu, j, none⟩) hgu).trans hcc
      obtain ⟨hkn, hkr⟩ := usd_at R 12 j hjl
      obtain ⟨kk, hkk⟩ : ∃ kk, (usd R 12)[j] = kk := ⟨_, rfl⟩
      rw [hkk] at cc hkn hkr
      have r1 := Lib.hid (read_whole _ _ _ _ _ _ (Mem.below H3.out.2.1 HB3.out.2.1) kk hkn hkr)
      have HK := Lib.hid (And.intro hkn hkr)
      clear hcc hgu hkk hkn hkr hjl
      go_wp2_with (first | (go_at_call 22; (with_reducible refine r1.out.mono ?_); rintro e w6 ⟨b6, ra, rfl, ha⟩; refine Hid.out ?_))
      refine Lib.hid ?_
      have r2 := Lib.hid (read_whole _ _ _ _ _ _ (Mem.below (Mem.below H3.out.1 HB3.out.2.1) b6) kk HK.out.1 HK.out.2)
      have z1 := (HB3.out.2.2.below b6).cell 1
      have H6 := Lib.hid (And.intro b6 ha)
      obtain ⟨aa, ca, rfl⟩ := Gn.row_form ha
      clear b6 ha
      go_wp2_with (first | (go_at_call 22; (with_reducible refine r2.out.mono ?_); rintro e w7 ⟨b7, rb2, rfl, hb2⟩; refine Hid.out ?_))
      refine Lib.hid ?_
      have s1 := slc_string (own_slcf (own_below H6.out.2 b7))
      have s2 := slc_string (own_slcf hb2)
      have u1 := ((HB3.out.2.2.below H6.out.1).below b7).cell 1
      generalize bstr (bts (B kk) 64) = S at *
      have H7 := Lib.hid (HB3.out.1.trans ((H6.out.1.trans (b7.mono H6.out.1.size)).mono HB3.out.1.size))
      clear b7 hb2 z1 y1
      cases hq : ((kk : Int) == k) with
      | false =>
        go_wp2
        go_roundw
        case rel => exact ⟨j + 1, by omega, by go_num, H7.out⟩
        case measure => simp [intOf]; omega
      | true =>
        go_wp2
        go_roundw
        case rel => exact ⟨j + 1, by omega, by go_num, H7.out⟩
        case measure => simp [intOf]; omega
    · obtain rfl : j = L := by omega
      go_wp2
      go_ret
      exact ⟨rfl, H3.out.2.2.2.1.trans (HB3.out.2.1.mono H3.out.2.2.2.1.size)⟩

set_option maxRecDepth 100000 in
set_option maxHeartbeats 8000000 in
theorem apart_f3 (v : Value) (ops : List Opr) (w : World) (h : OpsAt w v ops) (hf : Fine ops) (kind k off m : Int) (xs : List Nat) (bv : Value) (hs : Slc .u8 w bv xs) (ho : (Lit.int .i64 off).wf = true) (hx : ∀ y ∈ xs, y < 256) (hl : xs.length ≤ 100) (h0 : 0 ≤ off) (h1 : off ≤ 64) (hnf : 64 - off < (xs.length : Int)) :
    Calls Try.prog 8 #[v, .agg #[.int .i64 kind, .int .i64 k, .int .i64 off, .int .i64 m, bv]] w fun e w' => e = .returned (.bool true) ∧ Below w.heap.size w w' := by
  obtain ⟨wb, hwb⟩ : ∃ wb, w.alloc (.cells #[.int .i64 kind, .int .i64 k, .int .i64 off, .int .i64 m, bv] 33) = wb := ⟨_, rfl⟩
  have hb : Below w.heap.size w wb := by rw [← hwb]; exact (Below.refl _ _).alloc (Nat.le_refl _) _
  have hbx : Blk wb w.heap.size #[.int .i64 kind, .int .i64 k, .int .i64 off, .int .i64 m, bv] 33 := by rw [← hwb]; exact Blk.new _ _ _
  have HO := Lib.hid (OpsAt.below h hb)
  have HB := Lib.hid hb
  have HX := Lib.hid hbx
  have HF := Lib.hid hf
  have HSl := Lib.hid hs
  have HWf := Lib.hid (And.intro ho hx)
  have HLn := Lib.hid hl
  obtain ⟨a2, cap2, rfl⟩ := slc_len hs
  have d0 : decide ((100 : Int) < (xs.length : Int)) = false := decide_eq_false (by omega)
  have HNF : Hid (¬ (0 ≤ off ∧ off + (xs.length : Int) ≤ 64)) := Lib.hid (by omega)
  have d1 : decide (0 ≤ off) = true := decide_eq_true (by omega)
  have d2 : decide (off ≤ 64) = true := decide_eq_true (by omega)
  have d3 : decide ((xs.length : Int) ≤ 64 - off) = false := decide_eq_false (by omega)
  have e3 : IntKind.i64.wrap (64 - off) = 64 - off := by rw [IntKind.wrap_i64]; omega
  clear hnf h0 h1
  clear hl
  clear h hb hbx hf hs ho hx
  go_enter Try.func8, Try.ntmps8
  go_wp2_with (first | (go_at_call 28; (with_reducible refine (alive_any _).mono ?_); rintro e w1 ⟨rfl, b1⟩; have B1 := Lib.hid b1; have x4 := (HX.out.below b1).cell 4; clear b1) | (go_at_call 10; (with_reducible refine (great_fine _ ops _ (OpsAt.below HO.out B1.out) HF.out).mono ?_); rintro e w2 ⟨rfl, rfl⟩) | (go_at_call 29; (with_reducible refine (grown_any _ ops _ (OpsAt.below HO.out B1.out) HF.out).mono ?_); rintro e w2 ⟨p, b, q, rr, rb, R, B, B', rfl, hs⟩; have HS := Lib.hid hs; clear hs) | (go_at_call 13; (with_reducible refine (copy_ok _ _ _ _ _ _ HS.out.mem).mono ?_); rintro e w3 ⟨b3, p', b', rfl, hp3, hb3, hm3⟩; refine Hid.out ?_))
  refine Lib.hid ?_
  have hbl := HS.out.mem.lt
  have hbx3 := ((HX.out.below B1.out).below HS.out.bel).below b3
  have y1 := hbx3.cell 1
  have y2 := hbx3.cell 2
  have y4 := hbx3.cell 4
  have hW0 := HB.out.trans ((B1.out.trans (HS.out.bel.mono B1.out.size)).mono HB.out.size)
  have H3 := Lib.hid (And.intro (Mem.below HS.out.mem b3) (And.intro hm3 (And.intro hbx3 (And.intro (hW0.trans (b3.mono hW0.size)) (And.intro b3 (And.intro hb3 (And.intro hp3 hbl)))))))
  clear b3 hm3 hbx3 hW0 hp3 hb3 hbl x4
  obtain ⟨E, hE, hwr⟩ : ∃ E : Int, E ≠ 0 ∧ Calls Try.prog 26 #[.pointer (some ⟨p, 0, none⟩), .int .i64 k, .int .i64 off, .slice a2 xs.length cap2] w3 fun e w' => e = .returned (.int .i64 E) ∧ w3 = w' := by
    by_cases hk : rf 12 R k = 0
    · exact ⟨41, by omega, write_no w3 p b 12 R B H3.out.1 k off a2 xs.length cap2 hk⟩
    · obtain ⟨j, rfl, hj, hr⟩ := rf_pos hk
      exact ⟨2, by omega, write_arg w3 p b 12 R B H3.out.1 j hj hr off HWf.out.1 a2 xs.length cap2 (by have := HLn.out; omega) HNF.out⟩
  have HWr := Lib.hid hwr
  have hEd : (E == 0) = false := by simpa using hE
  clear hwr hE
  go_wp2_with (first | (go_at_call 26; (with_reducible refine HWr.out.mono ?_); rintro e w4 ⟨rfl, rfl⟩) | (go_at_call 17; (with_reducible refine (used_any _ _ _ _ _ _ H3.out.2.1).mono ?_); rintro e w5 ⟨b5, ru, rfl, hu⟩; refine Hid.out ?_))
  refine Lib.hid ?_
  have hiu := IntsAt.of_row hu
  have HU := Lib.hid (And.intro b5 hiu)
  obtain ⟨au, cu, rfl, hcu⟩ := hiu
  have HCu := Lib.hid hcu
  have hul : ((usd R 12).length : Int) ≤ 12 := by have := usd_len R 12; omega
  obtain ⟨L, hL⟩ : ∃ L, (usd R 12).length = L := ⟨_, rfl⟩
  rw [hL] at hul
  have HL := Lib.hid hL
  rw [hL]
  clear b5 hu hcu hL y1 y2 y4
  go_wp2
  go_loopw [63] (fun i wr => ∃ j : Nat, j ≤ L ∧ i = .int .i64 (j : Int) ∧ Below w5.heap.size w5 wr) (fun i _ => L - (intOf i).toNat)
  case atStart => exact ⟨0, Nat.zero_le _, rfl, Below.refl _ _⟩
  case round =>
    obtain ⟨j, hj, rfl, hB⟩ := hrel
    have hB3 := HU.out.1.trans (hB.mono HU.out.1.size)
    have hbxr := H3.out.2.2.1.below hB3
    have y1 := hbxr.cell 1
    have HB3 := Lib.hid (And.intro hB (And.intro hB3 hbxr))
    clear hB hB3 hbxr
    by_cases hlt : j < L
    · have hjl : j < (usd R 12).length := by rw [HL.out]; exact hlt
      obtain ⟨gu, rfl, hgu, hcc⟩ := HCu.out j hjl
      have cc := (HB3.out.1.cell (p := ⟨gu, j, none⟩) hgu).trans hcc
      obtain ⟨hkn, hkr⟩ := usd_at R 12 j hjl
      obtain ⟨kk, hkk⟩ : ∃ kk, (usd R 12)[j] = kk := ⟨_, rfl⟩
      rw [hkk] at cc hkn hkr
      have r1 := Lib.hid (read_whole _ _ _ _ _ _ (Mem.below H3.out.2.1 HB3.out.2.1) kk hkn hkr)
      have HK := Lib.hid (And.intro hkn hkr)
      clear hcc hgu hkk hkn hkr hjl
      go_wp2_with (first | (go_at_call 22; (with_reducible refine r1.out.mono ?_); rintro e w6 ⟨b6, ra, rfl, ha⟩; refine Hid.out ?_))
      refine Lib.hid ?_
      have r2 := Lib.hid (read_whole _ _ _ _ _ _ (Mem.below (Mem.below H3.out.1 HB3.out.2.1) b6) kk HK.out.1 HK.out.2)
      have z1 := (HB3.out.2.2.below b6).cell 1
      have H6 := Lib.hid (And.intro b6 ha)
      obtain ⟨aa, ca, rfl⟩ := Gn.row_form ha
      clear b6 ha
      go_wp2_with (first | (go_at_call 22; (with_reducible refine r2.out.mono ?_); rintro e w7 ⟨b7, rb2, rfl, hb2⟩; refine Hid.out ?_))
      refine Lib.hid ?_
      have s1 := slc_string (own_slcf (own_below H6.out.2 b7))
      have s2 := slc_string (own_slcf hb2)
      have u1 := ((HB3.out.2.2.below H6.out.1).below b7).cell 1
      generalize bstr (bts (B kk) 64) = S at *
      have H7 := Lib.hid (HB3.out.1.trans ((H6.out.1.trans (b7.mono H6.out.1.size)).mono HB3.out.1.size))
      clear b7 hb2 z1 y1
      cases hq : ((kk : Int) == k) with
      | false =>
        go_wp2
        go_roundw
        case rel => exact ⟨j + 1, by omega, by go_num, H7.out⟩
        case measure => simp [intOf]; omega
      | true =>
        go_wp2
        go_roundw
        case rel => exact ⟨j + 1, by omega, by go_num, H7.out⟩
        case measure => simp [intOf]; omega
    · obtain rfl : j = L := by omega
      go_wp2
      go_ret
      exact ⟨rfl, H3.out.2.2.2.1.trans (HB3.out.2.1.mono H3.out.2.2.2.1.size)⟩
end Go.Proofs.Ytompcmbaiegkaaa.Ap
