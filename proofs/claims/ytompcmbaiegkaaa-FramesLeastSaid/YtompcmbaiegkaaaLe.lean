/-
  FramesLeast: the walk.
-/
import Derived.Test.YtompcmbaiegkaaaAp
namespace Go.Proofs.Ytompcmbaiegkaaa.Le
open Go Go.RowKit Kit Fm Fo Fr Fw Fx Fy Fu Fv Gm Go2 Gr Gw Gn Da Db Dc Ea Pa Ap
set_option linter.unusedVariables false

theorem usd_nodup (R : Nat → Nat) (n : Nat) : (usd R n).Nodup := List.Pairwise.filter _ List.nodup_range
theorem usd_new (R : Nat → Nat) (n j : Nat) (h : j < (usd R n).length) : (usd R n)[j] ∉ (usd R n).take j := fun hm => by
  obtain ⟨i, hi, e⟩ := List.getElem_of_mem hm
  rw [List.getElem_take] at e
  rw [List.length_take] at hi
  have := (List.getElem_inj (usd_nodup R n)).1 e
  omega
theorem usd_full {R : Nat → Nat} {n : Nat} (h : ∀ k, k < n → R k ≠ 0) : (usd R n).length = n := by
  unfold usd
  rw [List.filter_eq_self.2 (fun k hk => by simpa using h k (by simpa using hk)), List.length_range]
/-- All below k are taken. -/
def fil (R : Nat → Nat) (k : Nat) : Nat → Nat := fun j => if j < k ∧ R j = 0 then 1 else R j
theorem fil_zero (R : Nat → Nat) : fil R 0 = R := by funext j; unfold fil; rw [if_neg (by omega)]
theorem fil_take {R : Nat → Nat} {k : Nat} (h : R k = 0) : up (fil R k) k 1 = fil R (k + 1) := by
  funext j
  unfold up fil
  by_cases e : j = k
  · subst e; rw [if_pos rfl, if_pos ⟨by omega, h⟩]
  · rw [if_neg e]
    by_cases e2 : j < k ∧ R j = 0
    · rw [if_pos e2, if_pos ⟨by omega, e2.2⟩]
    · rw [if_neg e2, if_neg (by omega)]
theorem fil_skip {R : Nat → Nat} {k : Nat} (h : R k ≠ 0) : fil R k = fil R (k + 1) := by
  funext j
  unfold fil
  by_cases e : j = k
  · subst e; rw [if_neg (by omega), if_neg (by omega)]
  · by_cases e2 : j < k ∧ R j = 0
    · rw [if_pos e2, if_pos ⟨by omega, e2.2⟩]
    · rw [if_neg e2, if_neg (by omega)]
theorem fil_low {R : Nat → Nat} {k j : Nat} (h : j < k) : fil R k j ≠ 0 := by
  unfold fil
  split
  · omega
  · omega
theorem fil_at {R : Nat → Nat} {k : Nat} : fil R k k = R k := by unfold fil; rw [if_neg (by omega)]
/-- Which frames have been met. -/
def Ins (w : World) (g : Nat) (l : List Nat) : Prop := ∃ cur, Blk w g cur 59 ∧ ∀ k, k < 12 → cur[k]? = some (.bool (decide (k ∈ l)))
theorem Ins.set {w : World} {g : Nat} {l : List Nat} (h : Ins w g l) (k : Nat) (hk : k < 12) : Ins (w.setCell ⟨g, k, none⟩ (.bool true)) g (l ++ [k]) := by
  obtain ⟨cur, h1, h2⟩ := h
  refine ⟨_, h1.set _ _, fun j hj => ?_⟩
  rw [Array.getElem?_setIfInBounds]
  have hlt : j < cur.size := (Array.getElem?_eq_some_iff.1 (h2 j hj)).1
  by_cases e : k = j
  · subst e
    rw [if_pos rfl, if_pos hlt]
    simp
  · rw [if_neg e, h2 j hj]
    have : (j ∈ l ++ [k]) ↔ j ∈ l := by simp [Ne.symm e]
    simp [this]
theorem free_twelve (w : World) (p b : Nat) (R : Nat → Nat) (B : Nat → Nat → Nat) (h : Mem w p b 12 R B) (L : Nat) (hL : (usd R 12).length = L) :
    Calls Try.prog 20 #[.pointer (some ⟨p, 0, none⟩)] w fun e w' => e = .returned (.int .i64 ((12 : Int) - (L : Int))) ∧ Below w.heap.size w w' := by
  rw [← hL]
  exact free_any w p b 12 R B h

set_option maxRecDepth 100000 in
set_option maxHeartbeats 2000000 in
theorem least_great (v : Value) (ops : List Opr) (w : World) (h : OpsAt w v ops) (hf : ¬ Fine ops) :
    Calls Try.prog 7 #[v] w fun e w' => e = .returned (.bool true) ∧ Below w.heap.size w w' := by
  have HO := Lib.hid h
  clear h
  go_enter Try.func7, Try.ntmps7
  go_wp2_with (first | (go_at_call 28; (with_reducible refine (alive_any _).mono ?_); rintro e w1 ⟨rfl, b1⟩; have B1 := Lib.hid b1; clear b1) | (go_at_call 10; (with_reducible refine (great_any _ ops _ (OpsAt.below HO.out B1.out) hf).mono ?_); rintro e w2 ⟨rfl, rfl⟩))
  go_ret
  exact ⟨rfl, B1.out⟩

set_option maxRecDepth 100000 in
set_option maxHeartbeats 8000000 in
theorem least_fine (v : Value) (ops : List Opr) (w : World) (h : OpsAt w v ops) (hf : Fine ops) :
    Calls Try.prog 7 #[v] w fun e w' => e = .returned (.bool true) ∧ Below w.heap.size w w' := by
  have HO := Lib.hid h
  have HF := Lib.hid hf
  clear h hf
  go_enter Try.func7, Try.ntmps7
  go_wp2_with (first | (go_at_call 28; (with_reducible refine (alive_any _).mono ?_); rintro e w1 ⟨rfl, b1⟩; have B1 := Lib.hid b1; clear b1) | (go_at_call 10; (with_reducible refine (great_fine _ ops _ (OpsAt.below HO.out B1.out) HF.out).mono ?_); rintro e w2 ⟨rfl, rfl⟩) | (go_at_call 29; (with_reducible refine (grown_any _ ops _ (OpsAt.below HO.out B1.out) HF.out).mono ?_); rintro e w2 ⟨p, b, q, rr, rb, R, B, B', rfl, hs⟩; have HM := Lib.hid hs.mem; have HB2 := Lib.hid (And.intro (B1.out.trans (hs.bel.mono B1.out.size)) (Nat.le_trans B1.out.size hs.lo.2.1)); clear hs) | (go_at_call 17; (with_reducible refine (used_any _ _ _ _ _ _ HM.out).mono ?_); rintro e w3 ⟨b3, ru, rfl, hu⟩; refine Hid.out ?_))
  refine Lib.hid ?_
  have hiu := IntsAt.of_row hu
  obtain ⟨L, hL⟩ : ∃ L, (usd R 12).length = L := ⟨_, rfl⟩
  have hfr := free_twelve w3 p b R B (Mem.below HM.out b3) L hL
  have HFr := Lib.hid hfr
  have HU := Lib.hid (And.intro b3 hiu)
  obtain ⟨au, cu, rfl, hcu⟩ := hiu
  have HCu := Lib.hid hcu
  have hul : (L : Int) ≤ 12 := by have := usd_len R 12; omega
  have hsum : (12 : Int) - (L : Int) + (L : Int) = 12 := by omega
  rw [hL]
  have HL := Lib.hid hL
  clear b3 hu hcu hL hfr
  go_wp2_with (first | (go_at_call 20; (with_reducible refine HFr.out.mono ?_); rintro e w4 ⟨rfl, b4⟩; have B4 := Lib.hid b4; clear b4))
  have hB4 := HU.out.1.trans (B4.out.mono HU.out.1.size)
  have hM4 := Mem.below HM.out hB4
  have hI0 : Ins (w4.alloc (.cells #[.bool false, .bool false, .bool false, .bool false, .bool false, .bool false, .bool false, .bool false, .bool false, .bool false, .bool false, .bool false] 59)) w4.heap.size [] := ⟨_, Blk.new _ _ _, fun k hk => by
    have : k = 0 ∨ k = 1 ∨ k = 2 ∨ k = 3 ∨ k = 4 ∨ k = 5 ∨ k = 6 ∨ k = 7 ∨ k = 8 ∨ k = 9 ∨ k = 10 ∨ k = 11 := by omega
    rcases this with rfl | rfl | rfl | rfl | rfl | rfl | rfl | rfl | rfl | rfl | rfl | rfl <;> rfl⟩
  have HI0 := Lib.hid hI0
  have HM4 := Lib.hid (And.intro hM4 (And.intro hB4 (hM4.lt)))
  clear hB4 hM4 hI0
  go_loopw [35] (fun i wr => ∃ j : Nat, j ≤ L ∧ i = .int .i64 (j : Int) ∧ Ins wr w4.heap.size ((usd R 12).take j) ∧ Below w4.heap.size w4 wr ∧ w4.heap.size < wr.heap.size) (fun i _ => L - (intOf i).toNat)
  case atStart => exact ⟨0, Nat.zero_le _, rfl, HI0.out, (Below.refl _ _).alloc (Nat.le_refl _) _, by simp⟩
  case round =>
    obtain ⟨j, hj, rfl, hI, hB, hlt4⟩ := hrel
    have HR := Lib.hid (And.intro hI (And.intro hB hlt4))
    have hM := Mem.below HM4.out.1 hB
    by_cases hlt : j < L
    · have hjl : j < (usd R 12).length := by rw [HL.out]; exact hlt
      obtain ⟨gu, rfl, hgu, hcc⟩ := HCu.out j hjl
      have cc := (hB.cell (p := ⟨gu, j, none⟩) (Nat.lt_of_lt_of_le hgu B4.out.size)).trans ((B4.out.cell (p := ⟨gu, j, none⟩) hgu).trans hcc)
      obtain ⟨hkn, hkr⟩ := usd_at R 12 j hjl
      have hnew := usd_new R 12 j hjl
      have htk : (usd R 12).take (j + 1) = (usd R 12).take j ++ [(usd R 12)[j]] := (List.take_append_getElem hjl).symm
      obtain ⟨kk, hkk⟩ : ∃ kk, (usd R 12)[j] = kk := ⟨_, rfl⟩
      rw [hkk] at cc hkn hkr hnew htk
      obtain ⟨cur, k1, k2⟩ := hI
      have ci : wr.cell? ⟨w4.heap.size, kk, none⟩ = some (.bool false) := by
        rw [k1.cell, k2 kk hkn, decide_eq_false hnew]
      have fi := k1.free kk
      have r1 := refs_in _ _ _ _ _ _ hM kk hkn
      obtain ⟨r0, hr0⟩ : ∃ r0 : Int, (R kk : Int) = r0 := ⟨_, rfl⟩
      rw [hr0] at r1
      have d1 : decide ((kk : Int) < 0) = false := decide_eq_false (by omega)
      have d2 : decide ((12 : Int) ≤ (kk : Int)) = false := decide_eq_false (by omega)
      have d3 : decide (r0 < 1) = false := decide_eq_false (by omega)
      have d4 : (kk : Int) < 12 := by omega
      have R1 := Lib.hid r1
      have HT := Lib.hid (And.intro htk hkn)
      clear hcc hgu hkk hkn hkr hjl hnew htk k1 k2 hr0 r1 hB hM hlt4
      go_wp2_with (first | (go_at_call 23; (with_reducible refine R1.out.mono ?_); rintro e w6 ⟨rfl, rfl⟩))
      go_roundw
      case rel => exact ⟨j + 1, by omega, by go_num, by rw [HT.out.1]; exact HR.out.1.set kk HT.out.2, HR.out.2.1.setCell (p := ⟨w4.heap.size, kk, none⟩) (Nat.le_refl _) _, by simpa [World.setCell] using HR.out.2.2⟩
      case measure => simp [intOf]; omega
    · obtain rfl : j = L := by omega
      have hall : (usd R 12).take j = usd R 12 := by rw [← HL.out, List.take_length]
      have hI2 : Ins wr w4.heap.size (usd R 12) := by rw [← hall]; exact hI
      have hW := HB2.out.1.trans ((HM4.out.2.1.trans (hB.mono HM4.out.2.1.size)).mono HB2.out.1.size)
      have HE := Lib.hid (And.intro hM (And.intro hI2 (And.intro hW hM.lt)))
      clear hI hB hlt4 hM hall hI2 hW
      go_wp2
      go_loopw [9] (fun i wx => ∃ k : Nat, k ≤ 12 ∧ i = .int .i64 (k : Int) ∧ Mem wx p b 12 (fil R k) B ∧ Ins wx w4.heap.size (usd R 12) ∧ Below w.heap.size w wx) (fun i _ => 12 - (intOf i).toNat)
      case atStart => exact ⟨0, Nat.zero_le _, rfl, by rw [fil_zero]; exact HE.out.1, HE.out.2.1, HE.out.2.2.1⟩
      case round =>
        obtain ⟨k, hk, rfl, hm, hi, hb⟩ := hrel
        by_cases hlk : k < 12
        · obtain ⟨cur, k1, k2⟩ := id hi
          have ci := (k1.cell k).trans (k2 k hlk)
          have d4 : (k : Int) < 12 := by omega
          have hg := k1.free k
          by_cases hz : R k = 0
          · have hin : decide (k ∈ usd R 12) = false := decide_eq_false (fun e => (usd_mem.1 e).2 hz)
            rw [hin] at ci
            have ht := take_ok _ _ _ _ _ _ hm k hlk (by rw [fil_at]; exact hz) (fun i hi => fil_low hi)
            have hm2 := hm.setRef k 1 hlk (by omega)
            have hk1 : Kp (fun j => j = b) wr (wr.setCell ⟨b, k * 65, none⟩ (.int .i64 1)) := Kp.set _ _ _ _ rfl
            rw [show ((1 : Nat) : Int) = 1 from rfl] at hm2
            generalize wr.setCell ⟨b, k * 65, none⟩ (.int .i64 1) = W2 at *
            rw [fil_take hz] at hm2
            have hre := refs_in _ _ _ _ _ _ hm2 k hlk
            have h1 : fil R (k + 1) k = 1 := by unfold fil; rw [if_pos ⟨by omega, hz⟩]
            rw [h1, Int.natCast_one] at hre
            obtain ⟨_, ⟨cs, m3, _⟩, _⟩ := hm
            have hi2 : Ins W2 w4.heap.size (usd R 12) := ⟨cur, k1.kept hk1 (k1.ne m3 (by decide)), k2⟩
            have hb2 := hb.trans (hk1.below hb.size (fun j e => by subst e; exact HB2.out.2))
            have HT := Lib.hid ht
            have HRe := Lib.hid hre
            have HZ := Lib.hid (And.intro hm2 (And.intro hi2 hb2))
            clear ht hm2 hk1 hre h1 m3 hi2 hb2 hi hb k1 k2 hin hz
            go_wp2_with (first | (go_at_call 14; (with_reducible refine HT.out.mono ?_); rintro e w6 ⟨rfl, rfl⟩) | (go_at_call 23; (with_reducible refine HRe.out.mono ?_); rintro e w6 ⟨rfl, rfl⟩))
            go_roundw
            case rel => exact ⟨k + 1, by omega, by go_num, HZ.out.1, HZ.out.2.1, HZ.out.2.2⟩
            case measure => simp [intOf]; omega
          · have hin : decide (k ∈ usd R 12) = true := decide_eq_true (usd_mem.2 ⟨hlk, hz⟩)
            rw [hin] at ci
            rw [fil_skip hz] at hm
            have HZ := Lib.hid (And.intro hm (And.intro hi hb))
            clear hm hi hb k1 k2 hin hz
            go_wp2
            go_roundw
            case rel => exact ⟨k + 1, by omega, by go_num, HZ.out.1, HZ.out.2.1, HZ.out.2.2⟩
            case measure => simp [intOf]; omega
        · obtain rfl : k = 12 := by omega
          have hful : ∀ k, k < 12 → fil R 12 k ≠ 0 := fun k hk => fil_low hk
          have hlen := usd_full hful
          have ht := take_full _ _ _ _ _ _ hm hful
          have hf0 := free_twelve _ _ _ _ _ hm 12 hlen
          rw [show (12 : Int) - ((12 : Nat) : Int) = 0 from rfl] at hf0
          have HT := Lib.hid ht
          have HF0 := Lib.hid hf0
          have HZ := Lib.hid (And.intro hm (And.intro hb hlen))
          clear hm hb hi hful hlen ht hf0
          go_wp2_with (first | (go_at_call 14; (with_reducible refine HT.out.mono ?_); rintro e w6 ⟨rfl, rfl⟩) | (go_at_call 20; (with_reducible refine HF0.out.mono ?_); rintro e w7 ⟨rfl, b7⟩; have B7 := Lib.hid b7; clear b7) | (go_at_call 17; (with_reducible refine (used_any _ _ _ _ _ _ (Mem.below HZ.out.1 B7.out)).mono ?_); rintro e w8 ⟨b8, r8, rfl, h8⟩; (obtain ⟨a8, c8, rfl⟩ := Gn.row_form h8); have B8 := Lib.hid b8; clear b8 h8; rw [HZ.out.2.2]))
          go_ret
          exact ⟨rfl, HZ.out.2.1.trans ((B7.out.trans (B8.out.mono B7.out.size)).mono HZ.out.2.1.size)⟩
end Go.Proofs.Ytompcmbaiegkaaa.Le
namespace Go.Proofs.Ytompcmbaiegkaaa.Walk
open Go Go.RowKit Kit Ea Le
theorem framesLeast (v : Value) (ops : List Opr) (W : World) (h : OpsAt W v ops) :
    Calls Try.prog 7 #[v] W fun e w' => e = .returned (.bool true) ∧ Below W.heap.size W w' := by
  by_cases hf : Fine ops
  · exact least_fine v ops W h hf
  · exact least_great v ops W h hf
end Go.Proofs.Ytompcmbaiegkaaa.Walk
