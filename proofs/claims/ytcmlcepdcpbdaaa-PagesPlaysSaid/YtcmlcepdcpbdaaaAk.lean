/-
  alike: a table, and the document's, hold the same.
-/
import Derived.Test.YtcmlcepdcpbdaaaRs
import Derived.Test.YtcmlcepdcpbdaaaRd
import Derived.Test.YtcmlcepdcpbdaaaRp
import Derived.Test.YtcmlcepdcpbdaaaRh
import Derived.Test.YtcmlcepdcpbdaaaSm
import Derived.Deep.RegionHeld
namespace Go.Proofs.Ytcmlcepdcpbdaaa.Ak
open Go Go.RowKit Kit Bk Tm Ts Tc Ti Tl Th Td Tq Tr Tn En Ov Gd Ho Pt Rg Rc Rs Rd2 Rp Rh Sm Lw
set_option linter.unusedVariables false

set_option maxRecDepth 100000 in
set_option maxHeartbeats 4000000 in
theorem alike_any (w : World) (p q : Nat) (T : Nat → Option En) (hM : Mem w p T) (hR : Rf w q T) (page n : Int) (hn : n ≤ 9223372036854775807) :
    Calls Try.prog 19 #[.pointer (some ⟨p, 0, none⟩), .pointer (some ⟨q, 0, none⟩), .int .i64 page, .int .i64 n] w fun e w' => e = .returned (.bool true) ∧ Below w.heap.size w w' := by
  have HG : Hid (∀ W, Mem W p T → _) := Lib.hid (fun W h => get_any W p T h page)
  have HRG : Hid (∀ W, Rf W q T → _) := Lib.hid (fun W h => rget_any W q T h page)
  have HHo : Hid (∀ W, Mem W p T → _) := Lib.hid (fun W h => hole_any W p T (gets_mem h h.lt) n hn)
  have HRH : Hid (∀ W, Rf W q T → _) := Lib.hid (fun W h => rhole_any W q T h n hn)
  obtain ⟨⟨yf, yw, ys, yc, yd⟩, hy⟩ : ∃ y, (atI T page).getD z0 = y := ⟨_, rfl⟩
  obtain ⟨b, hbs⟩ : ∃ b, (atI T page).isSome = b := ⟨_, rfl⟩
  rw [hy, hbs] at HG HRG
  have HM := Lib.hid hM
  have HR := Lib.hid hR
  clear hM hR hy hbs
  go_enter Try.func19, Try.ntmps19
  go_wp2_with (first | (go_at_call 21; (with_reducible refine (HG.out _ HM.out).mono ?_); rintro e w1 ⟨rfl, hb⟩; refine Hid.out ?_))
  refine Lib.hid ?_
  have hb1 := hb.alloc hb.size (.cells #[.int .i64 yf, .bool yw, .bool ys, .bool yc, .bool yd] 25)
  have HA : Hid (Blk (w1.alloc (.cells #[.int .i64 yf, .bool yw, .bool ys, .bool yc, .bool yd] 25)) w1.heap.size #[.int .i64 yf, .bool yw, .bool ys, .bool yc, .bool yd] 25) := Lib.hid (Blk.new _ _ _)
  replace HM := Lib.hid (Mem.below HM.out hb1)
  replace HR := Lib.hid (HR.out.below hb1)
  have HB := Lib.hid hb1
  clear hb hb1
  go_wp2_with (first | (go_at_call 32; (with_reducible refine (HRG.out _ HR.out).mono ?_); rintro e w2 ⟨rfl, hb⟩; refine Hid.out ?_))
  refine Lib.hid ?_
  have hb1 := hb.alloc hb.size (.cells #[.int .i64 yf, .bool yw, .bool ys, .bool yc, .bool yd] 25)
  have HA2 : Hid (Blk (w2.alloc (.cells #[.int .i64 yf, .bool yw, .bool ys, .bool yc, .bool yd] 25)) w2.heap.size #[.int .i64 yf, .bool yw, .bool ys, .bool yc, .bool yd] 25) := Lib.hid (Blk.new _ _ _)
  replace HA := Lib.hid (HA.out.below hb1)
  replace HM := Lib.hid (Mem.below HM.out hb1)
  replace HR := Lib.hid (HR.out.below hb1)
  replace HB := Lib.hid (HB.out.trans (hb1.mono HB.out.size))
  clear hb hb1
  go_wp2_with (first | (go_at_call 22; (with_reducible refine (HHo.out _ HM.out).mono ?_); rintro e w3 ⟨⟨ha, hh, rfl, hho⟩, hb⟩; replace HM := Lib.hid (Mem.below HM.out hb); replace HR := Lib.hid (HR.out.below hb); replace HA := Lib.hid (HA.out.below hb); replace HA2 := Lib.hid (HA2.out.below hb); replace HB := Lib.hid (HB.out.trans (hb.mono HB.out.size)); have HO := Lib.hid hho; clear hb hho) | (go_at_call 34; (with_reducible refine (HRH.out _ HR.out).mono ?_); rintro e w4 ⟨⟨ha2, hh2, rfl, hho⟩, hb⟩; replace HM := Lib.hid (Mem.below HM.out hb); replace HR := Lib.hid (HR.out.below hb); replace HA := Lib.hid (HA.out.below hb); replace HA2 := Lib.hid (HA2.out.below hb); replace HB := Lib.hid (HB.out.trans (hb.mono HB.out.size)); obtain ⟨rfl, rfl⟩ := HO.out.one hho; clear hb hho) | (go_at_call 25; (with_reducible refine (list_mem _ p T HM.out).mono ?_); rintro e w5 ⟨hb, l, rfl, hl⟩; replace HM := Lib.hid (Mem.below HM.out hb); replace HR := Lib.hid (HR.out.below hb); replace HA := Lib.hid (HA.out.below hb); replace HA2 := Lib.hid (HA2.out.below hb); replace HB := Lib.hid (HB.out.trans (hb.mono HB.out.size)); have HL := Lib.hid hl; clear hb hl) | (go_at_call 27; (with_reducible refine (dirty_mem _ p T HM.out).mono ?_); rintro e w6 ⟨hb, dl, rfl, hdl⟩; refine Hid.out ?_))
  refine Lib.hid ?_
  replace HM := Lib.hid (Mem.below HM.out hb)
  replace HR := Lib.hid (HR.out.below hb)
  replace HA := Lib.hid (HA.out.below hb)
  replace HA2 := Lib.hid (HA2.out.below hb)
  replace HL := Lib.hid (Rd.below HL.out hb)
  replace HB := Lib.hid (HB.out.trans (hb.mono HB.out.size))
  have HD := Lib.hid hdl
  clear hb hdl HG HRG HHo HRH
  obtain ⟨vq, hq1, hq2⟩ := HR.out
  have HLe := Lib.hid (ents_len T 64)
  have HDe := Lib.hid (dty_len T)
  have HS1 : Hid (∀ w', Below w6.heap.size w6 w' → Calls Try.prog 29 #[l, vq] w' fun e w'' => e = .returned (.bool true) ∧ Below w6.heap.size w6 w'') := Lib.hid (fun w' hb => (same_any _ _ (ents T 64) w' (by have := HLe.out; omega) (Rd.below HL.out hb) (Rd.below hq2 hb)).mono fun e w'' ⟨h1, h2⟩ => ⟨h1, hb.trans (h2.mono hb.size)⟩)
  have HS2 : Hid (∀ w', Below w6.heap.size w6 w' → Calls Try.prog 33 #[.pointer (some ⟨q, 0, none⟩)] w' fun e w'' => Below w6.heap.size w6 w'' ∧ ∃ r, e = .returned r ∧ Rd w'' 3 r 1 (dty T).length (ints (dty T))) := Lib.hid (fun w' hb => (rdirty_any w' q T (HR.out.below hb)).mono fun e w'' ⟨h1, h2⟩ => ⟨hb.trans (h1.mono hb.size), h2⟩)
  have HS3 : Hid (∀ w' r, Below w6.heap.size w6 w' → Rd w' 3 r 1 (dty T).length (ints (dty T)) → Calls Try.prog 35 #[dl, r] w' fun e w'' => e = .returned (.bool true) ∧ Below w6.heap.size w6 w'') := Lib.hid (fun w' r hb hr => (same_ints _ _ (dty T) w' (by have := HDe.out; omega) (Rd.below HD.out hb) hr).mono fun e w'' ⟨h1, h2⟩ => ⟨h1, hb.trans (h2.mono hb.size)⟩)
  have hlq : ∃ ad cap, vq = .slice ad (ents T 64).length cap := by
    obtain ⟨_, ad, cap, h, _⟩ := hq2
    exact ⟨ad, cap, h⟩
  obtain ⟨qa, qcap, rfl⟩ := hlq
  have HS4 : Hid (∀ w', Below w6.heap.size w6 w' → Calls Try.prog 26 #[.pointer (some ⟨p, 0, none⟩)] w' fun e w'' => e = .returned (.int .i64 ((ents T 64).length : Int)) ∧ Below w6.heap.size w6 w'') := Lib.hid (fun w' hb => (len_mem w' p T (Mem.below HM.out hb)).mono fun e w'' ⟨h1, h2⟩ => ⟨h1, hb.trans (h2.mono hb.size)⟩)
  have HS5 : Hid (∀ w', Below w6.heap.size w6 w' → Calls Try.prog 24 #[.pointer (some ⟨p, 0, none⟩)] w' fun e w'' => e = .returned (.int .i64 (parts T)) ∧ Below w6.heap.size w6 w'') := Lib.hid (fun w' hb => (parts_mem w' p T (Mem.below HM.out hb)).mono fun e w'' ⟨h1, h2⟩ => ⟨h1, hb.trans (h2.mono hb.size)⟩)
  have HS6 : Hid (∀ w', Below w6.heap.size w6 w' → Calls Try.prog 36 #[.pointer (some ⟨q, 0, none⟩)] w' fun e w'' => e = .returned (.int .i64 (parts T)) ∧ Below w6.heap.size w6 w'') := Lib.hid (fun w' hb => (rparts_any w' q T (HR.out.below hb)).mono fun e w'' ⟨h1, h2⟩ => ⟨h1, by rw [← h2]; exact hb⟩)
  have HC0 : Hid (Below w6.heap.size w6 w6.drew) := Lib.hid (Below.refl _ _).drew
  have HSt : Hid (∀ w', Below w6.heap.size w6 w' → w'.cell? ⟨w1.heap.size, 0, none⟩ = some (.int .i64 yf) ∧ w'.cell? ⟨w1.heap.size, 1, none⟩ = some (.bool yw) ∧ w'.cell? ⟨w1.heap.size, 2, none⟩ = some (.bool ys) ∧ w'.cell? ⟨w1.heap.size, 3, none⟩ = some (.bool yc) ∧ w'.cell? ⟨w1.heap.size, 4, none⟩ = some (.bool yd) ∧ w'.cell? ⟨w2.heap.size, 0, none⟩ = some (.int .i64 yf) ∧ w'.cell? ⟨w2.heap.size, 1, none⟩ = some (.bool yw) ∧ w'.cell? ⟨w2.heap.size, 2, none⟩ = some (.bool ys) ∧ w'.cell? ⟨w2.heap.size, 3, none⟩ = some (.bool yc) ∧ w'.cell? ⟨w2.heap.size, 4, none⟩ = some (.bool yd) ∧ w'.cell? ⟨q, 0, none⟩ = some (.slice qa (ents T 64).length qcap)) := Lib.hid (fun w' hb => ⟨(HA.out.below hb).cell 0, (HA.out.below hb).cell 1, (HA.out.below hb).cell 2, (HA.out.below hb).cell 3, (HA.out.below hb).cell 4, (HA2.out.below hb).cell 0, (HA2.out.below hb).cell 1, (HA2.out.below hb).cell 2, (HA2.out.below hb).cell 3, (HA2.out.below hb).cell 4, (hq1.below hb).cell 0⟩)
  obtain ⟨N, hN⟩ : ∃ N, (ents T 64).length = N := ⟨_, rfl⟩
  obtain ⟨P, hP⟩ : ∃ P, parts T = P := ⟨_, rfl⟩
  rw [hN] at HS1 HS4 HSt
  rw [hP] at HS5 HS6
  clear hq1 hq2 hN hP
  go_wp2
  go_region_held (fun w' => w'.cell? ⟨w1.heap.size, 0, none⟩ = some (.int .i64 yf) ∧ w'.cell? ⟨w1.heap.size, 1, none⟩ = some (.bool yw) ∧ w'.cell? ⟨w1.heap.size, 2, none⟩ = some (.bool ys) ∧ w'.cell? ⟨w1.heap.size, 3, none⟩ = some (.bool yc) ∧ w'.cell? ⟨w1.heap.size, 4, none⟩ = some (.bool yd) ∧ w'.cell? ⟨w2.heap.size, 0, none⟩ = some (.int .i64 yf) ∧ w'.cell? ⟨w2.heap.size, 1, none⟩ = some (.bool yw) ∧ w'.cell? ⟨w2.heap.size, 2, none⟩ = some (.bool ys) ∧ w'.cell? ⟨w2.heap.size, 3, none⟩ = some (.bool yc) ∧ w'.cell? ⟨w2.heap.size, 4, none⟩ = some (.bool yd) ∧ w'.cell? ⟨q, 0, none⟩ = some (.slice qa N qcap)) (exact HSt.out _ (by first | exact C6.out | exact C5.out | exact C4.out | exact C3.out | exact C2.out | exact C1.out | exact HC0.out)) (first | (go_at_call 29; (with_reducible refine (HS1.out _ (by first | exact HC0.out)).mono ?_); rintro e x1 ⟨rfl, bx⟩; have C1 := Lib.hid bx; clear bx) | (go_at_call 33; (with_reducible refine (HS2.out _ (by first | exact C1.out)).mono ?_); rintro e x2 ⟨bx, r2, rfl, hr2⟩; have C2 := Lib.hid bx; have HR2 := Lib.hid hr2; clear bx hr2) | (go_at_call 35; (with_reducible refine (HS3.out _ _ (by first | exact C2.out) HR2.out).mono ?_); rintro e x3 ⟨rfl, bx⟩; have C3 := Lib.hid bx; clear bx) | (go_at_call 26; (with_reducible refine (HS4.out _ (by first | exact C3.out)).mono ?_); rintro e x4 ⟨rfl, bx⟩; have C4 := Lib.hid bx; clear bx) | (go_at_call 24; (with_reducible refine (HS5.out _ (by first | exact C4.out)).mono ?_); rintro e x5 ⟨rfl, bx⟩; have C5 := Lib.hid bx; clear bx) | (go_at_call 36; (with_reducible refine (HS6.out _ (by first | exact C5.out)).mono ?_); rintro e x6 ⟨rfl, bx⟩; have C6 := Lib.hid bx; clear bx))
  all_goals go_wp2
  all_goals go_ret
  all_goals exact ⟨rfl, HB.out.trans (C6.out.mono HB.out.size)⟩
end Go.Proofs.Ytcmlcepdcpbdaaa.Ak
