/-
  RingPlace: the walk.
-/
import Derived.Test.YtgenefedicdohaaRac
import Derived.Deep.RegionHeld
namespace Go.Proofs.Ytgenefedicdohaa.Rpl
open Go Go.RowKit Go.Shelf Kit Bk Rgm Rgt Rgw Rgp Rgn Rst Ral Rop Rac
set_option linter.unusedVariables false

theorem of_lit (w : World) (C : Nat) (N : Int) (hN : N = (C : Int)) (v : Value) (ys : List Nat) (hs : Slc .u8 w v ys) (hC : 1 ≤ C ∧ C ≤ 64) (hy : ys.length ≤ C) :
    Calls Try.prog 9 #[.int .i64 N, v] w fun e w' => e = .returned (.tuple #[.pointer (some ⟨w.heap.size, 0, none⟩), .int .i64 0]) ∧ Below w.heap.size w w' ∧ Rg w' w.heap.size C ys := by
  subst hN
  exact of_ok w C v ys hs hC hy
set_option maxHeartbeats 1000000 in
theorem place_great1 (ct : Int) (v1 v2 : Value) (l m : List Opr) (w : World) (h1 : OpsAt w v1 l) (hf : ¬ Fine l) :
    Calls Try.prog 6 #[.int .u8 ct, v1, v2] w fun e w' => e = .returned (.bool true) ∧ Below w.heap.size w w' := by
  have HO := Lib.hid h1
  clear h1
  go_enter Try.func6, Try.ntmps6
  go_wp2_with (first | (go_at_call 23; (with_reducible refine (alive_any _).mono ?_); rintro e w1 ⟨rfl, b1⟩) | (go_at_call 8; (with_reducible refine (great_any _ l _ (OpsAt.below HO.out b1) hf).mono ?_); rintro e w2 ⟨rfl, rfl⟩))
  go_ret
  exact ⟨rfl, b1⟩
set_option maxHeartbeats 1000000 in
theorem place_great2 (ct : Int) (v1 v2 : Value) (l m : List Opr) (w : World) (h1 : OpsAt w v1 l) (h2 : OpsAt w v2 m) (hf : Fine l) (hf2 : ¬ Fine m) :
    Calls Try.prog 6 #[.int .u8 ct, v1, v2] w fun e w' => e = .returned (.bool true) ∧ Below w.heap.size w w' := by
  have HO := Lib.hid h1
  have HO2 := Lib.hid h2
  clear h1 h2
  go_enter Try.func6, Try.ntmps6
  go_wp2_with (first | (go_at_call 23; (with_reducible refine (alive_any _).mono ?_); rintro e w1 ⟨rfl, b1⟩) | (go_at_call 8; (with_reducible refine (great_fine _ l _ (OpsAt.below HO.out b1) hf).mono ?_); rintro e w2 ⟨rfl, rfl⟩) | (go_at_call 8; (with_reducible refine (great_any _ m _ (OpsAt.below HO2.out b1) hf2).mono ?_); rintro e w2 ⟨rfl, rfl⟩))
  go_ret
  exact ⟨rfl, b1⟩

set_option maxRecDepth 100000 in
set_option maxHeartbeats 4000000 in
theorem place_fine (ct : Nat) (v1 v2 : Value) (l m : List Opr) (w : World) (h1 : OpsAt w v1 l) (h2 : OpsAt w v2 m) (hf : Fine l) (hf2 : Fine m) (hct : ct < 256) :
    Calls Try.prog 6 #[.int .u8 (ct : Int), v1, v2] w fun e w' => e = .returned (.bool true) ∧ Below w.heap.size w w' := by
  obtain ⟨a1, cap1, rfl, l1, m1, H1⟩ := id h1
  obtain ⟨a2, cap2, rfl, l2, m2, H2⟩ := id h2
  have HO := Lib.hid h1
  have HO2 := Lib.hid h2
  have HF := Lib.hid (And.intro hf hf2)
  have D1 := Lib.hid H1
  have D2 := Lib.hid H2
  have b1l : (l.length : Int) ≤ 200 := by have := hf.1; omega
  have b2l : (m.length : Int) ≤ 200 := by have := hf2.1; omega
  obtain ⟨c, hc⟩ : ∃ c, ct % 64 = c := ⟨_, rfl⟩
  have hc64 : c < 64 := by rw [← hc]; exact Nat.mod_lt _ (by omega)
  have hrem : (ct : Int).tmod 64 = (c : Int) := by rw [← hc]; rfl
  have hcI : (c : Int) ≤ 63 := by omega
  have hctI : (ct : Int) ≤ 255 := by omega
  have HC64 := Lib.hid hc64
  unfold maxLen at m1 m2
  clear h1 h2 H1 H2 hf hf2 l1 l2 hc hc64
  go_enter Try.func6, Try.ntmps6
  go_wp2_with (first | (go_at_call 23; (with_reducible refine (alive_any _).mono ?_); rintro e w1 ⟨rfl, b1⟩; replace b1 := Lib.hid b1) | (go_at_call 8; (with_reducible refine (great_fine _ l _ (OpsAt.below HO.out b1.out) HF.out.1).mono ?_); rintro e w2 ⟨rfl, rfl⟩) | (go_at_call 8; (with_reducible refine (great_fine _ m _ (OpsAt.below HO2.out b1.out) HF.out.2).mono ?_); rintro e w2 ⟨rfl, rfl⟩) | (go_at_call 22; (with_reducible refine (new_lit _ (1 + c) (1 + (c : Int)) (by omega) ⟨by omega, by have := HC64.out; omega⟩).mono ?_); rintro e w3 ⟨rfl, b3, r3⟩; refine Hid.out ?_))
  refine Lib.hid ?_
  obtain ⟨r, hr⟩ : ∃ r, w1.heap.size = r := ⟨_, rfl⟩
  have HL : Hid (w.heap.size ≤ r ∧ Below w.heap.size w w3) := Lib.hid ⟨by rw [← hr]; exact b1.out.size, b1.out.trans (b3.mono b1.out.size)⟩
  rw [hr] at r3
  have R3 := Lib.hid r3
  clear b3 r3
  go_wp2
  clear hr
  go_loopw [44] (fun i wr => ∃ (k : Nat) (xs : List Nat), k ≤ l.length ∧ i = .int .i64 (k : Int) ∧ Rg wr r (1 + c) xs ∧ Below w.heap.size w wr) (fun i _ => l.length - (intOf i).toNat)
  case atStart => exact ⟨0, _, Nat.zero_le _, rfl, R3.out, HL.out.2⟩
  case round =>
    obtain ⟨k, xs, hk, rfl, hR, hB⟩ := hrel
    by_cases hlt : k < l.length
    · rcases D1.out with h0 | ⟨b, off, rfl, hb, h4⟩
      · subst h0; simp at hlt
      · have hkl : (k : Int) < (l.length : Int) := by omega
        obtain ⟨c0, ⟨bv, c1, hs⟩, c2, -⟩ := h4 k hlt
        generalize l[k] = o at *
        have x0 := (hB.cell (p := ⟨b, off + k * 3, none⟩) hb).trans c0
        have x1 := (hB.cell (p := ⟨b, off + k * 3 + 1, none⟩) hb).trans c1
        have x2 := (hB.cell (p := ⟨b, off + k * 3 + 2, none⟩) hb).trans c2
        have HA := Lib.hid (act_any wr r (1 + c) xs o bv hR (src_of hs hB HL.out.1))
        have HBb := Lib.hid hB
        clear h4 c0 c1 c2 hs hR hB
        go_wp2_with (go_at_call 24; (with_reducible refine HA.out.mono ?_); rintro e w4 ⟨rfl, hk4, hr4⟩; have HE := Lib.hid (And.intro hr4 (HBb.out.trans (hk4.below HBb.out.size (fun j e => by have := HL.out.1; omega)))); clear hk4 hr4)
        go_roundw
        case rel => exact ⟨k + 1, _, by omega, by go_num, HE.out.1, HE.out.2⟩
        case measure => simp [intOf]; omega
    · obtain rfl : k = l.length := by omega
      have HA := Lib.hid (all_any (some ⟨r, 0, none⟩) xs wr (tells_ring hR))
      have hcl := hR.cap_le
      have HR := Lib.hid hR
      have HB := Lib.hid hB
      have HX := Lib.hid hcl.2
      clear hR hB hcl
      go_wp2_with (first | (go_at_call 18; (with_reducible refine HA.out.mono ?_); rintro e w4 ⟨b4, rv, rfl, ho⟩; obtain ⟨ad, cap, rfl⟩ := row_form ho; refine Hid.out ?_))
      refine Lib.hid ?_
      have HQ := Lib.hid (of_lit w4 (1 + c) (1 + (c : Int)) (by omega) _ xs (own_slc ho) ⟨by omega, by have := HC64.out; omega⟩ HX.out)
      have HR4 := Lib.hid (HR.out.below b4)
      have HB4 := Lib.hid (HB.out.trans (b4.mono HB.out.size))
      clear ho b4
      go_wp2_with (first | (go_at_call 9; (with_reducible refine HQ.out.mono ?_); rintro e w5 ⟨rfl, b5, q5⟩; refine Hid.out ?_))
      refine Lib.hid ?_
      have HNe : Hid (w4.heap.size ≠ r ∧ w.heap.size ≤ w4.heap.size) := Lib.hid ⟨by have := HR4.out.lt; omega, HB4.out.size⟩
      have R5 := Lib.hid (And.intro (HR4.out.below b5) (And.intro q5 (HB4.out.trans (b5.mono HB4.out.size))))
      obtain ⟨q, hq⟩ : ∃ q, w4.heap.size = q := ⟨_, rfl⟩
      rw [hq] at R5 HNe
      clear b5 q5
      go_wp2
      clear hq
      go_loopw [65] (fun i wy => ∃ (j : Nat) (ys : List Nat), j ≤ m.length ∧ i = .int .i64 (j : Int) ∧ Rg wy r (1 + c) ys ∧ Rg wy q (1 + c) ys ∧ Below w.heap.size w wy) (fun i _ => m.length - (intOf i).toNat)
      case atStart => exact ⟨0, _, Nat.zero_le _, rfl, R5.out.1, R5.out.2.1, R5.out.2.2⟩
      case round =>
        obtain ⟨j, ys, hj, rfl, hR, hQ, hB⟩ := hrel
        by_cases hlt : j < m.length
        · rcases D2.out with h0 | ⟨b, off, rfl, hb, h4⟩
          · subst h0; simp at hlt
          · have hkl : (j : Int) < (m.length : Int) := by omega
            obtain ⟨c0, ⟨bv, c1, hs⟩, c2, -⟩ := h4 j hlt
            generalize m[j] = o at *
            have x0 := (hB.cell (p := ⟨b, off + j * 3, none⟩) hb).trans c0
            have x1 := (hB.cell (p := ⟨b, off + j * 3 + 1, none⟩) hb).trans c1
            have x2 := (hB.cell (p := ⟨b, off + j * 3 + 2, none⟩) hb).trans c2
            have HA := Lib.hid (act_any wr.drew r (1 + c) ys o bv hR (src_of hs hB.drew HL.out.1))
            have HA2 : Hid (∀ W, Kp (fun j => j = r) wr.drew W → Calls Try.prog 24 #[.pointer (some ⟨q, 0, none⟩), .agg #[.int .i64 o.kind, bv, .int .i64 o.n]] W fun e w' => e = .returned (.string (ans (1 + c) o ys)) ∧ Kp (fun j => j = q) W w' ∧ Rg w' q (1 + c) (nxt (1 + c) o ys)) := Lib.hid (fun W hk => act_any W q (1 + c) ys o bv (Rg.kept (S := fun j => j = r) (w := wr.drew) hQ hk HNe.out.1) (src_of hs (hB.drew.trans (hk.below hB.size (fun j e => by have := HL.out.1; omega))) HNe.out.2))
            have K0 : Hid (∀ W, Below w.heap.size w W → W.cell? ⟨b, off + j * 3, none⟩ = some (.int .i64 o.kind) ∧ W.cell? ⟨b, off + j * 3 + 1, none⟩ = some bv ∧ W.cell? ⟨b, off + j * 3 + 2, none⟩ = some (.int .i64 o.n)) := Lib.hid (fun W h => ⟨(h.cell (p := ⟨b, off + j * 3, none⟩) hb).trans c0, (h.cell (p := ⟨b, off + j * 3 + 1, none⟩) hb).trans c1, (h.cell (p := ⟨b, off + j * 3 + 2, none⟩) hb).trans c2⟩)
            have B0 : Hid (Below w.heap.size w wr.drew) := Lib.hid hB.drew
            obtain ⟨S, hS⟩ : ∃ S, ans (1 + c) o ys = S := ⟨_, rfl⟩
            rw [hS] at HA HA2
            clear h4 c0 c1 c2 hs hR hQ hB hS x0 x1 x2
            go_wp2
            go_region_held (fun W => W.cell? ⟨b, off + j * 3, none⟩ = some (.int .i64 o.kind) ∧ W.cell? ⟨b, off + j * 3 + 1, none⟩ = some bv ∧ W.cell? ⟨b, off + j * 3 + 2, none⟩ = some (.int .i64 o.n)) (first | exact K0.out _ B7.out | exact K0.out _ B6.out | exact K0.out _ B0.out) (first | (go_at_call 24; (with_reducible refine HA.out.mono ?_); rintro e w6 ⟨rfl, k6, r6⟩; have B6 := Lib.hid (B0.out.trans (k6.below B0.out.size (fun j e => by have := HL.out.1; omega))); replace k6 := Lib.hid k6; replace r6 := Lib.hid r6) | (go_at_call 24; (with_reducible refine (HA2.out _ k6.out).mono ?_); rintro e w7 ⟨rfl, k7, q7⟩; have B7 := Lib.hid (B6.out.trans (k7.below B6.out.size (fun j e => by have := HNe.out.2; omega))); have HE := Lib.hid (And.intro (Rg.kept (S := fun j => j = q) r6.out k7 (fun e => HNe.out.1 e.symm)) q7)))
            have g1 := len_any w7 r (1 + c) _ HE.out.1
            have g2 := len_any w7 q (1 + c) _ HE.out.2
            have g3 := room_any w7 r (1 + c) _ HE.out.1
            have g4 := room_any w7 q (1 + c) _ HE.out.2
            obtain ⟨G, hG⟩ : ∃ G : Int, (((1 + c) - (nxt (1 + c) o ys).length : Nat) : Int) = G := ⟨_, rfl⟩
            obtain ⟨L, hL⟩ : ∃ L : Int, ((nxt (1 + c) o ys).length : Int) = L := ⟨_, rfl⟩
            rw [hG] at g3 g4
            rw [hL] at g1 g2
            have G1 := Lib.hid g1
            have G2 := Lib.hid g2
            have G3 := Lib.hid g3
            have G4 := Lib.hid g4
            clear g1 g2 g3 g4 hG hL
            go_wp2_with (first | (go_at_call 19; (with_reducible refine G1.out.mono ?_); rintro e w8 ⟨rfl, rfl⟩) | (go_at_call 19; (with_reducible refine G2.out.mono ?_); rintro e w8 ⟨rfl, rfl⟩) | (go_at_call 20; (with_reducible refine G3.out.mono ?_); rintro e w8 ⟨rfl, rfl⟩) | (go_at_call 20; (with_reducible refine G4.out.mono ?_); rintro e w8 ⟨rfl, rfl⟩))
            go_roundw
            case rel => exact ⟨j + 1, _, by omega, by go_num, HE.out.1, HE.out.2, B7.out⟩
            case measure => simp [intOf]; omega
        · obtain rfl : j = m.length := by omega
          have HA1 := Lib.hid (all_any (some ⟨r, 0, none⟩) ys wr.drew (tells_ring hR))
          have HA2 : Hid (∀ W, Below wr.drew.heap.size wr.drew W → _) := Lib.hid (fun W hb => all_any (some ⟨q, 0, none⟩) ys W (tells_ring (Rg.below (w := wr.drew) hQ hb)))
          have B0 : Hid (Below w.heap.size w wr.drew) := Lib.hid hB.drew
          clear hR hQ hB
          go_wp2
          go_region_held (fun _ => True) (trivial) (first | (go_at_call 18; (with_reducible refine HA1.out.mono ?_); rintro e w6 ⟨b6, rv6, rfl, ho6⟩; have cv6 := slc_string (own_slc ho6)) | (go_at_call 18; (with_reducible refine (HA2.out _ b6).mono ?_); rintro e w7 ⟨b7, rv7, rfl, ho7⟩; have cv7 := slc_string (own_slc ho7); have cv8 := slc_string (own_slc (own_below ho6 b7))))
          all_goals
            go_wp2
            go_ret
            exact ⟨rfl, B0.out.trans ((b6.trans (b7.mono b6.size)).mono B0.out.size)⟩
end Go.Proofs.Ytgenefedicdohaa.Rpl
namespace Go.Proofs.Ytgenefedicdohaa.Walk
open Go Go.RowKit Kit Rop Rpl
theorem ringPlace (ct : Int) (v1 : Value) (l : List Opr) (v2 : Value) (m : List Opr) (W : World) (hc : (Lit.int .u8 ct).wf = true) (h1 : OpsAt W v1 l) (h2 : OpsAt W v2 m) :
    Calls Try.prog 6 #[.int .u8 ct, v1, v2] W fun e w' => e = .returned (.bool true) ∧ Below W.heap.size W w' := by
  obtain ⟨c, rfl, h256⟩ := u8_nat hc
  by_cases hf : Fine l
  · by_cases hf2 : Fine m
    · exact place_fine c v1 v2 l m W h1 h2 hf hf2 h256
    · exact place_great2 c v1 v2 l m W h1 h2 hf hf2
  · exact place_great1 c v1 v2 l m W h1 hf
end Go.Proofs.Ytgenefedicdohaa.Walk
