/-
  RingOrder: the walk.
-/
import Derived.Test.YtgenefedicdohaaRsl
import Derived.Deep.RegionHeld
namespace Go.Proofs.Ytgenefedicdohaa.Ror
open Go Go.RowKit Go.Shelf Kit Bk Rgm Rgt Rgw Rgp Rgn Rst Ral Rop Rac Rsl
set_option linter.unusedVariables false
attribute [local go_sem ↓] min_wrap sl_wrap

set_option maxHeartbeats 1000000 in
theorem order_long1 (ct : Int) (v1 v2 : Value) (ys zs : List Nat) (w : World) (h1 : Slc .u8 w v1 ys) (h2 : Slc .u8 w v2 zs) (hf : 2000 < ys.length) :
    Calls Try.prog 5 #[.int .u8 ct, v1, v2] w fun e w' => e = .returned (.bool true) ∧ Below w.heap.size w w' := by
  obtain ⟨a1, cap1, rfl, -⟩ := h1
  obtain ⟨a2, cap2, rfl, -⟩ := h2
  have d : decide ((2000 : Int) < (ys.length : Int)) = true := decide_eq_true (by omega)
  clear hf
  go_enter Try.func5, Try.ntmps5
  go_wp2_with (first | (go_at_call 23; (with_reducible refine (alive_any _).mono ?_); rintro e w1 ⟨rfl, b1⟩))
  go_ret
  exact ⟨rfl, b1⟩
set_option maxHeartbeats 1000000 in
theorem order_long2 (ct : Int) (v1 v2 : Value) (ys zs : List Nat) (w : World) (h1 : Slc .u8 w v1 ys) (h2 : Slc .u8 w v2 zs) (hf : ys.length ≤ 2000) (hf2 : 500 < zs.length) :
    Calls Try.prog 5 #[.int .u8 ct, v1, v2] w fun e w' => e = .returned (.bool true) ∧ Below w.heap.size w w' := by
  obtain ⟨a1, cap1, rfl, -⟩ := h1
  obtain ⟨a2, cap2, rfl, -⟩ := h2
  have d : decide ((2000 : Int) < (ys.length : Int)) = false := decide_eq_false (by omega)
  have d2 : decide ((500 : Int) < (zs.length : Int)) = true := decide_eq_true (by omega)
  clear hf hf2
  go_enter Try.func5, Try.ntmps5
  go_wp2_with (first | (go_at_call 23; (with_reducible refine (alive_any _).mono ?_); rintro e w1 ⟨rfl, b1⟩))
  go_ret
  exact ⟨rfl, b1⟩

set_option maxRecDepth 100000 in
set_option maxHeartbeats 4000000 in
theorem order_fine (ct : Nat) (v1 v2 : Value) (ys zs : List Nat) (w : World) (h1 : Slc .u8 w v1 ys) (h2 : Slc .u8 w v2 zs) (hz : ∀ z ∈ zs, z < 256) (hf : ys.length ≤ 2000) (hf2 : zs.length ≤ 500) (hct : ct < 256) :
    Calls Try.prog 5 #[.int .u8 (ct : Int), v1, v2] w fun e w' => e = .returned (.bool true) ∧ Below w.heap.size w w' := by
  have H1 := Lib.hid h1
  obtain ⟨a1, cap1, rfl, l1, m1, -⟩ := h1
  obtain ⟨a2, cap2, rfl, l2, m2, D2⟩ := h2
  unfold maxLen at m1 m2
  have HD2 := Lib.hid D2
  have HZ := Lib.hid hz
  have HF := Lib.hid (And.intro hf (And.intro hf2 (And.intro l1 m1)))
  have b1l : (ys.length : Int) ≤ 2000 := by omega
  have b2l : (zs.length : Int) ≤ 500 := by omega
  obtain ⟨c, hc⟩ : ∃ c, ct % 64 = c := ⟨_, rfl⟩
  have hc64 : c < 64 := by rw [← hc]; exact Nat.mod_lt _ (by omega)
  have hrem : (ct : Int).tmod 64 = (c : Int) := by rw [← hc]; rfl
  have hcI : (c : Int) ≤ 63 := by omega
  have hctI : (ct : Int) ≤ 255 := by omega
  have HC64 := Lib.hid hc64
  clear D2 hz hf hf2 l1 l2 hc hc64 hct
  go_enter Try.func5, Try.ntmps5
  go_wp2_with (first | (go_at_call 23; (with_reducible refine (alive_any _).mono ?_); rintro e w1 ⟨rfl, b1⟩; replace b1 := Lib.hid b1) | (go_at_call 22; (with_reducible refine (new_lit _ (1 + c) (1 + (c : Int)) (by omega) ⟨by omega, by have := HC64.out; omega⟩).mono ?_); rintro e w3 ⟨rfl, b3, r3⟩; refine Hid.out ?_))
  refine Lib.hid ?_
  obtain ⟨r, hr⟩ : ∃ r, w1.heap.size = r := ⟨_, rfl⟩
  have HL : Hid (w.heap.size ≤ r ∧ Below w.heap.size w w3) := Lib.hid ⟨by rw [← hr]; exact b1.out.size, b1.out.trans (b3.mono b1.out.size)⟩
  rw [hr] at r3
  have R3 := Lib.hid r3
  clear b3 r3
  go_wp2
  clear hr
  go_loopw [10, 11, 40] (fun s p i wr => ∃ (k A : Nat) (out xs : List Nat), k ≤ zs.length ∧ i = .int .i64 (k : Int) ∧ p = .int .i64 (A : Int) ∧ s = .string (bstr out) ∧ A ≤ ys.length ∧ out ++ xs = ys.take A ∧ Rg wr r (1 + c) xs ∧ Below w.heap.size w wr) (fun _ _ i _ => zs.length - (intOf i).toNat)
  case atStart => exact ⟨0, 0, [], [], Nat.zero_le _, rfl, rfl, rfl, Nat.zero_le _, rfl, R3.out, HL.out.2⟩
  case round =>
    obtain ⟨k, A, out, xs, hk, rfl, rfl, rfl, hA, hcat, hR, hB⟩ := hrel
    by_cases hlt : k < zs.length
    · rcases HD2.out with h0 | ⟨b, off, rfl, hb, hcell⟩
      · subst h0; simp at hlt
      · have hkl : (k : Int) < (zs.length : Int) := by omega
        have cz := (hB.cell (p := ⟨b, off + k, none⟩) hb).trans (hcell k hlt)
        have hz256 : zs[k]?.getD 0 < 256 := by rw [List.getElem?_eq_getElem hlt]; exact HZ.out _ (List.getElem_mem _)
        generalize zs[k]?.getD 0 = z at *
        have hzI : (z : Int) ≤ 255 := by omega
        obtain ⟨n, hn⟩ : ∃ n, z % 80 = n := ⟨_, rfl⟩
        have hremn : (z : Int).tmod 80 = (n : Int) := by rw [← hn]; rfl
        have hnI : (n : Int) ≤ 79 := by have := Nat.mod_lt z (show 0 < 80 by omega); omega
        clear hcell hn hz256
        by_cases hev : k % 2 = 0
        · have hpar : (k : Int).tmod 2 = 0 := by
            have : (k : Int).tmod 2 = ((k % 2 : Nat) : Int) := rfl
            rw [this, hev]; rfl
          obtain ⟨hi, hhi⟩ : ∃ hi, min ys.length (A + n) = hi := ⟨_, rfl⟩
          have hmn := fun wx => run_min wx (ys.length : Int) ((A : Int) + (n : Int)) (hi : Int) (by omega)
          have hAhi : A ≤ hi := by omega
          obtain ⟨V, hV, hSV⟩ := sub_any H1.out A hi hAhi (by omega)
          have hw := write_any wr r (1 + c) xs V _ hR (src_of hSV hB HL.out.1)
          have hin := into (n := n) (C := 1 + c) hcat hA
          rw [hhi] at hin
          have hlen : ((ys.drop A).take (hi - A)).length = hi - A := by simp; omega
          rw [hlen] at hw
          obtain ⟨M, hM⟩ : ∃ M, min (hi - A) (1 + c - xs.length) = M := ⟨_, rfl⟩
          rw [hM] at hw hin
          have hM64 : (M : Int) ≤ 64 := by have := HC64.out; omega
          have hAI : (A : Int) ≤ 2000 := by have := HF.out.1; omega
          generalize xs ++ ((ys.drop A).take (hi - A)).take (1 + c - xs.length) = xs5 at hw hin
          have HW := Lib.hid hw
          have HC5 := Lib.hid hin.1
          have HA5 := Lib.hid hin.2
          have HB := Lib.hid hB
          clear hw hin hlen hSV hR hB hcat hM hhi hev hA hAhi
          go_wp2_with (first | (go_at_call 11; (with_reducible refine HW.out.mono ?_); rintro e w5 ⟨rfl, k5, r5⟩; refine Hid.out ?_))
          refine Lib.hid ?_
          have HB5 := Lib.hid (HB.out.trans (k5.below HB.out.size (fun j e => by have := HL.out.1; omega)))
          have HR5 := Lib.hid r5
          clear k5 r5 HW
          have hcl := HR5.out.cap_le
          have g1 := len_any w5 r (1 + c) _ HR5.out
          have g2 := room_any w5 r (1 + c) _ HR5.out
          have g3 := cap_any w5 r (1 + c) _ HR5.out
          have hsum : ((xs5).length : Int) + (((1 + c) - (xs5).length : Nat) : Int) = ((1 + c : Nat) : Int) := by omega
          have hlb : ((xs5).length : Int) ≤ 64 := by have := HC64.out; omega
          have hgb : (((1 + c) - (xs5).length : Nat) : Int) ≤ 64 := by have := HC64.out; omega
          have hsz : ((bstr (out)).size : Int) + ((xs5).length : Int) = (A : Int) + (M : Int) := by
            have h1 := congrArg List.length HC5.out
            rw [List.length_append, List.length_take, Nat.min_eq_left HA5.out] at h1
            rw [bstr_size]
            omega
          have hob : ((bstr (out)).size : Int) ≤ 2000 := by
            have h1 := HA5.out
            have h2 := HF.out.1
            omega
          have G1 := Lib.hid g1
          have G2 := Lib.hid g2
          have G3 := Lib.hid g3
          obtain ⟨L, hL⟩ : ∃ L : Int, ((xs5).length : Int) = L := ⟨_, rfl⟩
          obtain ⟨G, hG⟩ : ∃ G : Int, (((1 + c) - (xs5).length : Nat) : Int) = G := ⟨_, rfl⟩
          obtain ⟨K, hK⟩ : ∃ K : Int, ((1 + c : Nat) : Int) = K := ⟨_, rfl⟩
          have hL0 : 0 ≤ L := by omega
          have hG0 : 0 ≤ G := by omega
          rw [hL] at G1 hsum hlb hsz
          rw [hG] at G2 hsum hgb
          rw [hK] at G3 hsum
          skip
          clear g1 g2 g3 hL hG hK hcl
          go_wp2_with (first | (go_at_call 19; (with_reducible refine G1.out.mono ?_); rintro e w8 ⟨rfl, rfl⟩) | (go_at_call 20; (with_reducible refine G2.out.mono ?_); rintro e w8 ⟨rfl, rfl⟩) | (go_at_call 21; (with_reducible refine G3.out.mono ?_); rintro e w8 ⟨rfl, rfl⟩))
          go_roundw
          case rel => exact ⟨k + 1, A + M, out, xs5, by omega, by go_num, by push_cast; rfl, rfl, HA5.out, HC5.out, HR5.out, HB5.out⟩
          case measure => simp [intOf]; omega
        · have hpar : (k : Int).tmod 2 = 1 := by
            have : (k : Int).tmod 2 = ((k % 2 : Nat) : Int) := rfl
            rw [this, show k % 2 = 1 by omega]; rfl
          have hw := read_any wr r (1 + c) xs (n : Int) hR
          rw [Int.toNat_natCast] at hw
          have hAI : (A : Int) ≤ 2000 := by have := HF.out.1; omega
          have HC5 := Lib.hid (outof n hcat)
          have HA5 := Lib.hid hA
          have hap := bstr_append out (xs.take n)
          have hszo : ¬ 9223372036854775807 < (bstr out).size + (bstr (xs.take n)).size := by
            have h1 := congrArg List.length hcat
            rw [List.length_append, List.length_take] at h1
            rw [bstr_size, bstr_size, List.length_take]
            have := HF.out.1
            omega
          have HAp := Lib.hid hap
          generalize xs.drop n = xs5 at *
          generalize xs.take n = zs5 at *
          have HW := Lib.hid hw
          have HB := Lib.hid hB
          clear hw hR hB hcat hev hA
          go_wp2_with (first | (go_at_call 13; (with_reducible refine HW.out.mono ?_); rintro e w5 ⟨k5, r5, rv, rfl, ho⟩; refine Hid.out ?_))
          refine Lib.hid ?_
          have HB5 := Lib.hid (HB.out.trans (k5.below HB.out.size (fun j e => by have := HL.out.1; omega)))
          have HR5 := Lib.hid r5
          have cv := slc_string (own_slc ho)
          clear k5 r5 HW ho
          have hcl := HR5.out.cap_le
          have g1 := len_any w5 r (1 + c) _ HR5.out
          have g2 := room_any w5 r (1 + c) _ HR5.out
          have g3 := cap_any w5 r (1 + c) _ HR5.out
          have hsum : ((xs5).length : Int) + (((1 + c) - (xs5).length : Nat) : Int) = ((1 + c : Nat) : Int) := by omega
          have hlb : ((xs5).length : Int) ≤ 64 := by have := HC64.out; omega
          have hgb : (((1 + c) - (xs5).length : Nat) : Int) ≤ 64 := by have := HC64.out; omega
          have hsz : ((bstr (out ++ zs5)).size : Int) + ((xs5).length : Int) = (A : Int) := by
            have h1 := congrArg List.length HC5.out
            rw [List.length_append, List.length_take, Nat.min_eq_left HA5.out] at h1
            rw [bstr_size]
            omega
          have hob : ((bstr (out ++ zs5)).size : Int) ≤ 2000 := by
            have h1 := HA5.out
            have h2 := HF.out.1
            omega
          have G1 := Lib.hid g1
          have G2 := Lib.hid g2
          have G3 := Lib.hid g3
          obtain ⟨L, hL⟩ : ∃ L : Int, ((xs5).length : Int) = L := ⟨_, rfl⟩
          obtain ⟨G, hG⟩ : ∃ G : Int, (((1 + c) - (xs5).length : Nat) : Int) = G := ⟨_, rfl⟩
          obtain ⟨K, hK⟩ : ∃ K : Int, ((1 + c : Nat) : Int) = K := ⟨_, rfl⟩
          have hL0 : 0 ≤ L := by omega
          have hG0 : 0 ≤ G := by omega
          rw [hL] at G1 hsum hlb hsz
          rw [hG] at G2 hsum hgb
          rw [hK] at G3 hsum
          skip
          clear g1 g2 g3 hL hG hK hcl
          go_wp2_with (first | (go_at_call 19; (with_reducible refine G1.out.mono ?_); rintro e w8 ⟨rfl, rfl⟩) | (go_at_call 20; (with_reducible refine G2.out.mono ?_); rintro e w8 ⟨rfl, rfl⟩) | (go_at_call 21; (with_reducible refine G3.out.mono ?_); rintro e w8 ⟨rfl, rfl⟩))
          go_roundw
          case rel => exact ⟨k + 1, A, out ++ zs5, xs5, by omega, by go_num, rfl, rfl, HA5.out, HC5.out, HR5.out, HB5.out⟩
          case measure => simp [intOf]; omega
    · obtain rfl : k = zs.length := by omega
      have HA := Lib.hid (all_any (some ⟨r, 0, none⟩) xs wr (tells_ring hR))
      have HB := Lib.hid hB
      obtain ⟨V, hV, hSV⟩ := to_any H1.out A hA
      have HV : Hid (∀ W, Below w.heap.size w W → Slc .u8 W V (ys.take A)) := Lib.hid (fun W hb => hSV.below hb)
      have hap := bstr_append out xs
      rw [hcat] at hap
      have hszo : ¬ 9223372036854775807 < (bstr out).size + (bstr xs).size := by
        have h1 := congrArg List.length hcat
        rw [List.length_append, List.length_take] at h1
        rw [bstr_size, bstr_size]
        have := HF.out.1
        omega
      have hAy : (A : Int) ≤ (ys.length : Int) := by omega
      clear hSV hR hB hcat hA
      go_wp2_with (first | (go_at_call 18; (with_reducible refine HA.out.mono ?_); rintro e w5 ⟨b5, rv, rfl, ho⟩; have cv := slc_string (own_slc ho); have HB5 := Lib.hid (HB.out.trans (b5.mono HB.out.size)); have cv2 := slc_string (HV.out _ HB5.out); replace ho := Lib.hid ho))
      go_ret
      exact ⟨rfl, HB5.out⟩
end Go.Proofs.Ytgenefedicdohaa.Ror
namespace Go.Proofs.Ytgenefedicdohaa.Walk
open Go Go.RowKit Kit Rop Ror
theorem ringOrder (ct : Int) (v1 : Value) (ys : List Nat) (v2 : Value) (zs : List Nat) (W : World) (hc : (Lit.int .u8 ct).wf = true) (h1 : Slc .u8 W v1 ys) (_ : ∀ x ∈ ys, x < 256) (h2 : Slc .u8 W v2 zs) (hz : ∀ x ∈ zs, x < 256) :
    Calls Try.prog 5 #[.int .u8 ct, v1, v2] W fun e w' => e = .returned (.bool true) ∧ Below W.heap.size W w' := by
  obtain ⟨c, rfl, h256⟩ := u8_nat hc
  by_cases hf : ys.length ≤ 2000
  · by_cases hf2 : zs.length ≤ 500
    · exact order_fine c v1 v2 ys zs W h1 h2 hz hf hf2 h256
    · exact order_long2 c v1 v2 ys zs W h1 h2 hf (by omega)
  · exact order_long1 c v1 v2 ys zs W h1 h2 (by omega)
end Go.Proofs.Ytgenefedicdohaa.Walk
