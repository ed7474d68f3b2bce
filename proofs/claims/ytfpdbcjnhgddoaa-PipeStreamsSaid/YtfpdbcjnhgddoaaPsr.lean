/-
  PipeStreams: the walk.
-/
import Derived.Test.YtfpdbcjnhgddoaaPsl
import Derived.Deep.RegionHeld
namespace Go.Proofs.Ytfpdbcjnhgddoaa.Psr
open Go Go.RowKit Go.Shelf Kit Bk Rgm Rgt Rgw Rgp Rgn Rst Pm Pw Px Pr Ps Po Pn Pal Pop Pac Psl
set_option linter.unusedVariables false
attribute [local go_sem ↓] min_wrap sl_wrap

set_option maxRecDepth 100000 in
set_option maxHeartbeats 1000000 in
theorem streams_long1 (ct : Int) (v1 v2 : Value) (ys zs : List Nat) (w : World) (h1 : Slc .u8 w v1 ys) (h2 : Slc .u8 w v2 zs) (hf : 1000 < ys.length) :
    Calls Try.prog 5 #[.int .u8 ct, v1, v2] w fun e w' => e = .returned (.bool true) ∧ Below w.heap.size w w' := by
  obtain ⟨a1, cap1, rfl, -⟩ := h1
  obtain ⟨a2, cap2, rfl, -⟩ := h2
  have d : decide ((1000 : Int) < (ys.length : Int)) = true := decide_eq_true (by omega)
  clear hf
  go_enter Try.func5, Try.ntmps5
  go_wp2_with (first | (go_at_call 29; (with_reducible refine (alive_any _).mono ?_); rintro e w1 ⟨rfl, b1⟩))
  go_ret
  exact ⟨rfl, b1⟩
set_option maxRecDepth 100000 in
set_option maxHeartbeats 1000000 in
theorem streams_long2 (ct : Int) (v1 v2 : Value) (ys zs : List Nat) (w : World) (h1 : Slc .u8 w v1 ys) (h2 : Slc .u8 w v2 zs) (hf : ys.length ≤ 1000) (hf2 : 300 < zs.length) :
    Calls Try.prog 5 #[.int .u8 ct, v1, v2] w fun e w' => e = .returned (.bool true) ∧ Below w.heap.size w w' := by
  obtain ⟨a1, cap1, rfl, -⟩ := h1
  obtain ⟨a2, cap2, rfl, -⟩ := h2
  have d : decide ((1000 : Int) < (ys.length : Int)) = false := decide_eq_false (by omega)
  have d2 : decide ((300 : Int) < (zs.length : Int)) = true := decide_eq_true (by omega)
  clear hf hf2
  go_enter Try.func5, Try.ntmps5
  go_wp2_with (first | (go_at_call 29; (with_reducible refine (alive_any _).mono ?_); rintro e w1 ⟨rfl, b1⟩))
  go_ret
  exact ⟨rfl, b1⟩

/-- What a piece's Write tells. -/
theorem piece_in {C : Nat} (xs zs : List Nat) (hx : xs.length ≤ C) : (zs.length = 0 ∧ wW C xs 1 1 zs = 0) ∨ (zs.length ≠ 0 ∧ wN C xs 1 1 zs = 0 ∧ wW C xs 1 1 zs = 1) ∨ (zs.length ≠ 0 ∧ wN C xs 1 1 zs ≠ 0 ∧ wW C xs 1 1 zs = 0) := by
  unfold wW wN
  by_cases h0 : zs = []
  · left
    simp [h0]
  · have h1 := len_zero h0
    by_cases h2 : xs.length = C
    · right; left
      simp [h0, h2]
    · right; right
      simp [h0, h2]
      omega
/-- What a piece's Read tells. -/
theorem piece_out (xs : List Nat) (n : Nat) : (n = 0 ∧ rW xs 1 1 (n : Int) = 0) ∨ (n ≠ 0 ∧ (xs.take n).length = 0 ∧ rW xs 1 1 (n : Int) = 1) ∨ (n ≠ 0 ∧ (xs.take n).length ≠ 0 ∧ rW xs 1 1 (n : Int) = 0) := by
  unfold rW
  by_cases h0 : n = 0
  · left
    simp [h0]
  · have h1 : ¬ ((1 : Nat) = 0 ∨ (n : Int) < 0) := by omega
    by_cases h2 : xs = []
    · right; left
      simp [h0, h2]
    · have := len_zero h2
      right; right
      simp [h0, h2]
/-- The last ones come out. -/
theorem last_out (xs : List Nat) : (xs = [] ∧ (xs.take 9).length = 0 ∧ rW xs 1 0 9 = 2) ∨ (xs ≠ [] ∧ (xs.take 9).length ≠ 0 ∧ rW xs 1 0 9 = 0) := by
  unfold rW
  by_cases h2 : xs = []
  · left
    simp [h2]
  · have := len_zero h2
    right
    simp [h2]
theorem rO_nat (xs : List Nat) (n : Nat) : rO xs 1 (n : Int) = xs.take n ∧ rX xs 1 (n : Int) = xs.drop n ∧ rE 1 (n : Int) = 0 := by
  have h1 : ¬ ((1 : Nat) = 0 ∨ (n : Int) < 0) := by omega
  unfold rO rX rE
  simp only [if_neg h1, Int.toNat_natCast]
  exact ⟨trivial, trivial, trivial⟩

set_option maxRecDepth 100000 in
set_option maxHeartbeats 8000000 in
theorem streams_fine (ct : Nat) (v1 v2 : Value) (ys zs : List Nat) (w : World) (h1 : Slc .u8 w v1 ys) (h2 : Slc .u8 w v2 zs) (hz : ∀ z ∈ zs, z < 256) (hf : ys.length ≤ 1000) (hf2 : zs.length ≤ 300) (hct : ct < 256) :
    Calls Try.prog 5 #[.int .u8 (ct : Int), v1, v2] w fun e w' => e = .returned (.bool true) ∧ Below w.heap.size w w' := by
  have H1 := Lib.hid h1
  obtain ⟨a1, cap1, rfl, l1, m1, -⟩ := h1
  obtain ⟨a2, cap2, rfl, l2, m2, D2⟩ := h2
  unfold maxLen at m1 m2
  have HD2 := Lib.hid D2
  have HZ := Lib.hid hz
  have HF := Lib.hid (And.intro hf (And.intro hf2 (And.intro l1 m1)))
  have b1l : (ys.length : Int) ≤ 1000 := by omega
  have b2l : (zs.length : Int) ≤ 300 := by omega
  obtain ⟨c, hc⟩ : ∃ c, ct % 64 = c := ⟨_, rfl⟩
  have hc64 : c < 64 := by rw [← hc]; exact Nat.mod_lt _ (by omega)
  have hrem : (ct : Int).tmod 64 = (c : Int) := by rw [← hc]; rfl
  have hcI : (c : Int) ≤ 63 := by omega
  have hctI : (ct : Int) ≤ 255 := by omega
  have HC64 := Lib.hid hc64
  clear D2 hz hf hf2 l1 l2 hc hc64 hct
  go_enter Try.func5, Try.ntmps5
  go_wp2_with (first | (go_at_call 29; (with_reducible refine (alive_any _).mono ?_); rintro e w1 ⟨rfl, b1⟩; replace b1 := Lib.hid b1) | (go_at_call 28; (with_reducible refine (pnew_ok _ (1 + c) (1 + (c : Int)) (by omega) ⟨by omega, by have := HC64.out; omega⟩).mono ?_); rintro e w3 ⟨p, r, rfl, b3, hp, hr, r3⟩; refine Hid.out ?_))
  refine Lib.hid ?_
  have R3 : Hid (On w w3 p r (1 + c) [] 1 1) := Lib.hid ⟨b1.out.trans (b3.mono b1.out.size), r3, by have := b1.out.size; omega, by have := b1.out.size; omega⟩
  clear b3 r3 hp hr b1
  go_wp2
  go_loopw [10, 11, 51] (fun s a i wr => ∃ (k A : Nat) (out xs : List Nat), k ≤ zs.length ∧ i = .int .i64 (k : Int) ∧ a = .int .i64 (A : Int) ∧ s = .string (bstr out) ∧ A ≤ ys.length ∧ out ++ xs = ys.take A ∧ On w wr p r (1 + c) xs 1 1) (fun _ _ i _ => zs.length - (intOf i).toNat)
  case atStart => exact ⟨0, 0, [], [], Nat.zero_le _, rfl, rfl, rfl, Nat.zero_le _, rfl, R3.out⟩
  case round =>
    clear R3
    obtain ⟨k, A, out, xs, hk, rfl, rfl, rfl, hA, hcat, hR⟩ := hrel
    by_cases hlt : k < zs.length
    · rcases HD2.out with h0 | ⟨b, off, rfl, hb, hcell⟩
      · subst h0; simp at hlt
      · have hkl : (k : Int) < (zs.length : Int) := by omega
        have cz := (hR.bel.cell (p := ⟨b, off + k, none⟩) hb).trans (hcell k hlt)
        have hz256 : zs[k]?.getD 0 < 256 := by rw [List.getElem?_eq_getElem hlt]; exact HZ.out _ (List.getElem_mem _)
        generalize zs[k]?.getD 0 = z at *
        have hzI : (z : Int) ≤ 255 := by omega
        obtain ⟨n, hn⟩ : ∃ n, z % 40 = n := ⟨_, rfl⟩
        have hremn : (z : Int).tmod 40 = (n : Int) := by rw [← hn]; rfl
        have hnI : (n : Int) ≤ 39 := by have := Nat.mod_lt z (show 0 < 40 by omega); omega
        clear hcell hn hz256
        by_cases hev : k % 2 = 0
        · have hpar : (k : Int).tmod 2 = 0 := by
            have : (k : Int).tmod 2 = ((k % 2 : Nat) : Int) := rfl
            rw [this, hev]; rfl
          obtain ⟨hi, hhi⟩ : ∃ hi, min ys.length (A + n) = hi := ⟨_, rfl⟩
          have hmn := fun wx => run_min wx (ys.length : Int) ((A : Int) + (n : Int)) (hi : Int) (by omega)
          have hAhi : A ≤ hi := by omega
          obtain ⟨V, hV, hSV⟩ := sub_any H1.out A hi hAhi (by omega)
          have hw := pwrite_any wr p r (1 + c) xs 1 1 V _ hR.pp (hR.src hSV)
          have hpi := piece_in (C := 1 + c) xs ((ys.drop A).take (hi - A)) hR.pp.ring.cap_le.2
          have hin := into (n := n) (C := 1 + c) hcat hA
          rw [hhi] at hin
          have hlen : ((ys.drop A).take (hi - A)).length = hi - A := by simp; omega
          unfold WriteR at hw
          have e1 : wN (1 + c) xs 1 1 ((ys.drop A).take (hi - A)) = min (hi - A) (1 + c - xs.length) := by unfold wN; rw [if_neg (by omega), hlen]
          have e2 : wX (1 + c) xs 1 1 ((ys.drop A).take (hi - A)) = xs ++ ((ys.drop A).take (hi - A)).take (1 + c - xs.length) := by unfold wX; rw [if_neg (by omega)]
          have e3 : wE 1 = 0 := rfl
          rw [e1, hlen] at hpi
          rw [e1, e2, e3] at hw
          obtain ⟨av, cv, rfl, -⟩ := hSV
          rw [hlen] at hw hV
          obtain ⟨M, hM⟩ : ∃ M, min (hi - A) (1 + c - xs.length) = M := ⟨_, rfl⟩
          rw [hM] at hw hin hpi
          have hM64 : (M : Int) ≤ 64 := by have := HC64.out; omega
          have hAI : (A : Int) ≤ 1000 := by have := HF.out.1; omega
          generalize xs ++ ((ys.drop A).take (hi - A)).take (1 + c - xs.length) = xs5 at hw hin
          generalize wW (1 + c) xs 1 1 ((ys.drop A).take (hi - A)) = a5 at hw hpi
          obtain ⟨L, hL⟩ : ∃ L, hi - A = L := ⟨_, rfl⟩
          rw [hL] at hw hV hpi hM
          have HW := Lib.hid hw
          have HC5 := Lib.hid hin.1
          have HA5 := Lib.hid hin.2
          have HR0 := Lib.hid hR
          clear hw hin hlen hR hcat hM hhi hev hA hAhi e1 e2 e3 hL
          rcases hpi with ⟨p0, rfl⟩ | ⟨p0, p1, rfl⟩ | ⟨p0, p1, rfl⟩
          · have d0 : decide ((0 : Int) < (L : Int)) = false := decide_eq_false (by omega)
            have d1 : decide (0 < L) = false := decide_eq_false (by omega)
            clear p0
            go_wp2_with (first | (go_at_call 12; (with_reducible refine HW.out.mono ?_); rintro e w5 ⟨rfl, k5, r5⟩; have HR5 := Lib.hid (HR0.out.step k5 r5); clear k5 r5))
            go_roundw
            case rel => exact ⟨k + 1, A + M, out, xs5, by omega, by go_num, by push_cast; rfl, rfl, HA5.out, HC5.out, HR5.out⟩
            case measure => simp [intOf]; omega
          · subst p1
            have d0 : decide ((0 : Int) < (L : Int)) = true := decide_eq_true (by omega)
            have d1 : decide (0 < L) = true := decide_eq_true (by omega)
            clear p0
            go_wp2_with (first | (go_at_call 12; (with_reducible refine HW.out.mono ?_); rintro e w5 ⟨rfl, k5, r5⟩; have HR5 := Lib.hid (HR0.out.step k5 r5); clear k5 r5))
            go_roundw
            case rel => exact ⟨k + 1, A + 0, out, xs5, by omega, by go_num, by push_cast; rfl, rfl, HA5.out, HC5.out, HR5.out⟩
            case measure => simp [intOf]; omega
          · have d0 : decide ((0 : Int) < (L : Int)) = true := decide_eq_true (by omega)
            have d1 : decide (0 < L) = true := decide_eq_true (by omega)
            have d2 : ((M : Int) == 0) = false := by simp; omega
            clear p0 p1
            go_wp2_with (first | (go_at_call 12; (with_reducible refine HW.out.mono ?_); rintro e w5 ⟨rfl, k5, r5⟩; have HR5 := Lib.hid (HR0.out.step k5 r5); clear k5 r5))
            go_roundw
            case rel => exact ⟨k + 1, A + M, out, xs5, by omega, by go_num, by push_cast; rfl, rfl, HA5.out, HC5.out, HR5.out⟩
            case measure => simp [intOf]; omega
        · have hpar : (k : Int).tmod 2 = 1 := by
            have : (k : Int).tmod 2 = ((k % 2 : Nat) : Int) := rfl
            rw [this, show k % 2 = 1 by omega]; rfl
          have hw := pread_any wr p r (1 + c) xs 1 1 (n : Int) hR.pp
          have hpo := piece_out xs n
          unfold ReadR at hw
          rw [(rO_nat xs n).1, (rO_nat xs n).2.1, (rO_nat xs n).2.2] at hw
          have hAI : (A : Int) ≤ 1000 := by have := HF.out.1; omega
          have HC5 := Lib.hid (outof n hcat)
          have HA5 := Lib.hid hA
          have hap := bstr_append out (xs.take n)
          have hszo : ¬ 9223372036854775807 < (bstr out).size + (bstr (xs.take n)).size := by
            have h1 := congrArg List.length hcat
            rw [List.length_append, List.length_take] at h1
            rw [bstr_size, bstr_size, List.length_take]
            have := HF.out.1
            omega
          have HAp := Lib.hid hap
          generalize rW xs 1 1 (n : Int) = a5 at hw hpo
          generalize xs.drop n = xs5 at *
          generalize xs.take n = zs5 at *
          have HW := Lib.hid hw
          have HR0 := Lib.hid hR
          clear hw hR hcat hev hA
          go_wp2_with (first | (go_at_call 14; (with_reducible refine HW.out.mono ?_); rintro e w5 ⟨k5, r5, rv, rfl, ho⟩; refine Hid.out ?_))
          refine Lib.hid ?_
          have HR5 := Lib.hid (HR0.out.step k5 r5)
          have cv := slc_string (own_slc ho)
          obtain ⟨ad, cp, rfl⟩ := row_form ho
          have hzl : (zs5.length : Int) ≤ 2000 := by
            have h1 := HC5.out
            have h2 := congrArg List.length h1
            simp only [List.length_append, List.length_take] at h2
            have := HF.out.1
            omega
          clear k5 r5 HW ho
          rcases hpo with ⟨p0, rfl⟩ | ⟨p0, p1, rfl⟩ | ⟨p0, p1, rfl⟩
          · have d0 : decide ((0 : Int) < (n : Int)) = false := decide_eq_false (by omega)
            have d1 : decide (0 < n) = false := decide_eq_false (by omega)
            clear p0
            go_wp2
            go_roundw
            case rel => exact ⟨k + 1, A, out ++ zs5, xs5, by omega, by go_num, rfl, rfl, HA5.out, HC5.out, HR5.out⟩
            case measure => simp [intOf]; omega
          · have d0 : decide ((0 : Int) < (n : Int)) = true := decide_eq_true (by omega)
            have d1 : decide (0 < n) = true := decide_eq_true (by omega)
            have d2 : ((zs5.length : Int) == 0) = true := beq_iff_eq.2 (by omega)
            have HP1 := Lib.hid p1
            clear p0 p1
            go_wp2
            go_roundw
            case rel => exact ⟨k + 1, A, out ++ zs5, xs5, by omega, by go_num, rfl, rfl, HA5.out, HC5.out, HR5.out⟩
            case measure => simp [intOf]; omega
          · have d0 : decide ((0 : Int) < (n : Int)) = true := decide_eq_true (by omega)
            have d1 : decide (0 < n) = true := decide_eq_true (by omega)
            have d2 : ((zs5.length : Int) == 0) = false := beq_eq_false_iff_ne.2 (by omega)
            clear p0 p1
            go_wp2
            go_roundw
            case rel => exact ⟨k + 1, A, out ++ zs5, xs5, by omega, by go_num, rfl, rfl, HA5.out, HC5.out, HR5.out⟩
            case measure => simp [intOf]; omega
    · obtain rfl : k = zs.length := by omega
      have HCl := Lib.hid (pclose_lit (s := true) (b := true) (E := 0) (R' := 1) (U' := 0) hR.pp rfl rfl rfl rfl)
      have HR0 := Lib.hid hR
      have HH := Lib.hid (And.intro hcat hA)
      have hx64 := hR.pp.ring.cap_le
      have HX64 : Hid (xs.length ≤ 64) := Lib.hid (by omega)
      clear hR hcat hA hx64
      go_wp2_with (first | (go_at_call 18; (with_reducible refine HCl.out.mono ?_); rintro e w5 ⟨rfl, k5, r5⟩; have HR5 := Lib.hid (HR0.out.step k5 r5); clear k5 r5))
      go_loopw [10, 21] (fun s i wl => ∃ (j : Nat) (out xs : List Nat), j ≤ 70 ∧ i = .int .i64 (j : Int) ∧ s = .string (bstr out) ∧ out ++ xs = ys.take A ∧ xs.length ≤ 64 - 9 * j ∧ On w wl p r (1 + c) xs 1 0) (fun _ i _ => 70 - (intOf i).toNat)
      case atStart => exact ⟨0, out, xs, Nat.zero_le _, rfl, rfl, HH.out.1, HX64.out, HR5.out⟩
      case round =>
        obtain ⟨j, out, xs, hj, rfl, rfl, hcat, hxl, hR⟩ := hrel
        have hAy := HH.out.2
        have hAI : (A : Int) ≤ 1000 := by have := HF.out.1; omega
        clear HCl HR5 HX64
        by_cases hlt : j < 70
        · have hjI : (j : Int) < 70 := by omega
          have hw := pread_any wr p r (1 + c) xs 1 0 9 hR.pp
          have hlo := last_out xs
          unfold ReadR at hw
          rw [show rO xs 1 9 = xs.take 9 from (rO_nat xs 9).1, show rX xs 1 9 = xs.drop 9 from (rO_nat xs 9).2.1, show rE 1 9 = 0 from (rO_nat xs 9).2.2] at hw
          have HC5 := Lib.hid (outof 9 hcat)
          have HXl : Hid ((xs.drop 9).length ≤ 64 - 9 * (j + 1)) := Lib.hid (by rw [List.length_drop]; omega)
          have hap := bstr_append out (xs.take 9)
          have hlc := congrArg List.length hcat
          rw [List.length_append, List.length_take, Nat.min_eq_left hAy] at hlc
          have hszo : ¬ 9223372036854775807 < (bstr out).size + (bstr (xs.take 9)).size := by
            rw [bstr_size, bstr_size, List.length_take]
            omega
          have hso : xs = [] → ((bstr out).size : Int) = (A : Int) := fun e => by
            rw [bstr_size]
            rw [e] at hlc
            simp at hlc
            omega
          have hzl : ((xs.take 9).length : Int) ≤ 9 := by rw [List.length_take]; omega
          have HAp := Lib.hid hap
          generalize rW xs 1 0 9 = a5 at hw hlo
          generalize xs.drop 9 = xs5 at *
          generalize xs.take 9 = zs5 at *
          have HW := Lib.hid hw
          have HR0 := Lib.hid hR
          have HSo := Lib.hid hso
          clear hw hR hcat hxl hlc hAy hso
          go_wp2_with (first | (go_at_call 14; (with_reducible refine HW.out.mono ?_); rintro e w6 ⟨k5, r5, rv, rfl, ho⟩; refine Hid.out ?_))
          refine Lib.hid ?_
          have HR5 := Lib.hid (HR0.out.step k5 r5)
          have cv := slc_string (own_slc ho)
          obtain ⟨ad, cp, rfl⟩ := row_form ho
          clear k5 r5 HW ho
          rcases hlo with ⟨p0, p1, rfl⟩ | ⟨p0, p1, rfl⟩
          · have d2 : ((zs5.length : Int) == 0) = true := beq_iff_eq.2 (by omega)
            have hs2 := HSo.out p0
            have hs3 : ((bstr out).size : Int) ≤ 1000 := by omega
            have HP := Lib.hid (And.intro p0 p1)
            clear p0 p1
            go_wp2
            go_roundw
            case rel => exact ⟨j + 1, out ++ zs5, xs5, by omega, by go_num, rfl, HC5.out, HXl.out, HR5.out⟩
            case measure => simp [intOf]; omega
          · have d2 : ((zs5.length : Int) == 0) = false := beq_eq_false_iff_ne.2 (by omega)
            clear p0 p1
            go_wp2
            go_roundw
            case rel => exact ⟨j + 1, out ++ zs5, xs5, by omega, by go_num, rfl, HC5.out, HXl.out, HR5.out⟩
            case measure => simp [intOf]; omega
        · obtain rfl : j = 70 := by omega
          have hx0 : xs = [] := List.eq_nil_of_length_eq_zero (by omega)
          subst hx0
          rw [List.append_nil] at hcat
          subst hcat
          obtain ⟨V, hV, hSV⟩ := to_any H1.out A hAy
          have cv2 := slc_string (hSV.below hR.bel)
          have HB := Lib.hid hR.bel
          have hAy2 : (A : Int) ≤ (ys.length : Int) := by omega
          clear hSV hR hxl hAy HR0 HH
          go_wp2
          go_ret
          exact ⟨rfl, HB.out⟩
end Go.Proofs.Ytfpdbcjnhgddoaa.Psr
namespace Go.Proofs.Ytfpdbcjnhgddoaa.Walk
open Go Go.RowKit Kit Pop Psr
theorem pipeStreams (ct : Int) (v1 : Value) (ys : List Nat) (v2 : Value) (zs : List Nat) (W : World) (hc : (Lit.int .u8 ct).wf = true) (h1 : Slc .u8 W v1 ys) (_ : ∀ x ∈ ys, x < 256) (h2 : Slc .u8 W v2 zs) (hz : ∀ x ∈ zs, x < 256) :
    Calls Try.prog 5 #[.int .u8 ct, v1, v2] W fun e w' => e = .returned (.bool true) ∧ Below W.heap.size W w' := by
  obtain ⟨c, rfl, h256⟩ := u8_nat hc
  by_cases hf : ys.length ≤ 1000
  · by_cases hf2 : zs.length ≤ 300
    · exact streams_fine c v1 v2 ys zs W h1 h2 hz hf hf2 h256
    · exact streams_long2 c v1 v2 ys zs W h1 h2 hf (by omega)
  · exact streams_long1 c v1 v2 ys zs W h1 h2 (by omega)
end Go.Proofs.Ytfpdbcjnhgddoaa.Walk
