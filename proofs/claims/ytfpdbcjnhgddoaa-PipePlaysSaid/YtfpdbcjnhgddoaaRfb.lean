/-
  The document's own ring: Write, Peek, Read.
-/
import Derived.Test.YtfpdbcjnhgddoaaRfa
namespace Go.Proofs.Ytfpdbcjnhgddoaa.Rfb
open Go Go.RowKit Go.Shelf Kit Bk Rgm Rgt Rgp Rgn Rst Psl Rfa
set_option linter.unusedVariables false
attribute [local go_sem ↓] sl_wrap app_wrap

/-- One byte more. -/
theorem app_one (w : World) (base : Nat) (v : Value) (xs : List Nat) (n : Nat) (x : Nat) (hn : xs.length = n) (hown : w.ownsRow base 5 1 v n (u8s xs)) (hb : base ≤ w.heap.size) (hl : n ≤ 100000) :
    ∃ v' w', (appO #[22, 22] 22 #[v, .slice (some ⟨w.heap.size, 0, none⟩) 1 1]).run Try.prog (w.alloc (.cells #[.int .u8 (x : Int)] 5)) = .ok v' w' ∧ w'.ownsRow base 5 1 v' (n + 1) (u8s (xs ++ [x])) ∧ Below base w w' := by
  subst hn
  have hb1 := (Below.refl w.heap.size w).alloc (Nat.le_refl _) (.cells #[.int .u8 (x : Int)] 5)
  obtain ⟨v', w', h1, h2, h3⟩ := app_slc (w.alloc (.cells #[.int .u8 (x : Int)] 5)) base v xs (.slice (some ⟨w.heap.size, 0, none⟩) 1 1) [x] (own_below hown hb1) (lit_slc (l := [x]) rfl rfl (show 1 ≤ maxLen by decide)) (by simp; omega) (by simp; omega)
  rw [List.length_append, List.length_singleton] at h2
  exact ⟨v', w', h1, h2, (hb1.mono hb).grown h3 (by simp; omega) (fun k e => row_base hown k e)⟩
theorem take_succ (xs : List Nat) (k : Nat) (h : k < xs.length) : xs.take k ++ [xs[k]?.getD 0] = xs.take (k + 1) := by
  rw [List.take_succ_eq_append_getElem h, List.getElem?_eq_getElem h]
  rfl

set_option maxHeartbeats 2000000 in
theorem rpeek_any (w : World) (base q C : Nat) (xs : List Nat) (N : Int) (h : RB w base q C xs) (hx : xs.length ≤ 1000) :
    Calls Try.prog 52 #[.pointer (some ⟨q, 0, none⟩), .int .i64 N] w fun e w' => Below w.heap.size w w' ∧ ∃ r, e = .returned r ∧ w'.ownsRow w.heap.size 5 1 r (xs.take N.toNat).length (u8s (xs.take N.toNat)) := by
  obtain ⟨zs, hz⟩ : ∃ zs, xs.take N.toNat = zs := ⟨_, rfl⟩
  rw [hz]
  have HZ := Lib.hid hz
  clear hz
  obtain ⟨v, h1, h2⟩ := h
  obtain ⟨ad, cap, rfl⟩ := row_form h2
  have c1 := h1.cell 1
  have hlt := h1.lt
  have HO := Lib.hid (own_slc h2)
  have hxI : (xs.length : Int) ≤ 1000 := by omega
  have HQ := Lib.hid (And.intro h1 hlt)
  clear h1 h2 hlt c1
  go_enter Try.func52, Try.ntmps52
  go_wp2
  go_loopw [5, 6] (fun o i wr => ∃ (k : Nat), k ≤ xs.length ∧ (k : Int) ≤ max N 0 ∧ i = .int .i64 (k : Int) ∧ wr.ownsRow w.heap.size 5 1 o k (u8s (xs.take k)) ∧ Below w.heap.size w wr) (fun _ i _ => xs.length - (intOf i).toNat)
  case atStart => exact ⟨0, Nat.zero_le _, by omega, rfl, nil_row _ _, Below.refl _ _⟩
  case round =>
    obtain ⟨k, hk, hkN, rfl, hown, hB⟩ := hrel
    have hb1 := HQ.out.1.below hB
    have c1 := hb1.cell 1
    obtain ⟨oa, oc, rfl⟩ := row_form hown
    by_cases hlN : (k : Int) < N
    · have d0 : decide ((k : Int) < N) = true := decide_eq_true hlN
      by_cases hlt : k < xs.length
      · have d1 : decide ((k : Int) < (xs.length : Int)) = true := decide_eq_true (by omega)
        have hkl : (k : Int) < (xs.length : Int) := by omega
        obtain ⟨va, hs1, hs2, hs3⟩ : ∃ b : Nat, ∃ off : Nat, (ad = some ⟨b, off, none⟩ ∧ b < w.heap.size) ∧ w.cell? ⟨b, off + k, none⟩ = some (.int .u8 ((xs[k]?.getD 0 : Nat) : Int)) := by
          obtain ⟨a, c, e, g1, g2, g3⟩ := HO.out
          cases e
          rcases g3 with rfl | ⟨b, off, e, g4, g5⟩
          · simp at hlt
          · exact ⟨b, off, ⟨e, g4⟩, g5 k hlt⟩
        obtain ⟨rfl, hs2⟩ := hs2
        have cx := (hB.cell (p := ⟨va, hs1 + k, none⟩) hs2).trans hs3
        obtain ⟨v', w', hrun, hown', hB'⟩ := app_one wr w.heap.size _ (xs.take k) k (xs[k]?.getD 0) (by simp; omega) hown hB.size (by omega)
        rw [take_succ xs k hlt] at hown'
        have HE := Lib.hid (And.intro hown' (hB.trans hB'))
        generalize xs[k]?.getD 0 = x at *
        clear hown hown' hB' hB hs3 hb1
        go_wp2
        go_roundw
        case rel => exact ⟨k + 1, by omega, by omega, by go_num, HE.out.1, HE.out.2⟩
        case measure => simp [intOf]; omega
      · obtain rfl : k = xs.length := by omega
        have d1 : decide ((xs.length : Int) < (xs.length : Int)) = false := decide_eq_false (by omega)
        have ht : xs.take xs.length = zs := by rw [← HZ.out, List.take_length, List.take_of_length_le (by omega)]
        rw [ht] at hown
        have hlz : xs.length = zs.length := by rw [← ht, List.take_length]
        have HLz := Lib.hid hlz
        have HE := Lib.hid (And.intro hown hB)
        clear hown hB hb1 ht hlz
        go_wp2
        go_ret
        exact ⟨HE.out.2, _, rfl, by rw [← HLz.out]; exact HE.out.1⟩
    · have d0 : decide ((k : Int) < N) = false := decide_eq_false hlN
      have ht : xs.take k = zs := by rw [← HZ.out, show N.toNat = k by omega]
      have hlz : k = zs.length := by rw [← ht, List.length_take]; omega
      rw [ht] at hown
      have HLz := Lib.hid hlz
      have HE := Lib.hid (And.intro hown hB)
      clear hown hB hb1 ht hlz
      go_wp2
      go_ret
      exact ⟨HE.out.2, _, rfl, by rw [← HLz.out]; exact HE.out.1⟩
set_option maxHeartbeats 2000000 in
theorem rwrite_any (w : World) (base q C : Nat) (xs : List Nat) (v : Value) (ys : List Nat) (h : RB w base q C xs) (hx : xs.length ≤ C) (hC : C ≤ 64) (hv : Slc .u8 w v ys) :
    Calls Try.prog 38 #[.pointer (some ⟨q, 0, none⟩), v] w fun e w' => e = .returned (.int .i64 ((min ys.length (C - xs.length) : Nat) : Int)) ∧ Kp (fun j => j = q) w w' ∧ RB w' w.heap.size q C (xs ++ ys.take (C - xs.length)) := by
  obtain ⟨M, hM⟩ : ∃ M, min ys.length (C - xs.length) = M := ⟨_, rfl⟩
  have htk : ys.take (C - xs.length) = ys.take M := by
    rcases Nat.lt_or_ge (C - xs.length) ys.length with h | h
    · rw [show M = C - xs.length by omega]
    · rw [List.take_of_length_le h, List.take_of_length_le (by omega)]
  rw [hM, htk]
  obtain ⟨bv, h1, h2⟩ := h
  obtain ⟨ad, cap, rfl⟩ := row_form h2
  obtain ⟨n0, hn0⟩ : ∃ n0, xs.length = n0 := ⟨_, rfl⟩
  rw [hn0] at h1 h2 hx hM
  have hsB := own_slc h2
  obtain ⟨r, w1, hrun, hown, hb1⟩ := app_new w (.slice ad n0 cap) xs hsB (by omega)
  rw [hn0] at hown
  obtain ⟨oa, oc, rfl⟩ := row_form hown
  have c1 := h1.cell 1
  have HQ := Lib.hid (And.intro h1 h1.lt)
  have HO := Lib.hid (And.intro hown hb1)
  have HN := Lib.hid (And.intro hM (And.intro hx hn0))
  obtain ⟨a, cp, rfl, hc1, hc2, hread⟩ := hv
  unfold maxLen at hc2
  have HD := Lib.hid hread
  have hCI : (C : Int) ≤ 64 := by omega
  have hxI : (n0 : Int) ≤ (C : Int) := by omega
  have hyI : (ys.length : Int) ≤ 9223372036854775807 := by omega
  clear h1 h2 hsB hown hb1 hM hx hread htk hn0 hc1
  go_enter Try.func38, Try.ntmps38
  go_wp2
  clear c1 hrun
  go_loopw [5, 6, 7] (fun t o i wr => ∃ (k : Nat), k ≤ M ∧ t = .int .i64 (k : Int) ∧ i = .int .i64 (k : Int) ∧ wr.ownsRow w.heap.size 5 1 o (n0 + k) (u8s (xs ++ ys.take k)) ∧ Below w.heap.size w wr) (fun _ _ i _ => M - (intOf i).toNat)
  case atStart => exact ⟨0, Nat.zero_le _, rfl, rfl, by simpa using HO.out.1, HO.out.2⟩
  case round =>
    obtain ⟨k, hk, rfl, rfl, hown, hB⟩ := hrel
    have hb1 := HQ.out.1.below hB
    have c0 := hb1.cell 0
    have c1 := hb1.cell 1
    have f1 := hb1.free 1
    obtain ⟨oa, oc, rfl⟩ := row_form hown
    have hk64 : (k : Int) ≤ 64 := by have := HN.out.1; omega
    by_cases hlt : k < M
    · have hky : k < ys.length := by have := HN.out.1; omega
      have d0 : decide ((k : Int) < (ys.length : Int)) = true := decide_eq_true (by omega)
      have d1 : decide ((n0 : Int) + (k : Int) < (C : Int)) = true := decide_eq_true (by have := HN.out.1; omega)
      have hkl : (k : Int) < (ys.length : Int) := by omega
      have e0 : ((n0 + k : Nat) : Int) = (n0 : Int) + (k : Int) := by omega
      have d2 : decide (n0 + k < C) = true := decide_eq_true (by have := HN.out.1; omega)
      rcases HD.out with h0 | ⟨g, off, rfl, hgl, hcell⟩
      · subst h0; simp at hky
      · have cx := (hB.cell (p := ⟨g, off + k, none⟩) hgl).trans (hcell k hky)
        obtain ⟨v', w', hrun, hown', hB'⟩ := app_one wr w.heap.size _ (xs ++ ys.take k) (n0 + k) (ys[k]?.getD 0) (by rw [List.length_append, HN.out.2.2, List.length_take]; omega) hown hB.size (by omega)
        rw [List.append_assoc, take_succ ys k hky] at hown'
        have HE := Lib.hid (And.intro hown' (hB.trans hB'))
        generalize ys[k]?.getD 0 = x at *
        clear hown hown' hB' hB hcell hb1 c1 f1
        go_wp2
        go_roundw
        case rel => exact ⟨k + 1, by omega, by go_num, by go_num, HE.out.1, HE.out.2⟩
        case measure => simp [intOf]; omega
    · obtain rfl : k = M := by omega
      have hlt2 := HQ.out.2
      have hE : Hid (Kp (fun j => j = q) w (wr.setCell ⟨q, 1, none⟩ (.slice oa ((n0 + k : Nat)) oc)) ∧ RB (wr.setCell ⟨q, 1, none⟩ (.slice oa ((n0 + k : Nat)) oc)) w.heap.size q C (xs ++ ys.take k)) := by
        have hk := Kp.set (S := fun j => j = q) wr q 1 (.slice oa ((n0 + k : Nat)) oc) rfl
        refine Lib.hid ⟨(Kp.of_below hB).trans hk (fun j e => .inl e), _, set_two hb1 _, ?_⟩
        have hl : (xs ++ ys.take k).length = n0 + k := by rw [List.length_append, HN.out.2.2, List.length_take]; have := HN.out.1; omega
        rw [hl]
        exact own_kp hown hk (fun j e => by omega)
      by_cases hky : k < ys.length
      · have d0 : decide ((k : Int) < (ys.length : Int)) = true := decide_eq_true (by omega)
        have e0 : ((n0 + k : Nat) : Int) = (n0 : Int) + (k : Int) := by omega
        have d1 : decide ((n0 : Int) + (k : Int) < (C : Int)) = false := decide_eq_false (by have := HN.out.1; omega)
        have d2 : decide (n0 + k < C) = false := decide_eq_false (by have := HN.out.1; omega)
        have hkl : (k : Int) < (ys.length : Int) := by omega
        clear hown hB hb1
        go_wp2
        go_ret
        exact ⟨rfl, hE.out.1, hE.out.2⟩
      · have d0 : decide ((k : Int) < (ys.length : Int)) = false := decide_eq_false (by omega)
        clear hown hB hb1
        go_wp2
        go_ret
        exact ⟨rfl, hE.out.1, hE.out.2⟩
theorem from_any {w : World} {v : Value} {ys : List Nat} (h : Slc .u8 w v ys) (lo : Nat) (h2 : lo ≤ ys.length) :
    ∃ V, (∀ W, (slO 22 v (some (.int .i64 (lo : Int))) none none).run Try.prog W = .ok V W) ∧ Slc .u8 w V (ys.drop lo) := by
  obtain ⟨a, cap, rfl, h3, h4, h5⟩ := h
  have hl : (ys.drop lo).length = ys.length - lo := by simp
  refine ⟨.slice (if cap = lo then a else a.map (·.add lo)) (ys.length - lo) (cap - lo), fun W => ?_, ?_⟩
  · unfold slO
    unfold maxLen at h4
    rw [run_sliceAt_slice (P := Try.prog) (w := W) _ _ _ _ _ elemB, run_slice_l (P := Try.prog) (w := W) 22 a ys.length cap elemB .i64 (lo : Int) (by omega) (by omega), sizeB]
    simp only [Result.andThen_ok, sliced, Int.toNat_natCast, Nat.mul_one]
  · refine ⟨_, _, by rw [hl], by rw [hl]; omega, by omega, ?_⟩
    by_cases h0 : ys.length - lo = 0
    · left
      exact List.eq_nil_of_length_eq_zero (by rw [hl, h0])
    · right
      rcases h5 with rfl | ⟨b, off, rfl, hlt, hc⟩
      · simp at h0
      · rw [if_neg (by omega)]
        refine ⟨b, off + lo, by simp [Addr.add_mid], hlt, fun i hi2 => ?_⟩
        rw [hl] at hi2
        rw [Nat.add_assoc, hc (lo + i) (by omega), List.getElem?_drop]
set_option maxHeartbeats 2000000 in
theorem rread_any (w : World) (base q C : Nat) (xs : List Nat) (N : Int) (h : RB w base q C xs) (hx : xs.length ≤ 1000) :
    Calls Try.prog 41 #[.pointer (some ⟨q, 0, none⟩), .int .i64 N] w fun e w' => Kp (fun j => j = q) w w' ∧ RB w' w.heap.size q C (xs.drop N.toNat) ∧ ∃ r, e = .returned r ∧ w'.ownsRow w.heap.size 5 1 r (xs.take N.toNat).length (u8s (xs.take N.toNat)) := by
  have hp := rpeek_any w base q C xs N h hx
  obtain ⟨m, hm⟩ : ∃ m, (xs.take N.toNat).length = m := ⟨_, rfl⟩
  have hmx : m ≤ xs.length := by rw [← hm, List.length_take]; exact Nat.min_le_right _ _
  have hdr : xs.drop N.toNat = xs.drop m := by
    rw [← hm, List.length_take]
    rcases Nat.le_total N.toNat xs.length with h | h
    · rw [Nat.min_eq_left h]
    · rw [Nat.min_eq_right h, List.drop_eq_nil_of_le h, List.drop_length]
  rw [hm] at hp
  rw [hdr, hm]
  have HP := Lib.hid hp
  generalize xs.take N.toNat = zs at *
  obtain ⟨bv, h1, h2⟩ := h
  obtain ⟨V, hV, hSV⟩ := from_any (own_slc h2) m hmx
  have HX := Lib.hid (And.intro h1 h1.lt)
  have HS := Lib.hid hSV
  have HL : Hid ((xs.drop m).length ≤ 1000) := Lib.hid (by simp; omega)
  obtain ⟨ad, cap, rfl⟩ := row_form h2
  clear hp hm hdr h1 h2 hSV hmx
  go_enter Try.func41, Try.ntmps41
  go_wp2_with (first | (go_at_call 52; (with_reducible refine HP.out.mono ?_); rintro e w1 ⟨hb, r, rfl, hr⟩; obtain ⟨oa, oc, rfl⟩ := row_form hr; refine Hid.out ?_))
  refine Lib.hid ?_
  have hx1 := HX.out.1.below hb
  obtain ⟨r, w2, hrun, hown, hb2⟩ := app_new w1 V (xs.drop m) (HS.out.below hb) (by have := HL.out; omega)
  obtain ⟨la, lc, rfl⟩ := row_form hown
  have hx2 := hx1.below hb2
  have c1 := hx1.cell 1
  have d1 := hx2.cell 1
  have f1 := hx2.free 1
  have hlt := HX.out.2
  have hE : Hid (Kp (fun j => j = q) w (w2.setCell ⟨q, 1, none⟩ (.slice la (xs.drop m).length lc)) ∧ RB (w2.setCell ⟨q, 1, none⟩ (.slice la (xs.drop m).length lc)) w.heap.size q C (xs.drop m) ∧ (w2.setCell ⟨q, 1, none⟩ (.slice la (xs.drop m).length lc)).ownsRow w.heap.size 5 1 (.slice oa m oc) m (u8s zs)) := by
    have hk := Kp.set (S := fun j => j = q) w2 q 1 (.slice la (xs.drop m).length lc) rfl
    have hB := hb.trans (hb2.mono hb.size)
    exact Lib.hid ⟨(Kp.of_below hB).trans hk (fun j e => .inl e), ⟨_, set_two hx2 _, own_base (own_kp hown hk (fun j e => by have := hb.size; omega)) hb.size⟩, own_kp (own_below hr hb2) hk (fun j e => by omega)⟩
  generalize (xs.drop m).length = L at *
  clear hx1 hx2 hown hb hb2 hr hlt
  go_wp2
  go_ret
  exact ⟨hE.out.1, hE.out.2.1, _, rfl, hE.out.2.2⟩
end Go.Proofs.Ytfpdbcjnhgddoaa.Rfb
