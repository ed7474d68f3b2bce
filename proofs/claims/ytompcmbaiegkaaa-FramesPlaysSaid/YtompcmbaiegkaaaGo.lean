/-
  The document's own Take, Share, Drop, Double.
-/
import Derived.Test.YtompcmbaiegkaaaGm
namespace Go.Proofs.Ytompcmbaiegkaaa.Go2
open Go Go.RowKit Kit Fm Fo Fr Fw Fx Gm
set_option linter.unusedVariables false
attribute [local go_sem ↓] mk_wrap app_wrap

theorem rtake_full (w : World) (q rr rb n : Nat) (R : Nat → Nat) (B : Nat → Nat → Nat) (h : RMem w q rr rb n R B) (hf : ∀ k, k < n → R k ≠ 0) :
    Calls Try.prog 33 #[.pointer (some ⟨q, 0, none⟩)] w fun e w' => e = .returned (.tuple #[.int .i64 0, .int .i64 40]) ∧ w = w' := by
  obtain ⟨⟨c1, c2, a1, a2⟩, ⟨cs, b1, b2, b3⟩, _, ⟨h6, h7⟩, _⟩ := h
  have c0 := a1.cell 0
  have hc : ∀ k, k < n → w.cell? ⟨rr, k, none⟩ = some (.int .i64 (R k : Int)) := fun k hk => (b1.cell _).trans (b3 k hk)
  clear a1 a2 b1 b2 b3
  go_enter Try.func33, Try.ntmps33
  go_wp2
  go_loop [4] (fun i => ∃ k : Nat, k ≤ n ∧ i = .int .i64 (k : Int)) (fun i => n - (intOf i).toNat)
  case atStart => exact ⟨0, Nat.zero_le _, rfl⟩
  case round =>
    obtain ⟨k, hk, rfl⟩ := hrel
    by_cases hlt : k < n
    · have c1 := hc k hlt
      have hd : ((R k : Int) == 0) = false := by have := hf k hlt; simp; omega
      clear hc hf
      go_wp2
      go_round
      case rel => exact ⟨k + 1, by omega, by go_num⟩
      case measure => simp [intOf]; omega
    · obtain rfl : k = n := by omega
      clear hc hf
      go_wp2
      go_ret2
      exact ⟨rfl, rfl⟩
theorem zero_bytes (j : Nat) (hj : j < 64) : (madeCells #[.int .u8 0] 64)[j]? = some (.int .u8 0) := by
  have := toList_madeCells_one (.int .u8 0) 64
  rw [← Array.getElem?_toList, this, List.getElem?_replicate, if_pos hj]
theorem run_mk64 (w : World) : (mkO 31 (.int .i64 64) (.int .i64 64)).run Try.prog w = .ok (.slice (some ⟨w.heap.size, 0, none⟩) 64 64) (w.alloc (.cells (madeCells #[.int .u8 0] 64) 5)) := by
  obtain ⟨i0, hi, hz0, hz1, hz2⟩ := info_parts info5
  have hr := run_make (P := Try.prog) w 31 5 i0 (.int .u8 0) Try.underlying31 hi hz0 .i64 .i64 64 64 (by omega) (Int.le_refl _) (by rw [hz2]; omega) (by omega)
  rw [hz1] at hr
  exact hr
set_option maxHeartbeats 1000000 in
theorem rtake_ok (w : World) (q rr rb n : Nat) (R : Nat → Nat) (B : Nat → Nat → Nat) (h : RMem w q rr rb n R B) (m : Nat) (hm : m < n) (hz : R m = 0) (hf : ∀ k, k < m → R k ≠ 0) :
    Calls Try.prog 33 #[.pointer (some ⟨q, 0, none⟩)] w fun e w' => e = .returned (.tuple #[.int .i64 (m : Int), .int .i64 0]) ∧ RMem w' q rr rb n (up R m 1) (up B m (fun _ => 0)) ∧ Kp (fun j => j = rr ∨ j = rb) w w' := by
  have h1 := h.setRef m 1 hm (by omega)
  have hk1 : Kp (fun j => j = rr ∨ j = rb) w (w.setCell ⟨rr, m, none⟩ (.int .i64 1)) := Kp.set w rr _ _ (.inl rfl)
  rw [show ((1 : Nat) : Int) = 1 from rfl] at h1
  obtain ⟨⟨c1, c2, a1, a2⟩, ⟨cs, b1, b2, b3⟩, _, ⟨h6, h7⟩, _⟩ := h
  have c0 := a1.cell 0
  have hc : ∀ k, k < n → w.cell? ⟨rr, k, none⟩ = some (.int .i64 (R k : Int)) := fun k hk => (b1.cell _).trans (b3 k hk)
  have hfr := b1.free m
  obtain ⟨W, hW⟩ : ∃ W, w.setCell ⟨rr, m, none⟩ (.int .i64 1) = W := ⟨_, rfl⟩
  rw [hW] at h1 hk1
  have h2 := h1.drew
  have hmk := run_mk64 W.drew
  have hh1 := h1.hd
  obtain ⟨c1', c2', a1', a2', a3', _⟩ := hh1
  obtain ⟨ds, d1, d2, d3⟩ := h1.rows
  have cb := a1'.cell 1
  have hb1 : Below W.heap.size W (W.alloc (.cells (madeCells #[.int .u8 0] 64) 5)) := (Below.refl _ _).alloc (Nat.le_refl _) _
  have hx := RMem.setRow (h1.below hb1) m W.heap.size 64 (madeCells #[.int .u8 0] 64) (fun _ => 0) hm (Nat.le_refl _) (by unfold maxLen; omega) (Blk.new _ _ _) zero_bytes (fun _ => by omega)
  have hk2 : Kp (fun j => j = rr ∨ j = rb) w ((W.alloc (.cells (madeCells #[.int .u8 0] 64) 5)).setCell ⟨rb, m, none⟩ (.slice (some ⟨W.heap.size, 0, none⟩) 64 64)) := (hk1.trans (Kp.of_below (S := fun j => j = rr ∨ j = rb) hb1) (fun _ h => .inl h)).trans (Kp.set _ rb _ _ (.inr rfl)) (fun _ h => .inl h)
  have cw := d1.cell m
  have fw := d1.free m
  have hblt := d1.lt
  have hqlt := a1'.lt
  have cw2 : ∃ u, W.cell? ⟨rb, m, none⟩ = some u := ⟨_, cw.trans (Array.getElem?_eq_getElem (by omega))⟩
  obtain ⟨u, cw3⟩ := cw2
  rw [World.setCell_alloc_past _ _ _ _ hblt] at hx hk2
  have HX := Lib.hid (And.intro hx hk2)
  have HW := Lib.hid hW
  have hm2 : (m : Int) < (n : Int) := by omega
  generalize madeCells #[.int .u8 0] 64 = Z at *
  clear a1 a2 b1 b2 b3 h1 h2 hk1 a1' a2' a3' d1 d2 d3 hb1 hx hk2 cw
  go_enter Try.func33, Try.ntmps33
  go_wp2
  go_loop [4] (fun i => ∃ k : Nat, k ≤ m ∧ i = .int .i64 (k : Int)) (fun i => m - (intOf i).toNat)
  case atStart => exact ⟨0, Nat.zero_le _, rfl⟩
  case round =>
    obtain ⟨k, hk, rfl⟩ := hrel
    by_cases hlt : k < m
    · have c1 := hc k (by omega)
      have hd : ((R k : Int) == 0) = false := by have := hf k hlt; simp; omega
      clear hc hf hW
      go_wp2
      go_round
      case rel => exact ⟨k + 1, by omega, by go_num⟩
      case measure => simp [intOf]; omega
    · obtain rfl : k = m := by omega
      have c1 := hc k (by omega)
      rw [hz] at c1
      clear hc hf hz
      go_wp2
      go_region
      go_wp2
      go_ret2
      exact ⟨rfl, HX.out.1.drew, HX.out.2.drew⟩
theorem rshare_no (w : World) (q rr rb n : Nat) (R : Nat → Nat) (B : Nat → Nat → Nat) (h : RMem w q rr rb n R B) (k : Int) (hk : rf n R k = 0) :
    Calls Try.prog 34 #[.pointer (some ⟨q, 0, none⟩), .int .i64 k] w fun e w' => e = .returned (.int .i64 41) ∧ w = w' := by
  have HH := Lib.hid (is_no w q rr rb n R B h k hk)
  clear h hk
  go_enter Try.func34, Try.ntmps34
  go_wp2_with (first | (go_at_call 24; (with_reducible refine HH.out.mono ?_); rintro e w1 ⟨rfl, rfl⟩))
  go_ret
  exact ⟨rfl, rfl⟩
theorem rshare_ok (w : World) (q rr rb n : Nat) (R : Nat → Nat) (B : Nat → Nat → Nat) (h : RMem w q rr rb n R B) (k : Nat) (hk : k < n) (hr : R k ≠ 0) :
    Calls Try.prog 34 #[.pointer (some ⟨q, 0, none⟩), .int .i64 (k : Int)] w fun e w' => e = .returned (.int .i64 0) ∧ w' = w.setCell ⟨rr, k, none⟩ (.int .i64 ((R k + 1 : Nat) : Int)) := by
  have HH := Lib.hid (is_yes w q rr rb n R B h k hk hr)
  have hR := h.small k
  obtain ⟨⟨c1, c2, a1, a2⟩, ⟨cs, b1, b2, b3⟩, _, ⟨h6, h7⟩, _⟩ := h
  have c0 := a1.cell 0
  have ck := (b1.cell k).trans (b3 k hk)
  have hfr := b1.free k
  have hk2 : (k : Int) < (n : Int) := by omega
  obtain ⟨r, hr2⟩ : ∃ r : Int, r = (R k : Int) := ⟨_, rfl⟩
  have hr3 : ((R k + 1 : Nat) : Int) = r + 1 := by omega
  rw [hr3]
  rw [← hr2] at ck
  have hb : r ≤ 1000000000 := by omega
  have hb0 : 0 ≤ r := by omega
  clear a1 a2 b1 b2 b3 hr hR hr2 hr3
  go_enter Try.func34, Try.ntmps34
  go_wp2_with (first | (go_at_call 24; (with_reducible refine HH.out.mono ?_); rintro e w1 ⟨rfl, rfl⟩))
  go_ret
  exact ⟨rfl, rfl⟩
theorem rdrop_no (w : World) (q rr rb n : Nat) (R : Nat → Nat) (B : Nat → Nat → Nat) (h : RMem w q rr rb n R B) (k : Int) (hk : rf n R k = 0) :
    Calls Try.prog 35 #[.pointer (some ⟨q, 0, none⟩), .int .i64 k] w fun e w' => e = .returned (.tuple #[.int .i64 0, .int .i64 41]) ∧ w = w' := by
  have HH := Lib.hid (is_no w q rr rb n R B h k hk)
  clear h hk
  go_enter Try.func35, Try.ntmps35
  go_wp2_with (first | (go_at_call 24; (with_reducible refine HH.out.mono ?_); rintro e w1 ⟨rfl, rfl⟩))
  go_ret2
  exact ⟨rfl, rfl⟩
theorem rdrop_ok (w : World) (q rr rb n : Nat) (R : Nat → Nat) (B : Nat → Nat → Nat) (h : RMem w q rr rb n R B) (k : Nat) (hk : k < n) (r : Nat) (hr : R k = r + 1) :
    Calls Try.prog 35 #[.pointer (some ⟨q, 0, none⟩), .int .i64 (k : Int)] w fun e w' => e = .returned (.tuple #[.int .i64 (r : Int), .int .i64 0]) ∧ w' = w.setCell ⟨rr, k, none⟩ (.int .i64 (r : Int)) := by
  have HH := Lib.hid (is_yes w q rr rb n R B h k hk (by omega))
  have hR := h.small k
  have hne := h.ne
  have h1 := h.setRef k r hk (by omega)
  obtain ⟨⟨c1, c2, a1, a2⟩, ⟨cs, b1, b2, b3⟩, _, ⟨h6, h7⟩, _⟩ := h
  have c0 := a1.cell 0
  have ck := (b1.cell k).trans (b3 k hk)
  have hfr := b1.free k
  have hk2 : (k : Int) < (n : Int) := by omega
  obtain ⟨t, ht⟩ : ∃ t : Int, t = (r : Int) := ⟨_, rfl⟩
  rw [← ht] at h1 ⊢
  have hr3 : (R k : Int) = t + 1 := by omega
  have hr4 : t + 1 - 1 = t := by omega
  rw [hr3] at ck
  have hb : t ≤ 1000000000 := by omega
  have hb0 : 0 ≤ t := by omega
  have e0 := (a1.other rr k (.int .i64 t) hne.1).cell 0
  have e1 := (b1.set k (.int .i64 t)).cell k
  rw [Array.getElem?_setIfInBounds, if_pos rfl, if_pos (by omega)] at e1
  have HT := Lib.hid hr4
  clear a1 a2 b1 b2 b3 hr hR hr3 h1 ht
  go_enter Try.func35, Try.ntmps35
  go_wp2_with (first | (go_at_call 24; (with_reducible refine HH.out.mono ?_); rintro e w1 ⟨rfl, rfl⟩))
  go_ret2
  exact ⟨rfl, rfl⟩
theorem rdouble_no (w : World) (q rr rb n : Nat) (R : Nat → Nat) (B : Nat → Nat → Nat) (h : RMem w q rr rb n R B) (k : Int) (hk : rf n R k = 0) :
    Calls Try.prog 38 #[.pointer (some ⟨q, 0, none⟩), .int .i64 k] w fun e w' => e = .returned (.tuple #[.int .i64 0, .int .i64 41]) ∧ w = w' := by
  have HH := Lib.hid (is_no w q rr rb n R B h k hk)
  clear h hk
  go_enter Try.func38, Try.ntmps38
  go_wp2_with (first | (go_at_call 24; (with_reducible refine HH.out.mono ?_); rintro e w1 ⟨rfl, rfl⟩))
  go_ret2
  exact ⟨rfl, rfl⟩
theorem rdouble_full (w : World) (q rr rb n : Nat) (R : Nat → Nat) (B : Nat → Nat → Nat) (h : RMem w q rr rb n R B) (k : Nat) (hk : k < n) (hf : ∀ k, k < n → R k ≠ 0) :
    Calls Try.prog 38 #[.pointer (some ⟨q, 0, none⟩), .int .i64 (k : Int)] w fun e w' => e = .returned (.tuple #[.int .i64 0, .int .i64 40]) ∧ w = w' := by
  have HH := Lib.hid (is_yes w q rr rb n R B h k hk (hf k hk))
  have HT := Lib.hid (rtake_full w q rr rb n R B h hf)
  clear h hk hf
  go_enter Try.func38, Try.ntmps38
  go_wp2_with (first | (go_at_call 24; (with_reducible refine HH.out.mono ?_); rintro e w1 ⟨rfl, rfl⟩) | (go_at_call 33; (with_reducible refine HT.out.mono ?_); rintro e w1 ⟨rfl, rfl⟩))
  go_ret2
  exact ⟨rfl, rfl⟩
theorem rdouble_ok (w : World) (q rr rb n : Nat) (R : Nat → Nat) (B : Nat → Nat → Nat) (h : RMem w q rr rb n R B) (k : Nat) (hk : k < n) (hr : R k ≠ 0) (m : Nat) (hm : m < n) (hz : R m = 0) (hf : ∀ k, k < m → R k ≠ 0) :
    Calls Try.prog 38 #[.pointer (some ⟨q, 0, none⟩), .int .i64 (k : Int)] w fun e w' => e = .returned (.tuple #[.int .i64 (m : Int), .int .i64 0]) ∧ RMem w' q rr rb n (up R m 1) (up B m (B k)) ∧ Kp (fun j => j = rr ∨ j = rb) w w' := by
  have HH := Lib.hid (is_yes w q rr rb n R B h k hk hr)
  have HT := Lib.hid (rtake_ok w q rr rb n R B h m hm hz hf)
  have hkm : k ≠ m := fun e => hr (e ▸ hz)
  have hu := h.u8
  have hk2 : (k : Int) < (n : Int) := by omega
  have hm2 : (m : Int) < (n : Int) := by omega
  clear h hz hf hr
  go_enter Try.func38, Try.ntmps38
  go_wp2_with (first | (go_at_call 24; (with_reducible refine HH.out.mono ?_); rintro e w1 ⟨rfl, rfl⟩) | (go_at_call 33; (with_reducible refine HT.out.mono ?_); rintro e w1 ⟨rfl, h1, hk1⟩; refine Hid.out ?_))
  refine Lib.hid ?_
  have hh1 := h1.hd
  obtain ⟨c1', c2', a1', a2', a3', _⟩ := hh1
  have hh2 := h1.rows
  obtain ⟨ds, d1, d2, d3⟩ := hh2
  have cb := a1'.cell 1
  obtain ⟨g, cap, cur, e1, e2, e3, e4, e5⟩ := d3 k hk
  have ck := (d1.cell k).trans e1
  obtain ⟨g', cap', cur', e1', _⟩ := d3 m hm
  have cm := (d1.cell m).trans e1'
  have fm := d1.free m
  have hx := RMem.setRow h1 m g cap cur (B k) hm e2 e3 e4 (fun i hi => by rw [e5 i hi, up_other _ _ _ _ hkm]) (fun i => hu k i)
  have hk3 : Kp (fun j => j = rr ∨ j = rb) w (w1.setCell ⟨rb, m, none⟩ (.slice (some ⟨g, 0, none⟩) 64 cap)) := hk1.trans (Kp.set (S := fun j => j = rr ∨ j = rb) _ rb _ _ (.inr rfl)) (fun _ h => .inl h)
  have hup : up (up B m (fun _ => 0)) m (B k) = up B m (B k) := by
    funext j
    unfold up
    split <;> rfl
  rw [hup] at hx
  have HX := Lib.hid (And.intro hx hk3)
  clear h1 hk1 a1' a2' a3' d1 d2 d3 e1 e1' e2 e3 e4 e5 hx hk3 hup hu
  go_wp2
  go_region
  go_wp2
  go_ret2
  exact ⟨rfl, HX.out.1.drew, HX.out.2.drew⟩
end Go.Proofs.Ytompcmbaiegkaaa.Go2
