/-
  SignalOnce's walk.
-/
import Derived.Test.YtlhhgapimhpgnaaSgn
namespace Go.Proofs.Ytlhhgapimhpgnaa.Walk
open Go Go.RowKit Kit Bk Sga Sgb Sgc Sgd Sgg Sgh Sgn
set_option linter.unusedVariables false
attribute [local go_sem ↓] lds_wrap sts_wrap eqv_wrap nev_wrap

set_option maxRecDepth 100000 in
set_option maxHeartbeats 4000000 in
theorem once_no (s : Sg) (w : World) (hs : s.Ok) (h : may s = false) :
    Calls Try.prog 5 #[cv s] w fun e w' => e = .returned (.bool true) ∧ Below w.heap.size w w' := by
  obtain ⟨v0, d0⟩ := one_box w s
  have H0 := Lib.hid (And.intro v0 d0)
  have HA := Lib.hid alive_any
  have HC := Lib.hid (fun w => check_any w s hs)
  rw [ckE_no h] at HC
  clear v0 d0 hs h
  go_enter Try.func5, Try.ntmps5
  go_wp2_with (first | (go_at_call 24; (with_reducible refine (HA.out _).mono ?_); rintro e w1 ⟨rfl, hb1⟩; have v1 := H0.out.1.below hb1; have d1 := H0.out.2.trans (hb1.mono H0.out.2.size); have l1 := v1.ld; have H1 := Lib.hid (And.intro v1 d1); clear v1 d1 hb1) | (go_at_call 14; (with_reducible refine (HC.out _).mono ?_); rintro e w4 ⟨rfl, hb4⟩; have H4 := Lib.hid (H1.out.2.trans (hb4.mono H1.out.2.size)); clear hb4))
  go_ret
  exact ⟨rfl, H4.out⟩

set_option maxRecDepth 100000 in
set_option maxHeartbeats 8000000 in
theorem once_yes (s : Sg) (w : World) (hs : s.Ok) (h : may s = true) :
    Calls Try.prog 5 #[cv s] w fun e w' => e = .returned (.bool true) ∧ Below w.heap.size w w' := by
  obtain ⟨v0, d0⟩ := one_box w s
  have HA := Lib.hid alive_any
  have HC := Lib.hid (fun w => check_any w s hs)
  rw [ckE_yes h] at HC
  have HO := Lib.hid (And.intro (oi0 hs h) hs)
  clear hs h
  go_enter Try.func5, Try.ntmps5
  go_wp2_with (first | (go_at_call 24; (with_reducible refine (HA.out _).mono ?_); rintro e w1 ⟨rfl, hb1⟩; have v1 := v0.below hb1; have d1 := d0.trans (hb1.mono d0.size); have l1 := v1.ld) | (go_at_call 14; (with_reducible refine (HC.out _).mono ?_); rintro e w2 ⟨rfl, hb2⟩; refine Hid.out ?_))
  refine Lib.hid ?_
  have v2 := v1.below hb2
  have d2 := d1.trans (hb2.mono d1.size)
  have b2 := v2.b18
  have f2 := v2.free 18
  have v3 := v2.setb false
  have d3 := d2.setCell (p := ⟨w.heap.size, 18, none⟩) (Nat.le_refl _) (.bool false)
  obtain ⟨w3, hw3⟩ : ∃ w3, w2.setCell ⟨w.heap.size, 18, none⟩ (.bool false) = w3 := ⟨_, rfl⟩
  rw [hw3] at v3 d3
  have p3 : w3.cell? ⟨w.heap.size, 0, none⟩ = some (uv s.p) := v3.p0
  have H3 := Lib.hid (And.intro v3 d3)
  clear v0 d0 v1 d1 hb1 hb2 v2 d2 v3 d3 l1
  go_wp2
  clear p3 b2 f2 hw3
  go_loopw [5, 6, 7] (fun m l i wr => ∃ (k last met : Nat) (t : Sg), m = uv met ∧ l = .int .i64 (last : Int) ∧ i = .int .i64 (k : Int) ∧ k ≤ last ∧ last ≤ 15 ∧ V wr w.heap.size t ∧ Oi (setB s false) s.p met last t ∧ Below w.heap.size w wr) (fun _ _ i _ => 20 - (intOf i).toNat)
  case atStart => exact ⟨0, 0, 0, setB s false, rfl, rfl, rfl, Nat.le_refl _, by omega, H3.out.1, HO.out.1, H3.out.2⟩
  case round =>
    obtain ⟨k, last, met, t, rfl, rfl, rfl, hkl, hl15, vt, hO, dW⟩ := hrel
    have hk20 : (k : Int) < 20 := by omega
    have hN15 := nN_le t
    have HN := Lib.hid (fun w => next_any w t hO.ok)
    have lt := vt.ld
    have HW := Lib.hid (And.intro vt (And.intro hO (And.intro dW (And.intro hkl hl15))))
    clear vt dW hkl hl15
    generalize hq : nN t = q at *
    by_cases hq0 : q = 0
    · skip
      obtain ⟨n1, n2, n3, n4⟩ := hO.done (hq.trans hq0)
      have hw : wk (setP t (clrd t 15)) = false := by unfold wk; rw [n2]; rfl
      have HK := Lib.hid (fun w => wakes_any w _ n3)
      rw [hw] at HK
      have HB : Hid ((setP t (clrd t 15)).m < 4294967296 ∧ (setP t (clrd t 15)).p < 4294967296 ∧ s.p < 4294967296 ∧ met < 4294967296 ∧ ∀ j, ft (setP t (clrd t 15)) j = ft t j) := Lib.hid ⟨n3.m, n3.p, HO.out.2.p, hO.mt, fun j => rfl⟩
      have H4 : Hid (∀ j, 1 ≤ j → j ≤ 15 → (Sga.hs (setP t (clrd t 15)).p j && !Sga.hs (setP t (clrd t 15)).m j) = false ∧ (Sga.hs s.p j && !Sga.hs (setP t (clrd t 15)).m j && !(ft t j == 0) && !Sga.hs met j) = false) := Lib.hid n4
      have hh : (setP t (clrd t 15)).h = t.h := rfl
      rw [n1] at HN
      generalize hu : setP t (clrd t 15) = u at *
      clear hu n1 n2 n3 n4 hw hO hN15
      subst hq0
      clear hq
      replace HN : Hid (∀ w, Calls Try.prog 19 #[cv t] w fun e w' => e = .returned (.tuple #[.int .i64 0, .int .i64 (nB t : Nat), cv u]) ∧ Below w.heap.size w w') := HN
      generalize nB t = b at *
      go_wp2_with (first | (go_at_call 19; (with_reducible refine (HN.out _).mono ?_); rintro e w5 ⟨rfl, hb5⟩; refine Hid.out ?_))
      refine Lib.hid ?_
      have v5 := HW.out.1.below hb5
      have D5 := HW.out.2.2.1.trans (hb5.mono HW.out.2.2.1.size)
      obtain ⟨w6, h6, vu6, d6, s6⟩ := V.made w5 u
      have v6 := v5.below d6
      have D6 := D5.trans (d6.mono D5.size)
      have lu6 := vu6.ld
      obtain ⟨w7, h7, v7, k7, s7⟩ := v6.st u
      have D7 := D6.trans (k7.below D6.size (fun j e => by have e : j = w.heap.size := e; omega))
      have H7 := Lib.hid (And.intro v7 (And.intro D7 hh))
      clear v5 D5 vu6 d6 s6 v6 D6 v7 k7 s7 D7 hh hb5
      go_wp2
      clear h6 h7 lu6 lt
      go_loopw [11] (fun i wr => ∃ j : Nat, 1 ≤ j ∧ j ≤ 16 ∧ i = .int .i64 (j : Int) ∧ wr = w7) (fun i _ => 16 - (intOf i).toNat)
      case atStart => exact ⟨1, Nat.le_refl _, by omega, rfl, rfl⟩
      case round =>
        obtain ⟨j, hj1, hj16, rfl, rfl⟩ := hrel
        by_cases hlt : j ≤ 15
        · have hjI : (j : Int) ≤ 15 := by omega
          have hj0 : (0 : Int) ≤ (j : Int) := by omega
          have hj32 : (j : Int) < 32 := by omega
          have hjj : (j : Int) < 16 := by omega
          have ch := H7.out.1.h2 (k := j) (by omega)
          have cp := H7.out.1.p0
          have cm := H7.out.1.m1
          obtain ⟨hc1, hc2⟩ := H4.out j hj1 hlt
          have hft0 : ft t j = if u.h j = 1 ∨ (u.h j = 0 ∧ j = 12) then 0 else if u.h j = 0 then 1 else 2 := by rw [H7.out.2.2]; rfl
          generalize hx : u.h j = x at *
          clear hx hj1
          by_cases h1 : x = 1
          · have hg : True := trivial
            clear hft0
            have a1 : ((x : Int) == 1) = true := beq_iff_eq.2 (by omega)
            clear hg h1
            cases hM : Sga.hs u.m j
            · have hX : Sga.hs u.p j = false := by rw [hM] at hc1; simpa using hc1
              cases hL : Sga.hs s.p j
              · clear hc1 hc2
                have eM : bits .and .u32 ((u.m : Int) / 2 ^ j) 1 = 0 := bit_no HB.out.1 hM
                have eX : bits .and .u32 ((u.p : Int) / 2 ^ j) 1 = 0 := bit_no HB.out.2.1 hX
                have eL : bits .and .u32 ((s.p : Int) / 2 ^ j) 1 = 0 := bit_no HB.out.2.2.1 hL
                clear hM hX hL
                go_wp2
                go_roundw
                case rel => exact ⟨j + 1, by omega, by omega, by go_num, trivial⟩
                case measure => simp [intOf]; omega
              · clear hc1 hc2
                have eM : bits .and .u32 ((u.m : Int) / 2 ^ j) 1 = 0 := bit_no HB.out.1 hM
                have eX : bits .and .u32 ((u.p : Int) / 2 ^ j) 1 = 0 := bit_no HB.out.2.1 hX
                have eL : bits .and .u32 ((s.p : Int) / 2 ^ j) 1 = 1 := bit_yes HB.out.2.2.1 hL
                clear hM hX hL
                go_wp2
                go_roundw
                case rel => exact ⟨j + 1, by omega, by omega, by go_num, trivial⟩
                case measure => simp [intOf]; omega
            · clear hc1 hc2
              cases hX : Sga.hs u.p j
              · cases hL : Sga.hs s.p j
                · skip
                  have eM : bits .and .u32 ((u.m : Int) / 2 ^ j) 1 = 1 := bit_yes HB.out.1 hM
                  have eX : bits .and .u32 ((u.p : Int) / 2 ^ j) 1 = 0 := bit_no HB.out.2.1 hX
                  have eL : bits .and .u32 ((s.p : Int) / 2 ^ j) 1 = 0 := bit_no HB.out.2.2.1 hL
                  clear hM hX hL
                  go_wp2
                  go_roundw
                  case rel => exact ⟨j + 1, by omega, by omega, by go_num, trivial⟩
                  case measure => simp [intOf]; omega
                · skip
                  have eM : bits .and .u32 ((u.m : Int) / 2 ^ j) 1 = 1 := bit_yes HB.out.1 hM
                  have eX : bits .and .u32 ((u.p : Int) / 2 ^ j) 1 = 0 := bit_no HB.out.2.1 hX
                  have eL : bits .and .u32 ((s.p : Int) / 2 ^ j) 1 = 1 := bit_yes HB.out.2.2.1 hL
                  clear hM hX hL
                  go_wp2
                  go_roundw
                  case rel => exact ⟨j + 1, by omega, by omega, by go_num, trivial⟩
                  case measure => simp [intOf]; omega
              · cases hL : Sga.hs s.p j
                · skip
                  have eM : bits .and .u32 ((u.m : Int) / 2 ^ j) 1 = 1 := bit_yes HB.out.1 hM
                  have eX : bits .and .u32 ((u.p : Int) / 2 ^ j) 1 = 1 := bit_yes HB.out.2.1 hX
                  have eL : bits .and .u32 ((s.p : Int) / 2 ^ j) 1 = 0 := bit_no HB.out.2.2.1 hL
                  clear hM hX hL
                  go_wp2
                  go_roundw
                  case rel => exact ⟨j + 1, by omega, by omega, by go_num, trivial⟩
                  case measure => simp [intOf]; omega
                · skip
                  have eM : bits .and .u32 ((u.m : Int) / 2 ^ j) 1 = 1 := bit_yes HB.out.1 hM
                  have eX : bits .and .u32 ((u.p : Int) / 2 ^ j) 1 = 1 := bit_yes HB.out.2.1 hX
                  have eL : bits .and .u32 ((s.p : Int) / 2 ^ j) 1 = 1 := bit_yes HB.out.2.2.1 hL
                  clear hM hX hL
                  go_wp2
                  go_roundw
                  case rel => exact ⟨j + 1, by omega, by omega, by go_num, trivial⟩
                  case measure => simp [intOf]; omega
          · by_cases h0 : x = 0
            · by_cases h12 : j = 12
              · have hg : True := trivial
                clear hft0
                have a1 : ((x : Int) == 1) = false := beq_eq_false_iff_ne.2 (by omega)
                have a0 : ((x : Int) == 0) = true := beq_iff_eq.2 (by omega)
                have a12 : ((j : Int) == 12) = true := beq_iff_eq.2 (by omega)
                clear hg h1 h0 h12
                cases hM : Sga.hs u.m j
                · have hX : Sga.hs u.p j = false := by rw [hM] at hc1; simpa using hc1
                  cases hL : Sga.hs s.p j
                  · clear hc1 hc2
                    have eM : bits .and .u32 ((u.m : Int) / 2 ^ j) 1 = 0 := bit_no HB.out.1 hM
                    have eX : bits .and .u32 ((u.p : Int) / 2 ^ j) 1 = 0 := bit_no HB.out.2.1 hX
                    have eL : bits .and .u32 ((s.p : Int) / 2 ^ j) 1 = 0 := bit_no HB.out.2.2.1 hL
                    clear hM hX hL
                    go_wp2
                    go_roundw
                    case rel => exact ⟨j + 1, by omega, by omega, by go_num, trivial⟩
                    case measure => simp [intOf]; omega
                  · clear hc1 hc2
                    have eM : bits .and .u32 ((u.m : Int) / 2 ^ j) 1 = 0 := bit_no HB.out.1 hM
                    have eX : bits .and .u32 ((u.p : Int) / 2 ^ j) 1 = 0 := bit_no HB.out.2.1 hX
                    have eL : bits .and .u32 ((s.p : Int) / 2 ^ j) 1 = 1 := bit_yes HB.out.2.2.1 hL
                    clear hM hX hL
                    go_wp2
                    go_roundw
                    case rel => exact ⟨j + 1, by omega, by omega, by go_num, trivial⟩
                    case measure => simp [intOf]; omega
                · clear hc1 hc2
                  cases hX : Sga.hs u.p j
                  · cases hL : Sga.hs s.p j
                    · skip
                      have eM : bits .and .u32 ((u.m : Int) / 2 ^ j) 1 = 1 := bit_yes HB.out.1 hM
                      have eX : bits .and .u32 ((u.p : Int) / 2 ^ j) 1 = 0 := bit_no HB.out.2.1 hX
                      have eL : bits .and .u32 ((s.p : Int) / 2 ^ j) 1 = 0 := bit_no HB.out.2.2.1 hL
                      clear hM hX hL
                      go_wp2
                      go_roundw
                      case rel => exact ⟨j + 1, by omega, by omega, by go_num, trivial⟩
                      case measure => simp [intOf]; omega
                    · skip
                      have eM : bits .and .u32 ((u.m : Int) / 2 ^ j) 1 = 1 := bit_yes HB.out.1 hM
                      have eX : bits .and .u32 ((u.p : Int) / 2 ^ j) 1 = 0 := bit_no HB.out.2.1 hX
                      have eL : bits .and .u32 ((s.p : Int) / 2 ^ j) 1 = 1 := bit_yes HB.out.2.2.1 hL
                      clear hM hX hL
                      go_wp2
                      go_roundw
                      case rel => exact ⟨j + 1, by omega, by omega, by go_num, trivial⟩
                      case measure => simp [intOf]; omega
                  · cases hL : Sga.hs s.p j
                    · skip
                      have eM : bits .and .u32 ((u.m : Int) / 2 ^ j) 1 = 1 := bit_yes HB.out.1 hM
                      have eX : bits .and .u32 ((u.p : Int) / 2 ^ j) 1 = 1 := bit_yes HB.out.2.1 hX
                      have eL : bits .and .u32 ((s.p : Int) / 2 ^ j) 1 = 0 := bit_no HB.out.2.2.1 hL
                      clear hM hX hL
                      go_wp2
                      go_roundw
                      case rel => exact ⟨j + 1, by omega, by omega, by go_num, trivial⟩
                      case measure => simp [intOf]; omega
                    · skip
                      have eM : bits .and .u32 ((u.m : Int) / 2 ^ j) 1 = 1 := bit_yes HB.out.1 hM
                      have eX : bits .and .u32 ((u.p : Int) / 2 ^ j) 1 = 1 := bit_yes HB.out.2.1 hX
                      have eL : bits .and .u32 ((s.p : Int) / 2 ^ j) 1 = 1 := bit_yes HB.out.2.2.1 hL
                      clear hM hX hL
                      go_wp2
                      go_roundw
                      case rel => exact ⟨j + 1, by omega, by omega, by go_num, trivial⟩
                      case measure => simp [intOf]; omega
              · have hft : (ft t j == 0) = false := by rw [hft0, if_neg (by rintro (h | ⟨_, h⟩); exact h1 h; exact h12 h), if_pos h0]; rfl
                have hg : True := trivial
                clear hft0
                have a1 : ((x : Int) == 1) = false := beq_eq_false_iff_ne.2 (by omega)
                have a0 : ((x : Int) == 0) = true := beq_iff_eq.2 (by omega)
                have a12 : ((j : Int) == 12) = false := beq_eq_false_iff_ne.2 (by omega)
                clear hg h1 h0 h12
                cases hM : Sga.hs u.m j
                · have hX : Sga.hs u.p j = false := by rw [hM] at hc1; simpa using hc1
                  cases hL : Sga.hs s.p j
                  · clear hc1 hc2
                    have eM : bits .and .u32 ((u.m : Int) / 2 ^ j) 1 = 0 := bit_no HB.out.1 hM
                    have eX : bits .and .u32 ((u.p : Int) / 2 ^ j) 1 = 0 := bit_no HB.out.2.1 hX
                    have eL : bits .and .u32 ((s.p : Int) / 2 ^ j) 1 = 0 := bit_no HB.out.2.2.1 hL
                    clear hM hX hL
                    go_wp2
                    go_roundw
                    case rel => exact ⟨j + 1, by omega, by omega, by go_num, trivial⟩
                    case measure => simp [intOf]; omega
                  · have hT : Sga.hs met j = true := by rw [hL, hM, hft] at hc2; simpa using hc2
                    clear hc1 hc2
                    have eM : bits .and .u32 ((u.m : Int) / 2 ^ j) 1 = 0 := bit_no HB.out.1 hM
                    have eX : bits .and .u32 ((u.p : Int) / 2 ^ j) 1 = 0 := bit_no HB.out.2.1 hX
                    have eL : bits .and .u32 ((s.p : Int) / 2 ^ j) 1 = 1 := bit_yes HB.out.2.2.1 hL
                    have eT : bits .and .u32 ((met : Int) / 2 ^ j) 1 = 1 := bit_yes HB.out.2.2.2.1 hT
                    clear hM hX hL hT
                    go_wp2
                    go_roundw
                    case rel => exact ⟨j + 1, by omega, by omega, by go_num, trivial⟩
                    case measure => simp [intOf]; omega
                · clear hc1 hc2
                  cases hX : Sga.hs u.p j
                  · cases hL : Sga.hs s.p j
                    · skip
                      have eM : bits .and .u32 ((u.m : Int) / 2 ^ j) 1 = 1 := bit_yes HB.out.1 hM
                      have eX : bits .and .u32 ((u.p : Int) / 2 ^ j) 1 = 0 := bit_no HB.out.2.1 hX
                      have eL : bits .and .u32 ((s.p : Int) / 2 ^ j) 1 = 0 := bit_no HB.out.2.2.1 hL
                      clear hM hX hL
                      go_wp2
                      go_roundw
                      case rel => exact ⟨j + 1, by omega, by omega, by go_num, trivial⟩
                      case measure => simp [intOf]; omega
                    · skip
                      have eM : bits .and .u32 ((u.m : Int) / 2 ^ j) 1 = 1 := bit_yes HB.out.1 hM
                      have eX : bits .and .u32 ((u.p : Int) / 2 ^ j) 1 = 0 := bit_no HB.out.2.1 hX
                      have eL : bits .and .u32 ((s.p : Int) / 2 ^ j) 1 = 1 := bit_yes HB.out.2.2.1 hL
                      clear hM hX hL
                      go_wp2
                      go_roundw
                      case rel => exact ⟨j + 1, by omega, by omega, by go_num, trivial⟩
                      case measure => simp [intOf]; omega
                  · cases hL : Sga.hs s.p j
                    · skip
                      have eM : bits .and .u32 ((u.m : Int) / 2 ^ j) 1 = 1 := bit_yes HB.out.1 hM
                      have eX : bits .and .u32 ((u.p : Int) / 2 ^ j) 1 = 1 := bit_yes HB.out.2.1 hX
                      have eL : bits .and .u32 ((s.p : Int) / 2 ^ j) 1 = 0 := bit_no HB.out.2.2.1 hL
                      clear hM hX hL
                      go_wp2
                      go_roundw
                      case rel => exact ⟨j + 1, by omega, by omega, by go_num, trivial⟩
                      case measure => simp [intOf]; omega
                    · skip
                      have eM : bits .and .u32 ((u.m : Int) / 2 ^ j) 1 = 1 := bit_yes HB.out.1 hM
                      have eX : bits .and .u32 ((u.p : Int) / 2 ^ j) 1 = 1 := bit_yes HB.out.2.1 hX
                      have eL : bits .and .u32 ((s.p : Int) / 2 ^ j) 1 = 1 := bit_yes HB.out.2.2.1 hL
                      clear hM hX hL
                      go_wp2
                      go_roundw
                      case rel => exact ⟨j + 1, by omega, by omega, by go_num, trivial⟩
                      case measure => simp [intOf]; omega
            · have hft : (ft t j == 0) = false := by rw [hft0, if_neg (by rintro (h | ⟨h, _⟩); exact h1 h; exact h0 h), if_neg h0]; rfl
              have hg : True := trivial
              clear hft0
              have a1 : ((x : Int) == 1) = false := beq_eq_false_iff_ne.2 (by omega)
              have a0 : ((x : Int) == 0) = false := beq_eq_false_iff_ne.2 (by omega)
              clear hg h1 h0
              cases hM : Sga.hs u.m j
              · have hX : Sga.hs u.p j = false := by rw [hM] at hc1; simpa using hc1
                cases hL : Sga.hs s.p j
                · clear hc1 hc2
                  have eM : bits .and .u32 ((u.m : Int) / 2 ^ j) 1 = 0 := bit_no HB.out.1 hM
                  have eX : bits .and .u32 ((u.p : Int) / 2 ^ j) 1 = 0 := bit_no HB.out.2.1 hX
                  have eL : bits .and .u32 ((s.p : Int) / 2 ^ j) 1 = 0 := bit_no HB.out.2.2.1 hL
                  clear hM hX hL
                  go_wp2
                  go_roundw
                  case rel => exact ⟨j + 1, by omega, by omega, by go_num, trivial⟩
                  case measure => simp [intOf]; omega
                · have hT : Sga.hs met j = true := by rw [hL, hM, hft] at hc2; simpa using hc2
                  clear hc1 hc2
                  have eM : bits .and .u32 ((u.m : Int) / 2 ^ j) 1 = 0 := bit_no HB.out.1 hM
                  have eX : bits .and .u32 ((u.p : Int) / 2 ^ j) 1 = 0 := bit_no HB.out.2.1 hX
                  have eL : bits .and .u32 ((s.p : Int) / 2 ^ j) 1 = 1 := bit_yes HB.out.2.2.1 hL
                  have eT : bits .and .u32 ((met : Int) / 2 ^ j) 1 = 1 := bit_yes HB.out.2.2.2.1 hT
                  clear hM hX hL hT
                  go_wp2
                  go_roundw
                  case rel => exact ⟨j + 1, by omega, by omega, by go_num, trivial⟩
                  case measure => simp [intOf]; omega
              · clear hc1 hc2
                cases hX : Sga.hs u.p j
                · cases hL : Sga.hs s.p j
                  · skip
                    have eM : bits .and .u32 ((u.m : Int) / 2 ^ j) 1 = 1 := bit_yes HB.out.1 hM
                    have eX : bits .and .u32 ((u.p : Int) / 2 ^ j) 1 = 0 := bit_no HB.out.2.1 hX
                    have eL : bits .and .u32 ((s.p : Int) / 2 ^ j) 1 = 0 := bit_no HB.out.2.2.1 hL
                    clear hM hX hL
                    go_wp2
                    go_roundw
                    case rel => exact ⟨j + 1, by omega, by omega, by go_num, trivial⟩
                    case measure => simp [intOf]; omega
                  · skip
                    have eM : bits .and .u32 ((u.m : Int) / 2 ^ j) 1 = 1 := bit_yes HB.out.1 hM
                    have eX : bits .and .u32 ((u.p : Int) / 2 ^ j) 1 = 0 := bit_no HB.out.2.1 hX
                    have eL : bits .and .u32 ((s.p : Int) / 2 ^ j) 1 = 1 := bit_yes HB.out.2.2.1 hL
                    clear hM hX hL
                    go_wp2
                    go_roundw
                    case rel => exact ⟨j + 1, by omega, by omega, by go_num, trivial⟩
                    case measure => simp [intOf]; omega
                · cases hL : Sga.hs s.p j
                  · skip
                    have eM : bits .and .u32 ((u.m : Int) / 2 ^ j) 1 = 1 := bit_yes HB.out.1 hM
                    have eX : bits .and .u32 ((u.p : Int) / 2 ^ j) 1 = 1 := bit_yes HB.out.2.1 hX
                    have eL : bits .and .u32 ((s.p : Int) / 2 ^ j) 1 = 0 := bit_no HB.out.2.2.1 hL
                    clear hM hX hL
                    go_wp2
                    go_roundw
                    case rel => exact ⟨j + 1, by omega, by omega, by go_num, trivial⟩
                    case measure => simp [intOf]; omega
                  · skip
                    have eM : bits .and .u32 ((u.m : Int) / 2 ^ j) 1 = 1 := bit_yes HB.out.1 hM
                    have eX : bits .and .u32 ((u.p : Int) / 2 ^ j) 1 = 1 := bit_yes HB.out.2.1 hX
                    have eL : bits .and .u32 ((s.p : Int) / 2 ^ j) 1 = 1 := bit_yes HB.out.2.2.1 hL
                    clear hM hX hL
                    go_wp2
                    go_roundw
                    case rel => exact ⟨j + 1, by omega, by omega, by go_num, trivial⟩
                    case measure => simp [intOf]; omega
        · obtain rfl : j = 16 := by omega
          have lu7 := H7.out.1.ld
          go_wp2_with (first | (go_at_call 13; (with_reducible refine (HK.out _).mono ?_); rintro e w8 ⟨rfl, hb8⟩; have H8 := Lib.hid (H7.out.2.1.trans (hb8.mono H7.out.2.1.size)); clear hb8))
          go_ret
          exact ⟨rfl, H8.out⟩
    · obtain ⟨n1, n2, n3, n4, n5, n6, n7, n8, n9⟩ := hO.next hq hq0
      have hspk := HO.out.2.p
      have e1 := bit_no hO.mt n3
      have e2 := bit_yes hspk n4
      have e3 := bit_no hO.ok.m n5
      have e4 := or_bit hO.mt (i := q) (by omega)
      have hu : (nS t).Ok := nS_ok hO.ok
      have hum : may (nS t) = true := by rw [n7]; exact n8
      have d1 : decide ((q : Int) ≤ (last : Int)) = false := decide_eq_false (by omega)
      have d1' : decide (q ≤ last) = false := decide_eq_false (by omega)
      have d2 : ((q : Int) == 0) = false := beq_eq_false_iff_ne.2 (by omega)
      have q0 : (0 : Int) ≤ (q : Int) := by omega
      have q32 : (q : Int) < 32 := by omega
      have HR := Lib.hid (fun w hb => return_yes w (nS t) hu hum hb)
      have HX := Lib.hid (And.intro n7 (And.intro n9 (And.intro n1 n2)))
      clear hO n1 n2 n3 n4 n5 n7 n8 n9 hu hum hspk hq hq0 hN15
      generalize nB t = b at *
      generalize nS t = u at *
      rcases n6 with rfl | rfl
      · go_wp2_with (first | (go_at_call 19; (with_reducible refine (HN.out _).mono ?_); rintro e w5 ⟨rfl, hb5⟩; refine Hid.out ?_))
        refine Lib.hid ?_
        have v5 := HW.out.1.below hb5
        have D5 := HW.out.2.2.1.trans (hb5.mono HW.out.2.2.1.size)
        have hlt := v5.lt
        obtain ⟨w6, h6, vu6, d6, s6⟩ := V.made w5 u
        have v6 := v5.below d6
        have D6 := D5.trans (d6.mono D5.size)
        have m6 := v6.m1
        have b6 := vu6.b18
        have hub : u.b = false := by rw [HX.out.1]; rfl
        rw [hub] at b6
        have hu : u = setP t (clrd t q) := by
          rw [HX.out.1]
          have : (setP t (clrd t q)).b = false := HW.out.2.1.b
          show setB (setP t (clrd t q)) false = setP t (clrd t q)
          rw [← this]; rfl
        have lu6 := vu6.ld
        obtain ⟨w7, h7, v7, k7, s7⟩ := v6.st u
        have D7 := D6.trans (k7.below D6.size (fun j e => by have e : j = w.heap.size := e; omega))
        have H7 := Lib.hid (And.intro v7 (And.intro D7 hu))
        clear v5 D5 hlt vu6 d6 s6 v6 D6 hub v7 k7 s7 D7 hu hb5
        go_wp2
        go_roundw
        case rel =>
          refine ⟨k + 1, q, ad met q, u, rfl, rfl, by go_num, ?_, HX.out.2.2.2, H7.out.1, ?_, H7.out.2.1⟩
          · have h1 := HX.out.2.2.1
            have h2 := HW.out.2.2.2.1
            omega
          · have h3 := HX.out.2.1
            rw [← H7.out.2.2] at h3
            exact h3
        case measure => simp [intOf]; omega
      · go_wp2_with (first | (go_at_call 19; (with_reducible refine (HN.out _).mono ?_); rintro e w5 ⟨rfl, hb5⟩; refine Hid.out ?_))
        refine Lib.hid ?_
        have v5 := HW.out.1.below hb5
        have D5 := HW.out.2.2.1.trans (hb5.mono HW.out.2.2.1.size)
        have hlt := v5.lt
        obtain ⟨w6, h6, vu6, d6, s6⟩ := V.made w5 u
        have v6 := v5.below d6
        have D6 := D5.trans (d6.mono D5.size)
        have m6 := v6.m1
        have b6 := vu6.b18
        have hub : u.b = true := by rw [HX.out.1]; rfl
        rw [hub] at b6
        have hu : setB u false = setP t (clrd t q) := by
          rw [HX.out.1]
          have : (setP t (clrd t q)).b = false := HW.out.2.1.b
          show setB (setP t (clrd t q)) false = setP t (clrd t q)
          rw [← this]; rfl
        have HR2 := Lib.hid (fun w => HR.out w hub)
        have lu6 := vu6.ld
        have hlt6 := vu6.lt
        have H6 := Lib.hid (And.intro v6 (And.intro vu6 (And.intro D6 (And.intro hu hlt))))
        clear v5 D5 hlt vu6 d6 s6 v6 D6 hub hu hb5 hlt6
        go_wp2_with (first | (go_at_call 23; (with_reducible refine (HR2.out _).mono ?_); rintro e w7 ⟨rfl, hb7⟩; refine Hid.out ?_))
        refine Lib.hid ?_
        have v7 := H6.out.1.below hb7
        have vu7 := H6.out.2.1.below hb7
        have D7 := H6.out.2.2.1.trans (hb7.mono H6.out.2.2.1.size)
        have hlt := H6.out.2.2.2.2
        obtain ⟨w8, h8, vu8, k8, s8⟩ := vu7.st (setB u false)
        have v8 := v7.kept k8 (by show ¬ w.heap.size = w5.heap.size; omega)
        have D8 := D7.trans (k8.below D7.size (fun j e => by have e : j = w5.heap.size := e; omega))
        have lu8 := vu8.ld
        obtain ⟨w9, h9, v9, k9, s9⟩ := v8.st (setB u false)
        have D9 := D8.trans (k9.below D8.size (fun j e => by have e : j = w.heap.size := e; omega))
        have H9 := Lib.hid (And.intro v9 D9)
        clear v7 vu7 D7 hlt vu8 k8 s8 v8 D8 v9 k9 s9 D9 hb7
        go_wp2
        go_roundw
        case rel =>
          refine ⟨k + 1, q, ad met q, setB u false, rfl, rfl, by go_num, ?_, HX.out.2.2.2, H9.out.1, ?_, H9.out.2⟩
          · have h1 := HX.out.2.2.1
            have h2 := HW.out.2.2.2.1
            omega
          · have h3 := HX.out.2.1
            rw [← H6.out.2.2.2.1] at h3
            exact h3
        case measure => simp [intOf]; omega
theorem signalOnce (s : Sg) (w : World) (hs : s.Ok) :
    Calls Try.prog 5 #[cv s] w fun e w' => e = .returned (.bool true) ∧ Below w.heap.size w w' := by
  cases h : may s
  · exact once_no s w hs h
  · exact once_yes s w hs h
end Go.Proofs.Ytlhhgapimhpgnaa.Walk
