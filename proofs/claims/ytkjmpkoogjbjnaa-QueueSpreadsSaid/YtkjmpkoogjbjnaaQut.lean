/-
  QueueSpreads: the walk.
-/
import Derived.Test.YtkjmpkoogjbjnaaQur
import Derived.Test.YtkjmpkoogjbjnaaQus
namespace Go.Proofs.Ytkjmpkoogjbjnaa.Qut
open Go Go.RowKit Go.Shelf Kit Bk Qua Qub Quc Qud Que Quf Qug Quh Qui Quj Quk Qul Qum Qun Quq Qup Qur Qus
set_option linter.unusedVariables false

variable {F : Nat → Prop} {N : Nat} {w0 w w' : World} {q c : Nat} {l : Ls} {u : Value} {x : List Int}
theorem Nx.move (h : Nx N w0 w q c l u x) (hN : N ≤ 90000) (hc : 1 ≤ c) (p : Int) (m : Nat) (hm : m < 4294967296) : Calls Try.prog 11 #[pv q, .int .i64 p, uv m] w fun e w' => e = .returned (.tuple #[.int .i64 (mvR c l p m), .int .i64 (mvE c l p m)]) ∧ Nx (N + 1) w0 w' q c (mvL c l p m) u x := by
  obtain ⟨F, G, h1, h2, h3⟩ := h
  refine (move_st h1 hN hc p m hm).mono ?_
  rintro e w' ⟨rfl, g1, g2⟩
  exact ⟨rfl, F, G, g1, h2.kept g2 (fun g e e2 => e2 (h3 g e)), h3⟩
/-- The least and the greatest length of the first j queues. -/
def lo (l : Ls) (n : Nat) : Nat → Nat
  | 0 => n
  | j + 1 => min (lo l n j) (l j).length
def hi (l : Ls) : Nat → Nat
  | 0 => 0
  | j + 1 => max (hi l j) (l j).length
theorem lo_is (l : Ls) (n : Nat) : ∀ j, lo l n j = n ∨ ∃ t, t < j ∧ lo l n j = (l t).length
  | 0 => .inl rfl
  | j + 1 => by
    show min _ _ = _ ∨ _
    rcases Nat.le_total (lo l n j) (l j).length with h | h
    · rcases lo_is l n j with e | ⟨t, ht, e⟩
      · left; rw [Nat.min_eq_left h]; exact e
      · right; exact ⟨t, by omega, by show min _ _ = _; rw [Nat.min_eq_left h]; exact e⟩
    · right; exact ⟨j, by omega, by show min _ _ = _; rw [Nat.min_eq_right h]⟩
theorem hi_is (l : Ls) : ∀ j, hi l j = 0 ∨ ∃ t, t < j ∧ hi l j = (l t).length
  | 0 => .inl rfl
  | j + 1 => by
    show max _ _ = _ ∨ _
    rcases Nat.le_total (hi l j) (l j).length with h | h
    · right; exact ⟨j, by omega, by show max _ _ = _; rw [Nat.max_eq_right h]⟩
    · rcases hi_is l j with e | ⟨t, ht, e⟩
      · left; rw [Nat.max_eq_left h]; exact e
      · right; exact ⟨t, by omega, by show max _ _ = _; rw [Nat.max_eq_left h]; exact e⟩
theorem len_tot (l : Ls) (t : Nat) (h : t < 8) : (l t).length ≤ tot l := by
  rw [tot_eq]
  rcases Qub.eight h with rfl | rfl | rfl | rfl | rfl | rfl | rfl | rfl <;> omega
theorem spread {i n : Nat} (h : Sp c i l) (h8 : c ≤ 8) (hi' : i ≤ n) : hi l c ≤ lo l n c + 1 := by
  rcases hi_is l c with e | ⟨t, ht, e⟩
  · omega
  · have h1 := len_tot l t (by omega)
    have h2 := h.tot
    rcases lo_is l n c with e2 | ⟨s, hs, e2⟩
    · omega
    · have := h.bal t s ht hs
      omega
theorem lo_le (l : Ls) (n : Nat) : ∀ j, lo l n j ≤ n
  | 0 => Nat.le_refl _
  | j + 1 => Nat.le_trans (Nat.min_le_left _ _) (lo_le l n j)
theorem hi_le (l : Ls) (N : Nat) (h : ∀ k, (l k).length ≤ N) : ∀ j, hi l j ≤ N
  | 0 => Nat.zero_le _
  | j + 1 => Nat.max_le.2 ⟨hi_le l N h j, h j⟩
theorem lo_next (l : Ls) (n j : Nat) : min (lo l n j : Int) ((l j).length : Int) = ((lo l n (j + 1) : Nat) : Int) := by
  show _ = ((min (lo l n j) (l j).length : Nat) : Int)
  omega
theorem hi_next (l : Ls) (j : Nat) : max (hi l j : Int) ((l j).length : Int) = ((hi l (j + 1) : Nat) : Int) := by
  show _ = ((max (hi l j) (l j).length : Nat) : Int)
  omega
theorem Nx.two (h : Nx N w0 w q c l u x) (hN : N ≤ 90000) (z : Int) : Calls Try.prog 24 #[pv q, .int .i64 z] w fun e w' => Below w.heap.size w w' ∧ ∃ a n, e = .returned (.slice a (lst c l z).length n) ∧ ∀ i, i < (lst c l z).length → ∃ g o, a = some ⟨g, o, none⟩ ∧ w'.cell? ⟨g, o + i, none⟩ = some (.int .i64 ((lst c l z).getD i 0)) := by
  obtain ⟨F, G, h1, h2, h3⟩ := h
  refine (list_st h1 hN z).mono ?_
  rintro e w' ⟨hb, u2, G2, rfl, hr, _⟩
  obtain ⟨a, n, rfl, _, _, h4⟩ := Quf.Rw.cells hr
  exact ⟨hb, a, n, rfl, h4⟩
theorem spreads_bad (z0 : Int) (m t : Nat) (w : World) (hz : z0 < 1 ∨ 8 < z0) : Calls Try.prog 7 #[.int .i64 z0, .int .u8 (m : Int), .int .u8 (t : Int)] w fun e w' => e = .returned (.bool true) ∧ Below w.heap.size w w' := by
  have HA := Lib.hid (alive_any w)
  go_enter Try.func7, Try.ntmps7
  go_wp2_with (first | (go_at_call 29; (with_reducible refine HA.out.mono ?_); rintro e w1 ⟨rfl, hb⟩; have HN := Lib.hid (new_bad w1 z0 hz); have HB := Lib.hid hb; clear hb) | (go_at_call 8; (with_reducible refine HN.out.mono ?_); rintro e w2 ⟨rfl, rfl⟩))
  go_ret
  exact ⟨rfl, HB.out⟩
set_option maxHeartbeats 4000000 in
set_option maxRecDepth 100000 in
theorem spreads_good (c m t : Nat) (w : World) (hm : m < 256) (ht : t < 256) (h1 : 1 ≤ c) (h8 : c ≤ 8) : Calls Try.prog 7 #[.int .i64 (c : Int), .int .u8 (m : Int), .int .u8 (t : Int)] w fun e w' => e = .returned (.bool true) ∧ Below w.heap.size w w' := by
  have HA := Lib.hid (alive_any w)
  have H1 := Lib.hid h1
  have H8 := Lib.hid h8
  have hn60 : m % 60 < 60 := Nat.mod_lt _ (by decide)
  have hk : t % c < c := Nat.mod_lt _ h1
  obtain ⟨n, er, hn⟩ : ∃ n : Nat, (m : Int) % 60 = (n : Int) ∧ n < 60 := ⟨m % 60, by simp, hn60⟩
  obtain ⟨k, ek, ek2, hkc⟩ : ∃ k : Nat, (t : Int) % (c : Int) = (k : Int) ∧ ((t : Int)).tmod (c : Int) = (k : Int) ∧ k < c := ⟨t % c, by simp, by rw [Int.tmod_eq_emod_of_nonneg (Int.natCast_nonneg t)]; simp, hk⟩
  have hc0 : ¬ (c : Int) = 0 := by omega
  have hcI : (c : Int) ≤ 8 := by omega
  have hnI : (n : Int) < 60 := by omega
  clear hn60 hk
  go_enter Try.func7, Try.ntmps7
  go_wp2_with (first | (go_at_call 29; (with_reducible refine HA.out.mono ?_); rintro e w1 ⟨rfl, hb⟩; have HN := Lib.hid (new_st w1 c h1 h8); have HB := Lib.hid hb; clear hb h1 h8) | (go_at_call 8; (with_reducible refine HN.out.mono ?_); rintro e w2 ⟨rfl, hst⟩; have HS := Lib.hid hst; clear hst))
  have HS0 : Hid (St (fun _ => False) 0 w w2 w1.heap.size c NoL) := Lib.hid (by
    obtain ⟨S, g1, g2, g3, g4, g5⟩ := HS.out
    exact ⟨S, g1, fun j e => Nat.le_trans HB.out.size (g2 j e), HB.out.trans (g3.mono HB.out.size), g4, g5⟩)
  generalize hq : w1.heap.size = q at *
  clear hq HS HB
  rw [er]
  clear er
  go_loopw [11] (fun i wr => ∃ (j : Nat) (y : Int) (l : Ls), j ≤ n ∧ y = (j : Int) + 1 ∧ i = .int .i64 y ∧ St (fun _ => False) j w wr q c l ∧ Sp c j l) (fun i _ => n + 1 - (intOf i).toNat)
  case atStart => exact ⟨0, 1, NoL, Nat.zero_le _, rfl, rfl, HS0.out, sp_nol c⟩
  case round =>
    obtain ⟨j, y, l, hj, hy, rfl, hst, hsp⟩ := hrel
    by_cases hlt : j < n
    · have hyI : y ≤ (n : Int) := by omega
      have hy0 : 1 ≤ y := by omega
      have d2 : decide (y ≤ (n : Int)) = true := decide_eq_true hyI
      have hP := place_st hst (by omega) H1.out y (-1) 255 (by decide)
      rw [show uv 255 = .int .u32 255 from rfl] at hP
      have hey : y = ((j + 1 : Nat) : Int) := by omega
      have hsp2 := hsp.place H1.out H8.out
      rw [← hey] at hsp2
      obtain ⟨l2, hl2⟩ : ∃ l2, plL c l y (-1) 255 = l2 := ⟨_, rfl⟩
      rw [hl2] at hP hsp2
      have HP := Lib.hid hP
      have HSp := Lib.hid hsp2
      have HY := Lib.hid hy
      clear hst hsp hP hsp2 hl2 hey hy
      go_wp2_with (go_at_call 9; (with_reducible refine HP.out.mono ?_); rintro e w3 ⟨rfl, hs3, -⟩; have H3 := Lib.hid hs3; clear hs3)
      have HLi : Hid (∀ W, Below w3.heap.size w3 W → ∀ tt : Nat, tt < c → Calls Try.prog 24 #[pv q, .int .i64 (tt : Int)] W fun e w' => Below W.heap.size W w' ∧ ∃ a n, e = .returned (.slice a (l2 tt).length n)) := Lib.hid (fun W hb tt htt => (list_st (H3.out.below hb) (by omega) (tt : Int)).mono (by
        rintro e w' ⟨hb2, u, G, rfl, hr, _⟩
        obtain ⟨a, n, rfl, _⟩ := hr.form
        rw [lst_nat htt]
        exact ⟨hb2, a, n, rfl⟩))
      go_loopw [14, 12, 13] (fun k a b wr => ∃ (tt : Nat), tt ≤ c ∧ k = .int .i64 (tt : Int) ∧ a = .int .i64 (lo l2 n tt : Int) ∧ b = .int .i64 (hi l2 tt : Int) ∧ Below w3.heap.size w3 wr) (fun k _ _ _ => c - (intOf k).toNat)
      case atStart => exact ⟨0, Nat.zero_le _, rfl, rfl, rfl, Below.refl _ _⟩
      case round =>
        obtain ⟨tt, htt, rfl, rfl, rfl, hb⟩ := hrel
        by_cases hlt2 : tt < c
        · have hltI : (tt : Int) < (c : Int) := by omega
          have HL1 := Lib.hid (HLi.out wr hb tt hlt2)
          have HBd := Lib.hid hb
          clear hb
          go_wp2_with (go_at_call 24; first
            | ((with_reducible refine HL1.out.mono ?_); rintro e w4 ⟨hb4, a4, n4, rfl⟩; have HB4 := Lib.hid (HBd.out.trans (hb4.mono HBd.out.size)); have HL2 := Lib.hid (HLi.out w4 HB4.out tt hlt2); clear hb4)
            | ((with_reducible refine HL2.out.mono ?_); rintro e w5 ⟨hb5, a5, n5, rfl⟩; have HB5 := Lib.hid (HB4.out.trans (hb5.mono HB4.out.size)); clear hb5))
          rw [lo_next, hi_next]
          go_roundw
          case rel => exact ⟨tt + 1, by omega, by go_num, rfl, rfl, HB5.out⟩
          case measure => simp [intOf]; omega
        · obtain rfl : tt = c := by omega
          have hsp := HSp.out
          have hsd := spread hsp H8.out (show j + 1 ≤ n by omega)
          have hlo := lo_le l2 n tt
          have d3 : decide ((lo l2 n tt : Int) + 1 < (hi l2 tt : Int)) = false := decide_eq_false (by omega)
          have ew : IntKind.wrap .i64 ((lo l2 n tt : Int) + 1) = (lo l2 n tt : Int) + 1 := by
            simp [IntKind.wrap, IntKind.bits, IntKind.signed]
            omega
          have HB5 := Lib.hid (H3.out.below hb)
          generalize lo l2 n tt = a at *
          generalize hi l2 tt = b at *
          clear hsp hsd hlo hb
          go_wp2
          go_roundw
          case rel => exact ⟨j + 1, y + 1, l2, by omega, by have := HY.out; omega, by go_num, HB5.out, HSp.out⟩
          case measure => have := HY.out; simp [intOf]; omega
    · obtain rfl : j = n := by omega
      have hyI : ¬ y ≤ (j : Int) := by omega
      have d2 : decide (y ≤ (j : Int)) = false := decide_eq_false hyI
      have HW := St.was hst (by omega) (k : Int)
      rw [lst_nat hkc] at HW
      have hx60 := hst.len k
      have HM0 := Lib.hid (mv_start (k := k) hsp)
      obtain ⟨x, hx⟩ : ∃ x, l k = x := ⟨_, rfl⟩
      rw [hx] at HW hx60 HM0
      replace HW := Lib.hid HW
      clear hst hsp hy hx
      go_wp2_with (go_at_call 24; (with_reducible refine HW.out.mono ?_); rintro e w3 ⟨a3, n3, rfl, hx3⟩; have H3 := Lib.hid hx3; clear hx3)
      have H1c := H1.out
      go_loopw [18, 17] (fun i a wr => ∃ (s : Nat), s ≤ k ∧ i = .int .i64 (s : Int) ∧ a = uv (2 ^ s) ∧ Nx j w wr q c l (.slice a3 x.length n3) x) (fun i _ _ => k - (intOf i).toNat)
      case atStart => exact ⟨0, Nat.zero_le _, rfl, rfl, H3.out⟩
      case round =>
        obtain ⟨s, hs, rfl, rfl, hn⟩ := hrel
        by_cases hlt2 : s < k
        · have hltI : (s : Int) < (k : Int) := by omega
          have HN := Lib.hid hn
          have h2s : (2 : Nat) ^ (s + 1) ≤ 2 ^ 8 := Nat.pow_le_pow_right (by decide) (by have := H8.out; omega)
          have h2e : (2 : Nat) ^ (s + 1) = 2 ^ s * 2 := Nat.pow_succ 2 s
          obtain ⟨g, hg⟩ : ∃ g : Nat, 2 ^ s = g := ⟨_, rfl⟩
          obtain ⟨g2, hg2⟩ : ∃ g : Nat, 2 ^ (s + 1) = g := ⟨_, rfl⟩
          rw [hg, hg2] at h2e
          rw [hg2] at h2s
          rw [hg]
          have ew : IntKind.wrap .u32 ((g : Int) * 2) = ((g2 : Nat) : Int) := by
            simp [IntKind.wrap, IntKind.bits, IntKind.signed]
            omega
          have HG := Lib.hid hg2
          clear hn h2s h2e hg hg2
          go_wp2
          go_roundw
          case rel => exact ⟨s + 1, by omega, by go_num, by rw [HG.out], HN.out⟩
          case measure => simp [intOf]; omega
        · obtain rfl : s = k := by omega
          have HN := Lib.hid hn
          have h2s : (2 : Nat) ^ s ≤ 2 ^ 8 := Nat.pow_le_pow_right (by decide) (by have := H8.out; omega)
          obtain ⟨g, hg⟩ : ∃ g : Nat, 2 ^ s = g := ⟨_, rfl⟩
          rw [hg]
          rw [hg] at h2s
          have HG := Lib.hid (And.intro hg h2s)
          clear hn h2s hg hs hlt2 hyI d2
          go_wp2
          go_loopw [19] (fun v wr => ∃ (i : Nat) (y : Int) (l : Ls) (R : List Int), i ≤ j ∧ y = (i : Int) + 1 ∧ v = .int .i64 y ∧ Nx (j + i) w wr q c l (.slice a3 x.length n3) x ∧ Mv c j s x i l R) (fun i _ => j + 1 - (intOf i).toNat)
          case atStart => exact ⟨0, 1, l, [], Nat.zero_le _, rfl, rfl, HN.out, HM0.out⟩
          clear HN HM0
          case round =>
            obtain ⟨i, y, l, R, hi, hy, rfl, hn, hmv⟩ := hrel
            by_cases hlt2 : i < j
            · have hyI : y ≤ (j : Int) := by omega
              have hy0 : 1 ≤ y := by omega
              have d2 : decide (y ≤ (j : Int)) = true := decide_eq_true hyI
              have hey : y = ((i + 1 : Nat) : Int) := by omega
              obtain ⟨m1, m2, R2, m3⟩ := hmv.next hkc H8.out hlt2
              rw [← hey] at m1 m2 m3
              have hP := Nx.move hn (by omega) H1.out y (2 ^ s) (by rw [HG.out.1]; have := HG.out.2; omega)
              rw [m1, m2] at hP
              rw [HG.out.1] at hP m3
              obtain ⟨l2, hl2⟩ : ∃ l2, mvL c l y g = l2 := ⟨_, rfl⟩
              rw [hl2] at hP m3
              have HP := Lib.hid hP
              have HM := Lib.hid m3
              have HY := Lib.hid hy
              clear hn hmv hP m1 m2 m3 hl2 hey hy
              go_wp2_with (go_at_call 11; (with_reducible refine HP.out.mono ?_); rintro e w4 ⟨rfl, hx4⟩; have H4 := Lib.hid hx4; clear hx4)
              go_roundw
              case rel => exact ⟨i + 1, y + 1, l2, R2, by omega, by have := HY.out; omega, by go_num, H4.out, HM.out⟩
              case measure => have := HY.out; simp [intOf]; omega
            · obtain rfl : i = j := by omega
              have hyI : ¬ y ≤ (i : Int) := by omega
              have d2 : decide (y ≤ (i : Int)) = false := decide_eq_false hyI
              have hT := Nx.two hn (by omega) (s : Int)
              rw [lst_nat hkc] at hT
              have hdone := hmv.done hkc H8.out
              have hlk := hmv.lk
              have hri := rising (was := x) hmv.up
              rw [← hlk, hdone] at hri
              have hxl : x.length ≤ i := by rw [hlk, List.length_append] at hdone; omega
              have hold : ∀ e, e < x.length → (l s).getD e 0 = x.getD e 0 := fun e he => by rw [hlk, getD_app_old _ _ _ he]
              rw [hdone] at hT
              have hbel := hn.bel
              obtain ⟨a5, n5, e5, h5⟩ := hn.cells
              injection e5 with e51 e52 e53
              subst e51
              obtain ⟨X, hX⟩ : ∃ X, l s = X := ⟨_, rfl⟩
              rw [hX] at hT hri hold
              have HT := Lib.hid hT
              have HR := Lib.hid (And.intro hri (And.intro hold h5))
              have HB := Lib.hid hbel
              have hxI : (x.length : Int) ≤ (i : Int) := by omega
              clear hn hmv hT hdone hlk hri hold hbel h5 e52 e53 hX hy hi hlt2
              go_wp2_with (go_at_call 24; (with_reducible refine HT.out.mono ?_); rintro e w5 ⟨hb5, a6, n6, rfl, h6⟩; have HC := Lib.hid h6; have HB5 := Lib.hid hb5; clear h6 hb5)
              have HW5 : Hid (∀ e, e < x.length → ∃ g o, a3 = some ⟨g, o, none⟩ ∧ w5.cell? ⟨g, o + e, none⟩ = some (.int .i64 (X.getD e 0))) := Lib.hid (fun e he => by
                obtain ⟨g, o, e1, e2⟩ := HR.out.2.2 e he
                refine ⟨g, o, e1, ?_⟩
                rw [HR.out.2.1 e he]
                exact (HB5.out.cell (p := ⟨g, o + e, none⟩) (cell_lt e2)).trans e2)
              have HL5 : Hid (Below w.heap.size w w5) := Lib.hid (HB.out.trans (HB5.out.mono HB.out.size))
              have hiI : (i : Int) < 60 := by omega
              go_loopw [23] (fun v wr => ∃ e : Nat, e ≤ x.length ∧ v = .int .i64 (e : Int) ∧ Below w5.heap.size w5 wr) (fun v _ => x.length - (intOf v).toNat)
              case atStart => exact ⟨0, Nat.zero_le _, rfl, Below.refl _ _⟩
              case round =>
                obtain ⟨e, he, rfl, hb⟩ := hrel
                by_cases hlt3 : e < x.length
                · have hltI : (e : Int) < (x.length : Int) := by omega
                  have hltI2 : (e : Int) < (i : Int) := by omega
                  have hlt4 : e < i := by omega
                  obtain ⟨g1, o1, rfl, c1⟩ := HW5.out e hlt3
                  obtain ⟨g2, o2, rfl, c2⟩ := HC.out e hlt4
                  replace c1 := (hb.cell (p := ⟨g1, o1 + e, none⟩) (cell_lt c1)).trans c1
                  replace c2 := (hb.cell (p := ⟨g2, o2 + e, none⟩) (cell_lt c2)).trans c2
                  have d5 : (X.getD e 0 != X.getD e 0) = false := by simp
                  have HD := Lib.hid hb.drew
                  generalize X.getD e 0 = r at *
                  clear hb
                  go_wp2
                  go_region
                  go_wp2
                  go_roundw
                  case rel => exact ⟨e + 1, by omega, by go_num, HD.out⟩
                  case measure => simp [intOf]; omega
                · obtain rfl : e = x.length := by omega
                  have HD := Lib.hid hb
                  clear hb he hlt3
                  go_wp2
                  go_loopw [24] (fun v wr => ∃ f : Nat, x.length ≤ f ∧ f ≤ i ∧ v = .int .i64 ((f : Int) + 1) ∧ Below w5.heap.size w5 wr) (fun v _ => i + 1 - (intOf v).toNat)
                  case atStart => exact ⟨x.length, Nat.le_refl _, by omega, rfl, HD.out⟩
                  case round =>
                    obtain ⟨f, hf, hfi, rfl, hb⟩ := hrel
                    by_cases hlt3 : f + 1 < i
                    · have hltI : (f : Int) + 1 < (i : Int) := by omega
                      have hltI2 : (f : Int) < (i : Int) := by omega
                      have hlt4 : f < i := by omega
                      obtain ⟨g1, o1, rfl, c1⟩ := HC.out (f + 1) hlt3
                      obtain ⟨g2, o2, e3, c2⟩ := HC.out f hlt4
                      obtain ⟨rfl, rfl⟩ : g2 = g1 ∧ o2 = o1 := by injection e3 with h; injection h with h1 h2; exact ⟨h1.symm, h2.symm⟩
                      have hr := HR.out.1 (f + 1) (by omega) hlt3
                      rw [Nat.add_sub_cancel] at hr
                      have hd : decide (X.getD (f + 1) 0 ≤ X.getD f 0) = false := decide_eq_false (by omega)
                      replace c1 := (hb.cell (p := ⟨g2, o2 + (f + 1), none⟩) (cell_lt c1)).trans c1
                      replace c2 := (hb.cell (p := ⟨g2, o2 + f, none⟩) (cell_lt c2)).trans c2
                      have HDr := Lib.hid hb.drew
                      generalize X.getD (f + 1) 0 = r1 at *
                      generalize X.getD f 0 = r2 at *
                      clear hb e3 hr
                      go_wp2
                      go_region
                      go_wp2
                      go_roundw
                      case rel => exact ⟨f + 1, by omega, by omega, by go_num, HDr.out⟩
                      case measure => simp [intOf]; omega
                    · have hltI : ¬ (f : Int) + 1 < (i : Int) := by omega
                      have HDr := Lib.hid (HL5.out.trans (hb.mono HL5.out.size))
                      have d6 : decide ((f : Int) + 1 < (i : Int)) = false := decide_eq_false hltI
                      clear hb hf hfi
                      go_wp2
                      go_ret
                      exact ⟨rfl, HDr.out⟩
end Go.Proofs.Ytkjmpkoogjbjnaa.Qut
namespace Go.Proofs.Ytkjmpkoogjbjnaa.Walk
open Go Go.RowKit Kit
theorem queueSpreads (z0 m t : Int) (w : World) (w0 : (Lit.int .i64 z0).wf = true) (w1 : (Lit.int .u8 m).wf = true) (w2 : (Lit.int .u8 t).wf = true) : Calls Try.prog 7 #[.int .i64 z0, .int .u8 m, .int .u8 t] w fun e w' => e = .returned (.bool true) ∧ Below w.heap.size w w' := by
  obtain ⟨m, rfl, hm⟩ := u8_nat w1
  obtain ⟨t, rfl, ht⟩ := u8_nat w2
  by_cases hz : 1 ≤ z0 ∧ z0 ≤ 8
  · obtain ⟨c, rfl⟩ : ∃ c : Nat, z0 = (c : Int) := ⟨z0.toNat, by omega⟩
    exact Qut.spreads_good c m t w hm ht (by omega) (by omega)
  · exact Qut.spreads_bad z0 m t w (by omega)
end Go.Proofs.Ytkjmpkoogjbjnaa.Walk
