/-
  QueueTurns: the walk.
-/
import Derived.Test.YtkjmpkoogjbjnaaQuq
import Derived.Test.YtkjmpkoogjbjnaaQup
namespace Go.Proofs.Ytkjmpkoogjbjnaa.Qur
open Go Go.RowKit Go.Shelf Kit Bk Qua Qub Quc Qud Que Quf Qug Quh Qui Quj Quk Qul Qum Qun Quq Qup
set_option linter.unusedVariables false

/-- The queues, and a list that was answered, which they don't touch. -/
def Nx (N : Nat) (w0 w : World) (q c : Nat) (l : Ls) (u : Value) (x : List Int) : Prop := ∃ F G, St F N w0 w q c l ∧ Rw w u G x ∧ ∀ g, G = some g → F g
variable {F : Nat → Prop} {N : Nat} {w0 w w' : World} {q c : Nat} {l : Ls} {u : Value} {x : List Int}
theorem Nx.bel (h : Nx N w0 w q c l u x) : Below w0.heap.size w0 w := by obtain ⟨F, G, h, _⟩ := h; exact h.bel
theorem Nx.form (h : Nx N w0 w q c l u x) : ∃ a n, u = .slice a x.length n := by obtain ⟨F, G, _, h, _⟩ := h; obtain ⟨a, n, e, _⟩ := h.form; exact ⟨a, n, e⟩
theorem Nx.cells (h : Nx N w0 w q c l u x) : ∃ a n, u = .slice a x.length n ∧ ∀ i, i < x.length → ∃ g o, a = some ⟨g, o, none⟩ ∧ w.cell? ⟨g, o + i, none⟩ = some (.int .i64 (x.getD i 0)) := by
  obtain ⟨F, G, _, h, _⟩ := h
  obtain ⟨a, n, e, _, _, h4⟩ := Quf.Rw.cells h
  exact ⟨a, n, e, h4⟩
theorem Nx.below (h : Nx N w0 w q c l u x) (hb : Below w.heap.size w w') : Nx N w0 w' q c l u x := by
  obtain ⟨F, G, h1, h2, h3⟩ := h
  exact ⟨F, G, h1.below hb, h2.below hb, h3⟩
theorem Nx.rotate (h : Nx N w0 w q c l u x) (hN : N ≤ 90000) (z : Int) : Calls Try.prog 15 #[pv q, .int .i64 z] w fun e w' => e = .returned (.bool (rtB c l z)) ∧ Nx N w0 w' q c (rtL c l z) u x := by
  obtain ⟨F, G, h1, h2, h3⟩ := h
  refine (rotate_st h1 hN z).mono ?_
  rintro e w' ⟨rfl, g1, g2⟩
  exact ⟨rfl, F, G, g1, h2.kept g2 (fun g e e2 => e2 (h3 g e)), h3⟩
theorem Nx.cut (h : Nx N w0 w q c l u x) (p : Int) : Calls Try.prog 13 #[pv q, .int .i64 p] w fun e w' => e = .returned (.bool (ctB c l p)) ∧ Nx N w0 w' q c (ctL c l p) u x := by
  obtain ⟨F, G, h1, h2, h3⟩ := h
  refine (cut_st h1 p).mono ?_
  rintro e w' ⟨rfl, g1, g2⟩
  exact ⟨rfl, F, G, g1, h2.kept g2 (fun g e e2 => e2 (h3 g e)), h3⟩
theorem Nx.where (h : Nx N w0 w q c l u x) (p : Int) : Calls Try.prog 17 #[pv q, .int .i64 p] w fun e w' => e = .returned (.int .i64 (wh c l p)) ∧ w = w' := by
  obtain ⟨F, G, h1, h2, h3⟩ := h
  exact where_st h1 p
theorem Nx.pick (h : Nx N w0 w q c l u x) (hN : N ≤ 90000) (z : Int) (n : Nat) (hn : n < 4294967296) : Calls Try.prog 26 #[pv q, .int .i64 z, uv n] w fun e w' => e = .returned (.int .i64 (pk c l z n)) ∧ w = w' := by
  obtain ⟨F, G, h1, h2, h3⟩ := h
  exact pick_st h1 hN z n hn
theorem Nx.all (h : Nx N w0 w q c l u x) (hN : N ≤ 10000) : Calls Try.prog 22 #[pv q] w fun e w' => Below w.heap.size w w' ∧ ∃ a n, e = .returned (.slice a (tot l) n) := by
  obtain ⟨F, G, h1, h2, h3⟩ := h
  refine (all_st h1 hN).mono ?_
  rintro e w' ⟨hb, u, G, rfl, hr, _⟩
  obtain ⟨a, n, rfl, _⟩ := hr.form
  rw [al_len]
  exact ⟨hb, a, n, rfl⟩
/-- A list is answered, and held against the one that was. -/
theorem Nx.list (h : Nx N w0 w q c l u x) (hN : N ≤ 90000) (z : Int) : Calls Try.prog 24 #[pv q, .int .i64 z] w fun e w' => Nx N w0 w' q c l u x ∧ ∃ a n, e = .returned (.slice a (lst c l z).length n) ∧ Calls Try.prog 21 #[.slice a (lst c l z).length n, u] w' fun e w'' => e = .returned (.bool (decide (lst c l z = x))) ∧ Below w'.heap.size w' w'' := by
  obtain ⟨F, G, h1, h2, h3⟩ := h
  refine (list_st h1 hN z).mono ?_
  rintro e w' ⟨hb, u2, G2, rfl, hr, _⟩
  obtain ⟨a, n, rfl, _⟩ := hr.form
  exact ⟨⟨F, G, h1.below hb, h2.below hb, h3⟩, a, n, rfl, same_any _ _ _ _ _ _ _ hr (h2.below hb)⟩
theorem St.was (h : St (fun _ => False) N w0 w q c l) (hN : N ≤ 90000) (z : Int) : Calls Try.prog 24 #[pv q, .int .i64 z] w fun e w' => ∃ a n, e = .returned (.slice a (lst c l z).length n) ∧ Nx N w0 w' q c l (.slice a (lst c l z).length n) (lst c l z) := by
  refine (list_st h hN z).mono ?_
  rintro e w' ⟨hb, u, G, rfl, hr, hg⟩
  obtain ⟨a, n, rfl, _⟩ := hr.form
  exact ⟨a, n, rfl, _, G, h.adopt hb, hr, fun g e => .inr ⟨hg g e, hr.lt g e⟩⟩

theorem lst_rt {z : Int} : lst c (rtL c l z) z = if rtB c l z = true then rot (lst c l z) else lst c l z := by
  unfold rtL
  split
  · rename_i hb
    have hz := rt_in hb
    unfold lst
    rw [if_pos hz, if_pos hz, up_same]
  · rfl
/-- A list that was turned j times. -/
def trn (x : List Int) (j : Nat) : List Int := if 2 ≤ x.length then x.drop j ++ x.take j else x
theorem trn_len (x : List Int) (j : Nat) : (trn x j).length = x.length := by
  unfold trn
  split
  · simp; omega
  · rfl
theorem trn_zero (x : List Int) : trn x 0 = x := by unfold trn; split <;> simp
theorem trn_all (x : List Int) : trn x x.length = x := by unfold trn; split <;> simp
theorem trn_next (x : List Int) (j : Nat) (hj : j < x.length) : (if decide (2 ≤ (trn x j).length) = true then rot (trn x j) else trn x j) = trn x (j + 1) := by
  rw [trn_len]
  unfold trn
  by_cases h2 : 2 ≤ x.length
  · rw [if_pos (decide_eq_true h2), if_pos h2, if_pos h2]
    unfold rot
    have e1 : x.drop j = x[j] :: x.drop (j + 1) := List.drop_eq_getElem_cons hj
    rw [e1, List.take_succ_eq_append_getElem hj]
    exact List.append_assoc _ _ _
  · rw [if_neg (by simpa using h2), if_neg h2, if_neg h2]
theorem pk_is (z : Int) (i : Nat) (hi : i < (lst c l z).length) : pk c l z i = (lst c l z).getD i 0 := by
  unfold pk
  rw [Nat.mod_eq_of_lt hi]
  rfl
theorem cut_none (h : Ok c l) (p : Int) : whN c (ctL c l p) p = none := (h.cut p).wh_none (fun k hk => ((mem_cut h).1 hk).2 rfl)

theorem ops_cells {v : Value} {ops : List Opr} (h : OpsAt w v ops) : ∃ a n, v = .slice a ops.length n ∧ ∀ W, Below w.heap.size w W → ∀ i (hi : i < ops.length), ∃ b off, a = some ⟨b, off, none⟩ ∧ W.cell? ⟨b, off + i * 4, none⟩ = some (.int .i64 ops[i].kind) ∧ W.cell? ⟨b, off + i * 4 + 1, none⟩ = some (.int .i64 ops[i].p) ∧ W.cell? ⟨b, off + i * 4 + 2, none⟩ = some (.int .i64 ops[i].z) ∧ W.cell? ⟨b, off + i * 4 + 3, none⟩ = some (uv ops[i].m) ∧ ops[i].m < 4294967296 := by
  obtain ⟨a, n, e, _, _, h4⟩ := h
  refine ⟨a, n, e, fun W hb i hi => ?_⟩
  rcases h4 with rfl | ⟨b, off, rfl, hlt, h5⟩
  · exact absurd hi (Nat.not_lt_zero _)
  · obtain ⟨⟨c0, c1, c2, c3⟩, hm⟩ := (h5 i hi).below hlt hb
    exact ⟨b, off, rfl, c0, c1, c2, c3, hm⟩
theorem new_gen (w : World) (z : Int) : Calls Try.prog 8 #[.int .i64 z] w fun e w' => (∃ (a : Option Addr) (e0 : Int), e = .returned (.tuple #[.pointer a, .int .i64 e0])) ∧ Below w.heap.size w w' := by
  by_cases h : 1 ≤ z ∧ z ≤ 8
  · obtain ⟨k, rfl⟩ : ∃ k : Nat, z = (k : Int) := ⟨z.toNat, by omega⟩
    refine (new_ok w k (by omega) (by omega)).mono ?_
    rintro e w' ⟨rfl, hb, _⟩
    exact ⟨⟨_, _, rfl⟩, hb⟩
  · refine (new_bad w z (by omega)).mono ?_
    rintro e w' ⟨rfl, rfl⟩
    exact ⟨⟨_, _, rfl⟩, Below.refl _ _⟩
theorem turns_great (z0 : Int) (v : Value) (ops : List Opr) (z p : Int) (w : World) (hops : OpsAt w v ops) (hl : 60 < ops.length) : Calls Try.prog 6 #[.int .i64 z0, v, .int .i64 z, .int .i64 p] w fun e w' => e = .returned (.bool true) ∧ Below w.heap.size w w' := by
  obtain ⟨a, n, rfl, hx⟩ := ops_cells hops
  clear hx
  have HA := Lib.hid (alive_any w)
  have d0 : decide ((60 : Int) < (ops.length : Int)) = true := decide_eq_true (by omega)
  have d1 : decide (60 < ops.length) = true := decide_eq_true hl
  clear hops
  generalize ops.length = L at *
  clear hl
  go_enter Try.func6, Try.ntmps6
  go_wp2_with (first | (go_at_call 29; (with_reducible refine HA.out.mono ?_); rintro e w1 ⟨rfl, hb⟩; have HN := Lib.hid (new_gen w1 z0); have HB := Lib.hid hb; clear hb) | (go_at_call 8; (with_reducible refine HN.out.mono ?_); rintro e w2 ⟨⟨x1, x2, rfl⟩, hb⟩; replace HB := Lib.hid (HB.out.trans (hb.mono HB.out.size)); clear hb))
  go_ret
  exact ⟨rfl, HB.out⟩
theorem turns_bad (z0 : Int) (v : Value) (ops : List Opr) (z p : Int) (w : World) (hops : OpsAt w v ops) (hl : ops.length ≤ 60) (hz : z0 < 1 ∨ 8 < z0) : Calls Try.prog 6 #[.int .i64 z0, v, .int .i64 z, .int .i64 p] w fun e w' => e = .returned (.bool true) ∧ Below w.heap.size w w' := by
  obtain ⟨a, n, rfl, hx⟩ := ops_cells hops
  clear hx
  have HA := Lib.hid (alive_any w)
  have d0 : decide ((60 : Int) < (ops.length : Int)) = false := decide_eq_false (by omega)
  have d1 : decide (60 < ops.length) = false := decide_eq_false (by omega)
  clear hops
  generalize ops.length = L at *
  clear hl
  go_enter Try.func6, Try.ntmps6
  go_wp2_with (first | (go_at_call 29; (with_reducible refine HA.out.mono ?_); rintro e w1 ⟨rfl, hb⟩; have HN := Lib.hid (new_bad w1 z0 hz); have HB := Lib.hid hb; clear hb) | (go_at_call 8; (with_reducible refine HN.out.mono ?_); rintro e w2 ⟨rfl, rfl⟩))
  go_ret
  exact ⟨rfl, HB.out⟩
set_option maxHeartbeats 4000000 in
set_option maxRecDepth 100000 in
theorem turns_good (c : Nat) (v : Value) (ops : List Opr) (z p : Int) (w : World) (hops : OpsAt w v ops) (hl : ops.length ≤ 60) (h1 : 1 ≤ c) (h8 : c ≤ 8) : Calls Try.prog 6 #[.int .i64 (c : Int), v, .int .i64 z, .int .i64 p] w fun e w' => e = .returned (.bool true) ∧ Below w.heap.size w w' := by
  obtain ⟨a, n, rfl, hcell⟩ := ops_cells hops
  have HA := Lib.hid (alive_any w)
  have HC := Lib.hid hcell
  have H1 := Lib.hid h1
  have HLn := Lib.hid hl
  have d0 : decide ((60 : Int) < (ops.length : Int)) = false := decide_eq_false (by omega)
  have d1 : decide (60 < ops.length) = false := decide_eq_false (by omega)
  have hlI : (ops.length : Int) ≤ 60 := by omega
  clear hops hcell hl
  go_enter Try.func6, Try.ntmps6
  go_wp2_with (first | (go_at_call 29; (with_reducible refine HA.out.mono ?_); rintro e w1 ⟨rfl, hb⟩; have HN := Lib.hid (new_st w1 c h1 h8); have HB := Lib.hid hb; clear hb h1 h8) | (go_at_call 8; (with_reducible refine HN.out.mono ?_); rintro e w2 ⟨rfl, hst⟩; have HS := Lib.hid hst; clear hst))
  clear d0 d1
  have HS0 : Hid (St (fun _ => False) 0 w w2 w1.heap.size c NoL) := Lib.hid (by
    obtain ⟨S, g1, g2, g3, g4, g5⟩ := HS.out
    exact ⟨S, g1, fun j e => Nat.le_trans HB.out.size (g2 j e), HB.out.trans (g3.mono HB.out.size), g4, g5⟩)
  generalize hq : w1.heap.size = q at *
  clear hq HS HB
  go_loopw [12] (fun i wr => ∃ (j : Nat) (l : Ls), j ≤ ops.length ∧ i = .int .i64 (j : Int) ∧ St (fun _ => False) j w wr q c l ∧ Ok c l) (fun i _ => ops.length - (intOf i).toNat)
  case atStart => exact ⟨0, NoL, Nat.zero_le _, rfl, HS0.out, ok_nol c⟩
  case round =>
    obtain ⟨j, l, hj, rfl, hst, hok⟩ := hrel
    by_cases hlt : j < ops.length
    · have hltI : (j : Int) < (ops.length : Int) := by omega
      obtain ⟨b, off, rfl, c0, c1, c2, c3, hm⟩ := HC.out wr hst.bel j hlt
      have hl60 := HLn.out
      have hP := place_st (hst.below (Below.refl _ _).drew) (by omega) H1.out ops[j].p ops[j].z ops[j].m hm
      have HP := Lib.hid hP
      have HO := Lib.hid hok
      generalize hx : ops[j] = x at *
      have hmI : (x.m : Int) < 4294967296 := by omega
      clear hst hok hP c0 hx hl60
      obtain ⟨xk, xp, xz, xm⟩ := x
      dsimp only at *
      go_wp2
      go_region_with (go_at_call 9; (with_reducible refine HP.out.mono ?_); rintro e w3 ⟨rfl, hs3, -⟩; have H3 := Lib.hid hs3; clear hs3)
      all_goals
        go_wp2
        go_roundw
        case rel => exact ⟨j + 1, _, by omega, by go_num, H3.out, HO.out.place _ _ _⟩
        case measure => simp [intOf]; omega
    · obtain rfl : j = ops.length := by omega
      have hl60 := HLn.out
      have HW := Lib.hid (St.was hst (by omega) z)
      have HO := Lib.hid (And.intro hok hst.c8)
      have hx90 : (lst c l z).length ≤ 60 := by
        unfold lst
        split
        · exact Nat.le_trans (hst.len _) hl60
        · simp
      have hpk : ∀ i, i < (lst c l z).length → pk c l z i = (lst c l z).getD i 0 := fun i hi => pk_is z i hi
      have hrt : Hid (∀ l', rtB c l' z = decide (2 ≤ (lst c l' z).length)) := Lib.hid (fun l' => rfl)
      have hX : Hid (lst c l z = lst c l z) := Lib.hid rfl
      generalize hxe : lst c l z = x at HW hx90 hpk
      have HX := Lib.hid hxe
      have HPk := Lib.hid hpk
      have hxI : (x.length : Int) ≤ 60 := by omega
      clear hst hok hl60 hX hpk hxe hx90 hj hlt HC
      go_wp2_with (go_at_call 24; (with_reducible refine HW.out.mono ?_); rintro e w3 ⟨a3, n3, rfl, hx3⟩; have H3 := Lib.hid hx3; clear hx3)
      go_loopw [14] (fun i wr => ∃ (j : Nat), j ≤ x.length ∧ i = .int .i64 (j : Int) ∧ Nx ops.length w wr q c l (.slice a3 x.length n3) x) (fun i _ => x.length - (intOf i).toNat)
      case atStart => exact ⟨0, Nat.zero_le _, rfl, H3.out⟩
      case round =>
        obtain ⟨j, hj, rfl, hn⟩ := hrel
        by_cases hlt : j < x.length
        · have hltI : (j : Int) < (x.length : Int) := by omega
          have hd := hn.below (Below.refl wr.heap.size wr).drew
          have HP := hd.pick (by have := HLn.out; omega) z j (by omega)
          rw [HPk.out j hlt] at HP
          replace HP := Lib.hid HP
          obtain ⟨a4, n4, e4, h4⟩ := hn.cells
          injection e4 with e41 e42 e43
          subst e41
          obtain ⟨g, o, rfl, cg⟩ := h4 j hlt
          have ew : IntKind.wrap .u32 (j : Int) = (j : Int) := by
            simp [IntKind.wrap, IntKind.bits, IntKind.signed]
            omega
          have HD := Lib.hid hd
          have d3 : (x.getD j 0 != x.getD j 0) = false := by simp
          generalize x.getD j 0 = y at *
          clear hn hd h4 e43 e42
          go_wp2
          go_region_with (go_at_call 26; (with_reducible refine HP.out.mono ?_); rintro e w4 ⟨rfl, rfl⟩)
          all_goals
            go_wp2
            go_roundw
            case rel => exact ⟨j + 1, by omega, by go_num, HD.out⟩
            case measure => simp [intOf]; omega
        · obtain rfl : j = x.length := by omega
          have hx0 := HX.out
          have hok := HO.out.1
          clear hj hlt
          have HN := Lib.hid hn
          clear hn
          go_wp2
          go_loopw [15] (fun i wr => ∃ (j : Nat) (l' : Ls), j ≤ x.length ∧ i = .int .i64 (j : Int) ∧ Nx ops.length w wr q c l' (.slice a3 x.length n3) x ∧ Ok c l' ∧ lst c l' z = trn x j) (fun i _ => x.length - (intOf i).toNat)
          case atStart => exact ⟨0, l, Nat.zero_le _, rfl, HN.out, hok, by rw [hx0, trn_zero]⟩
          clear hx0 hok
          case round =>
            obtain ⟨j, l', hj, rfl, hn, hok, hlt'⟩ := hrel
            by_cases hlt : j < x.length
            · have hltI : (j : Int) < (x.length : Int) := by omega
              have hB : rtB c l' z = decide (2 ≤ x.length) := by unfold rtB; rw [hlt', trn_len]
              have HR := hn.rotate (by have := HLn.out; omega) z
              rw [hB] at HR
              have hnx : lst c (rtL c l' z) z = trn x (j + 1) := by
                rw [lst_rt, ← trn_next x j hlt, ← hlt']
                rfl
              have HE := Lib.hid (And.intro (hok.rotate z) hnx)
              by_cases h2 : 2 ≤ x.length
              · have e2 : decide (2 ≤ x.length) = true := decide_eq_true h2
                have d4 : decide ((1 : Int) < (x.length : Int)) = true := decide_eq_true (by omega)
                have d5 : decide (1 < x.length) = true := decide_eq_true (by omega)
                rw [e2] at HR
                replace HR := Lib.hid HR
                clear hn hok hlt' hB hnx h2 e2
                go_wp2_with (go_at_call 15; (with_reducible refine HR.out.mono ?_); rintro e w4 ⟨rfl, hx4⟩; have H4 := Lib.hid hx4; clear hx4)
                go_roundw
                case rel => exact ⟨j + 1, _, by omega, by go_num, H4.out, HE.out.1, HE.out.2⟩
                case measure => simp [intOf]; omega
              · have e2 : decide (2 ≤ x.length) = false := decide_eq_false h2
                have d4 : decide ((1 : Int) < (x.length : Int)) = false := decide_eq_false (by omega)
                have d5 : decide (1 < x.length) = false := decide_eq_false (by omega)
                rw [e2] at HR
                replace HR := Lib.hid HR
                clear hn hok hlt' hB hnx h2 e2
                go_wp2_with (go_at_call 15; (with_reducible refine HR.out.mono ?_); rintro e w4 ⟨rfl, hx4⟩; have H4 := Lib.hid hx4; clear hx4)
                go_roundw
                case rel => exact ⟨j + 1, _, by omega, by go_num, H4.out, HE.out.1, HE.out.2⟩
                case measure => simp [intOf]; omega
            · obtain rfl : j = x.length := by omega
              rw [trn_all] at hlt'
              have HLs : Hid (Calls Try.prog 24 #[pv q, .int .i64 z] wr fun e w' => Nx ops.length w w' q c l' (.slice a3 x.length n3) x ∧ ∃ a n, e = .returned (.slice a x.length n) ∧ Calls Try.prog 21 #[.slice a x.length n, .slice a3 x.length n3] w' fun e w'' => e = .returned (.bool true) ∧ Below w'.heap.size w' w'') := Lib.hid (by
                have := hn.list (by have := HLn.out; omega) z
                rw [hlt'] at this
                rw [show decide (x = x) = true by simp] at this
                exact this)
              obtain ⟨B, wv, L2, T2, e1, e2, e3, e4, e5, e6, e7, e8, e9⟩ : ∃ (B : Bool) (wv : Int) (L2 : Ls) (T2 : Nat), wh c l' p = wv ∧ decide (0 ≤ wv) = B ∧ ctB c l' p = B ∧ ctL c l' p = L2 ∧ wh c L2 p = -1 ∧ ctB c L2 p = false ∧ ctL c L2 p = L2 ∧ tot L2 = T2 ∧ ((B = true ∧ tot l' = T2 + 1) ∨ (B = false ∧ tot l' = T2)) := by
                have hnone := cut_none hok p
                have ht := tot_cut (l := l') HO.out.2 p
                refine ⟨_, _, _, _, rfl, rfl, ?_, rfl, wh_eq_none hnone, by unfold ctB; rw [hnone]; rfl, ?_, rfl, ?_⟩
                · unfold ctB wh
                  cases whN c l' p with
                  | none => rfl
                  | some k => exact (decide_eq_true (by omega : (0 : Int) ≤ (k : Int))).symm
                · show ctL c (ctL c l' p) p = ctL c l' p
                  generalize ctL c l' p = l2 at *
                  unfold ctL
                  rw [hnone]
                · cases hk : whN c l' p with
                  | none =>
                    right
                    rw [wh_eq_none hk]
                    refine ⟨rfl, ?_⟩
                    unfold ctB at ht
                    rw [hk] at ht
                    simpa using ht.symm
                  | some k =>
                    left
                    rw [wh_eq_some hk]
                    refine ⟨decide_eq_true (by omega), ?_⟩
                    unfold ctB at ht
                    rw [hk] at ht
                    simpa using ht.symm
              have hT : T2 ≤ 8 * ops.length := by
                have hc := hn.cut p
                rw [← e8, ← e4]
                obtain ⟨F, G, hs, _⟩ := hn
                refine flat_len _ _ (fun k => Nat.le_trans (ctL_len c l' p k) (hs.len k))
              have hN1 := HLn.out
              have E := Lib.hid (And.intro e1 (And.intro e3 (And.intro e4 (And.intro e5 (And.intro e6 (And.intro e7 e8))))))
              have HN10 : Hid (ops.length ≤ 10000) := Lib.hid (by omega)
              clear e1 e3 e4 e5 e6 e7 e8 hn hok hlt' hj hlt
              have hTI : (T2 : Int) ≤ 480 := by omega
              clear hT hN1
              rcases e9 with ⟨rfl, e9⟩ | ⟨rfl, e9⟩
              all_goals
                have E9 := Lib.hid e9
                clear e9
                go_wp2_with (first
                  | (go_at_call 24; (with_reducible refine HLs.out.mono ?_); rintro e w5 ⟨hx5, a5, n5, rfl, hsm⟩; have HSm := Lib.hid hsm; have H5 := Lib.hid hx5; clear hsm hx5)
                  | (go_at_call 21; (with_reducible refine HSm.out.mono ?_); rintro e w6 ⟨rfl, hb⟩; have H6 := Lib.hid (H5.out.below hb); have hwh := H6.out.where p; rw [E.out.1] at hwh; have HWh := Lib.hid hwh; have hal := H6.out.all HN10.out; rw [E9.out] at hal; have HAl := Lib.hid hal; clear hb hwh hal)
                  | (go_at_call 17; first
                    | ((with_reducible refine HWh.out.mono ?_); rintro e w7 ⟨rfl, rfl⟩)
                    | ((with_reducible refine HWh2.out.mono ?_); rintro e w7 ⟨rfl, rfl⟩))
                  | (go_at_call 22; first
                    | ((with_reducible refine HAl.out.mono ?_); rintro e w8 ⟨hb, a8, n8, rfl⟩; have H8 := Lib.hid (H6.out.below hb); have hct := H8.out.cut p; rw [E.out.2.1, E.out.2.2.1] at hct; have HCt := Lib.hid hct; clear hb hct)
                    | ((with_reducible refine HAl2.out.mono ?_); rintro e w11 ⟨hb, a11, n11, rfl⟩; have H11 := Lib.hid (H10.out.below hb); clear hb))
                  | (go_at_call 13; first
                    | ((with_reducible refine HCt.out.mono ?_); rintro e w9 ⟨rfl, hx9⟩; have H9 := Lib.hid hx9; have hwh := H9.out.where p; rw [E.out.2.2.2.1] at hwh; have HWh2 := Lib.hid hwh; have hct := H9.out.cut p; rw [E.out.2.2.2.2.1, E.out.2.2.2.2.2.1] at hct; have HCt2 := Lib.hid hct; clear hx9 hwh hct)
                    | ((with_reducible refine HCt2.out.mono ?_); rintro e w10 ⟨rfl, hx10⟩; have H10 := Lib.hid hx10; have hal := H10.out.all HN10.out; rw [E.out.2.2.2.2.2.2] at hal; have HAl2 := Lib.hid hal; clear hx10 hal)))
              · go_ret
                exact ⟨rfl, H11.out.bel⟩
              · go_ret
                exact ⟨rfl, H11.out.bel⟩
end Go.Proofs.Ytkjmpkoogjbjnaa.Qur
namespace Go.Proofs.Ytkjmpkoogjbjnaa.Walk
open Go Go.RowKit Kit Qup
theorem queueTurns (z0 : Int) (v : Value) (ops : List Opr) (z p : Int) (w : World) (w0 : (Lit.int .i64 z0).wf = true) (h : OpsAt w v ops) (_ : (Lit.int .i64 z).wf = true) (_ : (Lit.int .i64 p).wf = true) : Calls Try.prog 6 #[.int .i64 z0, v, .int .i64 z, .int .i64 p] w fun e w' => e = .returned (.bool true) ∧ Below w.heap.size w w' := by
  by_cases hl : ops.length ≤ 60
  · by_cases hz : 1 ≤ z0 ∧ z0 ≤ 8
    · obtain ⟨c, rfl⟩ : ∃ c : Nat, z0 = (c : Int) := ⟨z0.toNat, by omega⟩
      exact Qur.turns_good c v ops z p w h hl (by omega) (by omega)
    · exact Qur.turns_bad z0 v ops z p w h hl (by omega)
  · exact Qur.turns_great z0 v ops z p w h (by omega)
end Go.Proofs.Ytkjmpkoogjbjnaa.Walk
