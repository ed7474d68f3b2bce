/-
  List tells just the pages of which Get tells one: PagesList.
-/
import Derived.Test.YtcmlcepdcpbdaaaPt
namespace Go.Proofs.Ytcmlcepdcpbdaaa.Lw
open Go Go.RowKit Kit Bk Tm Ts Tc Ti Tl Th Td Tq Tr Tn En Ov Gd Ho Pt
set_option linter.unusedVariables false

theorem bel_drewN {B : Nat} {a w : World} (h : Below B a w) (n : Nat) : Below B a (w.drewN n) := ⟨h.os, h.tape, h.output, h.size, h.block⟩
/-- Clean leaves as many. -/
theorem cln_len (T : Nat → Option En) : ∀ n, (ents (cln T) n).length = (ents T n).length
  | 0 => rfl
  | n + 1 => by
    have ih := cln_len T n
    cases hx : T n with
    | none =>
      have hr : cln T n = none := by unfold cln; rw [hx]; rfl
      rw [ents_none hx, ents_none hr, ih]
    | some x =>
      have hr : cln T n = some (und x) := by unfold cln; rw [hx]; rfl
      rw [ents_some hx, ents_some hr, List.length_append, List.length_append, ih]
      rfl
theorem cln_dty (T : Nat → Option En) : dty (cln T) = [] := by
  rw [List.eq_nil_iff_forall_not_mem]
  intro k hk
  obtain ⟨_, e, he, hd⟩ := dty_mem.1 hk
  unfold cln at he
  cases hx : T k with
  | none => rw [hx] at he; cases he
  | some x => rw [hx] at he; cases he; cases hd
/-- How many are dirty, below n. -/
def dn (T : Nat → Option En) (n : Nat) : Nat := (pgs (fun x => x.d) (ents T n)).length
theorem dn_none {T : Nat → Option En} {k : Nat} (h : T k = none) : dn T (k + 1) = dn T k := by unfold dn; rw [ents_none h]
theorem dn_yes {T : Nat → Option En} {k : Nat} {e : En} (h : T k = some e) (hd : e.d = true) : dn T (k + 1) = dn T k + 1 := by
  unfold dn
  rw [ents_some h, pgs_yes (x := (k, e)) hd, List.length_append]; rfl
theorem dn_no {T : Nat → Option En} {k : Nat} {e : En} (h : T k = some e) (hd : e.d = false) : dn T (k + 1) = dn T k := by
  unfold dn
  rw [ents_some h, pgs_no (x := (k, e)) hd]
theorem dn_le (T : Nat → Option En) (n : Nat) : dn T n ≤ n := Nat.le_trans (pgs_len _ _) (ents_len _ _)
theorem dirty_mem (W : World) (p : Nat) (T : Nat → Option En) (hM : Mem W p T) : Calls Try.prog 27 #[.pointer (some ⟨p, 0, none⟩)] W fun e w' => Below W.heap.size W w' ∧ ∃ r, e = .returned r ∧ Rd w' 3 r 1 (dty T).length (ints (dty T)) :=
  (dirty_any W _ T (gets_mem hM hM.lt)).mono fun e w' ⟨h1, r, h2, h3⟩ => ⟨h1, r, h2, Rd.of_own h3⟩
theorem ents_get {T : Nat → Option En} {k : Nat} {e : En} (hk : k < 64) (h : T k = some e) : ∃ hl : (ents T k).length < (ents T 64).length, (ents T 64)[(ents T k).length] = (k, e) := by
  have hl := ents_strict h hk
  refine ⟨hl, ?_⟩
  obtain ⟨q, e', h1, h2, h3, h4⟩ := ents_nth 64 _ hl
  rw [h4]
  rcases Nat.lt_trichotomy k q with h5 | h5 | h5
  · have := ents_strict h h5; omega
  · subst h5; rw [h] at h2; cases h2; rfl
  · have := ents_strict h2 h5; omega
set_option maxRecDepth 100000 in
set_option maxHeartbeats 4000000 in
theorem list_law (v : Value) (ops : List Opr) (w : World) (h : OpsAt w v ops) :
    Calls Try.prog 6 #[v] w fun e w' => e = .returned (.bool true) ∧ Below w.heap.size w w' := by
  have hva := list_long v ops w h
  by_cases hlen : ops.length ≤ 150
  case neg =>
    obtain ⟨a, cap, rfl⟩ := hva
    have d : decide ((150 : Int) < (ops.length : Int)) = true := decide_eq_true (by omega)
    clear h hlen
    go_enter Try.func6, Try.ntmps6
    go_wp2_with (first | (go_at_call 23; (with_reducible refine (alive_any _).mono ?_); rintro e w1 ⟨rfl, hb⟩))
    go_ret
    exact ⟨rfl, hb⟩
  case pos =>
    have HG : Hid (∀ w1, Below w.heap.size w w1 → _) := Lib.hid (fun w1 hb => grown_at v ops w w1 h hlen hb)
    obtain ⟨T, hT⟩ : ∃ T, acts (fun _ => none) ops = T := ⟨_, rfl⟩
    rw [hT] at HG
    obtain ⟨a, cap, rfl⟩ := hva
    have d : decide ((150 : Int) < (ops.length : Int)) = false := decide_eq_false (by omega)
    have hl : (ops.length : Int) ≤ 150 := by omega
    have hL := ents_len T 64
    have HLi : Hid (∀ W p, Mem W p T → _) := Lib.hid (fun W p hM => list_mem W p T hM)
    have HGet : Hid (∀ k e, k < 64 → T k = some e → ∃ hl : (ents T k).length < (ents T 64).length, (ents T 64)[(ents T k).length] = (k, e)) := Lib.hid (fun k e hk hx => ents_get hk hx)
    have HNN : Hid (ents T 64 = ents T 64) := Lib.hid rfl
    obtain ⟨L, hLL⟩ : ∃ L, ents T 64 = L := ⟨_, rfl⟩
    rw [hLL] at HLi hL HGet
    obtain ⟨N, hN⟩ : ∃ N, L.length = N := ⟨_, rfl⟩
    have HN := Lib.hid hN
    have HLL := Lib.hid hLL
    rw [hN] at HLi hL
    have hNi : (N : Int) ≤ 64 := by omega
    clear h hlen hT hN hLL
    go_enter Try.func6, Try.ntmps6
    go_wp2_with (first | (go_at_call 23; (with_reducible refine (alive_any _).mono ?_); rintro e w1 ⟨rfl, hb⟩; have HB := Lib.hid hb; clear hb) | (go_at_call 28; (with_reducible refine (HG.out _ HB.out).mono ?_); rintro e w2 ⟨p, rfl, hlo, hb, hm⟩; replace HB := Lib.hid hb; have HM := Lib.hid hm; have HLo := Lib.hid hlo; clear hb hm hlo) | (go_at_call 25; (with_reducible refine (HLi.out _ _ HM.out).mono ?_); rintro e w5 ⟨hb5, r, rfl, hrd⟩; replace HM := Lib.hid (Mem.below HM.out hb5); replace HB := Lib.hid (HB.out.trans (hb5.mono HB.out.size)); have HR := Lib.hid hrd; obtain ⟨-, ra, rcap, rfl, hrc1, hrc2, -⟩ := hrd; clear hb5))
    go_loopw [6, 7, 8] (fun x y c wr => ∃ k : Nat, k ≤ 64 ∧ x = .int .i64 ((ents T k).length : Int) ∧ y = .int .i64 (dn T k : Int) ∧ c = .int .i64 (k : Int) ∧ Mem wr p T ∧ Rd wr 59 (.slice ra N rcap) 6 N (mcells L) ∧ Below w.heap.size w wr) (fun _ _ c _ => 64 - (intOf c).toNat)
    case atStart => exact ⟨0, Nat.zero_le _, rfl, rfl, rfl, HM.out, HR.out, HB.out⟩
    case round =>
      obtain ⟨k, hk, rfl, rfl, rfl, hMr, hRr, hBr⟩ := hrel
      by_cases hlt : k < 64
      · have hlti : (k : Int) < 64 := by omega
        have hGk := get_in _ p T hMr k hlt
        have HMs := Lib.hid hMr
        have HBs := Lib.hid hBr
        have hek := ents_len T k
        have hdk := dn_le T k
        cases hx : T k with
        | none =>
          have hxn : (T k).isSome = false := by rw [hx]; rfl
          have HU := Lib.hid (And.intro (by rw [ents_none hx] : (ents T (k + 1)).length = (ents T k).length) (dn_none hx))
          have HRr := Lib.hid hRr
          obtain ⟨e0, he0⟩ : ∃ e0, (T k).getD z0 = e0 := ⟨_, rfl⟩
          rw [hxn, he0] at hGk
          have HGk := Lib.hid hGk
          clear hx hxn he0 hMr hBr hRr hGk
          go_wp2_with (go_at_call 21; (with_reducible refine HGk.out.mono ?_); rintro e w5 ⟨rfl, hb5⟩; have HB5 := Lib.hid hb5; clear hb5)
          go_roundw
          case rel => exact ⟨k + 1, by omega, by rw [HU.out.1], by rw [HU.out.2], by go_num, Mem.below (Mem.below HMs.out HB5.out) ((Below.refl _ _).alloc (Nat.le_refl _) _), Rd.below (Rd.below HRr.out HB5.out) ((Below.refl _ _).alloc (Nat.le_refl _) _), (HBs.out.trans (HB5.out.mono HBs.out.size)).alloc (Nat.le_trans HBs.out.size HB5.out.size) _⟩
          case measure => simp [intOf]; omega
        | some e1 =>
          obtain ⟨hlk, hLk⟩ := HGet.out k e1 hlt hx
          have hRr2 := hRr
          rw [← HN.out] at hRr2
          have HRr := Lib.hid hRr
          have hxn : (T k).isSome = true := by rw [hx]; rfl
          have he0 : (T k).getD z0 = e1 := by rw [hx]; rfl
          rw [hxn, he0] at hGk
          have HGk := Lib.hid hGk
          have hes : (ents T (k + 1)).length = (ents T k).length + 1 := by rw [ents_some hx, List.length_append]; rfl
          have HX := Lib.hid hx
          have hdn : (e1.d = true → dn T (k + 1) = dn T k + 1) ∧ (e1.d = false → dn T (k + 1) = dn T k) := ⟨dn_yes hx, dn_no hx⟩
          obtain ⟨j, hj⟩ : ∃ j, (ents T k).length = j := ⟨_, rfl⟩
          obtain ⟨dj, hdj⟩ : ∃ dj, dn T k = dj := ⟨_, rfl⟩
          obtain ⟨g, cap', he, hc1, hc2, c0, c1, c2, c3, c4, c5⟩ := Rd.at_ hRr2 hlk hLk
          rw [HN.out] at he hc1 hlk
          cases he
          simp only [hj] at c0 c1 c2 c3 c4 c5
          rw [hj] at hes hek hlk ⊢
          rw [hdj] at hdn hdk ⊢
          have hg : g < wr.heap.size := World.block_lt_of_cell? _ _ c0
          obtain ⟨ef, ew, es, ec, ed⟩ := e1
          dsimp only at c1 c2 c3 c4 c5 hdn
          have HY : Hid (∀ w', Below wr.heap.size wr w' → w'.cell? ⟨g, j * 6, none⟩ = some (.int .i64 (k : Int)) ∧ w'.cell? ⟨g, j * 6 + 1, none⟩ = some (.int .i64 ef) ∧ w'.cell? ⟨g, j * 6 + 1 + 1, none⟩ = some (.bool ew) ∧ w'.cell? ⟨g, j * 6 + 1 + 2, none⟩ = some (.bool es) ∧ w'.cell? ⟨g, j * 6 + 1 + 3, none⟩ = some (.bool ec) ∧ w'.cell? ⟨g, j * 6 + 1 + 4, none⟩ = some (.bool ed)) := Lib.hid (fun w' hb => ⟨(hb.cell (p := ⟨g, j * 6, none⟩) hg).trans c0, (hb.cell (p := ⟨g, j * 6 + 1, none⟩) hg).trans c1, (hb.cell (p := ⟨g, j * 6 + 1 + 1, none⟩) hg).trans c2, (hb.cell (p := ⟨g, j * 6 + 1 + 2, none⟩) hg).trans c3, (hb.cell (p := ⟨g, j * 6 + 1 + 3, none⟩) hg).trans c4, (hb.cell (p := ⟨g, j * 6 + 1 + 4, none⟩) hg).trans c5⟩)
          have dge : decide ((N : Int) ≤ (j : Int)) = false := decide_eq_false (by omega)
          have hjN : (j : Int) < (N : Int) := by omega
          have HES := Lib.hid hes
          have HDN := Lib.hid hdn
          have HJ : Hid (j ≤ 64 ∧ dj ≤ 64) := Lib.hid ⟨by omega, by omega⟩
          have hdk2 : (dj : Int) ≤ 64 := by omega
          clear hxn he0 hMr hBr hRr hRr2 hGk hx hj hdj hes hdn c0 c1 c2 c3 c4 c5 hLk
          cases ed with
          | false =>
            have HD1 : Hid (dn T (k + 1) = dj) := Lib.hid (HDN.out.2 rfl)
            go_wp2_with (go_at_call 21; (with_reducible refine HGk.out.mono ?_); rintro e w5 ⟨rfl, hb5⟩; obtain ⟨y0, y1, y2, y3, y4, y5⟩ := HY.out _ (hb5.alloc hb5.size (.cells #[.int .i64 ef, .bool ew, .bool es, .bool ec, .bool false] 25)); have HB5 := Lib.hid hb5; clear hb5)
            go_quiet (fail)
            have hq : Below w5.heap.size w5 ((w5.alloc (.cells #[.int .i64 ef, .bool ew, .bool es, .bool ec, .bool false] 25)).drewN nq) := bel_drewN ((Below.refl _ _).alloc (Nat.le_refl _) _) nq
            have HQ := Lib.hid hq
            clear hq
            go_wp2
            go_roundw
            case rel => exact ⟨k + 1, by omega, by rw [HES.out]; go_num, by rw [HD1.out], by go_num, Mem.below (Mem.below HMs.out HB5.out) HQ.out, Rd.below (Rd.below HRr.out HB5.out) HQ.out, (HBs.out.trans (HB5.out.mono HBs.out.size)).trans (HQ.out.mono (Nat.le_trans HBs.out.size HB5.out.size))⟩
            case measure => simp [intOf]; omega
          | true =>
            have HD1 : Hid (dn T (k + 1) = dj + 1) := Lib.hid (HDN.out.1 rfl)
            go_wp2_with (go_at_call 21; (with_reducible refine HGk.out.mono ?_); rintro e w5 ⟨rfl, hb5⟩; obtain ⟨y0, y1, y2, y3, y4, y5⟩ := HY.out _ (hb5.alloc hb5.size (.cells #[.int .i64 ef, .bool ew, .bool es, .bool ec, .bool true] 25)); have HB5 := Lib.hid hb5; clear hb5)
            go_quiet (fail)
            have hq : Below w5.heap.size w5 ((w5.alloc (.cells #[.int .i64 ef, .bool ew, .bool es, .bool ec, .bool true] 25)).drewN nq) := bel_drewN ((Below.refl _ _).alloc (Nat.le_refl _) _) nq
            have HQ := Lib.hid hq
            clear hq
            go_wp2
            go_roundw
            case rel => exact ⟨k + 1, by omega, by rw [HES.out]; go_num, by rw [HD1.out]; go_num, by go_num, Mem.below (Mem.below HMs.out HB5.out) HQ.out, Rd.below (Rd.below HRr.out HB5.out) HQ.out, (HBs.out.trans (HB5.out.mono HBs.out.size)).trans (HQ.out.mono (Nat.le_trans HBs.out.size HB5.out.size))⟩
            case measure => simp [intOf]; omega
      · obtain rfl : k = 64 := by omega
        rw [HLL.out, HN.out]
        obtain ⟨dj, hdj⟩ : ∃ dj, dn T 64 = dj := ⟨_, rfl⟩
        have hdd : (dty T).length = dj := hdj
        have hdk := dn_le T 64
        rw [hdj] at hdk ⊢
        have hdk2 : (dj : Int) ≤ 64 := by omega
        have HC : Hid (∀ W, Mem W p T → Below w.heap.size w W → Calls Try.prog 14 #[.pointer (some ⟨p, 0, none⟩)] W fun e w' => e = .returned (.int .i64 (dj : Int)) ∧ Below w.heap.size w w' ∧ Mem w' p (cln T)) := Lib.hid (fun W hM hb => (clean_any W p T hM).mono fun e w' ⟨h1, h2, h3⟩ => ⟨by rw [h1, hdd], hb.trans (h2.below hb.size (fun j e => by have := HLo.out; omega)), h3⟩)
        have HLn : Hid (∀ W, Mem W p (cln T) → Calls Try.prog 26 #[.pointer (some ⟨p, 0, none⟩)] W fun e w' => e = .returned (.int .i64 (N : Int)) ∧ Below W.heap.size W w') := Lib.hid (fun W hM => by
          have := len_mem W p (cln T) hM
          rw [cln_len, HLL.out, HN.out] at this
          exact this)
        have HDi : Hid (∀ W, Mem W p (cln T) → Calls Try.prog 27 #[.pointer (some ⟨p, 0, none⟩)] W fun e w' => (∃ ad cap, e = .returned (.slice ad 0 cap)) ∧ Below W.heap.size W w') := Lib.hid (fun W hM => (dirty_mem W p (cln T) hM).mono fun e w' ⟨h1, r, h2, h3⟩ => by
          rw [cln_dty] at h3
          obtain ⟨_, ad, cap, h4, _⟩ := h3
          exact ⟨⟨ad, cap, by rw [h2, h4]; rfl⟩, h1⟩)
        have HMs := Lib.hid hMr
        have HBs := Lib.hid hBr
        clear hMr hBr hRr hdj hdd
        go_wp2_with (first | (go_at_call 14; (with_reducible refine (HC.out _ HMs.out HBs.out).mono ?_); rintro e w5 ⟨rfl, hb5, hm5⟩; replace HMs := Lib.hid hm5; replace HBs := Lib.hid hb5; clear hb5 hm5) | (go_at_call 26; (with_reducible refine (HLn.out _ HMs.out).mono ?_); rintro e w5 ⟨rfl, hb5⟩; replace HMs := Lib.hid (Mem.below HMs.out hb5); replace HBs := Lib.hid (HBs.out.trans (hb5.mono HBs.out.size)); clear hb5) | (go_at_call 27; (with_reducible refine (HDi.out _ HMs.out).mono ?_); rintro e w5 ⟨⟨ad, dcap, rfl⟩, hb5⟩; replace HMs := Lib.hid (Mem.below HMs.out hb5); replace HBs := Lib.hid (HBs.out.trans (hb5.mono HBs.out.size)); clear hb5))
        go_ret
        exact ⟨rfl, HBs.out⟩
end Go.Proofs.Ytcmlcepdcpbdaaa.Lw
namespace Go.Proofs.Ytcmlcepdcpbdaaa.Walk
open Go Go.RowKit Ov
theorem pagesList (v : Value) (ops : List Opr) (w : World) (h : OpsAt w v ops) :
    Calls Try.prog 6 #[v] w fun e w' => e = .returned (.bool true) ∧ Below w.heap.size w w' := Lw.list_law v ops w h
end Go.Proofs.Ytcmlcepdcpbdaaa.Walk
