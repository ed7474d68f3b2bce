/-
  The document's own queues: Cut, Move, Rotate, Pick.
-/
import Derived.Test.YtkjmpkoogjbjnaaQuy
namespace Go.Proofs.Ytkjmpkoogjbjnaa.Quz
open Go Go.RowKit Go.Shelf Kit Bk Qua Qub Quc Qud Que Quf Qug Quh Qui Quj Quk Qul Qum Qun Quq Qup Qur Quu Quw Qux Quy
set_option linter.unusedVariables false
attribute [local go_sem ↓] app_wrap
variable {w w' : World} {f r c N : Nat} {D : List It} {v : Value} {l : Ls}

theorem dC_take {D : List It} {p : Int} {j : Nat} (hj : j < D.length) : dC (D.take (j + 1)) p = if D[j].p = p then dC (D.take j) p else dC (D.take j) p ++ [D[j]] := by
  rw [List.take_add_one, List.getElem?_eq_getElem hj]
  unfold dC
  rw [List.filter_append]
  by_cases e : D[j].p = p
  · rw [if_pos e, Option.toList_some, List.filter_cons_of_neg (by simpa using e)]; simp
  · rw [if_neg e, Option.toList_some, List.filter_cons_of_pos (by simpa using e)]; rfl
theorem Rs.store {base : Nat} {wr : World} {v v' : Value} {D : List It} (hb : Blk wr f #[.int .i64 (c : Int), v] 31) (ho : wr.ownsRow base 62 2 v' D.length (ics D)) :
    ∃ r', Rs (wr.setCell ⟨f, 1, none⟩ v') f r' c D ∧ (r' = f ∨ base ≤ r') := by
  rcases ho.2 with ⟨rfl, h0⟩ | ⟨g, cap, cur, rfl, hg, hh, h3⟩
  · exact ⟨f, ⟨_, hb.set 1 _, own_kept (Quw.own_base ho (Nat.zero_le _)) (Kp.set (S := fun j => j = f) wr f 1 _ rfl) (fun g n c e => by cases e), .inl ⟨rfl, rfl⟩⟩, .inl rfl⟩
  · refine ⟨g, ⟨_, hb.set 1 _, own_kept (Quw.own_base ho (Nat.zero_le _)) (Kp.set (S := fun j => j = f) wr f 1 _ rfl) (fun g' n c e => ?_), .inr ⟨_, _, rfl⟩⟩, .inr hg⟩
    cases e
    rintro rfl
    exact absurd ((show Blk wr g cur 62 from hh).inj hb).2 (by decide)
set_option maxHeartbeats 1000000 in
theorem rcut_d (w : World) (h : Rs w f r c D) (hl : D.length ≤ 90000) (p : Int) : Calls Try.prog 14 #[pv f, .int .i64 p] w fun e w' => e = .returned (.bool (decide ((dC D p).length < D.length))) ∧ Kp (fun j => j = f) w w' ∧ ∃ r', Rs w' f r' c (dC D p) ∧ (r' = f ∨ w.heap.size ≤ r') := by
  obtain ⟨v, h1, h2⟩ := h
  obtain ⟨a, n, rfl, hc1, hc2, ha⟩ := h2.form
  have HA := Lib.hid ha
  have HR := Lib.hid (And.intro h1 h2)
  unfold maxLen at hc2
  have hcI : (D.length : Int) ≤ 9223372036854775807 := by omega
  clear h1 h2 ha hc1 hc2
  go_enter Try.func14, Try.ntmps14
  go_wp2
  go_loopw [6, 5] (fun i o wr => ∃ (j : Nat), j ≤ D.length ∧ i = .int .i64 (j : Int) ∧ wr.ownsRow w.heap.size 62 2 o (dC (D.take j) p).length (ics (dC (D.take j) p)) ∧ Below w.heap.size w wr) (fun i _ _ => D.length - (intOf i).toNat)
  case atStart => exact ⟨0, Nat.zero_le _, rfl, World.ownsRow_nil _ _ _ _, Below.refl _ _⟩
  case round =>
    obtain ⟨j, hj, rfl, ho, hb⟩ := hrel
    have c1 : wr.cell? ⟨f, 1, none⟩ = some (.slice a D.length n) := (HR.out.1.below hb).cell 1
    have f1 : wr.frozen? ⟨f, 1, none⟩ = false := (HR.out.1.below hb).free 1
    by_cases hlt : j < D.length
    · have hltI : (j : Int) < (D.length : Int) := by omega
      obtain rfl := HA.out j hlt
      obtain ⟨x0, x1⟩ := (HR.out.2.kept (kp_below (S := fun _ => False) hb) (fun e => e)).cells j hlt
      have ht := dC_take (p := p) hlt
      have hln := dC_len (D.take j) p
      rw [List.length_take] at hln
      obtain ⟨oa, oc, rfl⟩ := own_form ho
      by_cases he : D[j].p = p
      · have d0 : (D[j].p != p) = false := by simpa using he
        rw [if_pos he] at ht
        have H4 := Lib.hid (And.intro ho hb)
        have HT := Lib.hid ht
        generalize D[j] = x at *
        clear he ht ho hb hln
        go_wp2
        go_roundw
        case rel => exact ⟨j + 1, by omega, by go_num, by rw [HT.out]; exact H4.out.1, H4.out.2⟩
        case measure => simp [intOf]; omega
      · have d0 : (D[j].p != p) = true := by simpa using he
        rw [if_neg he] at ht
        have HT := Lib.hid ht
        obtain ⟨v', w', g1, g2, g3, -⟩ := app_item wr w.heap.size _ (dC (D.take j) p) D[j] ho (by omega) hb.size
        obtain ⟨va, vc, rfl⟩ := own_form g2
        have HE := Lib.hid (And.intro g2 (((hb.alloc hb.size (.cells #[.int .i64 D[j].p, .int .i64 D[j].k] 62))).grown g3 (by have := hb.size; simp; omega) (fun k e => (ho.lt k e).1)))
        generalize dC (D.take j) p = L at *
        generalize D[j] = x at *
        generalize hn4 : (L ++ [x]).length = n4 at *
        clear he ht ho hb hln g2 g3
        go_wp2
        go_roundw
        case rel => exact ⟨j + 1, by omega, by go_num, by rw [HT.out, hn4]; exact HE.out.1, HE.out.2⟩
        case measure => simp [intOf]; omega
    · obtain rfl : j = D.length := by omega
      rw [List.take_length] at ho
      obtain ⟨oa, oc, rfl⟩ := own_form ho
      have HE := Lib.hid (And.intro (Rs.store (HR.out.1.below hb) ho) ((kp_below hb).trans (Kp.set (S := fun j => j = f) wr f 1 (.slice oa (dC D p).length oc) rfl) (fun _ e => .inl e)))
      have hln := dC_len D p
      generalize hD2 : dC D p = D2 at *
      have dd : decide ((D2.length : Int) < (D.length : Int)) = decide (D2.length < D.length) := by rw [Bool.eq_iff_iff]; simp
      clear ho hb
      go_wp2
      go_ret
      obtain ⟨⟨r', e1, e2⟩, e3⟩ := HE.out
      subst hD2
      exact ⟨by rw [← dd]; rfl, e3, r', e1, e2⟩
theorem rcut_q (w : World) (h : Rq N w f r c l) (hN : N ≤ 90000) (p : Int) : Calls Try.prog 14 #[pv f, .int .i64 p] w fun e w' => e = .returned (.bool (ctB c l p)) ∧ Kp (fun j => j = f) w w' ∧ ∃ r', Rq N w' f r' c (ctL c l p) ∧ (r' = f ∨ w.heap.size ≤ r') := by
  obtain ⟨D, h1, h2, h3, h4⟩ := h
  have := rcut_d w h1 (Nat.le_trans h4 hN) p
  rw [dC_lt h3 h2] at this
  refine this.mono ?_
  rintro e w' ⟨rfl, g1, r', g2, g3⟩
  exact ⟨rfl, g1, r', ⟨_, g2, h2.cut h3 p, h3.cut p, Nat.le_trans (dC_len D p) h4⟩, g3⟩
theorem mv_few (ho : Ok c l) {p : Int} {m : Nat} (hh : hasC c m (wh c l p) = false) (hm : may c m = true) : plT c (ctL c l p) (wh c l p) m < c ∧ few c m (lens l) = (plT c (ctL c l p) (wh c l p) m : Int) := by
  refine ⟨(plT_in (l := ctL c l p) (z := wh c l p) hm).1, ?_⟩
  unfold plT
  rw [if_neg (by rw [hh]; decide)]
  have hc : fewN c m (lens l) = fewN c m (lens (ctL c l p)) := few_congr (fun k hk => by
    unfold lens
    cases hw : whN c l p with
    | none => unfold ctL; rw [hw]
    | some j =>
      have : k ≠ j := fun e => by
        rw [wh_eq_some hw, Bool.eq_false_iff] at hh
        obtain ⟨g1, g2⟩ := ws_mem.1 hk
        exact hh (hasC_iff.2 ⟨k, g1, g2, by rw [e]⟩)
      unfold ctL
      rw [hw]
      show _ = (up l j ((l j).erase p) k).length
      rw [up_other _ _ _ _ this])
  rw [← hc]
  rw [may_iff (n := lens l)] at hm
  obtain ⟨k, hk⟩ := Option.isSome_iff_exists.1 hm
  rw [few_eq_some hk, hk]
  rfl
set_option maxHeartbeats 1000000 in
theorem rmove_q (w : World) (h : Rq N w f r c l) (hN : N ≤ 90000) (hc8 : c ≤ 8) (p : Int) (m : Nat) (hm : m < 4294967296) :
    Calls Try.prog 12 #[pv f, .int .i64 p, uv m] w fun e w' => e = .returned (.tuple #[.int .i64 (mvR c l p m), .int .i64 (mvE c l p m)]) ∧ Kp (fun j => j = f ∨ j = r) w w' ∧ ∃ r', Rq (N + 1) w' f r' c (mvL c l p m) ∧ (r' = f ∨ r' = r ∨ w.heap.size ≤ r') := by
  have HQ := Lib.hid h
  have HW := Lib.hid (rwhere_q h p)
  have HF := Lib.hid (rfew_q h hN hc8 m hm)
  have HE : Hid (∀ W, Below w.heap.size w W → Kp (fun j => j = f ∨ j = r) w W ∧ Rq (N + 1) W f r c l) := Lib.hid (fun W hb => ⟨kp_below hb, (h.below hb).more (Nat.le_succ N)⟩)
  have ho := h.ok
  by_cases hn : mvN c l p m
  · have he : mvE c l p m = 130 := by unfold mvE; rw [if_pos hn]
    have hr : mvR c l p m = 0 := by unfold mvR; rw [if_pos hn]
    have hl : mvL c l p m = l := by unfold mvL; rw [if_pos hn]
    rw [he, hr, hl]
    have hor : (decide (wh c l p < 0) = true) ∨ (decide (wh c l p < 0) = false ∧ decide (few c m (lens l) < 0) = true) := by
      by_cases h0 : wh c l p < 0
      · exact .inl (decide_eq_true h0)
      · refine .inr ⟨decide_eq_false h0, decide_eq_true (few_lt.2 ?_)⟩
        rcases hn with hn | hn
        · rw [wh_eq_none hn] at h0; omega
        · exact hn
    generalize wh c l p = W0 at *
    generalize few c m (lens l) = F0 at *
    clear h ho hn he hr hl
    rcases hor with d1 | ⟨d1, d2⟩
    all_goals
      go_enter Try.func12, Try.ntmps12
      go_wp2_with (first
        | (go_at_call 18; (with_reducible refine HW.out.mono ?_); rintro e w2 ⟨rfl, rfl⟩)
        | (go_at_call 32; (with_reducible refine HF.out.mono ?_); rintro e w1 ⟨rfl, hb⟩; have HB := Lib.hid hb; clear hb))
      go_ret2
      exact ⟨rfl, (HE.out _ HB.out).1, r, (HE.out _ HB.out).2, .inr (.inl rfl)⟩
  · obtain ⟨k, hk, hpk, hkc, hmy, he0⟩ := mv_ok ho hn
    have hwk := wh_eq_some hk
    have d1 : decide (wh c l p < 0) = false := decide_eq_false (by omega)
    have d2 : decide (few c m (lens l) < 0) = false := decide_eq_false (fun h0 => by rw [few_lt.1 h0] at hmy; cases hmy)
    have HI : Hid (∀ W, Below w.heap.size w W → Calls Try.prog 33 #[pv f, .int .i64 (wh c l p), uv m] W fun e w' => e = .returned (.bool (hasC c m (wh c l p))) ∧ W = w') := Lib.hid (fun W hb => rin_q (h.below hb) hc8 (wh c l p) m hm)
    by_cases hh : hasC c m (wh c l p) = true
    · have he : mvE c l p m = 0 := by unfold mvE; rw [if_neg hn, if_pos hh]
      have hr : mvR c l p m = wh c l p := by unfold mvR; rw [if_neg hn, if_pos hh]
      have hl : mvL c l p m = l := by unfold mvL; rw [if_neg hn, if_pos hh]
      rw [he, hr, hl]
      rw [hh] at HI
      generalize wh c l p = W0 at *
      generalize few c m (lens l) = F0 at *
      clear h ho hn he hr hl hk hpk hkc hmy he0 hh hwk
      go_enter Try.func12, Try.ntmps12
      go_wp2_with (first
        | (go_at_call 18; (with_reducible refine HW.out.mono ?_); rintro e w2 ⟨rfl, rfl⟩)
        | (go_at_call 32; (with_reducible refine HF.out.mono ?_); rintro e w1 ⟨rfl, hb⟩; have HB := Lib.hid hb; clear hb)
        | (go_at_call 33; (with_reducible refine (HI.out _ HB.out).mono ?_); rintro e w3 ⟨rfl, rfl⟩))
      go_ret2
      exact ⟨rfl, (HE.out _ HB.out).1, r, (HE.out _ HB.out).2, .inr (.inl rfl)⟩
    · have hh' : hasC c m (wh c l p) = false := by simpa using hh
      obtain ⟨hT, hfe⟩ := mv_few ho hh' hmy
      have he : mvE c l p m = 0 := by unfold mvE; rw [if_neg hn, if_neg hh]; exact he0
      have hr : mvR c l p m = (plT c (ctL c l p) (wh c l p) m : Int) := by unfold mvR; rw [if_neg hn, if_neg hh]; unfold plR; rw [if_pos he0]
      have hl : mvL c l p m = up (ctL c l p) (plT c (ctL c l p) (wh c l p) m) (ctL c l p (plT c (ctL c l p) (wh c l p) m) ++ [p]) := by unfold mvL; rw [if_neg hn, if_neg hh]; unfold plL; rw [if_pos he0]
      have hok := ho.move p m
      rw [hl] at hok
      rw [he, hr, hl]
      rw [hh'] at HI
      rw [hfe] at HF d2
      have HC : Hid (∀ W, Below w.heap.size w W → Calls Try.prog 14 #[pv f, .int .i64 p] W fun e w' => (∃ b, e = .returned b) ∧ Kp (fun j => j = f) W w' ∧ ∃ r', Rq N w' f r' c (ctL c l p) ∧ (r' = f ∨ W.heap.size ≤ r')) := Lib.hid (fun W hb => (rcut_q W (h.below hb) hN p).mono (by
        rintro e w' ⟨rfl, g⟩
        exact ⟨⟨_, rfl⟩, g⟩))
      have HP : Hid (∀ W r2, Rq N W f r2 c (ctL c l p) → _) := Lib.hid (fun W r2 (hq : Rq N W f r2 c (ctL c l p)) => Rq.push hq hN p _ hT hok)
      generalize plT c (ctL c l p) (wh c l p) m = T at *
      generalize ctL c l p = l2 at *
      generalize up l2 T (l2 T ++ [p]) = l3 at *
      generalize wh c l p = W0 at *
      generalize few c m (lens l) = F0 at *
      clear h ho hn he hr hl hk hpk hkc hmy he0 hh hwk hh' hT hfe hok
      go_enter Try.func12, Try.ntmps12
      go_wp2_with (first
        | (go_at_call 18; (with_reducible refine HW.out.mono ?_); rintro e w2 ⟨rfl, rfl⟩)
        | (go_at_call 32; (with_reducible refine HF.out.mono ?_); rintro e w1 ⟨rfl, hb⟩; have HB := Lib.hid hb; clear hb)
        | (go_at_call 33; (with_reducible refine (HI.out _ HB.out).mono ?_); rintro e w3 ⟨rfl, rfl⟩)
        | (go_at_call 14; (with_reducible refine (HC.out _ HB.out).mono ?_); rintro e w4 ⟨⟨cb, rfl⟩, hk4, r2, hq4, hr4⟩; obtain ⟨a, n1, n, a', n1', n', w5, q1, q2, q3, q4, q5, r', q6, q7⟩ := HP.out w4 r2 hq4; have H4 := Lib.hid (And.intro hk4 hr4); have H6 := Lib.hid (And.intro q5 (And.intro q6 q7)); clear hk4 hr4 hq4 q5 q6 q7))
      go_ret2
      have hs4 := H4.out.1.size
      have hsb := HB.out.size
      refine ⟨rfl, ((kp_below HB.out).trans (H4.out.1.mono (fun j _ e => .inl e)) (fun _ e => .inl e)).trans H6.out.1 (fun j e => ?_), r', H6.out.2.1, ?_⟩
      · rcases e with e | rfl
        · exact .inl (.inl e)
        · rcases H4.out.2 with e | e
          · exact .inl (.inl e)
          · exact .inr (Nat.le_trans hsb e)
      · rcases H6.out.2.2 with e | rfl | e
        · exact .inl e
        · rcases H4.out.2 with e | e
          · exact .inl e
          · exact .inr (.inr (Nat.le_trans hsb e))
        · exact .inr (.inr (by omega))
theorem up_up (l : Ls) (k : Nat) (a b : List Int) : up (up l k a) k b = up l k b := by
  funext j
  by_cases e : j = k
  · subst e; rw [up_same, up_same]
  · rw [up_other _ _ _ _ e, up_other _ _ _ _ e, up_other _ _ _ _ e]
theorem rot_cut (ho : Ok c l) {k : Nat} {y : Int} {t : List Int} (hk : l k = y :: t) : ctL c l y = up l k t ∧ up (up l k t) k (up l k t k ++ [y]) = up l k (rot (l k)) := by
  have hm : y ∈ l k := by rw [hk]; exact List.mem_cons_self
  refine ⟨?_, ?_⟩
  · unfold ctL
    rw [ho.wh_some hm]
    show up l k ((l k).erase y) = _
    rw [hk, List.erase_cons_head]
  · rw [up_up, up_same, hk]
    rfl
set_option maxHeartbeats 1000000 in
theorem rrotate_q (w : World) (h : Rq N w f r c l) (hN : N ≤ 90000) (z : Int) :
    Calls Try.prog 16 #[pv f, .int .i64 z] w fun e w' => e = .returned (.bool (rtB c l z)) ∧ Kp (fun j => j = f ∨ j = r) w w' ∧ ∃ r', Rq (N + 1) w' f r' c (rtL c l z) ∧ (r' = f ∨ r' = r ∨ w.heap.size ≤ r') := by
  have ho := h.ok
  have HL := Lib.hid (rlist_q h hN z)
  have HE : Hid (∀ W, Below w.heap.size w W → Kp (fun j => j = f ∨ j = r) w W ∧ Rq (N + 1) W f r c l) := Lib.hid (fun W hb => ⟨kp_below hb, (h.below hb).more (Nat.le_succ N)⟩)
  by_cases h2 : 2 ≤ (lst c l z).length
  · have hb : rtB c l z = true := by unfold rtB; exact decide_eq_true h2
    have hz := rt_in hb
    obtain ⟨k, rfl⟩ : ∃ k : Nat, z = (k : Int) := ⟨z.toNat, by omega⟩
    have hkc : k < c := by omega
    have hlr : rtL c l (k : Int) = up l k (rot (l k)) := by unfold rtL; rw [if_pos hb]; simp
    rw [hb, hlr]
    rw [lst_nat hkc] at h2 HL
    obtain ⟨y, t, hkl⟩ : ∃ y t, l k = y :: t := by
      cases hx : l k with
      | nil => rw [hx] at h2; simp at h2
      | cons y t => exact ⟨y, t, rfl⟩
    obtain ⟨hct, hup⟩ := rot_cut ho hkl
    have hokr := ho.rotate (k : Int)
    rw [hlr, ← hup] at hokr
    have hok2 := ho.cut y
    have HC : Hid (∀ W, Below w.heap.size w W → Calls Try.prog 14 #[pv f, .int .i64 y] W fun e w' => (∃ b, e = .returned (.bool b)) ∧ Kp (fun j => j = f) W w' ∧ ∃ r', Rq N w' f r' c (up l k t) ∧ (r' = f ∨ W.heap.size ≤ r')) := Lib.hid (fun W hb => (rcut_q W (h.below hb) hN y).mono (by
      rintro e w' ⟨rfl, g⟩
      rw [hct] at g
      exact ⟨⟨_, rfl⟩, g⟩))
    have HP : Hid (∀ W r2, Rq N W f r2 c (up l k t) → _) := Lib.hid (fun W r2 (hq : Rq N W f r2 c (up l k t)) => Rq.push hq hN y k hkc hokr)
    rw [hup] at HP
    have hgd : (l k).getD 0 0 = y := by rw [hkl]; rfl
    have hf : f < w.heap.size := h.lt.1
    have HF := Lib.hid hf
    generalize up l k (rot (l k)) = l3 at *
    generalize up l k t = l2 at *
    generalize hx : l k = x at *
    have d0 : decide ((x.length : Int) < 2) = false := decide_eq_false (by omega)
    have d1 : decide (x.length < 2) = false := decide_eq_false (by omega)
    have hx0 : (0 : Int) < (x.length : Int) := by omega
    have HG := Lib.hid (And.intro h2 hgd)
    clear h ho hb hz hlr h2 hkl hct hup hokr hok2 hgd hf
    go_enter Try.func16, Try.ntmps16
    go_wp2_with (first
      | (go_at_call 25; (with_reducible refine HL.out.mono ?_); rintro e w1 ⟨hb1, u, G, rfl, hr, hg⟩; obtain ⟨a0, n0, rfl, _, _, hcs⟩ := Quf.Rw.cells hr; obtain ⟨g, o, rfl, c1⟩ := hcs 0 (by have := HG.out.1; omega); rw [HG.out.2, Nat.add_zero] at c1; have HB := Lib.hid hb1; have HR := Lib.hid (And.intro hr hg); clear hb1 hr hg hcs)
      | (go_at_call 14; (with_reducible refine (HC.out _ HB.out).mono ?_); rintro e w4 ⟨⟨cb, rfl⟩, hk4, r2, hq4, hr4⟩; have H4 := Lib.hid (And.intro hk4 (And.intro hr4 hq4)); clear hk4 hr4 hq4))
    have cells : ∀ W, Kp (fun j => j = f) w1 W → W.cell? ⟨g, o, none⟩ = some (.int .i64 y) := fun W hk => by
      have hr2 := HR.out.1.kept hk (fun g e e2 => by have := HR.out.2 g e; have := HF.out; omega)
      obtain ⟨a', n', e, _, _, h4⟩ := Quf.Rw.cells hr2
      injection e with e1 e2 e3
      obtain ⟨g', o', e4, h5⟩ := h4 0 (by have := HG.out.1; omega)
      rw [← e1] at e4
      cases e4
      rw [HG.out.2, Nat.add_zero] at h5
      exact h5
    have c4 := cells w4 H4.out.1
    have hd : Below w4.heap.size w4 w4.drew := (Below.refl _ _).drew
    obtain ⟨a, n1, n, a', n1', n', w5, c0, q1, d4, f4, q5, r', q6, q7⟩ := HP.out w4.drew r2 (H4.out.2.2.below hd)
    have hflt : f < w4.heap.size := H4.out.2.2.lt.1
    have c0 : w4.cell? ⟨f, 1, none⟩ = some (.slice a n1 n) := c0
    have c0a : ∀ o, (w4.alloc o).cell? ⟨f, 1, none⟩ = some (.slice a n1 n) := fun o => (World.cell?_alloc_lt w4 o _ hflt).trans c0
    have c0d : ∀ o, (w4.drew.alloc o).cell? ⟨f, 1, none⟩ = some (.slice a n1 n) := fun o => (World.cell?_alloc_lt w4.drew o _ hflt).trans c0
    have q1' : (appO #[29, 29] 29 #[.slice a n1 n, .slice (some ⟨w4.heap.size, 0, none⟩) 1 1]).run Try.prog (w4.alloc (.cells #[.int .i64 y, .int .i64 (k : Int)] 62)).drew = .ok (.slice a' n1' n') w5 := q1
    have H6 := Lib.hid (And.intro ((kp_below hd).trans q5 (fun _ e => .inl e)) (And.intro q6 q7))
    clear cells c1 q1 q5 q6 q7 hflt hd
    go_region
    go_wp2
    go_ret
    have hs4 := H4.out.1.size
    have hsb := HB.out.size
    refine ⟨rfl, ((kp_below HB.out).trans (H4.out.1.mono (fun j _ e => .inl e)) (fun _ e => .inl e)).trans H6.out.1 (fun j e => ?_), r', H6.out.2.1, ?_⟩
    · rcases e with e | rfl
      · exact .inl (.inl e)
      · rcases H4.out.2.1 with e | e
        · exact .inl (.inl e)
        · exact .inr (Nat.le_trans hsb e)
    · have hsd : w4.drew.heap.size = w4.heap.size := rfl
      rcases H6.out.2.2 with e | rfl | e
      · exact .inl e
      · rcases H4.out.2.1 with e | e
        · exact .inl e
        · exact .inr (.inr (Nat.le_trans hsb e))
      · exact .inr (.inr (by omega))
  · have hb : rtB c l z = false := by unfold rtB; exact decide_eq_false h2
    have hlr : rtL c l z = l := by unfold rtL; rw [if_neg (by rw [hb]; decide)]
    rw [hb, hlr]
    generalize lst c l z = x at *
    have d0 : decide ((x.length : Int) < 2) = true := decide_eq_true (by omega)
    have d1 : decide (x.length < 2) = true := decide_eq_true (by omega)
    clear h ho hb hlr h2
    go_enter Try.func16, Try.ntmps16
    go_wp2_with (go_at_call 25; (with_reducible refine HL.out.mono ?_); rintro e w1 ⟨hb1, u, G, rfl, hr, hg⟩; obtain ⟨a0, n0, rfl, _⟩ := hr.form; have HB := Lib.hid hb1; clear hb1 hr hg)
    go_ret
    exact ⟨rfl, (HE.out _ HB.out).1, r, (HE.out _ HB.out).2, .inr (.inl rfl)⟩
theorem rpick_q (w : World) (h : Rq N w f r c l) (hN : N ≤ 90000) (z : Int) (m : Nat) (hm : m < 4294967296) :
    Calls Try.prog 27 #[pv f, .int .i64 z, uv m] w fun e w' => e = .returned (.int .i64 (pk c l z m)) ∧ Below w.heap.size w w' := by
  have HL := Lib.hid (rlist_q h hN z)
  have hlen : (lst c l z).length ≤ 90000 := by
    obtain ⟨D, h1, h2, h3, h4⟩ := h
    rw [h2.lst]
    exact Nat.le_trans (dL_len D z) (Nat.le_trans h4 hN)
  unfold pk
  generalize lst c l z = x at *
  clear h
  by_cases h0 : x = []
  · subst h0
    go_enter Try.func27, Try.ntmps27
    go_wp2_with (go_at_call 25; (with_reducible refine HL.out.mono ?_); rintro e w1 ⟨hb1, u, G, rfl, hr, hg⟩; obtain ⟨a0, n0, rfl, _⟩ := hr.form; have HB := Lib.hid hb1; clear hb1 hr hg)
    go_ret
    exact ⟨rfl, HB.out⟩
  · have hl0 : 0 < x.length := List.length_pos_iff.2 h0
    have d0 : ((x.length : Int) == 0) = false := beq_eq_false_iff_ne.2 (by omega)
    have hi : m % x.length < x.length := Nat.mod_lt _ hl0
    have hv : (x[m % x.length]?).getD 0 = x.getD (m % x.length) 0 := rfl
    rw [hv]
    have hx0 : (0 : Int) < (x.length : Int) := by omega
    have hxI : (x.length : Int) ≤ 90000 := by omega
    have hmod : (m : Int).tmod (x.length : Int) = ((m % x.length : Nat) : Int) := by rw [Int.tmod_eq_emod_of_nonneg (Int.natCast_nonneg m)]; simp
    have hmod2 : (m : Int) % (x.length : Int) = ((m % x.length : Nat) : Int) := by simp
    have hnz : ¬ (x.length : Int) = 0 := by omega
    have ew : IntKind.wrap .i64 (m : Int) = (m : Int) := by
      simp [IntKind.wrap, IntKind.bits, IntKind.signed]
      omega
    obtain ⟨s, hs⟩ : ∃ s, m % x.length = s := ⟨_, rfl⟩
    rw [hs] at hi hmod hmod2 ⊢
    have hsI : (s : Int) < (x.length : Int) := by omega
    have HI := Lib.hid hi
    clear hv h0 hl0 hs hi
    go_enter Try.func27, Try.ntmps27
    go_wp2_with (go_at_call 25; (with_reducible refine HL.out.mono ?_); rintro e w1 ⟨hb1, u, G, rfl, hr, hg⟩; obtain ⟨a0, n0, rfl, _, _, hcs⟩ := Quf.Rw.cells hr; obtain ⟨g, o, rfl, c1⟩ := hcs s HI.out; have HB := Lib.hid hb1; clear hb1 hr hg hcs)
    go_ret
    exact ⟨rfl, HB.out⟩
end Go.Proofs.Ytkjmpkoogjbjnaa.Quz
