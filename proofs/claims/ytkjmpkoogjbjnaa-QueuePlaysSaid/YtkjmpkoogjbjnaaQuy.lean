/-
  The document's own queues: an item behind, Place, Cut.
-/
import Derived.Test.YtkjmpkoogjbjnaaQux
namespace Go.Proofs.Ytkjmpkoogjbjnaa.Quy
open Go Go.RowKit Go.Shelf Kit Bk Qua Qub Quc Qud Que Quf Qug Quh Qui Quj Quk Qul Qum Qun Quq Qup Qur Quu Quw Qux
set_option linter.unusedVariables false
attribute [local go_sem ↓] app_wrap
variable {w w' : World} {f r c N : Nat} {D : List It} {v : Value} {l : Ls}

theorem own_at {w : World} {v : Value} {x : It} (h : w.ownsRow 0 62 2 v (D ++ [x]).length (ics (D ++ [x]))) : ∃ g n, v = .slice (some ⟨g, 0, none⟩) (D ++ [x]).length n ∧ v.ownBlock = some g ∧ g < w.heap.size ∧ ∃ cs, Blk w g cs 62 := by
  rcases h.2 with ⟨rfl, h0⟩ | ⟨g, cap, cur, rfl, hg, hh, _⟩
  · simp at h0
  · exact ⟨g, cap, rfl, rfl, (Array.getElem?_eq_some_iff.1 hh).1, cur, hh⟩
/-- An item behind the others, stored. -/
theorem Rs.push (h : Rs w f r c D) (hl : D.length ≤ 90000) (x : It) :
    ∃ a n a' n' w', w.cell? ⟨f, 1, none⟩ = some (.slice a D.length n) ∧ (appO #[29, 29] 29 #[.slice a D.length n, .slice (some ⟨w.heap.size, 0, none⟩) 1 1]).run Try.prog (w.alloc (.cells #[.int .i64 x.p, .int .i64 x.k] 62)) = .ok (.slice a' (D ++ [x]).length n') w' ∧
      w'.cell? ⟨f, 1, none⟩ = some (.slice a D.length n) ∧ w'.frozen? ⟨f, 1, none⟩ = false ∧ Kp (fun j => j = f ∨ j = r) w (w'.setCell ⟨f, 1, none⟩ (.slice a' (D ++ [x]).length n')) ∧ ∃ r', Rs (w'.setCell ⟨f, 1, none⟩ (.slice a' (D ++ [x]).length n')) f r' c (D ++ [x]) ∧ (r' = f ∨ r' = r ∨ w.heap.size ≤ r') := by
  obtain ⟨v, h1, h2⟩ := h
  have hb1 := (Below.refl w.heap.size w).alloc (Nat.le_refl _) (.cells #[.int .i64 x.p, .int .i64 x.k] 62)
  obtain ⟨v', w', q1, q2, q3, q4⟩ := app_item w 0 v D x h2.1 hl (Nat.zero_le _)
  have hor : ∀ g, v.ownBlock = some g → g = r ∧ g ≠ f := fun g e => by
    rcases h2.1.2 with ⟨rfl, h0⟩ | ⟨g', cap, cur, rfl, hg, hh, _⟩
    · simp [Value.ownBlock] at e
    · simp [Value.ownBlock] at e
      subst e
      refine ⟨?_, fun e2 => ?_⟩
      · rcases h2.2 with ⟨e, _⟩ | ⟨n, c, e⟩
        · cases e
        · cases e; rfl
      · subst e2
        exact absurd ((show Blk w g' cur 62 from hh).inj h1).2 (by decide)
  have hk0 := Kp.of_grown q3
  have hkp : Kp (fun j => j = f ∨ j = r) w w' := (kp_below hb1).trans (hk0.mono (fun j _ e => .inr (hor j e.symm).1)) (fun _ e => .inl e)
  have hblk : Blk w' f #[.int .i64 (c : Int), v] 31 := (h1.below hb1).kept hk0 (fun e => (hor f e.symm).2 rfl)
  obtain ⟨g, n', rfl, hg1, hg2, cs, hg3⟩ := own_at q2
  obtain ⟨a, n, rfl, _⟩ := h2.form
  have hgf : g ≠ f := fun e => by
    subst e
    exact absurd (hg3.inj hblk).2 (by decide)
  refine ⟨a, n, _, n', w', h1.cell 1, q1, hblk.cell 1, hblk.free 1, hkp.trans (Kp.set (S := fun j => j = f ∨ j = r) w' f 1 _ (.inl rfl)) (fun _ e => .inl e), g, ⟨_, hblk.set 1 _, own_kept q2 (Kp.set (S := fun j => j = f) w' f 1 _ rfl) (fun g' n2 c2 e => by cases e; exact hgf), .inr ⟨_, _, rfl⟩⟩, ?_⟩
  rw [hg1] at q4
  rcases q4 with q4 | q4
  · exact .inr (.inl (hor g q4.symm).1)
  · injection q4 with q4
    exact .inr (.inr (by omega))

/-- The document's queues, alike to these. -/
def Rq (N : Nat) (w : World) (f r c : Nat) (l : Ls) : Prop := ∃ D, Rs w f r c D ∧ Alk c l D ∧ Ok c l ∧ D.length ≤ N
theorem Rq.below (h : Rq N w f r c l) (hb : Below w.heap.size w w') : Rq N w' f r c l := by obtain ⟨D, h1, h2⟩ := h; exact ⟨D, h1.below hb, h2⟩
theorem Rq.kept {S : Nat → Prop} (h : Rq N w f r c l) (hk : Kp S w w') (hf : ¬ S f) (hr : ¬ S r) : Rq N w' f r c l := by obtain ⟨D, h1, h2⟩ := h; exact ⟨D, h1.kept hk hf hr, h2⟩
theorem Rq.lt (h : Rq N w f r c l) : f < w.heap.size ∧ r < w.heap.size := by obtain ⟨D, h1, h2⟩ := h; exact h1.lt
theorem Rq.ok (h : Rq N w f r c l) : Ok c l := by obtain ⟨D, h1, h2, h3, h4⟩ := h; exact h3
theorem Rq.more {K : Nat} (h : Rq N w f r c l) (hk : N ≤ K) : Rq K w f r c l := by obtain ⟨D, h1, h2, h3, h4⟩ := h; exact ⟨D, h1, h2, h3, Nat.le_trans h4 hk⟩
theorem rwhere_q (h : Rq N w f r c l) (p : Int) : Calls Try.prog 18 #[pv f, .int .i64 p] w fun e w' => e = .returned (.int .i64 (wh c l p)) ∧ w = w' := by
  obtain ⟨D, h1, h2, h3, h4⟩ := h
  rw [h2.wh h3]
  exact rwhere_any w h1 p
theorem rfew_q (h : Rq N w f r c l) (hN : N ≤ 90000) (hc8 : c ≤ 8) (m : Nat) (hm : m < 4294967296) : Calls Try.prog 32 #[pv f, uv m] w fun e w' => e = .returned (.int .i64 (few c m (lens l))) ∧ Below w.heap.size w w' := by
  obtain ⟨D, h1, h2, h3, h4⟩ := h
  rw [h2.few]
  exact rfew_any w h1 (Nat.le_trans h4 hN) hc8 m hm
theorem rmay_q (h : Rq N w f r c l) (hN : N ≤ 90000) (hc8 : c ≤ 8) (m : Nat) (hm : m < 4294967296) : Calls Try.prog 20 #[pv f, uv m] w fun e w' => e = .returned (.bool (may c m)) ∧ Below w.heap.size w w' := by
  obtain ⟨D, h1, h2, h3, h4⟩ := h
  exact rmay_any w h1 (Nat.le_trans h4 hN) hc8 m hm
theorem rlist_q (h : Rq N w f r c l) (hN : N ≤ 90000) (z : Int) : Calls Try.prog 25 #[pv f, .int .i64 z] w fun e w' => Below w.heap.size w w' ∧ ∃ u G, e = .returned u ∧ Rw w' u G (lst c l z) ∧ ∀ g, G = some g → w.heap.size ≤ g := by
  obtain ⟨D, h1, h2, h3, h4⟩ := h
  rw [h2.lst]
  exact rlist_any w h1 (Nat.le_trans h4 hN) z
theorem rin_q (h : Rq N w f r c l) (hc8 : c ≤ 8) (z : Int) (m : Nat) (hm : m < 4294967296) : Calls Try.prog 33 #[pv f, .int .i64 z, uv m] w fun e w' => e = .returned (.bool (hasC c m z)) ∧ w = w' := by
  obtain ⟨D, h1, h2, h3, h4⟩ := h
  exact rin_any w h1 hc8 z m hm
theorem Rq.push (h : Rq N w f r c l) (hN : N ≤ 90000) (p : Int) (T : Nat) (hT : T < c) (hp : Ok c (up l T (l T ++ [p]))) :
    ∃ a n1 n a' n1' n' w', w.cell? ⟨f, 1, none⟩ = some (.slice a n1 n) ∧ (appO #[29, 29] 29 #[.slice a n1 n, .slice (some ⟨w.heap.size, 0, none⟩) 1 1]).run Try.prog (w.alloc (.cells #[.int .i64 p, .int .i64 (T : Int)] 62)) = .ok (.slice a' n1' n') w' ∧
      w'.cell? ⟨f, 1, none⟩ = some (.slice a n1 n) ∧ w'.frozen? ⟨f, 1, none⟩ = false ∧ Kp (fun j => j = f ∨ j = r) w (w'.setCell ⟨f, 1, none⟩ (.slice a' n1' n')) ∧ ∃ r', Rq (N + 1) (w'.setCell ⟨f, 1, none⟩ (.slice a' n1' n')) f r' c (up l T (l T ++ [p])) ∧ (r' = f ∨ r' = r ∨ w.heap.size ≤ r') := by
  obtain ⟨D, h1, h2, h3, h4⟩ := h
  obtain ⟨a, n, a', n', w', q1, q2, q3, q4, q5, r', q6, q7⟩ := Rs.push h1 (Nat.le_trans h4 hN) ⟨p, (T : Int)⟩
  exact ⟨a, _, n, a', _, n', w', q1, q2, q3, q4, q5, r', ⟨_, q6, h2.snoc p hT, hp, by simp; omega⟩, q7⟩
theorem few_lt {m : Nat} {n : Nat → Nat} : few c m n < 0 ↔ may c m = false := by
  have := may_few (c := c) (m := m) (n := n)
  rw [← this]
  simp
theorem wh_lt0 {p : Int} : 0 ≤ wh c l p ↔ (whN c l p).isSome = true := by
  unfold wh
  cases whN c l p <;> simp
set_option maxHeartbeats 1000000 in
theorem rplace_any (w : World) (h : Rq N w f r c l) (hN : N ≤ 90000) (hc8 : c ≤ 8) (p z : Int) (m : Nat) (hm : m < 4294967296) :
    Calls Try.prog 10 #[pv f, .int .i64 p, .int .i64 z, uv m] w fun e w' => e = .returned (.tuple #[.int .i64 (plR c l p z m), .int .i64 (plE c l p m)]) ∧ Kp (fun j => j = f ∨ j = r) w w' ∧ ∃ r', Rq (N + 1) w' f r' c (plL c l p z m) ∧ (r' = f ∨ r' = r ∨ w.heap.size ≤ r') := by
  have HQ := Lib.hid h
  have HF := Lib.hid (rfew_q h hN hc8 m hm)
  by_cases hp : p < 1
  · have d0 : decide (p < 1) = true := decide_eq_true hp
    have he : plE c l p m = 2 := by unfold plE; rw [if_pos hp]
    have hr : plR c l p z m = 0 := by unfold plR; rw [he]; rfl
    have hl : plL c l p z m = l := by unfold plL; rw [he]; rfl
    rw [he, hr, hl]
    have HE := Lib.hid (And.intro (Kp.refl (fun j => j = f ∨ j = r) w) (h.more (Nat.le_succ N)))
    clear h hp he hr hl
    go_enter Try.func10, Try.ntmps10
    go_wp2
    go_ret2
    exact ⟨rfl, HE.out.1, r, HE.out.2, .inr (.inl rfl)⟩
  · have d0 : decide (p < 1) = false := decide_eq_false hp
    by_cases hw : (whN c l p).isSome = true ∨ may c m = false
    · have he : plE c l p m = 130 := by unfold plE; rw [if_neg hp, if_pos hw]
      have hr : plR c l p z m = 0 := by unfold plR; rw [he]; rfl
      have hl : plL c l p z m = l := by unfold plL; rw [he]; rfl
      have HW : Hid (∀ W, Below w.heap.size w W → Calls Try.prog 18 #[pv f, .int .i64 p] W fun e w' => e = .returned (.int .i64 (wh c l p)) ∧ W = w') := Lib.hid (fun W hb => rwhere_q (h.below hb) p)
      have HE : Hid (∀ W, Below w.heap.size w W → Kp (fun j => j = f ∨ j = r) w W ∧ Rq (N + 1) W f r c l) := Lib.hid (fun W hb => ⟨kp_below hb, (h.below hb).more (Nat.le_succ N)⟩)
      rw [he, hr, hl]
      have hor : (decide (0 ≤ wh c l p) = true) ∨ (decide (0 ≤ wh c l p) = false ∧ decide (few c m (lens l) < 0) = true) := by
        by_cases h0 : 0 ≤ wh c l p
        · exact .inl (decide_eq_true h0)
        · refine .inr ⟨decide_eq_false h0, decide_eq_true (few_lt.2 ?_)⟩
          rcases hw with hw | hw
          · exact absurd (wh_lt0.2 hw) h0
          · exact hw
      generalize wh c l p = W0 at *
      generalize few c m (lens l) = F0 at *
      clear h hp he hr hl hw
      rcases hor with d1 | ⟨d1, d2⟩
      all_goals
        go_enter Try.func10, Try.ntmps10
        go_wp2_with (first
          | (go_at_call 32; (with_reducible refine HF.out.mono ?_); rintro e w1 ⟨rfl, hb⟩; have HB := Lib.hid hb; clear hb)
          | (go_at_call 18; (with_reducible refine (HW.out _ HB.out).mono ?_); rintro e w2 ⟨rfl, rfl⟩))
        go_ret2
        exact ⟨rfl, (HE.out _ HB.out).1, r, (HE.out _ HB.out).2, .inr (.inl rfl)⟩
    · have hs0 : whN c l p = none := by
        cases hx : whN c l p with
        | none => rfl
        | some k => rw [hx] at hw; exact absurd (.inl rfl) hw
      have hmy : may c m = true := by
        cases hx : may c m with
        | true => rfl
        | false => exact absurd (.inr hx) hw
      have he : plE c l p m = 0 := plE_of (by omega) hs0 hmy
      have hr : plR c l p z m = (plT c l z m : Int) := by unfold plR; rw [if_pos he]
      have hl : plL c l p z m = up l (plT c l z m) (l (plT c l z m) ++ [p]) := by unfold plL; rw [if_pos he]
      have hokn := h.ok.place p z m
      rw [hl] at hokn
      obtain ⟨hT, _⟩ := plT_in (l := l) (z := z) hmy
      rw [he, hr, hl]
      have d1 : decide (0 ≤ wh c l p) = false := decide_eq_false (fun h0 => hw (.inl (wh_lt0.1 h0)))
      have d2 : decide (few c m (lens l) < 0) = false := decide_eq_false (fun h0 => hw (.inr (few_lt.1 h0)))
      have HW : Hid (∀ W, Below w.heap.size w W → Calls Try.prog 18 #[pv f, .int .i64 p] W fun e w' => e = .returned (.int .i64 (wh c l p)) ∧ W = w') := Lib.hid (fun W hb => rwhere_q (h.below hb) p)
      have HI : Hid (∀ W, Below w.heap.size w W → Calls Try.prog 33 #[pv f, .int .i64 z, uv m] W fun e w' => e = .returned (.bool (hasC c m z)) ∧ W = w') := Lib.hid (fun W hb => rin_q (h.below hb) hc8 z m hm)
      have hto : (hasC c m z = true ∧ z = (plT c l z m : Int)) ∨ (hasC c m z = false ∧ few c m (lens l) = (plT c l z m : Int)) := by
        unfold plT
        by_cases hh : hasC c m z = true
        · left
          obtain ⟨k, _, _, h3⟩ := hasC_iff.1 hh
          rw [if_pos hh]
          exact ⟨hh, by omega⟩
        · right
          rw [if_neg hh]
          refine ⟨by simpa using hh, ?_⟩
          rw [may_iff (n := lens l)] at hmy
          obtain ⟨k, hk⟩ := Option.isSome_iff_exists.1 hmy
          rw [few_eq_some hk, hk]
          rfl
      have HP : Hid (∀ W, Below w.heap.size w W → _) := Lib.hid (fun W (hb : Below w.heap.size w W) => Rq.push (h.below hb) hN p (plT c l z m) hT hokn)
      generalize wh c l p = W0 at *
      generalize few c m (lens l) = F0 at *
      generalize plT c l z m = T at *
      generalize up l T (l T ++ [p]) = l2 at *
      clear h hp he hr hl hw hs0 hmy hokn hT
      rcases hto with ⟨d3, hz⟩ | ⟨d3, hz⟩
      all_goals
        rw [d3] at HI
        subst hz
        go_enter Try.func10, Try.ntmps10
        go_wp2_with (first
          | (go_at_call 32; (with_reducible refine HF.out.mono ?_); rintro e w1 ⟨rfl, hb⟩; have HB := Lib.hid hb; obtain ⟨a, n1, n, a', n1', n', w5, q1, q2, q3, q4, q5, r', q6, q7⟩ := HP.out w1 hb; have H6 := Lib.hid (And.intro q5 (And.intro q6 q7)); clear hb q5 q6 q7)
          | (go_at_call 18; (with_reducible refine (HW.out _ HB.out).mono ?_); rintro e w2 ⟨rfl, rfl⟩)
          | (go_at_call 33; (with_reducible refine (HI.out _ HB.out).mono ?_); rintro e w3 ⟨rfl, rfl⟩))
        go_ret2
        exact ⟨rfl, (kp_below HB.out).trans H6.out.1 (fun _ e => .inl e), r', H6.out.2.1, H6.out.2.2.imp id (Or.imp id (Nat.le_trans HB.out.size))⟩
end Go.Proofs.Ytkjmpkoogjbjnaa.Quy
