/-
  The document's own open files: Is, Open, Share, Drop, Used.
-/
import Derived.Test.YtmdldehdlggpkaaJe
namespace Go.Proofs.Ytmdldehdlggpkaa.Jr
open Go Go.RowKit Kit Bk Jp Jm Ji Jo Ju Jd Je
set_option linter.unusedVariables false
attribute [local go_sem ↓] stf_wrap app_wrap

/-- The document's open files in block q: of each what it is, as long as it is open; then the counts. -/
def Rf (w : World) (q : Nat) (S : Sf) : Prop :=
  ∃ cs, Blk w q cs 49 ∧ cs.size = 192 ∧ ∀ k, k < 64 → (∃ p v, cs[k * 2]? = some (.int .i64 p) ∧ cs[k * 2 + 1]? = some (.bool v) ∧ (S.R k ≠ 0 → p = S.P k ∧ v = S.V k)) ∧ cs[128 + k]? = some (.int .i64 (S.R k : Int))
theorem Rf.kept {T : Nat → Prop} {w w' : World} {q : Nat} {S : Sf} (h : Rf w q S) (hk : Kp T w w') (hp : ¬ T q) : Rf w' q S := by
  obtain ⟨cs, h1, h2⟩ := h
  exact ⟨cs, h1.kept hk hp, h2⟩
theorem Rf.below {w w' : World} {q : Nat} {S : Sf} (h : Rf w q S) (hb : Below w.heap.size w w') : Rf w' q S := h.kept (T := fun _ => False) (.of_below hb) (fun e => e)
theorem Rf.low {w w' : World} {q n₀ : Nat} {S : Sf} (h : Rf w q S) (hb : Below n₀ w w') (hp : q < n₀) : Rf w' q S := by
  obtain ⟨cs, h1, h2⟩ := h
  exact ⟨cs, (hb.block q hp).trans h1, h2⟩
theorem Rf.lt {w : World} {q : Nat} {S : Sf} (h : Rf w q S) : q < w.heap.size := by
  obtain ⟨cs, h1, h2⟩ := h
  exact h1.lt
/-- A count stored. -/
theorem Rf.cnt {w : World} {q : Nat} {S : Sf} (h : Rf w q S) (k : Nat) (hk : k < 64) (r : Nat) (T : Sf) (hR : T.R = up S.R k r) (hT : ∀ j, T.R j ≠ 0 → S.R j ≠ 0 ∧ T.P j = S.P j ∧ T.V j = S.V j) : Rf (w.setCell ⟨q, 128 + k, none⟩ (.int .i64 (r : Int))) q T := by
  obtain ⟨cs, h1, h2, h3⟩ := h
  refine ⟨_, h1.set _ _, by simpa using h2, fun j hj => ?_⟩
  obtain ⟨⟨p, v, e0, e1, e2⟩, e3⟩ := h3 j hj
  refine ⟨⟨p, v, ?_, ?_, fun hne => ?_⟩, ?_⟩
  · rw [Array.getElem?_setIfInBounds, if_neg (by omega)]; exact e0
  · rw [Array.getElem?_setIfInBounds, if_neg (by omega)]; exact e1
  · obtain ⟨a1, a2, a3⟩ := hT j hne
    rw [a2, a3]
    exact e2 a1
  · rw [Array.getElem?_setIfInBounds, hR]
    by_cases e : j = k
    · subst e; rw [if_pos rfl, if_pos (by omega), up_same]
    · rw [if_neg (by omega), up_other _ _ _ _ e]; exact e3
/-- A file stored, and its count. -/
theorem Rf.put {w : World} {q : Nat} {S : Sf} (h : Rf w q S) (k : Nat) (hk : k < 64) (P : Int) (V : Bool) : Rf ((w.setCells q (k * 2) [.int .i64 P, .bool V]).setCell ⟨q, 128 + k, none⟩ (.int .i64 1)) q (S.put k P V 1) := by
  obtain ⟨cs, h1, h2, h3⟩ := h
  obtain ⟨ds, d1, d2, d3, d4⟩ := h1.sets [.int .i64 P, .bool V] (k * 2)
  have hl : ([.int .i64 P, .bool V] : List Value).length = 2 := rfl
  rw [hl] at d3 d4
  refine ⟨_, d1.set _ _, by simp [d2, h2], fun j hj => ?_⟩
  obtain ⟨⟨p, v, e0, e1, e2⟩, e3⟩ := h3 j hj
  unfold Sf.put
  dsimp only
  by_cases e : j = k
  · subst e
    refine ⟨⟨P, V, ?_, ?_, fun _ => ?_⟩, ?_⟩
    · rw [Array.getElem?_setIfInBounds, if_neg (by omega)]
      have := d4 0 (by omega) (by omega)
      rw [Nat.add_zero] at this
      rw [this]; rfl
    · rw [Array.getElem?_setIfInBounds, if_neg (by omega), d4 1 (by omega) (by omega)]; rfl
    · rw [up_same, up_same]; exact ⟨rfl, rfl⟩
    · rw [Array.getElem?_setIfInBounds, if_pos rfl, if_pos (by omega), up_same]; rfl
  · refine ⟨⟨p, v, ?_, ?_, fun hne => ?_⟩, ?_⟩
    · rw [Array.getElem?_setIfInBounds, if_neg (by omega), d3 _ (by omega)]; exact e0
    · rw [Array.getElem?_setIfInBounds, if_neg (by omega), d3 _ (by omega)]; exact e1
    · rw [up_other _ _ _ _ e] at hne
      rw [up_other _ _ _ _ e, up_other _ _ _ _ e]
      exact e2 hne
    · rw [Array.getElem?_setIfInBounds, if_neg (by omega), d3 _ (by omega), up_other _ _ _ _ e]; exact e3

theorem is_any (w : World) (q : Nat) (S : Sf) (h : Rf w q S) (n : Int) :
    Calls Try.prog 15 #[.pointer (some ⟨q, 0, none⟩), .int .i64 n] w fun e w' => e = .returned (.bool (decide (rf S.R n ≠ 0))) ∧ w = w' := by
  by_cases h0 : 0 ≤ n
  · have d0 : decide (0 ≤ n) = true := decide_eq_true h0
    by_cases h1 : n ≤ 63
    · have d1 : decide (n ≤ 63) = true := decide_eq_true h1
      obtain ⟨k, rfl⟩ := Int.eq_ofNat_of_zero_le h0
      rw [rf_nat (by omega)]
      obtain ⟨cs, g1, g2, g3⟩ := h
      have c0 := (g1.cell (128 + k)).trans (g3 k (by omega)).2
      have hk : (k : Int) < 64 := by omega
      have hd : decide (0 < (S.R k : Int)) = decide (S.R k ≠ 0) := decide_eq_decide.2 (by omega)
      obtain ⟨r, hr⟩ : ∃ r : Int, (S.R k : Int) = r := ⟨_, rfl⟩
      rw [hr] at c0 hd
      rw [← hd]
      clear g1 g2 g3 h0 hr hd
      go_enter Try.func15, Try.ntmps15
      go_wp2
      go_ret
      exact ⟨rfl, rfl⟩
    · have d1 : decide (n ≤ 63) = false := decide_eq_false h1
      have hz : decide (rf S.R n ≠ 0) = false := by unfold rf; rw [if_neg (by omega)]; rfl
      rw [hz]
      clear h h0 h1 hz
      go_enter Try.func15, Try.ntmps15
      go_wp2
      go_ret
      exact ⟨rfl, rfl⟩
  · have d0 : decide (0 ≤ n) = false := decide_eq_false h0
    have hz : decide (rf S.R n ≠ 0) = false := by unfold rf; rw [if_neg (by omega)]; rfl
    rw [hz]
    clear h h0 hz
    go_enter Try.func15, Try.ntmps15
    go_wp2
    go_ret
    exact ⟨rfl, rfl⟩

theorem rshare_any (w : World) (q : Nat) (S : Sf) (h : Rf w q S) (hf : Few S) (n : Int) :
    Calls Try.prog 36 #[.pointer (some ⟨q, 0, none⟩), .int .i64 n] w fun e w' => e = .returned (.int .i64 (sE S n)) ∧ Kp (fun j => j = q) w w' ∧ Rf w' q (sS S n) := by
  have HI := is_any w q S h n
  by_cases hz : rf S.R n = 0
  · unfold sE sS
    rw [if_pos hz, if_pos hz]
    rw [decide_eq_false (fun e => e hz)] at HI
    have HI2 := Lib.hid HI
    have HF := Lib.hid h
    clear h hf hz HI
    go_enter Try.func36, Try.ntmps36
    go_wp2_with (go_at_call 15; (with_reducible refine HI2.out.mono ?_); rintro e w1 ⟨rfl, rfl⟩)
    go_ret
    exact ⟨rfl, Kp.refl _ _, HF.out⟩
  · unfold sE sS
    rw [if_neg hz, if_neg hz]
    rw [decide_eq_true hz] at HI
    have HI2 := Lib.hid HI
    obtain ⟨k, rfl, hk, hr⟩ := rf_pos hz
    rw [show Int.toNat (k : Int) = k by omega]
    have hd := h.below ((Below.refl _ _).drew)
    have hs := Rf.cnt hd k hk (S.R k + 1) ⟨S.P, S.V, up S.R k (S.R k + 1)⟩ rfl (fun j hj => by
      refine ⟨?_, rfl, rfl⟩
      by_cases e : j = k
      · rw [e]; exact hr
      · dsimp only at hj; rw [up_other _ _ _ _ e] at hj; exact hj)
    have hkp : Kp (fun j => j = q) w (w.drew.setCell ⟨q, 128 + k, none⟩ (.int .i64 ((S.R k + 1 : Nat) : Int))) := ((Kp.refl _ _).drew).trans (Kp.set (S := fun j => j = q) _ _ _ _ rfl) (fun _ e => .inl e)
    rw [show ((S.R k + 1 : Nat) : Int) = (S.R k : Int) + 1 by omega] at hs hkp
    obtain ⟨cs, g1, g2, g3⟩ := hd
    have c0 := (g1.cell (128 + k)).trans (g3 k (by omega)).2
    have f0 := g1.free (128 + k)
    have hfk := hf k
    have hk2 : (k : Int) < 64 := by omega
    obtain ⟨r, hr2⟩ : ∃ r : Int, (S.R k : Int) = r := ⟨_, rfl⟩
    have hr0 : 0 ≤ r := by omega
    have hr9 : r ≤ 1000000000 := by omega
    rw [hr2] at c0 hs hkp
    have HE := Lib.hid (And.intro hkp hs)
    clear h hf hz HI g1 g2 g3 hr hfk hr2 hs hkp
    go_enter Try.func36, Try.ntmps36
    go_wp2_with (go_at_call 15; (with_reducible refine HI2.out.mono ?_); rintro e w1 ⟨rfl, rfl⟩)
    go_region
    go_wp2
    go_ret
    exact ⟨rfl, HE.out.1, HE.out.2⟩
theorem rdrop_any (w : World) (q : Nat) (S : Sf) (h : Rf w q S) (hf : Few S) (n : Int) :
    Calls Try.prog 37 #[.pointer (some ⟨q, 0, none⟩), .int .i64 n] w fun e w' => e = .returned (.tuple #[.int .i64 (dN S n), .agg #[.int .i64 (dP S n), .bool (dV S n)], .int .i64 (sE S n)]) ∧ Kp (fun j => j = q) w w' ∧ Rf w' q (dS S n) := by
  have hlt := h.lt
  have hb0 : Below w.heap.size w (w.alloc (.cells #[.int .i64 0, .bool false] 26)) := (Below.refl _ _).alloc (Nat.le_refl _) _
  have hx : Blk (w.alloc (.cells #[.int .i64 0, .bool false] 26)) w.heap.size #[.int .i64 0, .bool false] 26 := Blk.new _ _ _
  have h0 := h.below hb0
  generalize hW0 : w.alloc (.cells #[.int .i64 0, .bool false] 26) = W0 at *
  have HI := is_any W0 q S h0 n
  by_cases hz : rf S.R n = 0
  · unfold dN dP dV sE dS
    rw [if_pos hz, if_pos hz, if_pos hz, if_pos hz, if_pos hz]
    rw [decide_eq_false (fun e => e hz)] at HI
    have HI2 := Lib.hid HI
    obtain ⟨W2, hst, hx2, hk2⟩ := own_st W0 _ _ _ hx 0 false
    have x0 := hx2.cell 0
    have x1 := hx2.cell 1
    have HE := Lib.hid (And.intro ((Kp.of_below (S := fun j => j = q) hb0).trans hk2 (fun j e => .inr (by omega))) (h0.kept hk2 (by omega)))
    clear h h0 hf hz HI hx hx2 hk2 hb0 hlt
    go_enter Try.func37, Try.ntmps37
    go_wp2_with (go_at_call 15; (with_reducible refine HI2.out.mono ?_); rintro e w1 ⟨rfl, rfl⟩)
    exact bodyPost_ret (v := .tuple #[.int .i64 0, .agg #[.int .i64 0, .bool false], .int .i64 101]) (by simp [results, Try.results37, go_sem, x0, x1]) rfl ⟨rfl, HE.out.1, HE.out.2⟩
  · rw [decide_eq_true hz] at HI
    have HI2 := Lib.hid HI
    obtain ⟨k, rfl, hk, hr⟩ := rf_pos hz
    have e1 : dN S (k : Int) = (S.R k : Int) - 1 := by unfold dN; rw [if_neg hz, rf_nat hk]
    have e2 : dP S (k : Int) = S.P k := by unfold dP; rw [if_neg hz]; rfl
    have e3 : dV S (k : Int) = S.V k := by unfold dV; rw [if_neg hz]; rfl
    have e4 : sE S (k : Int) = 0 := by unfold sE; rw [if_neg hz]
    have e5 : (dS S (k : Int)).R = up S.R k (S.R k - 1) := by
      unfold dS
      rw [if_neg hz, rf_nat hk, show Int.toNat (k : Int) = k by omega]
      split
      · rename_i h1; rw [h1]; rfl
      · rfl
    have e6 : ∀ j, (dS S (k : Int)).R j ≠ 0 → S.R j ≠ 0 ∧ (dS S (k : Int)).P j = S.P j ∧ (dS S (k : Int)).V j = S.V j := fun j hj => by
      rw [e5] at hj
      by_cases e : j = k
      · subst e
        rw [up_same] at hj
        refine ⟨hr, ?_⟩
        unfold dS
        rw [if_neg hz, rf_nat hk, if_neg (by omega)]
        exact ⟨rfl, rfl⟩
      · rw [up_other _ _ _ _ e] at hj
        refine ⟨hj, ?_⟩
        unfold dS
        rw [if_neg hz, rf_nat hk, show Int.toNat (k : Int) = k by omega]
        split
        · unfold Sf.put
          dsimp only
          rw [up_other _ _ _ _ e, up_other _ _ _ _ e]
          exact ⟨rfl, rfl⟩
        · exact ⟨rfl, rfl⟩
    rw [e1, e2, e3, e4]
    have hd := h0.below ((Below.refl _ _).drew)
    have hs := Rf.cnt hd k hk (S.R k - 1) (dS S (k : Int)) e5 e6
    have hkp : Kp (fun j => j = q) W0 (W0.drew.setCell ⟨q, 128 + k, none⟩ (.int .i64 ((S.R k - 1 : Nat) : Int))) := ((Kp.refl _ _).drew).trans (Kp.set (S := fun j => j = q) _ _ _ _ rfl) (fun _ e => .inl e)
    rw [show ((S.R k - 1 : Nat) : Int) = (S.R k : Int) - 1 by omega] at hs hkp
    obtain ⟨cs, g1, g2, g3⟩ := hd
    have c0 := (g1.cell (128 + k)).trans (g3 k (by omega)).2
    have f0 := g1.free (128 + k)
    obtain ⟨p, v, y0, y1, y2⟩ := (g3 k hk).1
    obtain ⟨rfl, rfl⟩ := y2 hr
    have g4 := g1.set (128 + k) (.int .i64 ((S.R k : Int) - 1))
    have hx1 := hx.kept hkp (by omega)
    have hfk := hf k
    obtain ⟨r, hr2⟩ : ∃ r : Int, (S.R k : Int) = r := ⟨_, rfl⟩
    have hr0 : 1 ≤ r := by omega
    have hr9 : r ≤ 1000000000 := by omega
    rw [hr2] at c0 hs hkp g4 hx1 ⊢
    have y2 := (g4.cell (k * 2)).trans ((Array.getElem?_setIfInBounds_ne (show 128 + k ≠ k * 2 by omega)).trans y0)
    have y3 := (g4.cell (k * 2 + 1)).trans ((Array.getElem?_setIfInBounds_ne (show 128 + k ≠ k * 2 + 1 by omega)).trans y1)
    have y4 := g4.cell (128 + k)
    rw [Array.getElem?_setIfInBounds, if_pos rfl, if_pos (by omega)] at y4
    generalize hW1 : W0.drew.setCell ⟨q, 128 + k, none⟩ (.int .i64 (r - 1)) = W1 at *
    obtain ⟨W4, hst4, hx4, k4⟩ := Jo.own_st W1.drew _ _ _ (hx1.below ((Below.refl _ _).drew)) (S.P k) (S.V k)
    have x0 := hx4.cell 0
    have x1 := hx4.cell 1
    have HE : Hid (Kp (fun j => j = q) w W4 ∧ Rf W4 q (dS S (k : Int))) := Lib.hid ⟨((Kp.of_below hb0).trans hkp (fun _ e => .inl e)).trans (((Kp.refl (fun j => j = w.heap.size) W1).drew).trans k4 (fun _ e => .inl e)) (fun j e => .inr (by omega)), hs.kept (((Kp.refl (fun j => j = w.heap.size) W1).drew).trans k4 (fun _ e => .inl e)) (by omega)⟩
    generalize S.P k = P at *
    generalize S.V k = V at *
    generalize dS S (k : Int) = T at *
    have hk2 : (k : Int) < 64 := by omega
    clear h h0 hf hz HI hx hx1 hx4 k4 hb0 hlt g1 g2 g3 g4 hr hr2 hfk hs hkp y0 y1 e1 e2 e3 e4 e5 e6
    go_enter Try.func37, Try.ntmps37
    go_wp2_with (go_at_call 15; (with_reducible refine HI2.out.mono ?_); rintro e w1 ⟨rfl, rfl⟩)
    go_region
    go_wp2
    go_region
    go_wp2
    exact bodyPost_ret (v := .tuple #[.int .i64 (r - 1), .agg #[.int .i64 P, .bool V], .int .i64 0]) (by simp [results, Try.results37, go_sem, x0, x1]) rfl ⟨rfl, HE.out.1, HE.out.2⟩
end Go.Proofs.Ytmdldehdlggpkaa.Jr
