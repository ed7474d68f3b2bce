/-
  QueueSpreads, in plain words: pids that are placed by no core of their own spread; moved to one core they are all there, in the order of the moves.
-/
import Derived.Test.YtkjmpkoogjbjnaaQuq
namespace Go.Proofs.Ytkjmpkoogjbjnaa.Qus
open Go Go.RowKit Kit Bk Qua Qun Quq
set_option linter.unusedVariables false

variable {c : Nat} {l : Ls}
/-- The pids 1 to i are placed, and spread. -/
structure Sp (c : Nat) (i : Nat) (l : Ls) : Prop where
  ok : Ok c l
  tot : tot l = i
  all : ∀ p : Int, 1 ≤ p → p ≤ (i : Int) → ∃ k, p ∈ l k
  top : ∀ k p, p ∈ l k → p ≤ (i : Int)
  bal : ∀ j k, j < c → k < c → (l j).length ≤ (l k).length + 1
theorem sp_nol (c : Nat) : Sp c 0 Qub.NoL := ⟨ok_nol c, rfl, fun p h1 h2 => by simp at h2; omega, fun k p h => (by cases h), fun j k _ _ => Nat.zero_le _⟩
theorem bt_255 {k : Nat} (h : k < 8) : bt 255 k = true := by
  rcases Qub.eight h with rfl | rfl | rfl | rfl | rfl | rfl | rfl | rfl <;> rfl
theorem ws_255 {k : Nat} (hc : c ≤ 8) : k ∈ ws c 255 ↔ k < c := by
  rw [ws_mem]
  constructor
  · intro h; exact h.1
  · intro h; exact ⟨h, bt_255 (by omega)⟩
theorem hasC_neg (m : Nat) : hasC c m (-1) = false := by
  rw [Bool.eq_false_iff]
  intro e
  obtain ⟨k, _, _, h⟩ := hasC_iff.1 e
  omega
theorem may_255 (h1 : 1 ≤ c) (h8 : c ≤ 8) : may c 255 = true := by
  have : 0 ∈ ws c 255 := (ws_255 h8).2 (by omega)
  unfold may
  cases e : ws c 255 with
  | nil => rw [e] at this; simp at this
  | cons a r => rfl
theorem Sp.place {i : Nat} (h : Sp c i l) (h1 : 1 ≤ c) (h8 : c ≤ 8) : Sp c (i + 1) (plL c l ((i + 1 : Nat) : Int) (-1) 255) := by
  have hm := may_255 h1 h8
  have hno : whN c l ((i + 1 : Nat) : Int) = none := h.ok.wh_none (fun k hk => by have := h.top k _ hk; omega)
  have he : plE c l ((i + 1 : Nat) : Int) 255 = 0 := plE_of (by omega) hno hm
  have hT := plT_in (l := l) (z := -1) hm
  obtain ⟨T, hf⟩ : ∃ T, fewN c 255 (lens l) = some T := Option.isSome_iff_exists.1 (by rw [← may_iff]; exact hm)
  have eT : plT c l (-1) 255 = T := by unfold plT; rw [hasC_neg, hf]; rfl
  obtain ⟨g1, g2, g3⟩ := few_some hf
  refine ⟨h.ok.place _ _ _, ?_, fun p p1 p2 => ?_, fun k p hp => ?_, fun j k hj hk => ?_⟩
  · rw [tot_place h8, if_pos he, h.tot]
  · by_cases e : p = ((i + 1 : Nat) : Int)
    · subst e; exact ⟨_, place_there he⟩
    · obtain ⟨k, hk⟩ := h.all p p1 (by omega)
      exact ⟨k, place_mem hk⟩
  · rcases mem_place hp with hp | ⟨_, rfl, _⟩
    · have := h.top k p hp; omega
    · exact Int.le_refl _
  · have hle := g2 k ((ws_255 h8).2 hk)
    unfold lens at hle
    have hb := h.bal j k hj hk
    unfold plL
    rw [if_pos he, eT]
    unfold up
    by_cases ej : j = T
    · by_cases ek : k = T
      · rw [if_pos ej, if_pos ek]; omega
      · rw [if_pos ej, if_neg ek, List.length_append]; simp; omega
    · by_cases ek : k = T
      · rw [if_neg ej, if_pos ek, List.length_append]; subst ek; simp; omega
      · rw [if_neg ej, if_neg ek]; exact hb
/-- Of n pids the first i are moved to core k, behind those that were there. -/
structure Mv (c n k : Nat) (was : List Int) (i : Nat) (l : Ls) (R : List Int) : Prop where
  ok : Ok c l
  tot : tot l = n
  all : ∀ p : Int, 1 ≤ p → p ≤ (n : Int) → ∃ k, p ∈ l k
  top : ∀ k p, p ∈ l k → p ≤ (n : Int)
  lk : l k = was ++ R
  up : R.Pairwise (· < ·)
  le : ∀ p, p ∈ R → p ≤ (i : Int)
  rest : ∀ j p, j ≠ k → p ∈ l j → (i : Int) < p
theorem mv_start {n k : Nat} (h : Sp c n l) : Mv c n k (l k) 0 l [] := ⟨h.ok, h.tot, h.all, h.top, by simp, List.Pairwise.nil, fun p hp => (by cases hp), fun j p _ hp => by have := h.ok.pos j p hp; simp; omega⟩
theorem bt_two {k j : Nat} : bt (2 ^ k) j = decide (j = k) := by
  unfold bt
  rw [Nat.testBit_two_pow]
  rw [Bool.eq_iff_iff]
  simp
  omega
theorem ws_two {k j : Nat} (hk : k < c) : j ∈ ws c (2 ^ k) ↔ j = k := by
  rw [ws_mem, bt_two]
  simp
  omega
theorem may_two {k : Nat} (hk : k < c) : may c (2 ^ k) = true := by
  have : k ∈ ws c (2 ^ k) := (ws_two hk).2 rfl
  unfold may
  cases e : ws c (2 ^ k) with
  | nil => rw [e] at this; simp at this
  | cons a r => rfl
theorem few_two {k : Nat} (hk : k < c) (n : Nat → Nat) : fewN c (2 ^ k) n = some k := few_is ((ws_two hk).2 rfl) (fun j hj => by rw [(ws_two hk).1 hj]; exact Nat.le_refl _) (fun j hj hlt => by rw [(ws_two hk).1 hj] at hlt; omega)
/-- The next one is moved. -/
theorem Mv.next {n k i : Nat} {was R : List Int} (h : Mv c n k was i l R) (hk : k < c) (h8 : c ≤ 8) (hi : i < n) :
    mvR c l ((i + 1 : Nat) : Int) (2 ^ k) = (k : Int) ∧ mvE c l ((i + 1 : Nat) : Int) (2 ^ k) = 0 ∧ ∃ R', Mv c n k was (i + 1) (mvL c l ((i + 1 : Nat) : Int) (2 ^ k)) R' := by
  obtain ⟨j, hj⟩ := h.all ((i + 1 : Nat) : Int) (by omega) (by omega)
  have hw := h.ok.wh_some hj
  have hm := may_two hk
  have hn : ¬ mvN c l ((i + 1 : Nat) : Int) (2 ^ k) := by
    unfold mvN
    rw [hw, hm]
    simp
  have hE : mvE c l ((i + 1 : Nat) : Int) (2 ^ k) = 0 := by rw [mvE_eq h.ok, if_neg hn]
  by_cases e : j = k
  · subst e
    have hz : hasC c (2 ^ j) (wh c l ((i + 1 : Nat) : Int)) = true := by
      rw [wh_eq_some hw, hasC_nat, bt_two]
      simp [h.ok.lt hj]
    have hL : mvL c l ((i + 1 : Nat) : Int) (2 ^ j) = l := by unfold mvL; rw [if_neg hn, if_pos hz]
    refine ⟨by unfold mvR; rw [if_neg hn, if_pos hz, wh_eq_some hw], hE, R, ?_⟩
    rw [hL]
    refine ⟨h.ok, h.tot, h.all, h.top, h.lk, h.up, fun p hp => by have := h.le p hp; omega, fun j2 p hj2 hp => ?_⟩
    have h1 := h.rest j2 p hj2 hp
    have h2 : p ≠ ((i + 1 : Nat) : Int) := fun e => by subst e; exact hj2 (h.ok.one j2 j _ hp hj)
    omega
  · have hz : ¬ hasC c (2 ^ k) (wh c l ((i + 1 : Nat) : Int)) = true := by
      rw [wh_eq_some hw, hasC_nat, bt_two]
      simp [e]
    obtain ⟨_, _, _, _, _, hpe⟩ := mv_ok h.ok hn
    have hT : plT c (ctL c l ((i + 1 : Nat) : Int)) (wh c l ((i + 1 : Nat) : Int)) (2 ^ k) = k := by
      unfold plT
      rw [if_neg hz, few_two hk]
      rfl
    have hL : mvL c l ((i + 1 : Nat) : Int) (2 ^ k) = Bk.up (ctL c l ((i + 1 : Nat) : Int)) k (ctL c l ((i + 1 : Nat) : Int) k ++ [((i + 1 : Nat) : Int)]) := by
      unfold mvL plL
      rw [if_neg hn, if_neg hz, if_pos hpe, hT]
    have hck : ctL c l ((i + 1 : Nat) : Int) k = l k := by
      unfold ctL
      rw [hw]
      dsimp only
      rw [up_other _ _ _ _ (Ne.symm e)]
    refine ⟨by unfold mvR plR; rw [if_neg hn, if_neg hz, if_pos hpe, hT], hE, R ++ [((i + 1 : Nat) : Int)], h.ok.move _ _, ?_, fun p p1 p2 => ?_, fun k2 p hp => ?_, ?_, ?_, fun p hp => ?_, fun j2 p hj2 hp => ?_⟩
    · rw [tot_move h.ok h8, h.tot]
    · by_cases ep : p = ((i + 1 : Nat) : Int)
      · subst ep
        refine ⟨k, ?_⟩
        rw [hL, up_same]
        simp
      · obtain ⟨k2, hk2⟩ := h.all p p1 p2
        refine ⟨k2, ?_⟩
        rw [hL, mem_up]
        by_cases ek : k2 = k
        · subst ek
          refine .inl ⟨rfl, ?_⟩
          rw [hck]
          exact List.mem_append.2 (.inl hk2)
        · exact .inr ⟨ek, (mem_cut h.ok).2 ⟨hk2, ep⟩⟩
    · rcases mem_move h.ok hp with ⟨hp, _⟩ | ⟨_, rfl, _⟩
      · exact h.top k2 p hp
      · omega
    · rw [hL, up_same, hck, h.lk, List.append_assoc]
    · rw [List.pairwise_append]
      refine ⟨h.up, by simp, fun a ha b hb => ?_⟩
      simp at hb
      have := h.le a ha
      omega
    · rcases List.mem_append.1 hp with hp | hp
      · have := h.le p hp; omega
      · simp at hp; omega
    · rw [hL, up_other _ _ _ _ hj2] at hp
      have hp2 := (mem_cut h.ok).1 hp
      have h1 := h.rest j2 p hj2 hp2.1
      have h2 := hp2.2
      omega
/-- At last all are there. -/
theorem Mv.done {n k : Nat} {was R : List Int} (h : Mv c n k was n l R) (hk : k < c) (h8 : c ≤ 8) : (l k).length = n := by
  have hemp : ∀ j, j ≠ k → l j = [] := fun j hj => by
    cases e : l j with
    | nil => rfl
    | cons a r =>
      exfalso
      have ha : a ∈ l j := by rw [e]; simp
      have h1 := h.rest j a hj ha
      have h2 := h.top j a ha
      omega
  have ht := h.tot
  rw [tot_eq] at ht
  have hk8 : k < 8 := by omega
  have e : ∀ j, j ≠ k → (l j).length = 0 := fun j hj => by rw [hemp j hj]; rfl
  rcases Qub.eight hk8 with rfl | rfl | rfl | rfl | rfl | rfl | rfl | rfl
  · rw [e 1 (by decide), e 2 (by decide), e 3 (by decide), e 4 (by decide), e 5 (by decide), e 6 (by decide), e 7 (by decide)] at ht; omega
  · rw [e 0 (by decide), e 2 (by decide), e 3 (by decide), e 4 (by decide), e 5 (by decide), e 6 (by decide), e 7 (by decide)] at ht; omega
  · rw [e 0 (by decide), e 1 (by decide), e 3 (by decide), e 4 (by decide), e 5 (by decide), e 6 (by decide), e 7 (by decide)] at ht; omega
  · rw [e 0 (by decide), e 1 (by decide), e 2 (by decide), e 4 (by decide), e 5 (by decide), e 6 (by decide), e 7 (by decide)] at ht; omega
  · rw [e 0 (by decide), e 1 (by decide), e 2 (by decide), e 3 (by decide), e 5 (by decide), e 6 (by decide), e 7 (by decide)] at ht; omega
  · rw [e 0 (by decide), e 1 (by decide), e 2 (by decide), e 3 (by decide), e 4 (by decide), e 6 (by decide), e 7 (by decide)] at ht; omega
  · rw [e 0 (by decide), e 1 (by decide), e 2 (by decide), e 3 (by decide), e 4 (by decide), e 5 (by decide), e 7 (by decide)] at ht; omega
  · rw [e 0 (by decide), e 1 (by decide), e 2 (by decide), e 3 (by decide), e 4 (by decide), e 5 (by decide), e 6 (by decide)] at ht; omega
theorem rising {was R : List Int} (h : R.Pairwise (· < ·)) (i : Nat) (h1 : was.length + 1 ≤ i) (h2 : i < (was ++ R).length) : (was ++ R).getD (i - 1) 0 < (was ++ R).getD i 0 := by
  rw [List.length_append] at h2
  rw [Qug.getD_app_new _ _ _ (by omega), Qug.getD_app_new _ _ _ (by omega)]
  have e1 : R.getD (i - 1 - was.length) 0 = R[i - 1 - was.length]'(by omega) := by simp [List.getD, show i - 1 - was.length < R.length by omega]
  have e2 : R.getD (i - was.length) 0 = R[i - was.length]'(by omega) := by simp [List.getD, show i - was.length < R.length by omega]
  rw [e1, e2]
  exact List.pairwise_iff_getElem.1 h _ _ _ _ (by omega)
end Go.Proofs.Ytkjmpkoogjbjnaa.Qus
