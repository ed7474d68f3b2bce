/-
  What the calls keep, in plain words: a pid is in one queue at most, and once; how many there are.
-/
import Derived.Test.YtkjmpkoogjbjnaaQun
namespace Go.Proofs.Ytkjmpkoogjbjnaa.Quq
open Go Go.RowKit Kit Bk Qua Qun
set_option linter.unusedVariables false

structure Ok (c : Nat) (l : Ls) : Prop where
  out : ∀ k, c ≤ k → l k = []
  nd : ∀ k, (l k).Nodup
  one : ∀ j k p, p ∈ l j → p ∈ l k → j = k
  pos : ∀ k p, p ∈ l k → 1 ≤ p
variable {c : Nat} {l : Ls}
theorem ok_nol (c : Nat) : Ok c Qub.NoL := ⟨fun _ _ => rfl, fun _ => List.nodup_nil, fun j k p h => (by cases h), fun k p h => (by cases h)⟩
theorem Ok.lt (h : Ok c l) {k : Nat} {p : Int} (hp : p ∈ l k) : k < c := by
  refine Nat.lt_of_not_le fun e => ?_
  rw [h.out k e] at hp
  cases hp
theorem Ok.wh_some (h : Ok c l) {k : Nat} {p : Int} (hp : p ∈ l k) : whN c l p = some k := whN_first (h.lt hp) hp (fun j hj hj2 => by have := h.one j k p hj2 hp; omega)
theorem Ok.wh_none (h : Ok c l) {p : Int} (hp : ∀ k, p ∉ l k) : whN c l p = none := whN_nowhere (fun j _ => hp j)
theorem Ok.none_wh (h : Ok c l) {p : Int} (hp : whN c l p = none) (k : Nat) : p ∉ l k := fun e => by rw [h.wh_some e] at hp; cases hp
theorem mem_up {l : Ls} {T k : Nat} {L : List Int} {x : Int} : x ∈ up l T L k ↔ (k = T ∧ x ∈ L) ∨ (k ≠ T ∧ x ∈ l k) := by
  by_cases e : k = T
  · subst e; rw [up_same]; simp
  · rw [up_other _ _ _ _ e]; simp [e]
theorem Ok.up (h : Ok c l) {T : Nat} {L : List Int} (hT : T < c) (h1 : L.Nodup) (h2 : ∀ x, x ∈ L → 1 ≤ x) (h3 : ∀ x, x ∈ L → ∀ j, j ≠ T → x ∉ l j) : Ok c (Bk.up l T L) := by
  refine ⟨fun k hk => ?_, fun k => ?_, fun j k p hj hk => ?_, fun k p hk => ?_⟩
  · rw [up_other _ _ _ _ (by omega)]; exact h.out k hk
  · by_cases e : k = T
    · subst e; rw [up_same]; exact h1
    · rw [up_other _ _ _ _ e]; exact h.nd k
  · rcases mem_up.1 hj with ⟨e1, g1⟩ | ⟨e1, g1⟩
    · rcases mem_up.1 hk with ⟨e2, g2⟩ | ⟨e2, g2⟩
      · rw [e1, e2]
      · exact absurd g2 (h3 p g1 k e2)
    · rcases mem_up.1 hk with ⟨e2, g2⟩ | ⟨e2, g2⟩
      · exact absurd g1 (h3 p g2 j e1)
      · exact h.one j k p g1 g2
  · rcases mem_up.1 hk with ⟨e2, g2⟩ | ⟨e2, g2⟩
    · exact h2 p g2
    · exact h.pos k p g2

theorem plE_ok {p : Int} {m : Nat} (h : plE c l p m = 0) : 1 ≤ p ∧ whN c l p = none ∧ may c m = true := by
  unfold plE at h
  split at h
  · cases h
  · rename_i hp
    split at h
    · cases h
    · rename_i hn
      refine ⟨by omega, ?_, ?_⟩
      · cases e : whN c l p with
        | none => rfl
        | some k => exact absurd (.inl (by rw [e]; rfl)) hn
      · cases e : may c m
        · exact absurd (.inr e) hn
        · rfl
theorem plE_of {p : Int} {m : Nat} (h1 : 1 ≤ p) (h2 : whN c l p = none) (h3 : may c m = true) : plE c l p m = 0 := by
  unfold plE
  rw [if_neg (by omega), if_neg]
  rw [h2, h3]
  simp
/-- The core at which a pid is placed is one of the mask. -/
theorem plT_in {z : Int} {m : Nat} (h : may c m = true) : plT c l z m < c ∧ bt m (plT c l z m) = true := by
  unfold plT
  by_cases hz : hasC c m z = true
  · rw [if_pos hz]
    obtain ⟨k, h1, h2, rfl⟩ := hasC_iff.1 hz
    rw [show (k : Int).toNat = k by omega]
    exact ⟨h1, h2⟩
  · rw [if_neg hz]
    rw [may_iff (n := lens l)] at h
    obtain ⟨T, hT⟩ := Option.isSome_iff_exists.1 h
    rw [hT]
    exact ws_mem.1 (few_some hT).1
theorem Ok.place (h : Ok c l) (p z : Int) (m : Nat) : Ok c (plL c l p z m) := by
  unfold plL
  split
  · rename_i he
    obtain ⟨h1, h2, h3⟩ := plE_ok he
    have hno := h.none_wh h2
    refine h.up (plT_in h3).1 ?_ ?_ ?_
    · rw [List.nodup_append]
      refine ⟨h.nd _, by simp, ?_⟩
      intro a ha b hb e
      simp at hb
      subst hb
      subst e
      exact hno _ ha
    · intro x hx
      rcases List.mem_append.1 hx with hx | hx
      · exact h.pos _ x hx
      · simp at hx; subst hx; exact h1
    · intro x hx j hj hj2
      rcases List.mem_append.1 hx with hx | hx
      · exact hj (h.one j _ x hj2 hx)
      · simp at hx; subst hx; exact hno j hj2
  · exact h
theorem mem_place {p z : Int} {m k : Nat} {x : Int} (hx : x ∈ plL c l p z m k) : x ∈ l k ∨ (plE c l p m = 0 ∧ x = p ∧ k < c ∧ bt m k = true) := by
  unfold plL at hx
  split at hx
  · rename_i he
    obtain ⟨h1, h2, h3⟩ := plE_ok he
    rcases mem_up.1 hx with ⟨e1, g1⟩ | ⟨e1, g1⟩
    · rcases List.mem_append.1 g1 with g2 | g2
      · rw [← e1] at g2; exact .inl g2
      · simp at g2; rw [e1]; exact .inr ⟨he, g2, plT_in h3⟩
    · exact .inl g1
  · exact .inl hx
theorem place_mem {p z : Int} {m k : Nat} {x : Int} (hx : x ∈ l k) : x ∈ plL c l p z m k := by
  unfold plL
  split
  · rw [mem_up]
    by_cases e : k = plT c l z m
    · subst e; exact .inl ⟨rfl, List.mem_append.2 (.inl hx)⟩
    · exact .inr ⟨e, hx⟩
  · exact hx
theorem place_there {p z : Int} {m : Nat} (he : plE c l p m = 0) : p ∈ plL c l p z m (plT c l z m) := by
  unfold plL
  rw [if_pos he, mem_up]
  exact .inl ⟨rfl, by simp⟩
theorem Ok.cut (h : Ok c l) (p : Int) : Ok c (ctL c l p) := by
  unfold ctL
  cases hk : whN c l p with
  | none => exact h
  | some k =>
    refine h.up (whN_in hk).1 ((h.nd k).erase p) (fun x hx => h.pos k x (List.mem_of_mem_erase hx)) (fun x hx j hj hj2 => hj (h.one j k x hj2 (List.mem_of_mem_erase hx)))
theorem mem_cut (h : Ok c l) {p : Int} {k : Nat} {x : Int} : x ∈ ctL c l p k ↔ x ∈ l k ∧ x ≠ p := by
  unfold ctL
  cases hk : whN c l p with
  | none =>
    have := h.none_wh hk
    constructor
    · intro hx; exact ⟨hx, fun e => by subst e; exact this k hx⟩
    · intro hx; exact hx.1
  | some i =>
    dsimp only
    rw [mem_up]
    constructor
    · rintro (⟨e1, hx⟩ | ⟨e, hx⟩)
      · rw [← e1, (h.nd k).mem_erase_iff] at hx; exact ⟨hx.2, hx.1⟩
      · exact ⟨hx, fun e2 => by subst e2; exact e (h.one k i x hx (whN_in hk).2)⟩
    · rintro ⟨hx, hne⟩
      by_cases e : k = i
      · subst e; exact .inl ⟨rfl, by rw [(h.nd k).mem_erase_iff]; exact ⟨hne, hx⟩⟩
      · exact .inr ⟨e, hx⟩
theorem Ok.move (h : Ok c l) (p : Int) (m : Nat) : Ok c (mvL c l p m) := by
  unfold mvL
  split
  · exact h
  · split
    · exact h
    · exact (h.cut p).place _ _ _
theorem mv_ok {p : Int} {m : Nat} (h : Ok c l) (hn : ¬ mvN c l p m) : ∃ k, whN c l p = some k ∧ p ∈ l k ∧ k < c ∧ may c m = true ∧ plE c (ctL c l p) p m = 0 := by
  cases hk : whN c l p with
  | none => exact absurd (.inl hk) hn
  | some k =>
    have hy : may c m = true := by
      cases e : may c m
      · exact absurd (.inr e) hn
      · rfl
    have hin := whN_in hk
    refine ⟨k, rfl, hin.2, hin.1, hy, plE_of (h.pos k p hin.2) ((h.cut p).wh_none fun j hj => ?_) hy⟩
    exact ((mem_cut h).1 hj).2 rfl
theorem mvE_eq {p : Int} {m : Nat} (h : Ok c l) : mvE c l p m = if mvN c l p m then 130 else 0 := by
  unfold mvE
  by_cases hn : mvN c l p m
  · rw [if_pos hn, if_pos hn]
  · rw [if_neg hn, if_neg hn]
    obtain ⟨k, _, _, _, _, h5⟩ := mv_ok h hn
    split
    · rfl
    · exact h5
theorem mem_move (h : Ok c l) {p : Int} {m k : Nat} {x : Int} (hx : x ∈ mvL c l p m k) : (x ∈ l k ∧ (x ≠ p ∨ mvN c l p m)) ∨ (mvE c l p m = 0 ∧ x = p ∧ k < c ∧ bt m k = true) := by
  unfold mvL at hx
  by_cases hn : mvN c l p m
  · rw [if_pos hn] at hx
    exact .inl ⟨hx, .inr hn⟩
  · rw [if_neg hn] at hx
    have e0 : mvE c l p m = 0 := by rw [mvE_eq h, if_neg hn]
    obtain ⟨i, h1, h2, h3, h4, h5⟩ := mv_ok h hn
    by_cases hz : hasC c m (wh c l p) = true
    · rw [if_pos hz] at hx
      by_cases e : x = p
      · subst e
        have : k = i := h.one k i x hx h2
        subst this
        rw [wh_eq_some h1] at hz
        rw [hasC_nat] at hz
        simp at hz
        exact .inr ⟨e0, rfl, hz⟩
      · exact .inl ⟨hx, .inl e⟩
    · rw [if_neg hz] at hx
      rcases mem_place hx with hx | ⟨_, rfl, h6, h7⟩
      · have := (mem_cut h).1 hx
        exact .inl ⟨this.1, .inl this.2⟩
      · exact .inr ⟨e0, rfl, h6, h7⟩
theorem rot_perm (x : List Int) : (rot x).Perm x := by
  unfold rot
  refine List.perm_append_comm.trans ?_
  rw [List.take_append_drop]
theorem rt_in {z : Int} (h : rtB c l z = true) : 0 ≤ z ∧ z < (c : Int) := by
  unfold rtB at h
  have h2 : 2 ≤ (lst c l z).length := by simpa using h
  refine Classical.byContradiction fun hn => ?_
  unfold lst at h2
  rw [if_neg hn] at h2
  simp at h2
theorem mem_rot {z : Int} {k : Nat} {x : Int} : x ∈ rtL c l z k ↔ x ∈ l k := by
  unfold rtL
  split
  · rw [mem_up]
    by_cases e : k = z.toNat
    · subst e; simp [(rot_perm _).mem_iff]
    · simp [e]
  · exact Iff.rfl
theorem Ok.rotate (h : Ok c l) (z : Int) : Ok c (rtL c l z) := by
  unfold rtL
  split
  · rename_i hb
    have := rt_in hb
    refine h.up (by omega) ((rot_perm _).nodup_iff.2 (h.nd _)) (fun x hx => h.pos _ x ((rot_perm _).mem_iff.1 hx)) (fun x hx j hj hj2 => hj (h.one j _ x hj2 ((rot_perm _).mem_iff.1 hx)))
  · exact h

/-- How many there are. -/
def tot (l : Ls) : Nat := (flat l).length
theorem tot_eq (l : Ls) : tot l = (l 0).length + (l 1).length + (l 2).length + (l 3).length + (l 4).length + (l 5).length + (l 6).length + (l 7).length := by
  unfold tot flat
  simp only [List.length_append]
theorem al_len (l : Ls) : (al l).length = tot l := by unfold al srt tot; rw [List.length_mergeSort]
theorem tot_up (l : Ls) (T : Nat) (L : List Int) (hT : T < 8) : tot (up l T L) + (l T).length = tot l + L.length := by
  rw [tot_eq, tot_eq]
  unfold up
  rcases Qub.eight hT with rfl | rfl | rfl | rfl | rfl | rfl | rfl | rfl <;> simp <;> omega
theorem tot_place (hc : c ≤ 8) (p z : Int) (m : Nat) : tot (plL c l p z m) = tot l + if plE c l p m = 0 then 1 else 0 := by
  unfold plL
  split
  · rename_i he
    have hT := (plT_in (l := l) (z := z) (plE_ok he).2.2).1
    have := tot_up l (plT c l z m) (l (plT c l z m) ++ [p]) (by omega)
    rw [List.length_append] at this
    simp at this
    omega
  · rfl
theorem tot_cut (hc : c ≤ 8) (p : Int) : tot (ctL c l p) + (if ctB c l p = true then 1 else 0) = tot l := by
  unfold ctL ctB
  cases hk : whN c l p with
  | none => simp
  | some k =>
    obtain ⟨h1, h2⟩ := whN_in hk
    have := tot_up l k ((l k).erase p) (by omega)
    rw [List.length_erase_of_mem h2] at this
    have := List.length_pos_of_mem h2
    simp
    omega
theorem tot_rotate (hc : c ≤ 8) (z : Int) : tot (rtL c l z) = tot l := by
  unfold rtL
  split
  · rename_i hb
    have := rt_in hb
    have := tot_up l z.toNat (rot (l z.toNat)) (by omega)
    rw [rot_len] at this
    omega
  · rfl
theorem tot_move (h : Ok c l) (hc : c ≤ 8) (p : Int) (m : Nat) : tot (mvL c l p m) = tot l := by
  unfold mvL
  split
  · rfl
  · rename_i hn
    split
    · rfl
    · obtain ⟨k, h1, h2, h3, h4, h5⟩ := mv_ok h hn
      rw [tot_place hc, if_pos h5]
      have := tot_cut (l := l) hc p
      rw [if_pos (by unfold ctB; rw [h1]; rfl)] at this
      omega
theorem Ok.wh_lt (h : Ok c l) {k : Nat} {p : Int} (hp : p ∈ l k) : wh c l p = (k : Int) := wh_eq_some (h.wh_some hp)
end Go.Proofs.Ytkjmpkoogjbjnaa.Quq
