/-
  Who exits: his children, and theirs; rows of rows; who is reaped until he is gone.
-/
import Derived.Test.YtkjcjodhpcfjiaaTey
namespace Go.Proofs.Ytkjcjodhpcfjiaa.Tfa
open Go Go.RowKit Go.Shelf Kit Bk Tea Teb Tec Ted Tee Tef Teg Teh Tei Tej Tek Tel Tem Ten Teo Tep Teq Ter Tes Teu Tev Tew Tex Tey
set_option linter.unusedVariables false

variable {L : St} {p : Int} {su : Nat}
theorem gt_ex (hp : hs L p = true) : gt (exL L p su) p = ⟨(gt L p).par, 2, su⟩ := by
  unfold exL
  rw [gt_mp, if_pos hp]
  unfold exF
  rw [if_pos rfl]
theorem par_ne (h : Ok L) (hp : hs L p = true) : (gt L p).par ≠ p := fun e => by
  obtain ⟨dp, _, _, d2, _⟩ := h.depth
  have := d2 p hp
  rw [e] at this
  omega
theorem gt_kid (h : Ok L) (hp : hs L p = true) {k : Int} (hk : k ∈ kids L p) : (gt (exL L p su) k).par = 1 := by
  obtain ⟨h1, h2⟩ := (kid_iff h.up).1 hk
  have hne : k ≠ p := fun e => par_ne h hp (by rw [e] at h2; exact h2)
  unfold exL
  rw [gt_mp, if_pos h1]
  unfold exF
  rw [if_neg hne, if_pos h2]
theorem kids_mp (f : Int → Rc → Rc) (k : Int) : kids (mp L f) k = pids (L.filter fun x => (f x.1 x.2).par == k) := by
  unfold kids mp pids
  rw [List.filter_map, List.map_map]
  rfl
theorem kids_kid (h : Ok L) (hp : hs L p = true) (hp1 : 1 ≤ p) {k : Int} (hk : k ∈ kids L p) : kids (exL L p su) k = kids L k := by
  obtain ⟨h1, h2⟩ := (kid_iff h.up).1 hk
  have hk1 : k ≠ 1 := fun e => by
    rw [e, h.one.2] at h2
    have : (0 : Int) = p := h2
    omega
  have hkp : k ≠ p := fun e => par_ne h hp (by rw [e] at h2; exact h2)
  unfold exL
  rw [kids_mp]
  unfold kids
  congr 1
  apply List.filter_congr
  intro x hx
  unfold exF
  by_cases e : x.1 = p
  · rw [if_pos e]
  · rw [if_neg e]
    by_cases e2 : x.2.par = p
    · rw [if_pos e2]
      show ((1 : Int) == k) = (x.2.par == k)
      rw [e2, show ((1 : Int) == k) = false from beq_eq_false_iff_ne.2 (Ne.symm hk1), show (p == k) = false from beq_eq_false_iff_ne.2 (Ne.symm hkp)]
    · rw [if_neg e2]
theorem kids_gone (h : Ok L) (hp : hs L p = true) (hp1 : p ≠ 1) : kids (exL L p su) p = [] := by
  unfold exL
  rw [kids_mp]
  have : (L.filter fun x => (exF p su x.1 x.2).par == p) = [] := by
    rw [List.filter_eq_nil_iff]
    intro x hx
    have hg := (h.up.gt hx).1
    unfold exF
    by_cases e : x.1 = p
    · rw [if_pos e]
      have := par_ne h hp
      rw [← e, hg, e] at this
      simpa using this
    · rw [if_neg e]
      by_cases e2 : x.2.par = p
      · rw [if_pos e2]
        have : (1 : Int) ≠ p := Ne.symm hp1
        simpa using this
      · rw [if_neg e2]
        simpa using e2
  rw [this]
  rfl
/-- He is there as a zombie of up's, or he is gone. -/
structure Gn (M : St) (p up : Int) (su : Nat) : Prop where
  him : (hs M p = true ∧ gt M p = ⟨up, 2, su⟩) ∨ hs M p = false
theorem gn_step {M : St} {up : Int} (ho : Ok M) (h : Gn M p up su) (hu : (gt M up).st = 1) (hp : (gt M p).st = 2) :
    (zb M up).2.2 = 0 ∧ (zb M up).1 ≤ p ∧ ((zb M up).1 = p → (zb M up).2.1 = su) ∧ Gn (rpL M up) p up su ∧ (rpL M up).length + 1 ≤ M.length ∧ (gt (rpL M up) up).st = 1 := by
  have hin := ho.there (p := p) (by omega)
  have hg := h.him.resolve_right (by rw [hin]; decide)
  have hz : (zb M up).2.2 = 0 := by
    unfold zb
    rw [if_pos hu]
    cases e : zf M up with
    | some x => rfl
    | none =>
      unfold zf at e
      rw [List.find?_eq_none] at e
      have := e (p, gt M p) (List.mem_filter.2 ⟨mem_gt hin, by rw [hg.2]; simp⟩)
      rw [hg.2] at this
      simp at this
  obtain ⟨_, h2, h3, h4⟩ := zb_ok ho.up hz
  have hle := h4 p hin (by rw [hg.2]) hp
  refine ⟨hz, hle, fun e => ?_, ⟨?_⟩, ?_, ?_⟩
  · rw [e, hg.2] at h3
    exact (congrArg Rc.su h3).symm
  · unfold rpL
    rw [if_pos hz]
    by_cases e : p = (zb M up).1
    · exact .inr (by rw [hs_del, ← e]; simp)
    · refine .inl ⟨by rw [hs_del, hin]; simpa using e, ?_⟩
      rw [gt_del, if_pos (by simpa using e)]
      exact hg.2
  · unfold rpL
    rw [if_pos hz]
    exact len_del_in h2
  · unfold rpL
    rw [if_pos hz, gt_del]
    have : up ≠ (zb M up).1 := fun e => by rw [← e] at h3; rw [h3] at hu; cases hu
    rw [if_pos (by simpa using this)]
    exact hu
theorem infoR : (Try.prog.info? 24).map (fun i => (i.zero, i.size, i.bytes)) = some (some (.slice none 0 0), 1, 24) := by kernel_rfl
/-- Rows of numbers in a row of a law's own. -/
def Bw (B : Nat) (w : World) (v : Value) (j : Nat) (f : Nat → List Int) : Prop := ∃ us : List Value, us.length = j ∧ w.ownsRow B 24 1 v j us ∧ ∀ i, i < j → ∃ u, us[i]? = some u ∧ Nr w u (f i)
theorem Bw.nil (B : Nat) (w : World) (f : Nat → List Int) : Bw B w (.slice none 0 0) 0 f := ⟨[], rfl, World.ownsRow_nil _ _ _ _, fun i hi => absurd hi (Nat.not_lt_zero _)⟩
theorem Bw.rk {B : Nat} {w w' : World} {v : Value} {j : Nat} {f : Nat → List Int} (h : Bw B w v j f) (hr : Rk w w') : Bw B w' v j f := by
  obtain ⟨us, h1, h2, h3⟩ := h
  refine ⟨us, h1, hr _ _ _ _ _ _ (by decide) (by decide) h2, fun i hi => ?_⟩
  obtain ⟨u, e, hn⟩ := h3 i hi
  exact ⟨u, e, hr.nr hn⟩
theorem Bw.below {B : Nat} {w w' : World} {v : Value} {j : Nat} {f : Nat → List Int} (h : Bw B w v j f) (hb : Below w.heap.size w w') : Bw B w' v j f := h.rk (Rk.of_below hb)
theorem Bw.cells {B : Nat} {w : World} {v : Value} {j : Nat} {f : Nat → List Int} (h : Bw B w v j f) : ∃ a c, v = .slice a j c ∧ j ≤ c ∧ c ≤ maxLen ∧ ∀ i, i < j → ∃ r u, a = some ⟨r, 0, none⟩ ∧ w.cell? ⟨r, i, none⟩ = some u ∧ Nr w u (f i) := by
  obtain ⟨us, h1, h2, h3⟩ := h
  rcases h2.2 with ⟨rfl, h0⟩ | ⟨g, cap, cur, rfl, hg, hh, h4, h5, h6, h7⟩
  · exact ⟨none, 0, by rw [h0], by omega, Nat.zero_le _, fun i hi => by omega⟩
  · refine ⟨_, cap, rfl, h4, h5, fun i hi => ?_⟩
    obtain ⟨u, e, hn⟩ := h3 i hi
    exact ⟨g, u, rfl, by rw [h2.cellAt i (by omega)]; exact e, hn⟩
theorem Bw.push {w0 w : World} {q rm : Nat} {L : St} {S : List Bool} (hon : On w0 w q rm L S) {v : Value} {j : Nat} {f : Nat → List Int} (h : Bw w0.heap.size w v j f) (hl : j ≤ 90000) {a : Option Addr} {m c : Nat} (hu : Nr w (.slice a m c) (f j)) :
    ∃ g' cap' w4, (appO #[54, 54] 54 #[v, .slice (some ⟨w.heap.size, 0, none⟩) 1 1]).run Try.prog (w.alloc (.cells #[.slice a m c] 24)) = .ok (.slice (some ⟨g', 0, none⟩) (j + 1) cap') w4 ∧
      Bw w0.heap.size w4 (.slice (some ⟨g', 0, none⟩) (j + 1) cap') (j + 1) f ∧ On w0 w4 q rm L S ∧ Ro2 24 w w4 := by
  obtain ⟨us, h1, h2, h3⟩ := h
  obtain ⟨g', cap', w4, q1, q2, q3, q4⟩ := Tey.On.push (T := 24) (S2 := 54) (by decide) (by decide) Try.underlying54 infoR rfl (by decide) (by decide) hon h2 #[.slice a m c] rfl (by simp [Value.oneCell']) hl
  refine ⟨g', cap', w4, q1, ⟨us ++ [.slice a m c], by simp [h1], q2, fun i hi => ?_⟩, q3, q4⟩
  by_cases e : i < j
  · obtain ⟨u, e2, hn⟩ := h3 i e
    exact ⟨u, by rw [List.getElem?_append_left (by omega)]; exact e2, q4 _ _ _ _ _ _ (by decide) hn⟩
  · obtain rfl : i = j := by omega
    exact ⟨.slice a m c, by rw [List.getElem?_append_right (by omega)]; simp [h1], q4 _ _ _ _ _ _ (by decide) hu⟩
end Go.Proofs.Ytkjcjodhpcfjiaa.Tfa
