/-
  A number behind a row that begins anywhere; a queue that is stored anew; Place.
-/
import Derived.Test.YtkjmpkoogjbjnaaQuf
import Derived.Deep.AppendSrc
import Derived.Deep.RegionLawGrows
namespace Go.Proofs.Ytkjmpkoogjbjnaa.Qug
open Go Go.RowKit Go.Shelf Kit Bk Qua Qub Quc Qud Que Quf
set_option linter.unusedVariables false

/-- An append, behind a name that a walk does not open: its run is given as an equation. -/
def appO (ts : Array TypeId) (ty : TypeId) (vs : Array Value) : Sem Value := Builtin.append_ ts ty vs
theorem app_wrap (ts : Array TypeId) (ty : TypeId) (vs : Array Value) : Builtin.append_ ts ty vs = appO ts ty vs := rfl
theorem infoI : (Try.prog.info? 3).map (fun i => (i.zero, i.size, i.bytes)) = some (some (.int .i64 0), 1, 8) := by kernel_rfl
theorem info_parts' {T : TypeId} {z : Option Value} {s b : Nat} (h : (Try.prog.info? T).map (fun i => (i.zero, i.size, i.bytes)) = some (z, s, b)) : ∃ i, Try.prog.info? T = some i ∧ i.zero = z ∧ i.size = s ∧ i.bytes = b := by
  cases hi : Try.prog.info? T with
  | none => rw [hi] at h; cases h
  | some i =>
    rw [hi] at h
    simp at h
    exact ⟨i, rfl, h.1, h.2.1, h.2.2⟩
def ints (l : List Int) : List Value := l.map fun x => Value.int .i64 x
theorem ints_get (l : List Int) (i : Nat) (h : i < l.length) : (ints l)[i]? = some (.int .i64 (l.getD i 0)) := by simp [ints, h]
theorem ints_len (l : List Int) : (ints l).length = l.length := by simp [ints]
theorem getD_app_old (l M : List Int) (i : Nat) (h : i < l.length) : (l ++ M).getD i 0 = l.getD i 0 := by simp [List.getD, List.getElem?_append_left h]
theorem getD_app_new (l M : List Int) (i : Nat) (h : l.length ≤ i) : (l ++ M).getD i 0 = M.getD (i - l.length) 0 := by simp [List.getD, List.getElem?_append_right h]

/-- Numbers M, which src tells in w, behind a row. -/
theorem app_src (w : World) (v : Value) (G : Option Nat) (l : List Int) (u : Value) (M : List Int) (h : Rw w v G l) (hs : Src Try.prog 1 44 u M.length (ints M) w) (hM : M ≠ []) (hl : l.length + M.length ≤ 100000) :
    ∃ v' w' G', (appO #[44, 44] 44 #[v, u]).run Try.prog w = .ok v' w' ∧ Rw w' v' G' (l ++ M) ∧ Kp (fun j => some j = G) w w' ∧ (G' = G ∨ G' = some w.heap.size) := by
  obtain ⟨i0, hi, hz0, hz1, hz2⟩ := info_parts' infoI
  have hMl : 0 < M.length := List.length_pos_iff.2 hM
  have hs0 : Src Try.prog i0.size 44 u M.length (ints M) w := by rw [hz1]; exact hs
  have grow : ∀ (base : Option Addr) (cap : Nat), v = .slice base l.length cap → cap < l.length + M.length → (Builtin.firstCells i0.size l.length (.slice base l.length cap)).run Try.prog w.drew = .ok (ints l).toArray w.drew →
      ∃ v' w' G', (appO #[44, 44] 44 #[v, u]).run Try.prog w = .ok v' w' ∧ Rw w' v' G' (l ++ M) ∧ Kp (fun j => some j = G) w w' ∧ (G' = G ∨ G' = some w.heap.size) := by
    rintro base cap rfl hg hold
    have hrun := run_append_grow_src (P := Try.prog) w 44 44 44 3 i0 (.int .i64 0) Try.underlying44 hi hz0 base l.length cap (ints l) hold u M.length (ints M) hs0 hg (by omega) (growslice_fits hg (by rw [hz2]; omega))
    have hge := grownCap_ge w (l.length + M.length) cap 3
    have hcm := grownCap_le_maxLen w (l.length + M.length) cap 3 (by unfold maxLen; omega)
    refine ⟨_, _, some w.heap.size, hrun, .inr ⟨w.heap.size, 0, _, _, by rw [List.length_append], rfl, Blk.new w.drew _ _, by rw [List.length_append]; exact hge, hcm, ?_, fun i hi => ?_⟩, Kp.of_below ((Below.refl _ _).drew.alloc (Nat.le_refl _) _), .inr rfl⟩
    · rw [Array.size_append, List.size_toArray, List.length_append, ints_len, ints_len, size_zeroCells]
      simp [Value.cells]
      omega
    · rw [List.length_append] at hi
      rw [Nat.zero_add, Array.getElem?_append_left (by rw [List.size_toArray, List.length_append, ints_len, ints_len]; exact hi), List.getElem?_toArray, show ints l ++ ints M = ints (l ++ M) by simp [ints], ints_get _ _ (by rw [List.length_append]; exact hi)]
  rcases h with ⟨rfl, rfl, rfl⟩ | ⟨g, o, cap, cs, rfl, rfl, hb, h1, h2, h3, h4⟩
  · exact grow none 0 rfl (by simpa using hMl) (run_firstCells_none w.drew i0.size 0 0 0)
  · by_cases hfit : l.length + M.length ≤ cap
    · have hrun := run_append_room_src (P := Try.prog) w 44 44 44 3 i0 Try.underlying44 hi g o l.length cap u M.length (ints M) hs0 hfit
        (fun j hj => by rw [ints_len] at hj; rw [hb.cell, hz1, Array.getElem?_eq_getElem (by omega)]; rfl) (fun j hj => hb.free _)
      rw [hz1, Nat.mul_one] at hrun
      obtain ⟨ds, d1, d2, d3, d4⟩ := hb.sets (ints M) (o + l.length)
      rw [ints_len] at d3 d4
      refine ⟨_, _, some g, hrun, .inr ⟨g, o, cap, ds, by rw [List.length_append], rfl, d1, by rw [List.length_append]; exact hfit, h2, by rw [d2]; exact h3, fun i hi => ?_⟩, Kp.sets (S := fun j => some j = some g) g rfl _ _ _, .inl rfl⟩
      rw [List.length_append] at hi
      by_cases hil : i < l.length
      · rw [d3 _ (by omega), h4 i hil, getD_app_old _ _ _ hil]
      · have := d4 (i - l.length) (by omega) (by omega)
        rw [show o + l.length + (i - l.length) = o + i by omega] at this
        rw [this, getD_app_new _ _ _ (by omega), ints_get _ _ (by omega)]
    · refine grow _ cap rfl (by omega) ?_
      refine run_firstCells_some w.drew i0.size l.length ⟨g, o, none⟩ l.length cap (ints l) (by rw [hz1, ints_len]; omega) (fun j u hj => ?_)
      rw [Addr.add_lit]
      have hjl : j < l.length := by rw [← ints_len]; exact (List.getElem?_eq_some_iff.1 hj).1
      rw [ints_get _ _ hjl] at hj
      exact ((hb.cell _).trans (h4 j hjl)).trans hj
/-- One number behind a row. -/
theorem app_one (w : World) (v : Value) (G : Option Nat) (l : List Int) (x : Int) (h : Rw w v G l) (hl : l.length ≤ 90000) :
    ∃ v' w' G', (appO #[44, 44] 44 #[v, .slice (some ⟨w.heap.size, 0, none⟩) 1 1]).run Try.prog (w.alloc (.cells #[.int .i64 x] 3)) = .ok v' w' ∧ Rw w' v' G' (l ++ [x]) ∧ Kp (fun j => some j = G) w w' ∧ (G' = G ∨ G' = some (w.heap.size + 1)) := by
  have hb1 := (Below.refl w.heap.size w).alloc (Nat.le_refl _) (.cells #[.int .i64 x] 3)
  have hs : Src Try.prog 1 44 (.slice (some ⟨w.heap.size, 0, none⟩) 1 1) [x].length (ints [x]) (w.alloc (.cells #[.int .i64 x] 3)) :=
    Src.ofSlice _ Try.underlying44 ⟨w.heap.size, 0, none⟩ 1 1 (ints [x]) rfl (cell_one_new _ _ _) (by intro u hu; simp [ints] at hu; subst hu; rfl)
  obtain ⟨v', w', G', q1, q2, q3, q4⟩ := app_src _ v G l _ [x] (h.below hb1) hs (by simp) (by simp; omega)
  exact ⟨v', w', G', q1, q2, (kp_below hb1).trans q3 (fun _ e => .inl e), by simpa using q4⟩

/-- A queue is stored anew. -/
theorem set_row {w w1 : World} {q c k : Nat} {S : Nat → Prop} {l : Ls} {vs : Nat → Value} {G : Nat → Option Nat} (h : Qv w q S c l vs G) (hk : k < 8) (v' : Value) (G' : Option Nat) (L : List Int)
    (hp : Kp (fun j => some j = G k) w w1) (hr : Rw w1 v' G' L) (hG : G' = G k ∨ ∃ g, G' = some g ∧ w.heap.size ≤ g) :
    w1.cell? ⟨q, 1 + k, none⟩ = some (vs k) ∧ w1.frozen? ⟨q, 1 + k, none⟩ = false ∧ ∃ S', Kp S w (w1.setCell ⟨q, 1 + k, none⟩ v') ∧ Qs (w1.setCell ⟨q, 1 + k, none⟩ v') q S' c (up l k L) ∧ ∀ j, S' j → S j ∨ w.heap.size ≤ j := by
  have hqk : ∀ j g, j < 8 → G j = some g → g ≠ q := fun j g hj e e2 => by
    rcases h.row j hj with ⟨_, _, h0⟩ | ⟨g', o, cap, cs, _, h0, hb, _⟩
    · rw [h0] at e; cases e
    · rw [h0] at e
      cases e
      subst e2
      exact absurd (hb.inj h.blk).2 (by decide)
  have hblk := h.blk.kept hp (fun e => hqk k q hk e.symm rfl)
  refine ⟨(hblk.cell _).trans (qcs_at c vs k hk), hblk.free _, fun j => S j ∨ G' = some j, ?_, ⟨up vs k v', up G k G', ?_⟩, fun j hj => ?_⟩
  · exact (hp.mono (fun j _ e => h.inS k hk j e.symm)).trans (Kp.set (S := S) w1 q (1 + k) v' h.self) (fun _ e => .inl e)
  · have hq' : ∀ g, G' = some g → g ≠ q := fun g e => by
      rcases hG with h1 | ⟨g', h1, h2⟩
      · rw [h1] at e; exact hqk k g hk e
      · rw [h1] at e; cases e; have := h.blk.lt; omega
    have hset := Kp.set (S := fun j => j = q) w1 q (1 + k) v' rfl
    refine ⟨?_, fun j hj => ?_, fun i j hi hj hne g e1 e2 => ?_, fun j hj g e => ?_, .inl h.self, fun j hj => ?_, h.c8⟩
    · have := hblk.set (1 + k) v'
      rw [qcs_set c vs k hk] at this
      exact this
    · by_cases e : j = k
      · subst e
        rw [up_same, up_same, up_same]
        exact hr.kept hset (fun g e => hq' g e)
      · rw [up_other _ _ _ _ e, up_other _ _ _ _ e, up_other _ _ _ _ e]
        refine ((h.row j hj).kept hp (fun g e1 e2 => ?_)).kept hset (fun g e1 => hqk j g hj e1)
        exact h.apart j k hj hk e g e1 e2.symm
    · by_cases ei : i = k
      · subst ei
        rw [up_same] at e1
        rw [up_other _ _ _ _ (Ne.symm hne)] at e2
        rcases hG with h1 | ⟨g', h1, h2⟩
        · rw [h1] at e1; exact h.apart i j hi hj hne g e1 e2
        · rw [h1] at e1; cases e1; have := h.low _ (h.inS j hj _ e2); omega
      · rw [up_other _ _ _ _ ei] at e1
        by_cases ej : j = k
        · subst ej
          rw [up_same] at e2
          rcases hG with h1 | ⟨g', h1, h2⟩
          · rw [h1] at e2; exact h.apart i j hi hj hne g e1 e2
          · rw [h1] at e2; cases e2; have := h.low _ (h.inS i hi _ e1); omega
        · rw [up_other _ _ _ _ ej] at e2
          exact h.apart i j hi hj hne g e1 e2
    · by_cases e1 : j = k
      · subst e1; rw [up_same] at e; exact .inr e
      · rw [up_other _ _ _ _ e1] at e; exact .inl (h.inS j hj g e)
    · have hsz := hp.size
      rcases hj with hj | hj
      · have := h.low j hj; simp [World.setCell]; omega
      · have := hr.lt j hj; simpa [World.setCell] using this
  · rcases hj with hj | hj
    · exact .inl hj
    · rcases hG with h1 | ⟨g', h1, h2⟩
      · rw [h1] at hj; exact .inl (h.inS k hk j hj)
      · rw [h1] at hj; cases hj; exact .inr h2
end Go.Proofs.Ytkjmpkoogjbjnaa.Qug
