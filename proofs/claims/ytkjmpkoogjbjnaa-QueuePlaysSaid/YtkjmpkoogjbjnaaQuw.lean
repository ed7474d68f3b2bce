/-
  The document's own queues: plain words; its row of items, as it lies.
-/
import Derived.Test.YtkjmpkoogjbjnaaQuu
import Derived.Maps.AppendAt
namespace Go.Proofs.Ytkjmpkoogjbjnaa.Quw
open Go Go.RowKit Go.Shelf Kit Bk Qua Qub Quc Qud Que Quf Qug Quh Qui Quj Quk Qul Qum Qun Quq Qup Qur Quu
set_option linter.unusedVariables false

structure It where
  p : Int
  k : Int
def ic (x : It) : List Value := [.int .i64 x.p, .int .i64 x.k]
def ics (D : List It) : List Value := D.flatMap ic
theorem ics_len (D : List It) : (ics D).length = D.length * 2 := by
  induction D with
  | nil => rfl
  | cons a r ih => show (ic a ++ ics r).length = _; rw [List.length_append, ih, List.length_cons]; simp [ic]; omega
theorem ics_app (D M : List It) : ics (D ++ M) = ics D ++ ics M := by simp [ics]
theorem ics_cell (D : List It) : ∀ (i : Nat) (h : i < D.length) (j : Nat), j < 2 → (ics D)[i * 2 + j]? = (ic D[i])[j]? := by
  induction D with
  | nil => intro i h; simp at h
  | cons a r ih =>
    intro i h j hj
    show (ic a ++ ics r)[i * 2 + j]? = _
    cases i with
    | zero => rw [List.getElem?_append_left (by simp [ic]; omega)]; simp
    | succ i =>
      rw [List.getElem?_append_right (by simp [ic]; omega)]
      have := ih i (by simpa using h) j hj
      rw [show (i + 1) * 2 + j - (ic a).length = i * 2 + j by simp [ic]; omega, this]
      rfl
theorem ics_ones (D : List It) : ∀ u ∈ ics D, u.oneCell' = true := by
  intro u hu
  simp only [ics, List.mem_flatMap] at hu
  obtain ⟨x, _, hu⟩ := hu
  simp only [ic, List.mem_cons, List.not_mem_nil, or_false] at hu
  rcases hu with rfl | rfl <;> rfl
/-- A slice of items, in a block of its own, if any: block r, or (without any) f. -/
def Ir (w : World) (v : Value) (f r : Nat) (D : List It) : Prop :=
  w.ownsRow 0 62 2 v D.length (ics D) ∧ ((v = .slice none 0 0 ∧ r = f) ∨ ∃ n c, v = .slice (some ⟨r, 0, none⟩) n c)
/-- The document's queues at block f, their items at block r. -/
def Rs (w : World) (f r c : Nat) (D : List It) : Prop := ∃ v, Blk w f #[.int .i64 (c : Int), v] 31 ∧ Ir w v f r D
theorem own_base {w : World} {b b' : Nat} {e : TypeId} {s : Nat} {v : Value} {n : Nat} {xs : List Value} (h : w.ownsRow b e s v n xs) (hb : b' ≤ b) : w.ownsRow b' e s v n xs := by
  refine ⟨h.1, ?_⟩
  rcases h.2 with h2 | ⟨g, cap, cur, hv, hg, h3⟩
  · exact .inl h2
  · exact .inr ⟨g, cap, cur, hv, Nat.le_trans hb hg, h3⟩
theorem own_lt {w : World} {base g n c m : Nat} {e : TypeId} {s : Nat} {xs : List Value} (h : w.ownsRow base e s (.slice (some ⟨g, 0, none⟩) n c) m xs) : base ≤ g ∧ g < w.heap.size ∧ ∃ cs, Blk w g cs e := by
  rcases h.2 with ⟨h0, _⟩ | ⟨g', cap, cur, h0, hg, hh, _⟩
  · cases h0
  · cases h0
    exact ⟨hg, (Array.getElem?_eq_some_iff.1 hh).1, cur, hh⟩
theorem own_kept {S : Nat → Prop} {w w' : World} {base : Nat} {e : TypeId} {s : Nat} {v : Value} {n : Nat} {xs : List Value} (h : w.ownsRow base e s v n xs) (hk : Kp S w w') (hS : ∀ g n' c, v = .slice (some ⟨g, 0, none⟩) n' c → ¬ S g) : w'.ownsRow base e s v n xs := by
  refine ⟨h.1, ?_⟩
  rcases h.2 with h2 | ⟨g, cap, cur, hv, hg, hh, h3⟩
  · exact .inl h2
  · exact .inr ⟨g, cap, cur, hv, hg, (hk.block g (Array.getElem?_eq_some_iff.1 hh).1 (hS _ _ _ hv)).trans hh, h3⟩
theorem own_form {w : World} {base : Nat} {e : TypeId} {s : Nat} {v : Value} {n : Nat} {xs : List Value} (h : w.ownsRow base e s v n xs) : ∃ a c, v = .slice a n c := by
  rcases h.2 with ⟨rfl, rfl⟩ | ⟨g, cap, cur, rfl, _⟩
  · exact ⟨_, _, rfl⟩
  · exact ⟨_, _, rfl⟩
theorem own_below' {w w' : World} {base : Nat} {e : TypeId} {s : Nat} {v : Value} {n : Nat} {xs : List Value} (h : w.ownsRow base e s v n xs) (hb : Below w.heap.size w w') : w'.ownsRow base e s v n xs := own_kept h (kp_below (S := fun _ => False) hb) (fun _ _ _ _ e => e)
variable {w w' : World} {f r c : Nat} {D : List It} {v : Value}
theorem Ir.kept {S : Nat → Prop} (h : Ir w v f r D) (hk : Kp S w w') (hS : ¬ S r) : Ir w' v f r D := by
  refine ⟨own_kept h.1 hk (fun g n' c e => ?_), h.2⟩
  rcases h.2 with ⟨h2, _⟩ | ⟨n, c, h2⟩
  · rw [h2] at e; cases e
  · rw [h2] at e; cases e; exact hS
theorem Rs.kept {S : Nat → Prop} (h : Rs w f r c D) (hk : Kp S w w') (hf : ¬ S f) (hr : ¬ S r) : Rs w' f r c D := by
  obtain ⟨v, h1, h2⟩ := h
  exact ⟨v, h1.kept hk hf, h2.kept hk hr⟩
theorem Rs.below (h : Rs w f r c D) (hb : Below w.heap.size w w') : Rs w' f r c D := h.kept (kp_below (S := fun _ => False) hb) (fun e => e) (fun e => e)
theorem Rs.lt (h : Rs w f r c D) : f < w.heap.size ∧ r < w.heap.size := by
  obtain ⟨v, h1, h2, ⟨_, rfl⟩ | ⟨n, c, rfl⟩⟩ := h
  · exact ⟨h1.lt, h1.lt⟩
  · exact ⟨h1.lt, (own_lt h2).2.1⟩
theorem Ir.form (h : Ir w v f r D) : ∃ a c, v = .slice a D.length c ∧ D.length ≤ c ∧ c ≤ maxLen ∧ (∀ i, i < D.length → a = some ⟨r, 0, none⟩) := by
  rcases h.1.2 with ⟨rfl, h0⟩ | ⟨g, cap, cur, rfl, hg, hh, h3, h4, h5, h6⟩
  · rw [h0]; exact ⟨none, 0, rfl, Nat.le_refl _, Nat.zero_le _, fun i hi => absurd hi (Nat.not_lt_zero _)⟩
  · refine ⟨_, cap, rfl, h3, h4, fun i hi => ?_⟩
    rcases h.2 with ⟨e, _⟩ | ⟨n, c, e⟩
    · cases e
    · cases e; rfl
theorem Ir.cells (h : Ir w v f r D) (i : Nat) (hi : i < D.length) : w.cell? ⟨r, i * 2, none⟩ = some (.int .i64 D[i].p) ∧ w.cell? ⟨r, i * 2 + 1, none⟩ = some (.int .i64 D[i].k) := by
  obtain ⟨a, c, rfl, _, _, ha⟩ := h.form
  obtain rfl := ha i hi
  have hc : ∀ j, j < 2 → w.cell? ⟨r, i * 2 + j, none⟩ = (ic D[i])[j]? := fun j hj => by
    rw [h.1.cellAt (i * 2 + j) (by omega), ics_cell D i hi j hj]
  exact ⟨hc 0 (by omega), hc 1 (by omega)⟩
theorem infoT : (Try.prog.info? 62).map (fun i => (i.zero, i.size, i.bytes)) = some (some (.agg #[.int .i64 0, .int .i64 0]), 2, 16) := by kernel_rfl
/-- One more behind a row. -/
theorem app_item (w : World) (base : Nat) (v : Value) (D : List It) (x : It) (hown : w.ownsRow base 62 2 v D.length (ics D)) (hl : D.length ≤ 90000) (hb : base ≤ w.heap.size) :
    ∃ v' w', (appO #[29, 29] 29 #[v, .slice (some ⟨w.heap.size, 0, none⟩) 1 1]).run Try.prog (w.alloc (.cells #[.int .i64 x.p, .int .i64 x.k] 62)) = .ok v' w' ∧ w'.ownsRow base 62 2 v' (D ++ [x]).length (ics (D ++ [x])) ∧ (w.alloc (.cells #[.int .i64 x.p, .int .i64 x.k] 62)).grownBy w' v.ownBlock ∧ (v'.ownBlock = v.ownBlock ∨ v'.ownBlock = some (w.heap.size + 1)) := by
  have hb1 := (Below.refl w.heap.size w).alloc (Nat.le_refl _) (.cells #[.int .i64 x.p, .int .i64 x.k] 62)
  have hlit := World.ownsRow_lit (base := 0) (e := 62) (size := 2) w #[.int .i64 x.p, .int .i64 x.k] 1 (Nat.zero_le _) (by decide) rfl
  obtain ⟨i0, hi, hz0, hz1, hz2⟩ := info_parts' infoT
  obtain ⟨v', w', q1, q2, q3, _, q4⟩ := run_append_own_at (P := Try.prog) (w := w.alloc (.cells #[.int .i64 x.p, .int .i64 x.k] 62)) base 29 29 62 i0 (.agg #[.int .i64 0, .int .i64 0]) 2 16 Try.underlying29 hi hz0 hz1 hz2 rfl (by decide) v D.length (ics D) (own_below' hown hb1) ⟨w.heap.size, 0, none⟩ 1 1 (ics [x]) (ics_len [x])
    (fun j u hj => by
      rw [Addr.add_mid, Nat.zero_add]
      have hjl : j < 1 * 2 := by rw [show 1 * 2 = (ics [x]).length from rfl]; exact (List.getElem?_eq_some_iff.1 hj).1
      rw [hlit.cellAt j hjl]
      exact hj) (ics_ones [x]) (by unfold maxLen; omega) (by omega) (by simp; omega)
  exact ⟨v', w', q1, by rw [List.length_append, ics_app]; exact q2, q3, by simpa using q4⟩

/-- What the document's queues answer. -/
def dW (D : List It) (p : Int) : Int := match D.find? (fun x => x.p == p) with | some x => x.k | none => -1
def dL (D : List It) (k : Int) : List Int := (D.filter fun x => x.k == k).map (·.p)
def dC (D : List It) (p : Int) : List It := D.filter fun x => x.p != p
def Alk (c : Nat) (l : Ls) (D : List It) : Prop := (∀ k, k < c → l k = dL D (k : Int)) ∧ ∀ x ∈ D, 0 ≤ x.k ∧ x.k < (c : Int)
theorem mem_dL {D : List It} {k p : Int} : p ∈ dL D k ↔ ∃ x ∈ D, x.k = k ∧ x.p = p := by
  unfold dL
  simp only [List.mem_map, List.mem_filter, beq_iff_eq]
  constructor
  · rintro ⟨x, ⟨h1, h2⟩, h3⟩; exact ⟨x, h1, h2, h3⟩
  · rintro ⟨x, h1, h2, h3⟩; exact ⟨x, ⟨h1, h2⟩, h3⟩
variable {l : Ls}
theorem Alk.lst (h : Alk c l D) (z : Int) : lst c l z = dL D z := by
  unfold Qua.lst
  by_cases hz : 0 ≤ z ∧ z < (c : Int)
  · rw [if_pos hz]
    obtain ⟨k, rfl⟩ : ∃ k : Nat, z = (k : Int) := ⟨z.toNat, by omega⟩
    exact h.1 k (by omega)
  · rw [if_neg hz]
    symm
    unfold dL
    rw [List.map_eq_nil_iff, List.filter_eq_nil_iff]
    intro x hx e
    have := h.2 x hx
    simp at e
    omega
theorem Alk.wh (ho : Ok c l) (h : Alk c l D) (p : Int) : wh c l p = dW D p := by
  unfold dW
  split
  · rename_i x hx
    have h1 := List.find?_some hx
    have h2 := List.mem_of_find?_eq_some hx
    have hk := h.2 x h2
    obtain ⟨k, ek⟩ : ∃ k : Nat, x.k = (k : Int) := ⟨x.k.toNat, by omega⟩
    have hm : p ∈ l k := by
      rw [h.1 k (by omega)]
      exact mem_dL.2 ⟨x, h2, ek, by simpa using h1⟩
    rw [ho.wh_lt hm, ek]
  · rename_i hx
    rw [List.find?_eq_none] at hx
    refine wh_eq_none (whN_nowhere (fun j hj e => ?_))
    rw [h.1 j hj] at e
    obtain ⟨x, h1, _, h3⟩ := mem_dL.1 e
    exact hx x h1 (by simpa using h3)
theorem Alk.few (h : Alk c l D) (m : Nat) : few c m (lens l) = Qua.few c m (fun k => (dL D (k : Int)).length) := by
  have : fewN c m (lens l) = fewN c m (fun k => (dL D (k : Int)).length) := few_congr (fun k hk => by
    unfold lens
    rw [h.1 k (ws_mem.1 hk).1])
  unfold Qua.few
  rw [this]
theorem alk_nol (c : Nat) : Alk c NoL [] := ⟨fun k _ => rfl, fun x hx => (by cases hx)⟩
theorem dL_snoc (D : List It) (x : It) (k : Int) : dL (D ++ [x]) k = if x.k = k then dL D k ++ [x.p] else dL D k := by
  unfold dL
  rw [List.filter_append, List.map_append]
  by_cases e : x.k = k
  · rw [if_pos e, List.filter_cons_of_pos (by simpa using e)]; rfl
  · rw [if_neg e, List.filter_cons_of_neg (by simpa using e)]; simp
theorem Alk.snoc (h : Alk c l D) (p : Int) {T : Nat} (hT : T < c) : Alk c (up l T (l T ++ [p])) (D ++ [⟨p, (T : Int)⟩]) := by
  refine ⟨fun k hk => ?_, fun x hx => ?_⟩
  · rw [dL_snoc]
    by_cases e : k = T
    · subst e
      rw [up_same, if_pos rfl, h.1 k hk]
    · rw [up_other _ _ _ _ e, if_neg (by simp; omega), h.1 k hk]
  · rcases List.mem_append.1 hx with hx | hx
    · exact h.2 x hx
    · simp at hx; subst hx; simp; omega
theorem dC_dL (D : List It) (p k : Int) : dL (dC D p) k = (dL D k).filter fun y => y != p := by
  unfold dL dC
  rw [List.filter_filter, List.filter_map, List.filter_filter]
  congr 1
  refine List.filter_congr (fun x _ => ?_)
  simp [Bool.and_comm]
theorem Alk.cut (ho : Ok c l) (h : Alk c l D) (p : Int) : Alk c (ctL c l p) (dC D p) := by
  refine ⟨fun k hk => ?_, fun x hx => h.2 x (List.mem_filter.1 hx).1⟩
  rw [dC_dL, ← h.1 k hk]
  have hno : ∀ j, p ∉ l j → (l j).filter (fun y => y != p) = l j := fun j hj => List.filter_eq_self.2 (fun y hy => by
    simp only [bne_iff_ne]
    rintro rfl
    exact hj hy)
  cases hw : whN c l p with
  | none =>
    unfold ctL
    rw [hw]
    exact (hno k (ho.none_wh hw k)).symm
  | some j =>
    unfold ctL
    rw [hw]
    show up l j ((l j).erase p) k = _
    by_cases e : k = j
    · subst e
      rw [up_same, (ho.nd k).erase_eq_filter]
    · rw [up_other _ _ _ _ e, hno k (fun hp => e ?_)]
      exact ho.one k j p hp (whN_in hw).2
theorem dC_len (D : List It) (p : Int) : (dC D p).length ≤ D.length := List.length_filter_le _ _
theorem dC_lt (ho : Ok c l) (h : Alk c l D) (p : Int) : decide ((dC D p).length < D.length) = ctB c l p := by
  rw [Bool.eq_iff_iff, decide_eq_true_eq]
  have e : (ctB c l p = true) ↔ ∃ x ∈ D, x.p = p := by
    unfold ctB
    constructor
    · intro hs
      obtain ⟨k, hk⟩ := Option.isSome_iff_exists.1 hs
      obtain ⟨h1, h2⟩ := whN_in hk
      rw [h.1 k h1] at h2
      obtain ⟨x, h3, _, h4⟩ := mem_dL.1 h2
      exact ⟨x, h3, h4⟩
    · rintro ⟨x, h1, h2⟩
      have hk := h.2 x h1
      obtain ⟨k, ek⟩ : ∃ k : Nat, x.k = (k : Int) := ⟨x.k.toNat, by omega⟩
      have hm : p ∈ l k := by
        rw [h.1 k (by omega)]
        exact mem_dL.2 ⟨x, h1, ek, h2⟩
      rw [ho.wh_some hm]
      rfl
  rw [e]
  unfold dC
  constructor
  · intro hl
    apply Classical.byContradiction
    intro hno
    have : D.filter (fun x => x.p != p) = D := List.filter_eq_self.2 (fun x hx => by
      simp only [bne_iff_ne]
      exact fun e => hno ⟨x, hx, e⟩)
    rw [this] at hl
    omega
  · rintro ⟨x, h1, h2⟩
    exact List.length_filter_lt_length_iff_exists.2 ⟨x, h1, by simpa using h2⟩
end Go.Proofs.Ytkjmpkoogjbjnaa.Quw
