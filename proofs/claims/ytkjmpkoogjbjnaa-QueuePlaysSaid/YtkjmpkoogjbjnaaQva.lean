/-
  The document's own queues: All.
-/
import Derived.Test.YtkjmpkoogjbjnaaQuz
namespace Go.Proofs.Ytkjmpkoogjbjnaa.Qva
open Go Go.RowKit Go.Shelf Kit Bk Qua Qub Quc Qud Que Quf Qug Quh Qui Quj Quk Qul Qum Qun Quq Qup Qur Quu Quw Qux Quy Quz
set_option linter.unusedVariables false
attribute [local go_sem ↓] app_wrap
variable {w w' : World} {f r c N : Nat} {D : List It} {v : Value} {l : Ls}

/-- A number put into its place. -/
def insq (a : List Int) (x : Int) : List Int := a.takeWhile (fun y => decide (y < x)) ++ [x] ++ a.dropWhile (fun y => decide (y < x))
def isl (D : List It) : List Int := D.foldl (fun a x => insq a x.p) []
theorem isl_take {D : List It} {j : Nat} (hj : j < D.length) : isl (D.take (j + 1)) = insq (isl (D.take j)) D[j].p := by
  unfold isl
  rw [List.take_add_one, List.getElem?_eq_getElem hj, List.foldl_append]
  rfl
theorem insq_perm (a : List Int) (x : Int) : (insq a x).Perm (x :: a) := by
  unfold insq
  have h := List.takeWhile_append_dropWhile (p := fun y => decide (y < x)) (l := a)
  generalize a.takeWhile _ = s at *
  generalize a.dropWhile _ = t at *
  subst h
  rw [List.append_assoc]
  exact List.perm_middle
theorem insq_len (a : List Int) (x : Int) : (insq a x).length = a.length + 1 := by rw [(insq_perm a x).length_eq]; rfl
theorem isl_perm : ∀ (D : List It), (isl D).Perm (D.map (·.p)) := by
  have : ∀ (D : List It) (a : List Int), (D.foldl (fun a x => insq a x.p) a).Perm (a ++ D.map (·.p)) := by
    intro D
    induction D with
    | nil => intro a; simp
    | cons x t ih =>
      intro a
      refine (ih (insq a x.p)).trans ?_
      refine ((insq_perm a x.p).append_right _).trans ?_
      show (x.p :: a ++ t.map (·.p)).Perm (a ++ x.p :: t.map (·.p))
      exact List.perm_middle.symm
  intro D
  have := this D []
  unfold isl
  simpa using this
theorem isl_len (D : List It) : (isl D).length = D.length := by rw [(isl_perm D).length_eq, List.length_map]
theorem insq_sorted {a : List Int} (h : a.Pairwise (· ≤ ·)) (x : Int) : (insq a x).Pairwise (· ≤ ·) := by
  unfold insq
  rw [List.append_assoc]
  have h0 := List.takeWhile_append_dropWhile (p := fun y => decide (y < x)) (l := a)
  have h1 : ∀ y ∈ a.takeWhile (fun y => decide (y < x)), y < x := fun y hy => by
    have := List.all_takeWhile (p := fun y => decide (y < x)) (l := a)
    rw [List.all_eq_true] at this
    simpa using this y hy
  have h2 : ∀ y ∈ a.dropWhile (fun y => decide (y < x)), x ≤ y := fun y hy => by
    have hp : (a.dropWhile (fun y => decide (y < x))).Pairwise (· ≤ ·) := h.sublist (List.dropWhile_sublist _)
    cases hd : a.dropWhile (fun y => decide (y < x)) with
    | nil => rw [hd] at hy; cases hy
    | cons b t =>
      have hb : ¬ b < x := by
        have := List.head?_dropWhile_not (fun y => decide (y < x)) a
        rw [hd] at this
        simpa using this
      rw [hd] at hy hp
      rcases List.mem_cons.1 hy with rfl | hy
      · omega
      · have := (List.pairwise_cons.1 hp).1 y hy
        omega
  rw [← h0] at h
  generalize a.takeWhile _ = s at *
  generalize a.dropWhile _ = t at *
  obtain ⟨p1, p2, p3⟩ := List.pairwise_append.1 h
  refine List.pairwise_append.2 ⟨p1, List.pairwise_cons.2 ⟨h2, p2⟩, fun y hy z hz => ?_⟩
  rcases List.mem_cons.1 hz with rfl | hz
  · exact Int.le_of_lt (h1 y hy)
  · exact p3 y hy z hz
theorem isl_sorted (D : List It) : (isl D).Pairwise (· ≤ ·) := by
  have : ∀ (D : List It) (a : List Int), a.Pairwise (· ≤ ·) → (D.foldl (fun a x => insq a x.p) a).Pairwise (· ≤ ·) := by
    intro D
    induction D with
    | nil => intro a h; exact h
    | cons x t ih => intro a h; exact ih _ (insq_sorted h x.p)
  exact this D [] List.Pairwise.nil
theorem insq_at (a : List Int) (x : Int) (s : Nat) (hs : s ≤ a.length) (h1 : ∀ m, m < s → a.getD m 0 < x) (h2 : s < a.length → ¬ a.getD s 0 < x) : insq a x = a.take s ++ [x] ++ a.drop s := by
  have key : ∀ (a : List Int) (s : Nat), s ≤ a.length → (∀ m, m < s → a.getD m 0 < x) → (s < a.length → ¬ a.getD s 0 < x) → a.takeWhile (fun y => decide (y < x)) = a.take s ∧ a.dropWhile (fun y => decide (y < x)) = a.drop s := by
    intro a
    induction a with
    | nil => intro s hs _ _; simp
    | cons b t ih =>
      intro s hs h1 h2
      cases s with
      | zero =>
        have := h2 (by simp)
        simp at this
        simp [this]
      | succ s =>
        have hb : b < x := by have := h1 0 (by omega); simpa using this
        obtain ⟨g1, g2⟩ := ih s (by simp at hs; omega) (fun m hm => by have := h1 (m + 1) (by omega); simpa using this) (fun hm => by have := h2 (by simp; omega); simpa using this)
        simp [hb, g1, g2]
  obtain ⟨g1, g2⟩ := key a s hs h1 h2
  unfold insq
  rw [g1, g2]
theorem dL_cons (x : It) (D : List It) (k : Int) : dL (x :: D) k = if x.k = k then x.p :: dL D k else dL D k := by
  unfold dL
  by_cases e : x.k = k
  · rw [if_pos e, List.filter_cons_of_pos (by simpa using e)]; rfl
  · rw [if_neg e, List.filter_cons_of_neg (by simpa using e)]
theorem dL_all : ∀ (D : List It), (∀ x ∈ D, 0 ≤ x.k ∧ x.k < 8) → (D.map (·.p)).Perm (dL D 0 ++ dL D 1 ++ dL D 2 ++ dL D 3 ++ dL D 4 ++ dL D 5 ++ dL D 6 ++ dL D 7) := by
  intro D
  induction D with
  | nil => intro _; exact List.Perm.refl _
  | cons x t ih =>
    intro h
    have hx := h x List.mem_cons_self
    have ht := ih (fun y hy => h y (List.mem_cons_of_mem _ hy))
    rw [List.perm_iff_count] at ht ⊢
    intro a
    have hta := ht a
    simp only [List.count_append] at hta ⊢
    have : x.k = 0 ∨ x.k = 1 ∨ x.k = 2 ∨ x.k = 3 ∨ x.k = 4 ∨ x.k = 5 ∨ x.k = 6 ∨ x.k = 7 := by omega
    rw [List.map_cons, List.count_cons]
    simp only [dL_cons]
    rcases this with e | e | e | e | e | e | e | e <;> rw [e] <;> simp [List.count_cons] <;> omega
theorem Alk.iso (ho : Ok c l) (h : Alk c l D) (h8 : c ≤ 8) : isl D = al l := by
  have hl : ∀ k : Nat, k < 8 → l k = dL D (k : Int) := fun k hk => by
    by_cases hkc : k < c
    · exact h.1 k hkc
    · rw [ho.out k (by omega)]
      symm
      unfold dL
      rw [List.map_eq_nil_iff, List.filter_eq_nil_iff]
      intro x hx e
      have := h.2 x hx
      simp at e
      omega
  have hp : (isl D).Perm (al l) := by
    refine (isl_perm D).trans ((dL_all D (fun x hx => by have := h.2 x hx; omega)).trans ?_)
    have h0 := hl 0 (by decide); have h1 := hl 1 (by decide); have h2 := hl 2 (by decide); have h3 := hl 3 (by decide)
    have h4 := hl 4 (by decide); have h5 := hl 5 (by decide); have h6 := hl 6 (by decide); have h7 := hl 7 (by decide)
    unfold al flat
    rw [h0, h1, h2, h3, h4, h5, h6, h7]
    exact (srt_perm _).symm
  refine List.Perm.eq_of_pairwise (le := fun a b => a ≤ b) (fun a b _ _ h1 h2 => Int.le_antisymm h1 h2) (isl_sorted D) ?_ hp
  have := List.pairwise_mergeSort (le := fun a b : Int => decide (a ≤ b)) (fun a b c h1 h2 => by simp at *; omega) (fun a b => by simp; omega) (flat l)
  unfold al srt
  exact this.imp (fun h => by simpa using h)
theorem rw_to {w : World} {g o n cap s : Nat} {G : Option Nat} {l : List Int} (h : Rw w (.slice (some ⟨g, o, none⟩) n cap) G l) (hs : s ≤ n) : Rw w (.slice (some ⟨g, o, none⟩) s cap) G (l.take s) := by
  rcases h with ⟨h, _⟩ | ⟨g', o', cap', cs, h, h1, hb, h3, h4, h5, h6⟩
  · cases h
  · cases h
    have e : (l.take s).length = s := by rw [List.length_take]; omega
    refine .inr ⟨g, o, cap, cs, by rw [e], h1, hb, by omega, h4, h5, fun i hi => ?_⟩
    rw [h6 i (by omega)]
    congr 2
    rw [e] at hi
    simp [List.getD, hi]
theorem rw_from {w : World} {g o n cap s : Nat} {G : Option Nat} {l : List Int} (h : Rw w (.slice (some ⟨g, o, none⟩) n cap) G l) (hs : s ≤ n) : Rw w (.slice (some ⟨g, o + s, none⟩) (n - s) (cap - s)) G (l.drop s) := by
  rcases h with ⟨h, _⟩ | ⟨g', o', cap', cs, h, h1, hb, h3, h4, h5, h6⟩
  · cases h
  · cases h
    refine .inr ⟨g, o + s, cap - s, cs, by simp, h1, hb, by simp; omega, by omega, by omega, fun i hi => ?_⟩
    rw [show o + s + i = o + (s + i) by omega, h6 (s + i) (by simp at hi; omega)]
    congr 2
    simp [List.getD]
theorem rw_none {w : World} {g o n cap : Nat} {G : Option Nat} {l : List Int} (h : Rw w (.slice (some ⟨g, o, none⟩) n cap) G l) : Rw w (.slice (some ⟨g, o, none⟩) 0 0) G [] := by
  rcases h with ⟨h, _⟩ | ⟨g', o', cap', cs, h, h1, hb, h3, h4, h5, h6⟩
  · cases h
  · cases h
    exact .inr ⟨g, o, 0, cs, rfl, h1, hb, Nat.le_refl _, Nat.zero_le _, by omega, fun i hi => absurd hi (Nat.not_lt_zero _)⟩
/-- A number between two parts of a row, in a row of its own. -/
theorem ins3 (w : World) (lo hi : Value) (G1 G2 : Option Nat) (A B : List Int) (x : Int) (h1 : Rw w lo G1 A) (h2 : Rw w hi G2 B) (hl : A.length + B.length ≤ 90000) :
    ∃ a1 m1 c1 w1 a2 m2 c2 w2 a3 m3 c3 w3 G, (appO #[44, 44] 44 #[.slice none 0 0, lo]).run Try.prog w = .ok (.slice a1 m1 c1) w1 ∧ Below w.heap.size w w1 ∧
      (appO #[44, 44] 44 #[.slice a1 m1 c1, .slice (some ⟨w1.heap.size, 0, none⟩) 1 1]).run Try.prog (w1.alloc (.cells #[.int .i64 x] 3)) = .ok (.slice a2 m2 c2) w2 ∧ Below w.heap.size w w2 ∧
      (appO #[44, 44] 44 #[.slice a2 m2 c2, hi]).run Try.prog w2 = .ok (.slice a3 m3 c3) w3 ∧ Below w.heap.size w w3 ∧ Rw w3 (.slice a3 m3 c3) G (A ++ [x] ++ B) ∧ ∀ g, G = some g → w.heap.size ≤ g := by
  obtain ⟨v1, w1, G3, p1, p2, p3, p4⟩ := app_any w (.slice none 0 0) none [] lo G1 A (Rw.nil w) h1 (by simp; omega)
  have hb1 : Below w.heap.size w w1 := p3.below (Nat.le_refl _) (fun j e => by cases e)
  have hg3 : ∀ g, G3 = some g → w.heap.size ≤ g := fun g e => by
    rcases p4 with h | h
    · rw [h] at e; cases e
    · rw [h] at e; cases e; exact Nat.le_refl _
  rw [List.nil_append] at p2
  obtain ⟨v2, w2, G4, q1, q2, q3, q4⟩ := app_one w1 v1 G3 A x p2 (by omega)
  have hb2 : Below w.heap.size w w2 := hb1.trans (q3.below hb1.size (fun j e => hg3 j e.symm))
  have hg4 : ∀ g, G4 = some g → w.heap.size ≤ g := fun g e => by
    rcases q4 with h | h
    · rw [h] at e; exact hg3 g e
    · rw [h] at e; cases e; have := hb1.size; omega
  have h2' := h2.below hb2
  obtain ⟨v3, w3, G5, r1, r2, r3, r4⟩ := app_any w2 v2 G4 (A ++ [x]) hi G2 B q2 h2' (by simp; omega)
  have hb3 : Below w.heap.size w w3 := hb2.trans (r3.below hb2.size (fun j e => hg4 j e.symm))
  obtain ⟨a1, c1, rfl, _⟩ := p2.form
  obtain ⟨a2, c2, rfl, _⟩ := q2.form
  obtain ⟨a3, c3, e3, _⟩ := r2.form
  rw [e3] at r1 r2
  refine ⟨a1, _, c1, w1, a2, _, c2, w2, a3, _, c3, w3, G5, p1, hb1, q1, hb2, r1, hb3, r2, fun g e => ?_⟩
  rcases r4 with h | h
  · rw [h] at e; exact hg4 g e
  · rw [h] at e; cases e; exact hb2.size
set_option maxHeartbeats 4000000 in
set_option maxRecDepth 100000 in
theorem rall_any (w : World) (h : Rs w f r c D) (hl : D.length ≤ 80000) : Calls Try.prog 23 #[pv f] w fun e w' => Below w.heap.size w w' ∧ ∃ u G, e = .returned u ∧ Rw w' u G (isl D) ∧ ∀ g, G = some g → w.heap.size ≤ g := by
  obtain ⟨v, h1, h2⟩ := h
  obtain ⟨a, n, rfl, hc1, hc2, ha⟩ := h2.form
  have HA := Lib.hid ha
  have HR := Lib.hid (And.intro h1 h2)
  unfold maxLen at hc2
  have hcI : (D.length : Int) ≤ 9223372036854775807 := by omega
  clear h1 h2 ha hc1 hc2
  go_enter Try.func23, Try.ntmps23
  go_wp2
  go_loopw [4, 3] (fun i o wr => ∃ (j : Nat) (G : Option Nat), j ≤ D.length ∧ i = .int .i64 (j : Int) ∧ Rw wr o G (isl (D.take j)) ∧ Below w.heap.size w wr ∧ ∀ g, G = some g → w.heap.size ≤ g) (fun i _ _ => D.length - (intOf i).toNat)
  case atStart => exact ⟨0, none, Nat.zero_le _, rfl, Rw.nil _, Below.refl _ _, fun g e => (by cases e)⟩
  case round =>
    obtain ⟨j, G, hj, rfl, hr, hb, hg⟩ := hrel
    have c1 : wr.cell? ⟨f, 1, none⟩ = some (.slice a D.length n) := (HR.out.1.below hb).cell 1
    by_cases hlt : j < D.length
    · have hltI : (j : Int) < (D.length : Int) := by omega
      obtain rfl := HA.out j hlt
      have HC : Hid (∀ W, Below wr.heap.size wr W → W.cell? ⟨f, 1, none⟩ = some (.slice (some ⟨r, 0, none⟩) D.length n) ∧ W.cell? ⟨r, j * 2, none⟩ = some (.int .i64 D[j].p)) := Lib.hid (fun W hW => by
        have hb2 := hb.trans (hW.mono hb.size)
        exact ⟨(HR.out.1.below hb2).cell 1, ((HR.out.2.kept (kp_below (S := fun _ => False) hb2) (fun e => e)).cells j hlt).1⟩)
      have HT := Lib.hid (isl_take hlt)
      have hln := isl_len (D.take j)
      rw [List.length_take] at hln
      have hL : Hid ((isl (D.take j)).length ≤ 80000) := Lib.hid (by omega)
      have HB := Lib.hid (And.intro hb hg)
      have HRw := Lib.hid hr
      obtain ⟨oa, on, e0, hon1, hon2⟩ := hr.form
      obtain ⟨_, _, e1, _, _, ho⟩ := Quf.Rw.cells hr
      rw [e0] at e1
      injection e1 with e11 e12 e13
      subst e11
      subst e0
      unfold maxLen at hon2
      have HCell := Lib.hid ho
      generalize isl (D.take j) = L at *
      generalize D[j] = x at *
      have hLI : (L.length : Int) ≤ 80000 := by have := hL.out; omega
      have hLn : (L.length : Int) ≤ (on : Int) := by omega
      have honI : (on : Int) ≤ 9223372036854775807 := by omega
      clear hr hb hg hln ho hon1 e12 e13
      obtain ⟨w8, hw8⟩ : ∃ u, u = wr := ⟨_, rfl⟩
      subst hw8
      go_wp2
      go_loopw [5] (fun i wq => ∃ s : Nat, s ≤ L.length ∧ i = .int .i64 (s : Int) ∧ (∀ m, m < s → L.getD m 0 < x.p) ∧ Below w8.heap.size w8 wq) (fun i _ => L.length - (intOf i).toNat)
      case atStart => exact ⟨0, Nat.zero_le _, rfl, fun m hm => absurd hm (Nat.not_lt_zero _), Below.refl _ _⟩
      case round =>
        obtain ⟨s, hs, rfl, hall, hq⟩ := hrel
        have c1 := (HC.out wr hq).1
        have x0 := (HC.out wr hq).2
        by_cases hs2 : s < L.length
        · have hsI : (s : Int) < (L.length : Int) := by omega
          obtain ⟨g, o, rfl, cg0⟩ := HCell.out s hs2
          have cg : wr.cell? ⟨g, o + s, none⟩ = some (.int .i64 (L.getD s 0)) := (hq.cell (p := ⟨g, o + s, none⟩) (cell_lt cg0)).trans cg0
          by_cases hx : L.getD s 0 < x.p
          · have d0 : decide (L.getD s 0 < x.p) = true := decide_eq_true hx
            have HQ := Lib.hid hq
            have HN : Hid (∀ m, m < s + 1 → L.getD m 0 < x.p) := Lib.hid (fun m hm => by
              by_cases e : m = s
              · rw [e]; exact hx
              · exact hall m (by omega))
            generalize L.getD s 0 = y at *
            clear hall hq hx cg0
            go_wp2
            go_quiet (fail)
            have HQ2 := Lib.hid (below_drewN HQ.out nq)
            generalize wr.drewN nq = wz at *
            go_wp2
            go_roundw
            case rel => exact ⟨s + 1, by omega, by go_num, HN.out, HQ2.out⟩
            case measure => simp [intOf]; omega
          · have d0 : decide (L.getD s 0 < x.p) = false := decide_eq_false hx
            have hins := insq_at L x.p s hs hall (fun _ => hx)
            have hrq := HRw.out.below hq
            have hson : (s : Int) ≤ (on : Int) := by omega
            have hcap : ¬ on = s := by
              obtain ⟨_, _, e, h1, _⟩ := HRw.out.form
              injection e with _ _ e
              omega
            generalize L.getD s 0 = y at *
            clear cg0 hx
            go_wp2
            go_quiet (fail)
            have hq2 := below_drewN hq nq
            have hrz := HRw.out.below hq2
            obtain ⟨a1, m1, k1, w1, a2, m2, k2, w2, a3, m3, k3, w3, G3, q1, b1, q2, b2, q3, b3, hr3, hg3⟩ := ins3 (wr.drewN nq) (.slice (some ⟨g, o, none⟩) s on) (.slice (some ⟨g, o + s, none⟩) (L.length - s) (on - s)) _ _ (L.take s) (L.drop s) x.p (rw_to hrz hs) (rw_from hrz hs) (by simp; have := hL.out; omega)
            obtain ⟨e1, e2⟩ := HC.out w1 (hq2.trans (b1.mono hq2.size))
            obtain ⟨e3, e4⟩ := HC.out (w1.alloc (.cells #[.int .i64 x.p] 3)) ((hq2.trans (b1.mono hq2.size)).alloc (by have := hq2.size; have := b1.size; omega) _)
            have hsz : w.heap.size ≤ (wr.drewN nq).heap.size := Nat.le_trans HB.out.1.size hq2.size
            have H9 : Hid (Rw w3 (.slice a3 m3 k3) G3 (insq L x.p) ∧ Below w.heap.size w w3 ∧ ∀ g, G3 = some g → w.heap.size ≤ g) := Lib.hid ⟨by rw [hins]; exact hr3, (HB.out.1.trans (hq2.mono HB.out.1.size)).trans (b3.mono hsz), fun g e => Nat.le_trans hsz (hg3 g e)⟩
            generalize wr.drewN nq = wz at *
            clear b1 b2 b3 hr3 hg3 hq hall hins hsz hq2
            go_wp2
            go_roundw
            case rel => exact ⟨j + 1, G3, by omega, by go_num, by rw [HT.out]; exact H9.out.1, H9.out.2.1, H9.out.2.2⟩
            case measure => simp [intOf]; omega
            
        · obtain rfl : s = L.length := by omega
          have hins := insq_at L x.p L.length hs hall (fun h => absurd h (Nat.lt_irrefl _))
          rcases HRw.out with ⟨e, rfl, _⟩ | ⟨g, o, cap, cs, e, hrest⟩
          · injection e with e0 _ e2
            subst e0
            subst e2
            simp only [List.length_nil] at *
            go_wp2
            go_quiet (fail)
            have hq2 := below_drewN hq nq
            obtain ⟨a1, m1, k1, w1, a2, m2, k2, w2, a3, m3, k3, w3, G3, q1, b1, q2, b2, q3, b3, hr3, hg3⟩ := ins3 (wr.drewN nq) (.slice none 0 0) (.slice none 0 0) _ _ ([].take 0) ([].drop 0) x.p (Rw.nil _) (Rw.nil _) (by simp)
            obtain ⟨e1, e2⟩ := HC.out w1 (hq2.trans (b1.mono hq2.size))
            obtain ⟨e3, e4⟩ := HC.out (w1.alloc (.cells #[.int .i64 x.p] 3)) ((hq2.trans (b1.mono hq2.size)).alloc (by have := hq2.size; have := b1.size; omega) _)
            have hsz : w.heap.size ≤ (wr.drewN nq).heap.size := Nat.le_trans HB.out.1.size hq2.size
            have H9 : Hid (Rw w3 (.slice a3 m3 k3) G3 (insq [] x.p) ∧ Below w.heap.size w w3 ∧ ∀ g, G3 = some g → w.heap.size ≤ g) := Lib.hid ⟨by rw [hins]; exact hr3, (HB.out.1.trans (hq2.mono HB.out.1.size)).trans (b3.mono hsz), fun g e => Nat.le_trans hsz (hg3 g e)⟩
            generalize wr.drewN nq = wz at *
            clear b1 b2 b3 hr3 hg3 hq hall hins hsz hq2
            go_wp2
            go_roundw
            case rel => exact ⟨j + 1, G3, by omega, by go_num, by rw [HT.out]; exact H9.out.1, H9.out.2.1, H9.out.2.2⟩
            case measure => simp [intOf]; omega

          · injection e with e0 _ e2
            subst e0
            subst e2
            by_cases hcap : on = L.length
            · subst hcap
              go_wp2
              go_quiet (fail)
              have hq2 := below_drewN hq nq
              have hrz := HRw.out.below hq2
              obtain ⟨a1, m1, k1, w1, a2, m2, k2, w2, a3, m3, k3, w3, G3, q1, b1, q2, b2, q3, b3, hr3, hg3⟩ := ins3 (wr.drewN nq) (.slice (some ⟨g, o, none⟩) L.length L.length) (.slice (some ⟨g, o, none⟩) 0 0) _ _ (L.take L.length) (L.drop L.length) x.p (rw_to hrz (Nat.le_refl _)) (by rw [List.drop_length]; exact rw_none hrz) (by simp; have := hL.out; omega)
              obtain ⟨e1, e2⟩ := HC.out w1 (hq2.trans (b1.mono hq2.size))
              obtain ⟨e3, e4⟩ := HC.out (w1.alloc (.cells #[.int .i64 x.p] 3)) ((hq2.trans (b1.mono hq2.size)).alloc (by have := hq2.size; have := b1.size; omega) _)
              have hsz : w.heap.size ≤ (wr.drewN nq).heap.size := Nat.le_trans HB.out.1.size hq2.size
              have H9 : Hid (Rw w3 (.slice a3 m3 k3) G3 (insq L x.p) ∧ Below w.heap.size w w3 ∧ ∀ g, G3 = some g → w.heap.size ≤ g) := Lib.hid ⟨by rw [hins]; exact hr3, (HB.out.1.trans (hq2.mono HB.out.1.size)).trans (b3.mono hsz), fun g e => Nat.le_trans hsz (hg3 g e)⟩
              generalize wr.drewN nq = wz at *
              clear b1 b2 b3 hr3 hg3 hq hall hins hsz hq2
              go_wp2
              go_roundw
              case rel => exact ⟨j + 1, G3, by omega, by go_num, by rw [HT.out]; exact H9.out.1, H9.out.2.1, H9.out.2.2⟩
              case measure => simp [intOf]; omega

            · go_wp2
              go_quiet (fail)
              have hq2 := below_drewN hq nq
              have hrz := HRw.out.below hq2
              obtain ⟨a1, m1, k1, w1, a2, m2, k2, w2, a3, m3, k3, w3, G3, q1, b1, q2, b2, q3, b3, hr3, hg3⟩ := ins3 (wr.drewN nq) (.slice (some ⟨g, o, none⟩) L.length on) (.slice (some ⟨g, o + L.length, none⟩) 0 (on - L.length)) _ _ (L.take L.length) (L.drop L.length) x.p (rw_to hrz (Nat.le_refl _)) (by have := rw_from hrz (Nat.le_refl _); rw [Nat.sub_self] at this; exact this) (by simp; have := hL.out; omega)
              obtain ⟨e1, e2⟩ := HC.out w1 (hq2.trans (b1.mono hq2.size))
              obtain ⟨e3, e4⟩ := HC.out (w1.alloc (.cells #[.int .i64 x.p] 3)) ((hq2.trans (b1.mono hq2.size)).alloc (by have := hq2.size; have := b1.size; omega) _)
              have hsz : w.heap.size ≤ (wr.drewN nq).heap.size := Nat.le_trans HB.out.1.size hq2.size
              have H9 : Hid (Rw w3 (.slice a3 m3 k3) G3 (insq L x.p) ∧ Below w.heap.size w w3 ∧ ∀ g, G3 = some g → w.heap.size ≤ g) := Lib.hid ⟨by rw [hins]; exact hr3, (HB.out.1.trans (hq2.mono HB.out.1.size)).trans (b3.mono hsz), fun g e => Nat.le_trans hsz (hg3 g e)⟩
              generalize wr.drewN nq = wz at *
              clear b1 b2 b3 hr3 hg3 hq hall hins hsz hq2
              go_wp2
              go_roundw
              case rel => exact ⟨j + 1, G3, by omega, by go_num, by rw [HT.out]; exact H9.out.1, H9.out.2.1, H9.out.2.2⟩
              case measure => simp [intOf]; omega

    · obtain rfl : j = D.length := by omega
      rw [List.take_length] at hr
      obtain ⟨a2, n2, e2, _⟩ := hr.form
      subst e2
      have H4 := Lib.hid (And.intro hr (And.intro hb hg))
      clear hr hb hg
      go_wp2
      go_ret
      exact ⟨H4.out.2.1, _, G, rfl, H4.out.1, H4.out.2.2⟩
end Go.Proofs.Ytkjmpkoogjbjnaa.Qva
