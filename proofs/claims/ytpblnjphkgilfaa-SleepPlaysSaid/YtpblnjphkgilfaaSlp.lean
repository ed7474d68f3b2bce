/-
  SleepNext: plain facts; what the loops carry.
-/
import Derived.Test.YtpblnjphkgilfaaSlo
namespace Go.Proofs.Ytpblnjphkgilfaa.Slp
open Go Go.RowKit Go.Shelf Kit Bk Sla Slb Slc Sld Sle Slf Slg Slh Sli Slj Slk Sll Sln Slo
set_option linter.unusedVariables false

/-- Those of whom n is left. -/
def fs (n : Nat) (L : St) : List Int := (L.filter fun x => x.2 == n).map (·.1)
theorem fs_next {L : St} {i : Nat} (hi : i < L.length) (n : Nat) : fs n (L.take (i + 1)) = fs n (L.take i) ++ (if tc L i = n then [pd L i] else []) := by
  rw [List.take_succ_eq_append_getElem hi, pd_at hi, tc_at hi]
  have : ∀ (A : St) (x : Sl), fs n (A ++ [x]) = fs n A ++ (if x.2 = n then [x.1] else []) := by
    intro A x
    unfold fs
    by_cases h : x.2 = n
    · simp [List.filter_append, h]
    · simp [List.filter_append, h]
  exact this _ _
theorem fs_len (n : Nat) (L : St) : (fs n L).length ≤ L.length := by unfold fs; rw [List.length_map]; exact List.length_filter_le _ _
/-- j ticks fewer. -/
def dn (L : St) (j : Nat) : St := L.map fun x => (x.1, x.2 - j)
theorem dn_zero (L : St) : dn L 0 = L := by unfold dn; simp
theorem dn_len (L : St) (j : Nat) : (dn L j).length = L.length := by simp [dn]
theorem tkW_dn (L : St) (j : Nat) : tkW (dn L j) = (L.filter fun x => x.2 - j == 1).map (·.1) := by
  unfold tkW dn
  induction L with
  | nil => rfl
  | cons x L ih =>
    rw [List.map_cons, List.filter_cons, List.filter_cons]
    dsimp only
    by_cases h : (x.2 - j == 1) = true
    · rw [if_pos h, if_pos h, List.map_cons, List.map_cons, ih]
    · rw [if_neg h, if_neg h, ih]
theorem tk_quiet {L : St} {j : Nat} (h : ∀ x ∈ L, j + 1 < x.2) : tkW (dn L j) = [] ∧ tkL (dn L j) = dn L (j + 1) := by
  refine ⟨?_, ?_⟩
  · rw [tkW_dn, List.filter_eq_nil_iff.2 (fun x hx => by have := h x hx; simp; omega)]
    rfl
  · unfold tkL dn
    rw [List.filter_eq_self.2 (fun x hx => by
      obtain ⟨y, hy, rfl⟩ := List.mem_map.1 hx
      have := h y hy
      simp; omega), List.map_map]
    apply List.map_congr_left
    intro x hx
    simp
    omega
theorem tk_last {L : St} {n : Nat} (h1 : 1 ≤ n) (h : ∀ x ∈ L, n ≤ x.2) : tkW (dn L (n - 1)) = fs n L ∧ (tkL (dn L (n - 1))).length = L.length - (fs n L).length := by
  have hf : (fun x : Sl => x.2 - (n - 1) == 1) = fun x => x.2 + 1 - n == 1 := by
    funext x
    rw [show x.2 - (n - 1) = x.2 + 1 - n by omega]
  have e1 : tkW (dn L (n - 1)) = fs n L := by
    rw [tkW_dn]
    unfold fs
    congr 1
    apply List.filter_congr
    intro x hx
    have := h x hx
    rw [Bool.eq_iff_iff, beq_iff_eq, beq_iff_eq]
    omega
  refine ⟨e1, ?_⟩
  have hlen : ∀ M : St, (tkW M).length + (tkL M).length = M.length := by
    intro M
    unfold tkW tkL
    rw [List.length_map, List.length_map]
    induction M with
    | nil => rfl
    | cons x M ih =>
      rw [List.filter_cons, List.filter_cons, List.length_cons]
      by_cases h : x.2 = 1
      · rw [if_pos (by simp [h]), if_neg (by simp [h]), List.length_cons]; omega
      · rw [if_neg (by simp [h]), if_pos (by simp [h]), List.length_cons]; omega
  have := hlen (dn L (n - 1))
  rw [e1, dn_len] at this
  omega
/-- A number behind a row. -/
theorem grow1 {W : World} {base n : Nat} {v : Value} {xs : List Value} (x : Int) (hrow : W.ownsRow base 3 1 v n xs) (hbase : base ≤ W.heap.size) (hl : n ≤ 90000) :
    ∃ g' cap' w2, (appO #[37, 37] 37 #[v, .slice (some ⟨W.heap.size, 0, none⟩) 1 1]).run Try.prog (W.alloc (.cells #[.int .i64 x] 3)) = .ok (.slice (some ⟨g', 0, none⟩) (n + 1) cap') w2 ∧
      w2.ownsRow base 3 1 (.slice (some ⟨g', 0, none⟩) (n + 1) cap') (n + 1) (xs ++ [.int .i64 x]) ∧ Kp (fun j => v.ownBlock = some j) W w2 := by
  obtain ⟨i0, hi, hz0, hz1, hz2⟩ := info_parts' infoI
  have hb1 := (Below.refl W.heap.size W).alloc (Nat.le_refl _) (.cells #[.int .i64 x] 3)
  have hnew : Blk (W.alloc (.cells #[.int .i64 x] 3)) W.heap.size #[.int .i64 x] 3 := Blk.new _ _ _
  obtain ⟨v', w2, q1, q2, q3, q4, q5⟩ := run_append_own_at (P := Try.prog) (w := W.alloc (.cells #[.int .i64 x] 3)) base 37 37 3 i0 (.int .i64 0) 1 8 Try.underlying37 hi hz0 hz1 hz2 rfl (by decide) v n xs (own_below hrow hb1) ⟨W.heap.size, 0, none⟩ 1 1 [.int .i64 x] rfl
    (fun j u hj => by
      rw [Addr.add_mid, Nat.zero_add, hnew.cell j]
      simpa using hj) (by simp [Value.oneCell']) (by unfold maxLen; omega) (by omega) (by simp; omega)
  obtain ⟨g', cap', rfl⟩ := ownsRow_succ q2
  exact ⟨g', cap', w2, q1, q2, (Kp.of_below (S := fun k => v.ownBlock = some k) hb1).trans ((Kp.of_grown q3).mono (fun j _ e => (e.symm : v.ownBlock = some j))) (fun _ e => .inl e)⟩

/-- What the first loop carries: the sleepers, all of them (slice u), the first of them (slice f). -/
structure Nx (w0 w : World) (q : Nat) (m : Option Nat) (L : St) (u f : Value) (n i : Nat) : Prop where
  on_ : On w0 w q m L
  all : Sr w u L
  row : w.ownsRow w0.heap.size 3 1 f (fs n (L.take i)).length (ints (fs n (L.take i)))
variable {w0 w w' : World} {q : Nat} {m : Option Nat} {L : St} {u f : Value} {n i : Nat}
theorem Nx.below (h : Nx w0 w q m L u f n i) (hb : Below w.heap.size w w') : Nx w0 w' q m L u f n i := ⟨h.on_.below hb, own_below h.all hb, own_below h.row hb⟩
theorem Nx.skip (h : Nx w0 w q m L u f n i) (hi : i < L.length) (h1 : tc L i ≠ n) : Nx w0 w q m L u f n (i + 1) := by
  have h2 := fs_next hi n
  rw [if_neg h1, List.append_nil] at h2
  exact ⟨h.on_, h.all, by rw [h2]; exact h.row⟩
theorem Nx.app (h : Nx w0 w q m L u f n i) (hl : L.length < 80000) (hi : i < L.length) (h1 : tc L i = n) : ∃ f' w2, (appO #[37, 37] 37 #[f, .slice (some ⟨w.heap.size, 0, none⟩) 1 1]).run Try.prog (w.alloc (.cells #[.int .i64 (pd L i)] 3)) = .ok f' w2 ∧ Nx w0 w2 q m L u f' n (i + 1) := by
  have h2 := fs_next hi n
  rw [if_pos h1] at h2
  have hlen : (fs n (L.take i)).length ≤ 90000 := by
    have := fs_len n (L.take i)
    rw [List.length_take] at this
    omega
  obtain ⟨g', cap', w2, p1, p2, p3⟩ := grow1 (pd L i) h.row h.on_.bel.size hlen
  have hc : ∀ j, f.ownBlock = some j → w0.heap.size ≤ j ∧ ∃ cs, w.heap[j]? = some (.cells cs 3 (0, 0)) := fun j e => own_cells h.row e
  refine ⟨_, w2, p1, h.on_.kept p3 (fun j e => (hc j e).1) (fun e => ?_) (fun b e e2 => ?_), own_kept h.all p3 (fun g hg e => ?_), ?_⟩
  · obtain ⟨_, cs, hcs⟩ := hc q e
    rw [show w.heap[q]? = _ from h.on_.sv.blk] at hcs
    cases hcs
  · obtain ⟨_, cs, hcs⟩ := hc b e2
    subst e
    obtain ⟨es, ck, ho⟩ := Mp.obj (show Mp w b L from h.on_.sv.map)
    rw [ho] at hcs
    cases hcs
  · obtain ⟨_, cs, hcs⟩ := hc g e
    obtain ⟨_, ds, hds⟩ := own_cells h.all hg
    rw [hcs] at hds
    cases hds
  · rw [h2, ints_app, List.length_append]
    exact p2
/-- The i-th record of all. -/
theorem Nx.cell (h : Nx w0 w q m L u f n i) (hi : i < L.length) (j : Nat) (hj : j ≤ i) : ∃ r c, u = .slice (some ⟨r, 0, none⟩) L.length c ∧ L.length ≤ c ∧ c ≤ maxLen ∧ w.cell? ⟨r, i * 2, none⟩ = some (.int .i64 (pd L i)) ∧ w.cell? ⟨r, i * 2 + 1, none⟩ = some (uv (tc L i)) ∧ w.cell? ⟨r, j * 2, none⟩ = some (.int .i64 (pd L j)) := by
  obtain ⟨a, c, rfl, h1, h2, h3⟩ := sr_cells h.all
  obtain ⟨r, rfl, e1, e2⟩ := h3 i hi
  obtain ⟨r', er, e3, _⟩ := h3 j (by omega)
  cases er
  rw [pd_at hi, tc_at hi, pd_at (show j < L.length by omega)]
  exact ⟨r, c, rfl, h2, h1, e1, e2, e3⟩
theorem pd_up (ho : Ok L) (hi : i + 1 < L.length) : pd L i < pd L (i + 1) := by
  rw [pd_at (show i < L.length by omega), pd_at hi]
  exact List.pairwise_iff_getElem.1 ho.up i (i + 1) (by omega) hi (Nat.lt_succ_self _)
/-- What the second loop carries. -/
structure Ny (w0 w : World) (q : Nat) (m : Option Nat) (L : St) (f : Value) (n j : Nat) : Prop where
  on_ : On w0 w q m (dn L j)
  row : Nr w f (fs n L)
theorem Ny.tick {j : Nat} (h : Ny w0 w q m L f n j) (hl : L.length < 80000) (hn : ∀ x ∈ L, j + 1 < x.2) :
    Calls Try.prog 10 #[pv q] w fun e w' => Ny w0 w' q m L f n (j + 1) ∧ ∃ a c, e = .returned (.slice a 0 c) := by
  have hq := tk_quiet hn
  refine (h.on_.tick_lit [] 0 (dn L (j + 1)) (by rw [dn_len]; exact hl) rfl hq.1 hq.2).mono ?_
  rintro e w' ⟨h1, h2, a, c, rfl, _⟩
  exact ⟨⟨h1, Sv.row h.on_.sv h.row h2 (by decide)⟩, a, c, rfl⟩
theorem Ny.last (h : Ny w0 w q m L f n (n - 1)) (hl : L.length < 80000) (h1 : 1 ≤ n) (hn : ∀ x ∈ L, n ≤ x.2) :
    Calls Try.prog 10 #[pv q] w fun e w' => ∃ M, On w0 w' q m M ∧ M.length = L.length - (fs n L).length ∧ Nr w' f (fs n L) ∧ ∃ u, e = .returned u ∧ Nr w' u (fs n L) := by
  have hq := tk_last h1 hn
  refine (h.on_.tick (by rw [dn_len]; exact hl)).mono ?_
  rintro e w' ⟨h1, h2, u, rfl, h3⟩
  rw [hq.1] at h3
  exact ⟨_, h1, hq.2, Sv.row h.on_.sv h.row h2 (by decide), u, rfl, own_base h3 (Nat.zero_le _)⟩
end Go.Proofs.Ytpblnjphkgilfaa.Slp
