/-
  Nobody frozen; what was, as rows; a tree thawed one behind the other: plain words and rows.
-/
import Derived.Test.YtkjcjodhpcfjiaaTex
namespace Go.Proofs.Ytkjcjodhpcfjiaa.Tey
open Go Go.RowKit Go.Shelf Kit Bk Tea Teb Tec Ted Tee Tef Teg Teh Tei Tej Tek Tel Tem Ten Teo Tep Teq Ter Tes Teu Tev Tew Tex
set_option linter.unusedVariables false

/-- Nobody is frozen. -/
def Nf (L : St) : Prop := ∀ p, (gt L p).st ≠ 3
theorem nf_one : Nf L1 := fun p => by
  unfold L1
  rw [gt_cons, gt_nil]
  split
  · decide
  · decide
theorem nf_fk {rm : Nat} {L : St} {S : List Bool} {p : Int} (h : Nf L) : Nf (fkL rm L S p) := fun x => by
  unfold fkL
  split
  · rw [gt_ins]
    split
    · dsimp only; omega
    · exact h x
  · exact h x
theorem nf_ex {L : St} {p : Int} {s : Nat} (h : Nf L) : Nf (exM L p s) := fun x => by
  unfold exM
  split
  · unfold exL
    rw [gt_mp]
    split
    · unfold exF
      split
      · dsimp only; omega
      · split
        · exact h x
        · exact h x
    · decide
  · exact h x
theorem nf_rp {L : St} {p : Int} (h : Nf L) : Nf (rpL L p) := fun x => by
  unfold rpL
  split
  · rw [gt_del]
    split
    · exact h x
    · decide
  · exact h x
/-- Who is still frozen. -/
def rst (L : St) (p : Int) (i : Nat) : List Int := (tr L p).filter fun x => decide (x ∉ (pids L).take i)
variable {L : St} {p : Int} {i : Nat}
theorem rst_mem {x : Int} : x ∈ rst L p i ↔ x ∈ tr L p ∧ x ∉ (pids L).take i := by
  unfold rst
  rw [List.mem_filter, decide_eq_true_eq]
theorem rst_zero : frL L (rst L p 0) = frL L (tr L p) := by
  unfold rst
  rw [List.filter_eq_self.2 (fun x _ => by simp)]
theorem frL_nil : frL L [] = L := by
  unfold frL mp
  have : ∀ x : Pr, (x.1, frF [] x.1 x.2) = x := fun x => by unfold frF; rw [if_neg (by simp)]
  simp only [this]
  exact List.map_id L
theorem rst_all : frL L (rst L p L.length) = L := by
  have : rst L p L.length = [] := by
    apply List.eq_nil_iff_forall_not_mem.2
    intro x hx
    obtain ⟨h1, h2⟩ := rst_mem.1 hx
    have hl : (pids L).length = L.length := by simp [pids]
    rw [← hl, List.take_length] at h2
    exact h2 (hs_mem.1 (tr_in h1))
  rw [this, frL_nil]
theorem take_pids (hi : i < L.length) : (pids L).take (i + 1) = (pids L).take i ++ [pd L i] := by
  rw [List.take_succ_eq_append_getElem (by simpa [pids] using hi), pd_at hi]
  simp [pids]
theorem pd_out (ho : Up L) (hi : i < L.length) : pd L i ∉ (pids L).take i := fun hm => by
  unfold pids at hm
  rw [← List.map_take] at hm
  obtain ⟨y, hy, e⟩ := List.mem_map.1 hm
  obtain ⟨j, hj, rfl⟩ := List.getElem_of_mem hy
  rw [List.length_take] at hj
  rw [List.getElem_take, pd_at hi] at e
  have := List.pairwise_iff_getElem.1 ho j i (by omega) hi (by omega)
  omega
theorem rst_in (ho : Up L) (hi : i < L.length) (h : pd L i ∈ tr L p) : gt (frL L (rst L p i)) (pd L i) = ⟨(rc L i).par, 3, 0⟩ := by
  have h1 := pd_in ho hi
  rw [gt_frL h1.1, if_pos (rst_mem.2 ⟨h, pd_out ho hi⟩), h1.2]
theorem rst_out (ho : Up L) (hi : i < L.length) (h : pd L i ∉ tr L p) : gt (frL L (rst L p i)) (pd L i) = rc L i := by
  have h1 := pd_in ho hi
  rw [gt_frL h1.1, if_neg (fun e => h (rst_mem.1 e).1), h1.2]
theorem rst_skip (ho : Up L) (hi : i < L.length) (h : pd L i ∉ tr L p) : frL L (rst L p (i + 1)) = frL L (rst L p i) := by
  have : rst L p (i + 1) = rst L p i := by
    unfold rst
    apply List.filter_congr
    intro x hx
    rw [take_pids hi]
    have : x ≠ pd L i := fun e => h (e ▸ hx)
    simp [this]
  rw [this]
theorem rst_thaw (ho : Up L) (hi : i < L.length) : thL (frL L (rst L p i)) (pd L i) (rc L i).st (rc L i).su = frL L (rst L p (i + 1)) := by
  unfold thL frL mp
  rw [List.map_map]
  apply List.map_congr_left
  intro x hx
  show (x.1, thF (pd L i) (rc L i).st (rc L i).su x.1 (frF (rst L p i) x.1 x.2)) = (x.1, frF (rst L p (i + 1)) x.1 x.2)
  congr 1
  by_cases e : x.1 = pd L i
  · have h1 := (ho.gt hx).1
    rw [e, (pd_in ho hi).2] at h1
    have h2 : pd L i ∉ rst L p (i + 1) := fun h => (rst_mem.1 h).2 (by rw [take_pids hi]; simp)
    rw [e]
    unfold thF frF
    rw [if_pos rfl, if_neg h2, ← h1]
    split <;> rfl
  · unfold thF
    rw [if_neg e]
    have : x.1 ∈ rst L p (i + 1) ↔ x.1 ∈ rst L p i := by
      rw [rst_mem, rst_mem, take_pids hi, List.mem_append, List.mem_singleton]
      constructor
      · rintro ⟨a, b⟩; exact ⟨a, fun h => b (.inl h)⟩
      · rintro ⟨a, b⟩; exact ⟨a, fun h => h.elim b e⟩
    unfold frF
    by_cases h2 : x.1 ∈ rst L p i
    · rw [if_pos h2, if_pos (this.2 h2)]
    · rw [if_neg h2, if_neg (fun h => h2 (this.1 h))]
/-- Who is frozen may be thawed as he was. -/
theorem thaw_ok {rm : Nat} {S : List Bool} (ho : Ok L) (hn : Nf L) (hi : i < L.length) (h : pd L i ∈ tr L p) : thE rm (frL L (rst L p i)) S (pd L i) (rc L i).par (rc L i).st (rc L i).su = 0 ∧
    thM rm (frL L (rst L p i)) S (pd L i) (rc L i).par (rc L i).st (rc L i).su = frL L (rst L p (i + 1)) ∧ thS rm (frL L (rst L p i)) S (pd L i) (rc L i).par (rc L i).st (rc L i).su = S := by
  have h1 := pd_in ho.up hi
  have h2 := rst_in ho.up hi h
  have h3 := ho.st _ h1.1
  have h4 := hn (pd L i)
  rw [h1.2] at h3 h4
  have hf : ft (frL L (rst L p i)) (pd L i) (rc L i).st (rc L i).su = true := by
    unfold ft
    by_cases e1 : (rc L i).st = 1
    · rw [if_pos e1, h3.2.2 e1]; rfl
    · rw [if_neg e1]
      have e2 : (rc L i).st = 2 := by omega
      rw [if_pos e2]
      have : kids (frL L (rst L p i)) (pd L i) = [] := (kids_nil (ho.up.mp _)).2 (fun x hx e => by
        have e : (gt (frL L (rst L p i)) x).par = pd L i := e
        rw [par_frL] at e
        have hx : hs (frL L (rst L p i)) x = true := hx
        rw [hs_frL] at hx
        by_cases ex : x = 1
        · subst ex
          rw [ho.one.2] at e
          have := ho.pid _ h1.1
          have : (0 : Int) = pd L i := e
          omega
        · obtain ⟨rk, hr⟩ := ho.tree
          have := (hr x hx ex).2.1
          rw [e, h1.2] at this
          exact this e2)
      rw [this]
      rfl
  have hE : thE rm (frL L (rst L p i)) S (pd L i) (rc L i).par (rc L i).st (rc L i).su = 0 := by
    unfold thE myE
    rw [if_pos hf, h2]
    simp [my]
  refine ⟨hE, ?_, ?_⟩
  · unfold thM
    rw [if_pos hE, h2, if_pos rfl, rst_thaw ho.up hi]
  · unfold thS
    rw [if_pos hE, h2, if_pos rfl]
/-- What was, as cells. -/
def pc (x : Pr) : List Value := [.int .i64 x.1, .int .i64 x.2.par, .int .i64 x.2.st, uv x.2.su]
def pcs (L : St) : List Value := L.flatMap pc
theorem pcs_len (D : St) : (pcs D).length = D.length * 4 := by
  induction D with
  | nil => rfl
  | cons a r ih => show (pc a ++ pcs r).length = _; rw [List.length_append, ih, List.length_cons]; simp [pc]; omega
theorem pcs_app (D M : St) : pcs (D ++ M) = pcs D ++ pcs M := by simp [pcs]
theorem pcs_cell (D : St) : ∀ (i : Nat) (h : i < D.length) (j : Nat), j < 4 → (pcs D)[i * 4 + j]? = (pc D[i])[j]? := by
  induction D with
  | nil => intro i h; simp at h
  | cons a r ih =>
    intro i h j hj
    show (pc a ++ pcs r)[i * 4 + j]? = _
    cases i with
    | zero => rw [List.getElem?_append_left (by simp [pc]; omega)]; simp
    | succ i =>
      rw [List.getElem?_append_right (by simp [pc]; omega)]
      have := ih i (by simpa using h) j hj
      rw [show (i + 1) * 4 + j - (pc a).length = i * 4 + j by simp [pc]; omega, this]
      rfl
/-- A row of what was. -/
abbrev Wz (B : Nat) (w : World) (v : Value) (L : St) : Prop := w.ownsRow B 52 4 v L.length (pcs L)
theorem Wz.cells {B : Nat} {w : World} {v : Value} {L : St} (h : Wz B w v L) : ∃ a c, v = .slice a L.length c ∧ c ≤ maxLen ∧ L.length ≤ c ∧ ∀ i, i < L.length → ∃ r, a = some ⟨r, 0, none⟩ ∧ w.cell? ⟨r, i * 4, none⟩ = some (.int .i64 (pd L i)) ∧ w.cell? ⟨r, i * 4 + 1, none⟩ = some (.int .i64 (rc L i).par) ∧ w.cell? ⟨r, i * 4 + 2, none⟩ = some (.int .i64 (rc L i).st) ∧ w.cell? ⟨r, i * 4 + 3, none⟩ = some (uv (rc L i).su) := by
  rcases h.2 with ⟨rfl, h0⟩ | ⟨g, cap, cur, rfl, hg, hh, h3, h4, h5, h6⟩
  · exact ⟨none, 0, by rw [h0], Nat.zero_le _, by omega, fun i hi => by omega⟩
  · refine ⟨_, cap, rfl, h4, h3, fun i hi => ⟨g, rfl, ?_⟩⟩
    rw [pd_at hi, rc_at hi]
    have hc : ∀ j, j < 4 → w.cell? ⟨g, i * 4 + j, none⟩ = (pc L[i])[j]? := fun j hj => by
      have := h.cellAt (i * 4 + j) (by omega)
      rw [this, pcs_cell L i hi j hj]
    exact ⟨hc 0 (by omega), hc 1 (by omega), hc 2 (by omega), hc 3 (by omega)⟩
theorem infoP : (Try.prog.info? 52).map (fun i => (i.zero, i.size, i.bytes)) = some (some (.agg #[.int .i64 0, .int .i64 0, .int .i64 0, .int .u32 0]), 4, 32) := by kernel_rfl
/-- Rows of other types. -/
def Ro2 (T : TypeId) (w w' : World) : Prop := ∀ (base : Nat) (e : TypeId) (s : Nat) (x : Value) (n : Nat) (xs : List Value), e ≠ T → w.ownsRow base e s x n xs → w'.ownsRow base e s x n xs
/-- One more in a row of a law's own. -/
theorem On.push {T S2 : TypeId} {size bytes : Nat} {z : Value} (hT1 : T ≠ 65) (hT2 : T ≠ 4) (hS : Try.prog.underlying S2 = some (.slice T)) (hinfo : (Try.prog.info? T).map (fun i => (i.zero, i.size, i.bytes)) = some (some z, size, bytes)) (hzs : z.cells.size = size) (hpos : 0 < size) (hby : bytes ≤ 32)
    {w0 w : World} {q rm : Nat} {L : St} {S : List Bool} (h : On w0 w q rm L S) {v : Value} {n : Nat} {xs : List Value} (hr : w.ownsRow w0.heap.size T size v n xs) (cs : Array Value) (hn : cs.size = size) (h1 : ∀ u ∈ cs.toList, u.oneCell' = true) (hl : n ≤ 90000) :
    ∃ g' cap' w4, (appO #[S2, S2] S2 #[v, .slice (some ⟨w.heap.size, 0, none⟩) 1 1]).run Try.prog (w.alloc (.cells cs T)) = .ok (.slice (some ⟨g', 0, none⟩) (n + 1) cap') w4 ∧
      w4.ownsRow w0.heap.size T size (.slice (some ⟨g', 0, none⟩) (n + 1) cap') (n + 1) (xs ++ cs.toList) ∧ On w0 w4 q rm L S ∧ Ro2 T w w4 := by
  obtain ⟨i0, hi, hz0, hz1, hz2⟩ := info_parts' hinfo
  have hb1 := (Below.refl w.heap.size w).alloc (Nat.le_refl _) (.cells cs T)
  have hrow1 := own_below hr hb1
  have hnew : Blk (w.alloc (.cells cs T)) w.heap.size cs T := Blk.new _ _ _
  have ho1 := h.below hb1
  obtain ⟨v', w4, q1, q2, q3, q4, q5⟩ := run_append_own_at (P := Try.prog) (w := w.alloc (.cells cs T)) w0.heap.size S2 S2 T i0 z size bytes hS hi hz0 hz1 hz2 hzs hpos v n xs hrow1 ⟨w.heap.size, 0, none⟩ 1 1 cs.toList (by simp [hn])
    (fun j u hj => by
      rw [Addr.add_mid, Nat.zero_add, hnew.cell j, ← Array.getElem?_toList]
      exact hj) h1 (by unfold maxLen; omega) (Nat.le_trans (Nat.mul_le_mul_left _ hby) (by omega)) (by simp; have := h.bel.size; omega)
  obtain ⟨g', cap', rfl⟩ := ownsRow_succ q2
  have hk : Kp (fun k => v.ownBlock = some k) (w.alloc (.cells cs T)) w4 := (Kp.of_grown q3).mono (fun j _ e => e.symm)
  refine ⟨g', cap', w4, q1, q2, ?_, fun base e s x m ys he hx => ?_⟩
  · obtain ⟨b, vv, ht⟩ := ho1.tb
    refine ⟨⟨b, vv, ht.kept hk (fun j e e2 => ?_)⟩, ho1.ok, ho1.bel.trans (hk.below ho1.bel.size (fun j e => (own_cells hrow1 e).1))⟩
    obtain ⟨_, cs2, hc⟩ := own_cells hrow1 e2
    exact ht.not_fr hc hT1 hT2 e
  · refine own_kept (own_below hx hb1) hk (fun g e1 e2 => ?_)
    obtain ⟨_, c1, hc1⟩ := own_cells (own_below hx hb1) e1
    obtain ⟨_, c2, hc2⟩ := own_cells hrow1 e2
    rw [hc1] at hc2
    cases hc2
    exact he rfl
/-- A table of a law's own of which something is known. -/
def Sf (Pd : St → Prop) (w0 w : World) (q rm : Nat) : Prop := ∃ L S, On w0 w q rm L S ∧ Pd L
theorem Sf.bel {Pd : St → Prop} {w0 w : World} {q rm : Nat} (h : Sf Pd w0 w q rm) : Below w0.heap.size w0 w := by obtain ⟨L, S, h, _⟩ := h; exact h.bel
theorem Sf.below {Pd : St → Prop} {w0 w w' : World} {q rm : Nat} (h : Sf Pd w0 w q rm) (hb : Below w.heap.size w w') : Sf Pd w0 w' q rm := by
  obtain ⟨L, S, h, h2⟩ := h
  exact ⟨L, S, h.below hb, h2⟩
theorem Sf.fork {Pd : St → Prop} (hPd : ∀ rm L S p, Pd L → Pd (fkL rm L S p)) {w0 w : World} {q rm : Nat} {p : Int} (h : Sf Pd w0 w q rm) (hp : (Lit.int .i64 p).wf = true) :
    Calls Try.prog 10 #[pv q, .int .i64 p] w fun e w' => (∃ a c : Int, e = .returned (.tuple #[.int .i64 a, .int .i64 c])) ∧ Sf Pd w0 w' q rm := by
  obtain ⟨L, S, h1, h2⟩ := h
  refine (h1.fork hp).mono ?_
  rintro e w' ⟨rfl, h3, _⟩
  exact ⟨⟨_, _, rfl⟩, _, _, h3, hPd _ _ _ _ h2⟩
theorem Sf.exit {Pd : St → Prop} (hPd : ∀ L p s, Pd L → Pd (exM L p s)) {w0 w : World} {q rm su : Nat} {p : Int} (h : Sf Pd w0 w q rm) (hp : (Lit.int .i64 p).wf = true) (hsu : su < 4294967296) :
    Calls Try.prog 8 #[pv q, .int .i64 p, uv su] w fun e w' => (∃ (a : Option Addr) (n c : Nat) (z : Int), e = .returned (.tuple #[.slice a n c, .int .i64 z])) ∧ Sf Pd w0 w' q rm := by
  obtain ⟨L, S, h1, h2⟩ := h
  refine (h1.exit hp hsu).mono ?_
  rintro e w' ⟨a, c, rfl, _, h3, _⟩
  exact ⟨⟨_, _, _, _, rfl⟩, _, _, h3, hPd _ _ _ h2⟩
theorem Sf.reap {Pd : St → Prop} (hPd : ∀ L p, Pd L → Pd (rpL L p)) {w0 w : World} {q rm : Nat} {p : Int} (h : Sf Pd w0 w q rm) (hp : (Lit.int .i64 p).wf = true) :
    Calls Try.prog 9 #[pv q, .int .i64 p] w fun e w' => (∃ (a : Int) (c : Nat) (z : Int), e = .returned (.tuple #[.int .i64 a, uv c, .int .i64 z])) ∧ Sf Pd w0 w' q rm := by
  obtain ⟨L, S, h1, h2⟩ := h
  refine (h1.reap hp).mono ?_
  rintro e w' ⟨rfl, h3, _⟩
  exact ⟨⟨_, _, _, rfl⟩, _, _, h3, hPd _ _ h2⟩
theorem Sf.freeze {w0 w : World} {q rm : Nat} {p : Int} (h : Sf (fun _ => True) w0 w q rm) (hp : (Lit.int .i64 p).wf = true) :
    Calls Try.prog 11 #[pv q, .int .i64 p] w fun e w' => (∃ (a : Option Addr) (n c : Nat) (z : Int), e = .returned (.tuple #[.slice a n c, .int .i64 z])) ∧ Sf (fun _ => True) w0 w' q rm := by
  obtain ⟨L, S, h1, h2⟩ := h
  refine (h1.freeze hp).mono ?_
  rintro e w' ⟨a, c, rfl, _, h3, _⟩
  exact ⟨⟨_, _, _, _, rfl⟩, _, _, h3, trivial⟩
end Go.Proofs.Ytkjcjodhpcfjiaa.Tey
