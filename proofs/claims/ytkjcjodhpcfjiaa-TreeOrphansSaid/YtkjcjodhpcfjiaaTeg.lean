/-
  Rows that grow in a box; Children; within; Tree.
-/
import Derived.Test.YtkjcjodhpcfjiaaTef
import Derived.Deep.AppendSrc
namespace Go.Proofs.Ytkjcjodhpcfjiaa.Teg
open Go Go.RowKit Go.Shelf Kit Bk Tea Teb Tec Ted Tee Tef
set_option linter.unusedVariables false

/-- An append, behind a name that a walk does not open: its run is given as an equation. -/
def appO (ts : Array TypeId) (ty : TypeId) (vs : Array Value) : Sem Value := Builtin.append_ ts ty vs
theorem app_wrap (ts : Array TypeId) (ty : TypeId) (vs : Array Value) : Builtin.append_ ts ty vs = appO ts ty vs := rfl
theorem infoI : (Try.prog.info? 3).map (fun i => (i.zero, i.size, i.bytes)) = some (some (.int .i64 0), 1, 8) := by kernel_rfl
theorem info_parts' {T : TypeId} {z : Option Value} {s b : Nat} (h : (Try.prog.info? T).map (fun i => (i.zero, i.size, i.bytes)) = some (z, s, b)) : ∃ i, Try.prog.info? T = some i ∧ i.zero = z ∧ i.size = s ∧ i.bytes = b := by
  cases hi : Try.prog.info? T with
  | none => rw [hi] at h; cases h
  | some i =>
    rw [hi] at h
    simp at h
    exact ⟨i, rfl, h.1, h.2.1, h.2.2⟩
theorem own_kz {B0 : Nat} {X Y : World} {base : Nat} {e : TypeId} {s : Nat} {v : Value} {n : Nat} {xs : List Value} (h : X.ownsRow base e s v n xs) (hk : Kz B0 X Y) : Y.ownsRow base e s v n xs := by
  refine ⟨h.1, ?_⟩
  rcases h.2 with h2 | ⟨g, cap, cur, hv, hg, hh, h3⟩
  · exact .inl h2
  · exact .inr ⟨g, cap, cur, hv, hg, (hk.block g (Array.getElem?_eq_some_iff.1 hh).1 (.inr ⟨_, _, _, hh⟩)).trans hh, h3⟩
theorem Blk.kz {B0 : Nat} {X Y : World} {b : Nat} {cs : Array Value} {T : TypeId} (h : Blk X b cs T) (hk : Kz B0 X Y) : Blk Y b cs T := (hk.block b h.lt (.inr ⟨_, _, _, h⟩)).trans h
theorem Kp.kz {S : Nat → Prop} {w X Y : World} {B0 : Nat} (hB : w.heap.size ≤ B0) (h : Kp S w X) (hk : Kz B0 X Y) : Kp S w Y :=
  ⟨hk.os.trans h.os, hk.tape.trans h.tape, hk.output.trans h.output, Nat.le_trans h.size hk.size, fun k hl hn => (hk.block k (Nat.lt_of_lt_of_le hl h.size) (.inl (Nat.lt_of_lt_of_le hl hB))).trans (h.block k hl hn)⟩
/-- One more element behind a row in a box. -/
theorem push {E S : TypeId} {size bytes : Nat} {z : Value} (hS : Try.prog.underlying S = some (.slice E)) (hinfo : (Try.prog.info? E).map (fun i => (i.zero, i.size, i.bytes)) = some (some z, size, bytes)) (hzs : z.cells.size = size) (hpos : 0 < size) (hby : bytes ≤ 16) (hne : S ≠ E)
    {W : World} {Bw base n : Nat} {v : Value} {xs : List Value} (cs : Array Value) (hn : cs.size = size) (h1 : ∀ u ∈ cs.toList, u.oneCell' = true) (hb : Blk W Bw #[v] S) (hrow : W.ownsRow base E size v n xs) (hbase : base ≤ W.heap.size) (hl : n ≤ 90000) :
    ∃ g' cap' w2, (appO #[S, S] S #[v, .slice (some ⟨W.heap.size, 0, none⟩) 1 1]).run Try.prog (W.alloc (.cells cs E)) = .ok (.slice (some ⟨g', 0, none⟩) (n + 1) cap') w2 ∧ Blk w2 Bw #[v] S ∧
      Blk (w2.setCell ⟨Bw, 0, none⟩ (.slice (some ⟨g', 0, none⟩) (n + 1) cap')) Bw #[.slice (some ⟨g', 0, none⟩) (n + 1) cap'] S ∧
      (w2.setCell ⟨Bw, 0, none⟩ (.slice (some ⟨g', 0, none⟩) (n + 1) cap')).ownsRow base E size (.slice (some ⟨g', 0, none⟩) (n + 1) cap') (n + 1) (xs ++ cs.toList) ∧
      Kp (fun k => k = Bw ∨ v.ownBlock = some k) W (w2.setCell ⟨Bw, 0, none⟩ (.slice (some ⟨g', 0, none⟩) (n + 1) cap')) ∧ (v.ownBlock = some g' ∨ W.heap.size ≤ g') := by
  obtain ⟨i0, hi, hz0, hz1, hz2⟩ := info_parts' hinfo
  have hb1 := (Below.refl W.heap.size W).alloc (Nat.le_refl _) (.cells cs E)
  have hrow1 := own_below hrow hb1
  have hnew : Blk (W.alloc (.cells cs E)) W.heap.size cs E := Blk.new _ _ _
  obtain ⟨v', w2, q1, q2, q3, q4, q5⟩ := run_append_own_at (P := Try.prog) (w := W.alloc (.cells cs E)) base S S E i0 z size bytes hS hi hz0 hz1 hz2 hzs hpos v n xs hrow1 ⟨W.heap.size, 0, none⟩ 1 1 cs.toList (by simp [hn])
    (fun j u hj => by
      rw [Addr.add_mid, Nat.zero_add, hnew.cell j, ← Array.getElem?_toList]
      exact hj) h1 (by unfold maxLen; omega) (Nat.le_trans (Nat.mul_le_mul_left _ hby) (by omega)) (by simp; omega)
  obtain ⟨g', cap', rfl⟩ := ownsRow_succ q2
  have hbw : Blk w2 Bw #[v] S := (q3.block Bw (by simp; exact Nat.lt_succ_of_lt hb.lt) (fun e => by
    obtain ⟨_, cs', hc⟩ := own_cells hrow e.symm
    rw [show W.heap[Bw]? = _ from hb] at hc
    cases hc
    exact hne rfl)).trans (hb.below hb1)
  have hg' : Bw ≠ g' := fun e => by
    subst e
    obtain ⟨_, cs', hc⟩ := own_cells q2 rfl
    rw [show w2.heap[Bw]? = _ from hbw] at hc
    cases hc
    exact hne rfl
  refine ⟨g', cap', w2, q1, hbw, hbw.set 0 _, own_kept q2 (Kp.set (S := fun k => k = Bw) _ _ _ _ rfl) (fun g e e2 => hg' (by rw [← e2]; simpa [Value.ownBlock] using e.symm)), ?_, ?_⟩
  · refine ((Kp.of_below (S := fun k => k = Bw ∨ v.ownBlock = some k) hb1).trans ((Kp.of_grown q3).mono (fun j _ e => (.inr e.symm : j = Bw ∨ v.ownBlock = some j))) (fun _ e => .inl e)).trans (Kp.set (S := fun k => k = Bw ∨ v.ownBlock = some k) _ _ _ _ (.inl rfl)) (fun _ e => .inl e)
  · rcases q5 with e | e
    · exact .inl (by rw [← e]; rfl)
    · right
      have : g' = (W.alloc (.cells cs E)).heap.size := by simpa [Value.ownBlock] using e
      rw [this]; simp

theorem keeps_of {S : Nat → Prop} {B0 : Nat} {W W' : World} (hk : Kp S W W') (hS : ∀ j, S j → j < B0 ∨ ∃ cs T z, W.heap[j]? = some (.cells cs T z)) : KeepsFrom B0 W W' :=
  ⟨hk.size, fun k o hB h hc => (hk.block k (Array.getElem?_eq_some_iff.1 h).1 (fun e => by
    rcases hS k e with h1 | ⟨cs, T, z, h1⟩
    · omega
    · rw [h] at h1; cases h1; cases hc)).trans h⟩

/-- Steps that turn what is a round's own alone. -/
theorem stay_of {F : Nat → Prop} {P : Nat → Prop} {b : Nat} {W W' : World} (hk : Kp F W W') (hS : ∀ j, F j → Mine P b W j) (hm : ∀ k, Mine P b W' k → Mine P b W k ∨ W.heap.size ≤ k) : Stay P b W W' := fun k cs T z h hn =>
  have hlt := (Array.getElem?_eq_some_iff.1 h).1
  ⟨(hk.block k hlt (fun e => hn (hS k e))).trans h, fun e => (hm k e).elim hn (fun h2 => by omega)⟩
theorem Tb.kz {B B0 : Nat} {X Y : World} {q b : Nat} {v : Value} {rm : Nat} {L : St} {S : List Bool} (h : Tb B X q b v rm L S) (hb : b < B0) (hk : Kz B0 X Y) : Tb B Y q b v rm L S :=
  ⟨Blk.kz h.blk hk, Mp.same h.map (hk.block b h.map.lt (.inl hb)), own_kz h.row hk, h.lo⟩
theorem pd_wf {L : St} (ho : Ok L) {i : Nat} (hi : i < L.length) : (Lit.int .i64 (pd L i)).wf = true := by
  have := ho.pid _ (ho.up.gt (List.getElem_mem hi)).2
  rw [pd_at hi]
  exact wf64 (by omega)
theorem pd_in {L : St} (ho : Up L) {i : Nat} (hi : i < L.length) : hs L (pd L i) = true ∧ gt L (pd L i) = rc L i := by
  have := ho.gt (List.getElem_mem hi)
  rw [pd_at hi, rc_at hi]
  exact ⟨this.2, this.1⟩
theorem Tb.er {B : Nat} {X : World} {q b : Nat} {v : Value} {rm : Nat} {L : St} {S : List Bool} (h : Tb B X q b v rm L S) (ho : Ok L) (i : Nat) : Er q b L i X :=
  ⟨h.cell1, fun hi => by rw [h.map.look1 (pd_wf ho hi), (pd_in ho.up hi).2]⟩

/-- A row of numbers in a box, i of l's, beside the table. -/
structure Ro (B : Nat) (w : World) (g r0 : Nat) (q b : Nat) (v : Value) (rm : Nat) (L : St) (S : List Bool) (l : List Int) (W : World) : Prop where
  row : ∃ u, Blk W g #[u] 24 ∧ W.ownsRow r0 3 1 u l.length (ints l)
  tb : Tb B W q b v rm L S
  bel : Below w.heap.size w W
  lo : r0 ≤ W.heap.size
variable {B : Nat} {w W : World} {g r0 q b : Nat} {v : Value} {rm : Nat} {L : St} {S : List Bool} {l : List Int}
theorem Ro.kz {B0 : Nat} {X Y : World} (h : Ro B w g r0 q b v rm L S l X) (hB : w.heap.size ≤ B0) (hb : b < B0) (hk : Kz B0 X Y) : Ro B w g r0 q b v rm L S l Y := by
  obtain ⟨u, h1, h2⟩ := h.row
  exact ⟨⟨u, Blk.kz h1 hk, own_kz h2 hk⟩, Tb.kz h.tb hb hk, (Kp.kz hB (Kp.of_below (S := fun _ => False) h.bel) hk).below (Nat.le_refl _) (fun _ e => e.elim), Nat.le_trans h.lo hk.size⟩
/-- One more. -/
theorem Ro.push {B0 : Nat} (h : Ro B w g r0 q b v rm L S l W) (hl : l.length < 80000) (x : Int) (hg : w.heap.size ≤ g) (hgB : g < B0) (hr0 : w.heap.size ≤ r0) (hw : ∀ j, fr q b v j → j < w.heap.size) : ∃ u g' cap' w4, W.cell? ⟨g, 0, none⟩ = some u ∧
    (appO #[24, 24] 24 #[u, .slice (some ⟨W.heap.size, 0, none⟩) 1 1]).run Try.prog (W.alloc (.cells #[.int .i64 x] 3)) = .ok (.slice (some ⟨g', 0, none⟩) (l.length + 1) cap') w4 ∧
    (w4.cell? ⟨g, 0, none⟩ = some u ∧ w4.frozen? ⟨g, 0, none⟩ = false) ∧
    KeepsFrom B0 W (w4.setCell ⟨g, 0, none⟩ (.slice (some ⟨g', 0, none⟩) (l.length + 1) cap')) ∧
    Stay (fun k => k = g) b W (w4.setCell ⟨g, 0, none⟩ (.slice (some ⟨g', 0, none⟩) (l.length + 1) cap')) ∧
    Ro B w g r0 q b v rm L S (l ++ [x]) (w4.setCell ⟨g, 0, none⟩ (.slice (some ⟨g', 0, none⟩) (l.length + 1) cap')) := by
  obtain ⟨u, r1, r2⟩ := h.row
  obtain ⟨g', cap', w4, p1, p2, p3, p4, p5, p6⟩ := Teg.push (S := 24) (E := 3) Try.underlying24 infoI rfl (by decide) (by decide) (by decide) #[.int .i64 x] rfl (by simp [Value.oneCell']) r1 r2 h.lo (by omega)
  have hblo : ∀ k, u.ownBlock = some k → r0 ≤ k ∧ ∃ cs, W.heap[k]? = some (.cells cs 3 (0, 0)) := fun k e => own_cells r2 e
  refine ⟨u, g', cap', w4, r1.cell 0, p1, ⟨p2.cell 0, p2.free 0⟩, ?_, ?_, ?_⟩
  · refine keeps_of p5 (fun j e => ?_)
    rcases e with e | e
    · exact .inl (by omega)
    · obtain ⟨_, cs, hc⟩ := hblo j e; exact .inr ⟨_, _, _, hc⟩
  · refine stay_of p5 (fun j e => ?_) (fun k e => ?_)
    · rcases e with e | e
      · exact .inl e
      · exact .inr (.inr ⟨g, rfl, u, _, _, r1, e⟩)
    · rcases e with e | e | ⟨g2, rfl, v', T, z, e1, e2⟩
      · exact .inl (.inl e)
      · exact .inl (.inr (.inl e))
      · rw [show (w4.setCell ⟨g2, 0, none⟩ (.slice (some ⟨g', 0, none⟩) (l.length + 1) cap')).heap[g2]? = _ from p3] at e1
        cases e1
        have : g' = k := by simpa [Value.ownBlock] using e2
        subst this
        rcases p6 with e | e
        · exact .inl (.inr (.inr ⟨g2, rfl, u, _, _, r1, e⟩))
        · exact .inr e
  · have hs : ∀ j, (j = g ∨ u.ownBlock = some j) → w.heap.size ≤ j := fun j e => by
      rcases e with e | e
      · omega
      · have := (hblo j e).1; omega
    refine ⟨⟨_, p3, ?_⟩, h.tb.kept p5 (fun j e e2 => ?_), h.bel.trans (p5.below h.bel.size hs), Nat.le_trans h.lo p5.size⟩
    · rw [ints_app, List.length_append]
      exact p4
    · have := hs j e2; have := hw j e; omega
end Go.Proofs.Ytkjcjodhpcfjiaa.Teg
