/-
  List of a table of pages.
-/
import Derived.Test.YtjoapeeljigjcaaDoorTi
namespace Go.Proofs.YtjoapeeljigjcaaDoor.Tl
open Go Go.RowKit Go.Shelf Kit Bk Tm Ts Tc Ti
set_option linter.unusedVariables false

attribute [local go_sem] Oper.semAt_some
/-- An append, behind a name that a walk does not open: its run is given as an equation. -/
def appO (ts : Array TypeId) (ty : TypeId) (vs : Array Value) : Sem Value := Builtin.append_ ts ty vs
theorem app_wrap (ts : Array TypeId) (ty : TypeId) (vs : Array Value) : Builtin.append_ ts ty vs = appO ts ty vs := rfl
attribute [local go_sem ↓] app_wrap

/-- Pages with their entries, as cells of a row. -/
def mcell (x : Nat × En) : List Value := [.int .i64 (x.1 : Int), .int .i64 x.2.f, .bool x.2.w, .bool x.2.s, .bool x.2.c, .bool x.2.d]
def mcells (l : List (Nat × En)) : List Value := l.flatMap mcell
theorem mcells_len (l : List (Nat × En)) : (mcells l).length = l.length * 6 := by
  induction l with
  | nil => rfl
  | cons a r ih => show (mcell a ++ mcells r).length = _; rw [List.length_append, ih, List.length_cons]; simp [mcell]; omega
theorem mcells_app (l : List (Nat × En)) (x : Nat × En) : mcells (l ++ [x]) = mcells l ++ mcell x := by simp [mcells]
theorem info59 : (Tryd.prog.info? 58).map (fun i => (i.zero, i.size, i.bytes)) = some (some (.agg #[.int .i64 0, .int .i64 0, .bool false, .bool false, .bool false, .bool false]), 6, 24) := by kernel_rfl

theorem ownFrom_ax {B : Nat} {T : TypeId} {cs : Array Value} {P : Nat → Prop} : OwnFrom B (fun (_ : Unit) W => ∃ g, P g ∧ Blk W g cs T) := by
  rintro s W W' row ⟨g, e, hb⟩ hg hr
  exact ⟨g, e, (hg.block g hb.lt (fun e' => by
    obtain ⟨_, o, ho, hc⟩ := hr g e'.symm
    unfold Blk at hb
    rw [hb] at ho
    cases ho
    cases hc)).trans hb⟩

/-- Cells of a literal row. -/
theorem lit6 (W : World) (T : TypeId) (v0 v1 v2 v3 v4 v5 : Value) : ∀ j u, ([v0, v1, v2, v3, v4, v5] : List Value)[j]? = some u → (W.alloc (.cells #[v0, v1, v2, v3, v4, v5] T)).cell? ((⟨W.heap.size, 0, none⟩ : Addr).add j) = some u := by
  intro j u hj
  rw [Addr.add_mid, Nat.zero_add, (Blk.new W #[v0, v1, v2, v3, v4, v5] T).cell]
  simpa using hj

set_option maxRecDepth 100000 in
set_option maxHeartbeats 2000000 in
theorem list_in (n : Nat) (hn : 4 ≤ n) (a : Option Addr) (T : Nat → Option En) (w : World) (hM : Gets w.heap.size w (.pointer a) T) :
    CallsIn Fence.wide n Tryd.prog 48 #[.pointer a] w fun e w' => Below w.heap.size w w' ∧ ∃ r, e = .returned r ∧ w'.ownsRow w.heap.size 58 6 r (ents T 64).length (mcells (ents T 64)) := by
  obtain ⟨i0, hi, hz0, hz1, hz2⟩ := info_parts info59
  refine callsIn_of_wp_marks Tryd.func48 rfl trivial ?_ rfl
  simp only [Tryd.ntmps48, List.size_toArray, List.length_cons, List.length_nil, Nat.reduceAdd, Nat.reduceSub, Array.replicate_succ, Array.replicate_zero, List.push_toArray, List.append_toArray, List.nil_append, List.cons_append]
  gi_wp2_with (first | (refine ⟨trivial, fun _ => (by omega), ?_⟩; gi_at_call 70; refine (entries_in (n - 1) a _).mono ?_; rintro e w' ⟨rfl, rfl⟩))
  have bS := (Boxed.new w 53 (.slice none 0 0)).alloc (.cells #[.pointer a] 72)
  have bP := Boxed.new (w.alloc (.cells #[.slice none 0 0] 53)) 72 (.pointer a)
  have hB0 := (((Below.refl w.heap.size w).alloc (Nat.le_refl _) (.cells #[.slice none 0 0] 53))).alloc (by simp) (.cells #[.pointer a] 72)
  have hsz : ((w.alloc (.cells #[.slice none 0 0] 53)).alloc (.cells #[.pointer a] 72)).heap.size = w.heap.size + 2 := by simp
  have hrow0 := World.ownsRow_nil ((w.alloc (.cells #[.slice none 0 0] 53)).alloc (.cells #[.pointer a] 72)) w.heap.size 58 6
  simp only [World.size_alloc] at bP
  obtain ⟨W0, hW0⟩ : ∃ W0, (w.alloc (.cells #[.slice none 0 0] 53)).alloc (.cells #[.pointer a] 72) = W0 := ⟨_, rfl⟩
  rw [hW0] at bS bP hB0 hsz hrow0 ⊢
  clear hW0
  have hM0 := hM.low hB0
  refine wpIn_rangeFunc_ownH rfl (by omega) (gf := 77) (lb := #[.pointer (some ⟨w.heap.size + 1, 0, none⟩)]) rfl trivial (enters_of Tryd.func77 (by kernel_rfl) rfl)
    (entries_stops (n - 1) (by omega) (w.heap.size + 1) w.heap.size (.pointer a) T encs (fun _ _ _ => rfl) W0 (by omega) hM0 bP) Kq.trans (Kq.put (by omega)) (Below.refl _ _) (fun _ => rfl)
    (fun pre W => ((∃ v, Boxed W w.heap.size 53 v ∧ W.ownsRow w.heap.size 58 6 v pre.length (mcells pre) ∧ True) ∧ Boxed W (w.heap.size + 1) 72 (.pointer a)) ∧ Below w.heap.size w W)
    (fun c pre W => False)
    (OwnFrom.and (OwnFrom.and (Own.from (holdsRow_own w.heap.size w.heap.size 53 58 6 (fun (pre : List (Nat × En)) => pre.length) (fun (pre : List (Nat × En)) => mcells pre) (fun _ _ => True)) _) (Own.from (boxed_own _ _ _) _)) (ownFrom_below (Nat.le_refl _) (by omega)))
    (fun c => ownFrom_pure _ _)
    ⟨⟨⟨_, by simpa using bS, hrow0, trivial⟩, bP⟩, hB0⟩
    (fun x a' W => ∃ g, a' = { tmps := #[.pointer a, undef, .slice none 0 0, .pointer (some ⟨w.heap.size, 0, none⟩), .int .i64 (x.1 : Int), .pointer (some ⟨g, 0, none⟩), .pointer a, .func (.func 77) #[] #[.pointer (some ⟨w.heap.size + 1, 0, none⟩)], .int .i64 (x.1 : Int), ev x.2, undef, undef, undef, undef, undef, undef, undef], defers := [] } ∧ Blk W g #[.int .i64 x.2.f, .bool x.2.w, .bool x.2.s, .bool x.2.c, .bool x.2.d] 56)
    (fun x a' => ownFrom_ax)
    ?assign ?body ?done ?stop
  case assign =>
    rintro l pre x W K ⟨⟨⟨v, hv, hrow, -⟩, hP⟩, hB⟩ hK
    dsimp only [encs]
    gi_wp2
    exact hK _ _ ((KeepsOthers.alloc W _).from _) (Kq.below ((Below.refl _ _).alloc (Nat.le_refl _) _) hB.size) ⟨⟨⟨v, hv.alloc _, hrow.alloc _, trivial⟩, hP.alloc _⟩, hB.alloc hB.size _⟩ ⟨W.heap.size, by simp, Blk.new _ _ _⟩
  case body =>
    rintro l pre x a' W hl ⟨rr, hr⟩ ⟨⟨⟨v, hv, hrow, -⟩, hP⟩, hB⟩ ⟨g, rfl, hg⟩ hlt
    have cL := hv.cell
    have hsW := hB.size
    have g0 := hg.cell 0
    have g1 := hg.cell 1
    have g2 := hg.cell 2
    have g3 := hg.cell 3
    have g4 := hg.cell 4
    obtain ⟨v', w2, hrun, hown', hgrow, -⟩ := run_append_own (P := Tryd.prog) (w := W.alloc (.cells #[.int .i64 (x.1 : Int), .int .i64 x.2.f, .bool x.2.w, .bool x.2.s, .bool x.2.c, .bool x.2.d] 58)) w.heap.size 53 53 58 i0 (.agg #[.int .i64 0, .int .i64 0, .bool false, .bool false, .bool false, .bool false]) 6 24 Tryd.underlying53 hi hz0 hz1 hz2 rfl (by decide) v pre.length (mcells pre) (hrow.alloc _) ⟨W.heap.size, 0, none⟩ 1 1 (mcell x) rfl
      (lit6 _ _ _ _ _ _ _ _) (by simp [mcell, Value.oneCell']) (by unfold maxLen; omega) (by omega) (by simp; omega)
    obtain ⟨g', cap', rfl⟩ := ownsRow_succ hown'
    have hrun' : (appO #[53, 53] 53 #[v, .slice (some ⟨W.heap.size, 0, none⟩) 1 1]).run Tryd.prog (W.alloc (.cells #[.int .i64 (x.1 : Int), .int .i64 x.2.f, .bool x.2.w, .bool x.2.s, .bool x.2.c, .bool x.2.d] 58)) = .ok (.slice (some ⟨g', 0, none⟩) (pre.length + 1) cap') w2 := hrun
    clear hrun
    have hkeep : ∀ (C : Nat) (t : TypeId) (u : Value), t ≠ 58 → C ≠ w.heap.size → Boxed W C t u → Boxed (w2.setCell ⟨w.heap.size, 0, none⟩ (.slice (some ⟨g', 0, none⟩) (pre.length + 1) cap')) C t u := fun C t u ht hne h =>
      Boxed.other (Boxed.kept (h.alloc _) hgrow (h.not_row ht hrow)) hne _
    rw [← mcells_app] at hown'
    obtain ⟨hv1, hv2, hr2, hk2, hb2⟩ := hv.appended (by decide) hrow hsW (Nat.le_refl _) hown' hgrow
    have hc1 := hv1.cell
    have hf1 := hv1.frozen
    have HV := Lib.hid (And.intro hv2 (And.intro hr2 (And.intro hk2 hb2)))
    clear hv2 hr2 hk2 hb2 hown' hgrow
    gi_wp2
    exact ⟨HV.out.2.2.1.from _, ⟨HV.out.2.2.2, fun u hu => hkeep _ _ u (by decide) (by omega) hu⟩, ⟨⟨_, HV.out.1, by simpa using HV.out.2.1, trivial⟩, hkeep _ _ _ (by decide) (by omega) hP⟩, hB.trans HV.out.2.2.2⟩
  case done =>
    rintro D ys W hD rfl ⟨⟨⟨v, hv, hrow, -⟩, hP⟩, hB⟩ hK
    have cL := hv.cell
    have HR := Lib.hid hrow
    clear hrow
    gi_wp2
    refine ⟨by simp, .inl ⟨_, _, rfl, run_takeDeferred hK, ?_⟩⟩
    refine ⟨v, ?_, hB.trans (belowK_b (w := w) (Nat.le_refl _) W D _ _ (by omega) hK rfl rfl), _, rfl, ownsRow_putObj HR.out (.deferred none) hK rfl⟩
    simp [results, go_sem]
  case stop =>
    rintro D c pre W hD hm hF hK
    exact hF.elim
theorem list_any (w : World) (a : Option Addr) (T : Nat → Option En) (hM : Gets w.heap.size w (.pointer a) T) :
    Calls Tryd.prog 48 #[.pointer a] w fun e w' => Below w.heap.size w w' ∧ ∃ r, e = .returned r ∧ w'.ownsRow w.heap.size 58 6 r (ents T 64).length (mcells (ents T 64)) := (callsIn_wide (n := 4)).1 (list_in 4 (Nat.le_refl _) a T w hM)
end Go.Proofs.YtjoapeeljigjcaaDoor.Tl
