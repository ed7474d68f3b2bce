/-
  Words of package word: the loop over quads, left by its label where bytes are too few.
-/
import Derived.Test.YtjoapeeljigjcaaDoorQuads
import Derived.Shelf.RegionOpen
import Derived.Maps.AppendAt
namespace Go.Proofs.YtjoapeeljigjcaaDoor.Words
open Go Go.RowKit Go.Shelf Nums Kit Leaf Bytes Join Quads
set_option linter.unusedVariables false

attribute [local go_sem] Oper.semAt_some

/-- An append, behind a name that a walk does not open: its run is given as an equation. -/
def appO (ts : Array TypeId) (ty : TypeId) (vs : Array Value) : Sem Value := Builtin.append_ ts ty vs
theorem app_wrap (ts : Array TypeId) (ty : TypeId) (vs : Array Value) : Builtin.append_ ts ty vs = appO ts ty vs := rfl
attribute [local go_sem ↓] app_wrap

/-- The k-th word of bytes. -/
def wd (xs : List Nat) (k : Nat) : Nat := jn (qb xs k 0) (qb xs k 1) (qb xs k 2) (qb xs k 3)
def u32s (l : List Nat) : List Value := l.map fun (x : Nat) => Value.int .u32 (x : Int)
theorem info22 : (Tryd.prog.info? 25).map (fun i => (i.zero, i.size, i.bytes)) = some (some (.int .u32 0), 1, 4) := by kernel_rfl

theorem jn_in (xs : List Nat) (hb : ∀ i k, qb xs k i < 256) (x : Nat) (wx : World) :
    Calls Tryd.prog 46 #[.agg #[.int .u8 ((qb xs x 0 : Nat) : Int), .int .u8 ((qb xs x 1 : Nat) : Int), .int .u8 ((qb xs x 2 : Nat) : Int), .int .u8 ((qb xs x 3 : Nat) : Int)]] wx fun e w' => e = .returned (.int .u32 ((wd xs x : Nat) : Int)) ∧ w' = wx.alloc (.cells #[.int .u8 ((qb xs x 0 : Nat) : Int), .int .u8 ((qb xs x 1 : Nat) : Int), .int .u8 ((qb xs x 2 : Nat) : Int), .int .u8 ((qb xs x 3 : Nat) : Int)] 96) :=
  join_any _ _ _ _ wx (hb 0 x) (hb 1 x) (hb 2 x) (hb 3 x)

/-- A block of whole cells is the caller's own. -/
theorem rowHeld_own {β : Type} (B : Nat) (t : TypeId) (cs : Array Value) : Own (fun (_ : β) W => W.heap[B]? = some (.cells cs t (0, 0))) := fun s X Y row hs hg hrow => by
  have hlt : B < X.heap.size := (Array.getElem?_eq_some_iff.1 hs).1
  refine (hg.block B hlt (fun e' => ?_)).trans hs
  obtain ⟨o, ho, hc⟩ := hrow B e'.symm
  rw [hs] at ho; cases ho; cases hc

/-- What Words answers. -/
def WordsR (xs : List Nat) (w : World) (e : Ending) (W' : World) : Prop :=
  Below w.heap.size w W' ∧ ((xs.length % 4 = 0 ∧ ∃ r, e = .returned (.tuple #[r, .int .i64 0]) ∧ W'.ownsRow w.heap.size 25 1 r (xs.length / 4) (u32s ((List.range (xs.length / 4)).map (wd xs)))) ∨
    (xs.length % 4 ≠ 0 ∧ e = .returned (.tuple #[.slice none 0 0, .int .i64 10])))

set_option maxRecDepth 100000 in
set_option maxHeartbeats 4000000 in
theorem words_in (n : Nat) (hn : 4 ≤ n) (v : Value) (xs : List Nat) (w : World) (hx : Slc .u8 w v xs) (hb : ∀ i k, qb xs k i < 256) (hlen : xs.length ≤ 10000) :
    CallsIn Fence.wide n Tryd.prog 22 #[v] w (WordsR xs w) := by
  have hsl := hx
  obtain ⟨a, cap, rfl, hcap, hmax, hread⟩ := hx
  unfold maxLen at hmax
  clear hread
  have hlz : ((xs.length : Nat) : Int) ≤ 10000 := by omega
  obtain ⟨i0, hi, hz0, hz1, hz2⟩ := info_parts info22
  refine callsIn_of_wp_marks Tryd.func22 rfl trivial ?_ rfl
  simp only [Tryd.ntmps22, List.size_toArray, List.length_cons, List.length_nil, Nat.reduceAdd, Nat.reduceSub, Array.replicate_succ, Array.replicate_zero, List.push_toArray, List.append_toArray, List.nil_append, List.cons_append]
  gi_wp2
  refine wpIn_wide.2 (wp_scope_straight ((wpIn_wide (n := n)).1 ?_))
  gi_wp2_with (first | (gi_at_make; refine wpListIn_make_own _ rfl _ _ 27 rfl w.heap.size 25 i0 (.int .u32 0) 1 Tryd.underlying27 hi hz0 hz1 .i64 .i64 _ (xs.length / 4) rfl rfl (by omega) (by rw [hz2]; omega) (by unfold maxLen; omega) (Nat.le_refl _) ?_; intro w1 hown hgr) | fail)
  refine wpIn_label ?_
  gi_wp2_with (first | (refine ⟨trivial, fun _ => (by omega), ?_⟩; gi_at_call 45; refine (quads_in (n - 1) _ _ _ _).mono ?_; rintro e w' ⟨rfl, rfl⟩) | fail)
  have hw1 := hgr.size
  have hb1 : Below w.heap.size w w1 := (Below.refl _ w).grown hgr (Nat.le_refl _) (fun _ h => by cases h)
  have bL := ((Boxed.new w1 27 (.slice (some ⟨w.heap.size, 0, none⟩) 0 (xs.length / 4))).alloc (.cells #[.int .i64 0] 41)).alloc (.cells #[.slice a xs.length cap] 37)
  have bE := (Boxed.new (w1.alloc (.cells #[.slice (some ⟨w.heap.size, 0, none⟩) 0 (xs.length / 4)] 27)) 41 (.int .i64 0)).alloc (.cells #[.slice a xs.length cap] 37)
  have bB := Boxed.new ((w1.alloc (.cells #[.slice (some ⟨w.heap.size, 0, none⟩) 0 (xs.length / 4)] 27)).alloc (.cells #[.int .i64 0] 41)) 37 (.slice a xs.length cap)
  have hrow0 := ((hown.alloc (.cells #[.slice (some ⟨w.heap.size, 0, none⟩) 0 (xs.length / 4)] 27)).alloc (.cells #[.int .i64 0] 41)).alloc (.cells #[.slice a xs.length cap] 37)
  have hB0 := ((hb1.alloc hw1 (.cells #[.slice (some ⟨w.heap.size, 0, none⟩) 0 (xs.length / 4)] 27)).alloc (by simp; omega) (.cells #[.int .i64 0] 41)).alloc (by simp; omega) (.cells #[.slice a xs.length cap] 37)
  have hsz : (((w1.alloc (.cells #[.slice (some ⟨w.heap.size, 0, none⟩) 0 (xs.length / 4)] 27)).alloc (.cells #[.int .i64 0] 41)).alloc (.cells #[.slice a xs.length cap] 37)).heap.size = w1.heap.size + 3 := by simp
  simp only [World.size_alloc] at bL bE bB
  obtain ⟨W0, hW0⟩ : ∃ W0, ((w1.alloc (.cells #[.slice (some ⟨w.heap.size, 0, none⟩) 0 (xs.length / 4)] 27)).alloc (.cells #[.int .i64 0] 41)).alloc (.cells #[.slice a xs.length cap] 37) = W0 := ⟨_, rfl⟩
  rw [hW0] at bL bE bB hrow0 hB0 hsz ⊢
  clear hW0 hown hgr hb1
  refine wpIn_rangeFunc_ownH rfl (by omega) (gf := 69) (lb := #[.pointer (some ⟨w1.heap.size + 1 + 1, 0, none⟩)]) rfl trivial (enters_of Tryd.func69 (by kernel_rfl) rfl)
    (quads_stops (n - 1) (by omega) (w1.heap.size + 1 + 1) w.heap.size _ xs (by omega) W0 w hsl (Nat.le_refl _) (by omega) hB0 bB) Kp.trans (Kp.put (by omega)) (Below.refl _ _) (fun _ => rfl)
    (fun pre W => ((∃ v, Boxed W w1.heap.size 27 v ∧ W.ownsRow w.heap.size 25 1 v pre.length (u32s (pre.map (wd xs))) ∧ True) ∧ (Boxed W (w1.heap.size + 1) 41 (.int .i64 0) ∧ Boxed W (w1.heap.size + 1 + 1) 37 (.slice a xs.length cap))) ∧ ((∀ k ∈ pre, cnt xs.length k = 4) ∧ Below w.heap.size w W))
    (fun c pre W => (Boxed W w1.heap.size 27 (.slice none 0 0) ∧ Boxed W (w1.heap.size + 1) 41 (.int .i64 10)) ∧ ((c = .exit 0 ∧ ∃ ini k, pre = ini ++ [k] ∧ cnt xs.length k ≠ 4) ∧ Below w.heap.size w W))
    (OwnFrom.and (OwnFrom.and (Own.from (holdsRow_own w.heap.size w1.heap.size 27 25 1 (fun (pre : List Nat) => pre.length) (fun (pre : List Nat) => u32s (pre.map (wd xs))) (fun _ _ => True)) _) (OwnFrom.and (Own.from (boxed_own _ _ _) _) (Own.from (boxed_own _ _ _) _))) (OwnFrom.and (ownFrom_pure _ _) (ownFrom_below (Nat.le_refl _) (by omega))))
    (fun c => OwnFrom.and (OwnFrom.and (Own.from (boxed_own _ _ _) _) (Own.from (boxed_own _ _ _) _)) (OwnFrom.and (ownFrom_pure _ _) (ownFrom_below (Nat.le_refl _) (by omega))))
    ⟨⟨⟨_, bL, hrow0, trivial⟩, bE, bB⟩, by simp, hB0⟩
    (fun x a' W => ∃ Bx, w1.heap.size + 2 < Bx ∧ W.heap[Bx]? = some (.cells #[.int .u8 ((qb xs x 0 : Nat) : Int), .int .u8 ((qb xs x 1 : Nat) : Int), .int .u8 ((qb xs x 2 : Nat) : Int), .int .u8 ((qb xs x 3 : Nat) : Int)] 96 (0, 0)) ∧ a' = { tmps := #[.slice a xs.length cap, undef, .slice none 0 0, .int .i64 0, .pointer (some ⟨w1.heap.size, 0, none⟩), .pointer (some ⟨w1.heap.size + 1, 0, none⟩), .int .i64 ((cnt xs.length x : Nat) : Int), .pointer (some ⟨Bx, 0, none⟩), .slice a xs.length cap, .int .i64 (xs.length : Int), .int .i64 ((xs.length : Int) / 4), .slice (some ⟨w.heap.size, 0, none⟩) 0 (xs.length / 4), .slice a xs.length cap, .func (.func 69) #[] #[.pointer (some ⟨w1.heap.size + 1 + 1, 0, none⟩)], .int .i64 ((cnt xs.length x : Nat) : Int), .agg #[.int .u8 ((qb xs x 0 : Nat) : Int), .int .u8 ((qb xs x 1 : Nat) : Int), .int .u8 ((qb xs x 2 : Nat) : Int), .int .u8 ((qb xs x 3 : Nat) : Int)], undef, undef, undef, undef, undef, undef, undef, undef, undef, undef], defers := [] })
    (fun x a' _ X Y row hs hg hr => by obtain ⟨Bx, h1, h2, h3⟩ := hs; exact ⟨Bx, h1, rowHeld_own (β := Unit) Bx 96 _ () X Y row h2 hg (fun r e => (hr r e).2), h3⟩)
    ?assign ?body ?done ?stop
  case assign =>
    rintro l pre x W K ⟨⟨⟨v, hv, hrow, -⟩, hE, hBb⟩, hall, hB⟩ hK
    dsimp only [encs]
    gi_wp2
    have hsW := hB.size
    exact hK _ _ ((KeepsOthers.alloc _ _).from _) (Kp.grown (World.grownBy_alloc W _ none) (by omega) (fun k e => by cases e)) ⟨⟨⟨v, hv.alloc _, hrow.alloc _, trivial⟩, hE.alloc _, hBb.alloc _⟩, hall, hB.alloc hsW _⟩ ⟨W.heap.size, by have := hBb.lt; omega, World.alloc_heap_new W _, rfl⟩
  case body =>
    rintro l pre x a' W hl ⟨rr, hr⟩ ⟨⟨⟨v, hv, hrow, -⟩, hE, hBb⟩, hall, hB⟩ ⟨Bx, hBx, hQ, rfl⟩ hlt
    by_cases h4 : cnt xs.length x = 4
    · have hn4 : (((cnt xs.length x : Nat) : Int) == 4) = true := by simp; omega
      have H4 := Lib.hid h4
      clear h4
      have hBlt : w1.heap.size < W.heap.size := hv.lt
      have hBxlt : Bx < W.heap.size := (Array.getElem?_eq_some_iff.1 hQ).1
      have hsW := hB.size
      have cL := hv.cell
      have fL := hv.frozen
      have c0 : W.cell? ⟨Bx, 0, none⟩ = some (.int .u8 ((qb xs x 0 : Nat) : Int)) := by simp [World.cell?, hQ]
      have c1 : W.cell? ⟨Bx, 1, none⟩ = some (.int .u8 ((qb xs x 1 : Nat) : Int)) := by simp [World.cell?, hQ]
      have c2 : W.cell? ⟨Bx, 2, none⟩ = some (.int .u8 ((qb xs x 2 : Nat) : Int)) := by simp [World.cell?, hQ]
      have c3 : W.cell? ⟨Bx, 3, none⟩ = some (.int .u8 ((qb xs x 3 : Nat) : Int)) := by simp [World.cell?, hQ]
      have hmx : Tryd.prog.follows .mixedOrders = true := by kernel_rfl
      have hj0 : Calls Tryd.prog 46 #[.agg #[.int .u8 ((qb xs x 0 : Nat) : Int), .int .u8 ((qb xs x 1 : Nat) : Int), .int .u8 ((qb xs x 2 : Nat) : Int), .int .u8 ((qb xs x 3 : Nat) : Int)]] W.drew fun e w' => e = .returned (.int .u32 ((wd xs x : Nat) : Int)) ∧ w' = (W.alloc (.cells #[.int .u8 ((qb xs x 0 : Nat) : Int), .int .u8 ((qb xs x 1 : Nat) : Int), .int .u8 ((qb xs x 2 : Nat) : Int), .int .u8 ((qb xs x 3 : Nat) : Int)] 96)).drew := jn_in xs hb x W.drew
      have hj := Lib.hid (CallsIn.inRound l (callsIn_wide (n := n - 1 - 1 - 1).2 hj0))
      clear hj0
      clear hQ
      -- the world in which the new word is appended
      have hrowQ : ((W.alloc (.cells #[.int .u8 ((qb xs x 0 : Nat) : Int), .int .u8 ((qb xs x 1 : Nat) : Int), .int .u8 ((qb xs x 2 : Nat) : Int), .int .u8 ((qb xs x 3 : Nat) : Int)] 96)).drew).ownsRow w.heap.size 25 1 v pre.length (u32s (pre.map (wd xs))) := (hrow.alloc _).drew
      have hvQ : Boxed ((W.alloc (.cells #[.int .u8 ((qb xs x 0 : Nat) : Int), .int .u8 ((qb xs x 1 : Nat) : Int), .int .u8 ((qb xs x 2 : Nat) : Int), .int .u8 ((qb xs x 3 : Nat) : Int)] 96)).drew) w1.heap.size 27 v := hv.alloc _
      obtain ⟨v', w2, hrun, hown', hgrow, -⟩ := run_append_own (P := Tryd.prog) (w := ((W.alloc (.cells #[.int .u8 ((qb xs x 0 : Nat) : Int), .int .u8 ((qb xs x 1 : Nat) : Int), .int .u8 ((qb xs x 2 : Nat) : Int), .int .u8 ((qb xs x 3 : Nat) : Int)] 96)).alloc (.cells #[.int .u32 ((wd xs x : Nat) : Int)] 25)).drew) w.heap.size 27 27 25 i0 (.int .u32 0) 1 4 Tryd.underlying27 hi hz0 hz1 hz2 rfl (by decide) v pre.length (u32s (pre.map (wd xs))) ((hrow.alloc _).alloc _).drew ⟨W.heap.size + 1, 0, none⟩ 1 1 [.int .u32 ((wd xs x : Nat) : Int)] rfl
        (by intro j u hj; have hj0 : j = 0 := (by cases j with | zero => rfl | succ j => simp at hj); subst hj0; simp at hj; subst hj; simp [Addr.add]) (by simp [Value.oneCell']) (by unfold maxLen; omega) (by omega) (by simp; omega)
      obtain ⟨g', cap', rfl⟩ := ownsRow_succ hown'
      have hrun' : (appO #[27, 27] 27 #[v, .slice (some ⟨W.heap.size + 1, 0, none⟩) 1 1]).run Tryd.prog ((W.alloc (.cells #[.int .u8 ((qb xs x 0 : Nat) : Int), .int .u8 ((qb xs x 1 : Nat) : Int), .int .u8 ((qb xs x 2 : Nat) : Int), .int .u8 ((qb xs x 3 : Nat) : Int)] 96)).alloc (.cells #[.int .u32 ((wd xs x : Nat) : Int)] 25)).drew = .ok (.slice (some ⟨g', 0, none⟩) (pre.length + 1) cap') w2 := hrun
      clear hrun
      have hkeep : ∀ (B : Nat) (t : TypeId) (u : Value), t ≠ 25 → B ≠ w1.heap.size → Boxed W B t u → Boxed (w2.setCell ⟨w1.heap.size, 0, none⟩ (.slice (some ⟨g', 0, none⟩) (pre.length + 1) cap')) B t u := fun B t u ht hne h =>
        Boxed.other (Boxed.kept (show Boxed (((W.alloc (.cells #[.int .u8 ((qb xs x 0 : Nat) : Int), .int .u8 ((qb xs x 1 : Nat) : Int), .int .u8 ((qb xs x 2 : Nat) : Int), .int .u8 ((qb xs x 3 : Nat) : Int)] 96)).alloc (.cells #[.int .u32 ((wd xs x : Nat) : Int)] 25)).drew) B t u from (h.alloc _).alloc _) hgrow (h.not_row ht hrow)) hne _
      obtain ⟨hv1, hv2, hr2, hk2, hb2⟩ := hvQ.appended (by decide) hrowQ (by simp; omega) hw1 hown' hgrow
      have hc1 := hv1.cell
      have hf1 := hv1.frozen
      have hcl : ∀ o, (W.alloc o).cell? ⟨w1.heap.size, 0, none⟩ = some v := fun o => (hv.alloc o).cell
      have hcl2 : ∀ o o', ((W.alloc o).alloc o').cell? ⟨w1.heap.size, 0, none⟩ = some v := fun o o' => ((hv.alloc o).alloc o').cell
      gi_wp2
      gi_region_with_o (refine ⟨trivial, fun _ => (by omega), ?_⟩; gi_at_call 46; refine hj.out.mono ?_; rintro e w' ⟨rfl, rfl⟩)
      all_goals gi_wp2
      all_goals exact ⟨(((KeepsOthers.alloc W _).trans (KeepsOthers.drew _)).trans hk2).from _, ⟨(((Below.refl w.heap.size W).alloc hsW _).drew).trans hb2, fun u hu => hkeep _ _ u (by decide) (by omega) hu⟩, ⟨⟨_, hv2, by simpa [u32s] using hr2, trivial⟩, hkeep _ _ _ (by decide) (by omega) hE, hkeep _ _ _ (by decide) (by omega) hBb⟩, fun k hk => (List.mem_append.1 hk).elim (hall k) (fun e => by simp at e; subst e; exact H4.out), hB.trans ((((Below.refl w.heap.size W).alloc hsW _).drew).trans hb2)⟩
    · have hn4 : (((cnt xs.length x : Nat) : Int) == 4) = false := by simp; omega
      have cL := hv.cell
      have fL := hv.frozen
      have cE := hE.cell
      have fE := hE.frozen
      gi_wp2
      exact ⟨((KeepsOthers.setCell _ _ _).trans (KeepsOthers.setCell _ _ _)).from _, ⟨(hv.set _).other (by omega) _, (hE.other (by omega) _).set _⟩, ⟨rfl, pre, x, rfl, h4⟩, (hB.setCell (p := ⟨w1.heap.size, 0, none⟩) (by simpa using hw1) _).setCell (p := ⟨w1.heap.size + 1, 0, none⟩) (by simp; omega) _⟩
  case done =>
    rintro D ys W hD rfl ⟨⟨⟨v, hv, hrow, -⟩, hE, hBb⟩, hall, hB⟩ hK
    have cL := hv.cell
    have cE := hE.cell
    gi_wp2
    gi_region
    gi_wp2
    rw [Exit.noGoto_ret]
    have hKd : W.drew.heap[D]? = some (.deferred (some [])) := hK
    refine ⟨by simp, .inl ⟨_, _, rfl, run_takeDeferred hKd, ?_⟩⟩
    have hb' : Below w.heap.size w ((W.drew).putObj D (.deferred none)) := hB.drew.trans (belowK_b (w := w) (Nat.le_refl _) W.drew D _ _ (by omega) hKd rfl rfl)
    have hlen4 : xs.length % 4 = 0 ∧ (xs.length + 3) / 4 = xs.length / 4 := by
      by_cases h0 : xs.length % 4 = 0
      · exact ⟨h0, by omega⟩
      · exfalso
        have := hall (xs.length / 4) (by simp; omega)
        unfold cnt at this
        omega
    have hrow' := ownsRow_putObj hrow.drew (.deferred none) hKd rfl
    rw [List.length_range, hlen4.2] at hrow'
    refine ⟨.tuple #[v, .int .i64 0], ?_, hb', .inl ⟨hlen4.1, v, rfl, hrow'⟩⟩
    simp [results, go_sem]
  case stop =>
    rintro D c pre W hD ⟨m, hm, rfl⟩ ⟨⟨hv, hE⟩, ⟨rfl, ini, k, e1, e2⟩, hB⟩ hK
    have cL := hv.cell
    have cE := hE.cell
    gi_wp2
    gi_region
    gi_wp2
    rw [Exit.noGoto_ret]
    have hKd : W.drew.heap[D]? = some (.deferred (some [])) := hK
    refine ⟨by simp, .inl ⟨_, _, rfl, run_takeDeferred hKd, ?_⟩⟩
    have hb' : Below w.heap.size w ((W.drew).putObj D (.deferred none)) := hB.drew.trans (belowK_b (w := w) (Nat.le_refl _) W.drew D _ _ (by omega) hKd rfl rfl)
    have hlen4 : xs.length % 4 ≠ 0 := by
      intro h0
      have hkm : k ∈ List.range m := by rw [e1]; simp
      simp at hkm
      apply e2
      unfold cnt
      omega
    refine ⟨.tuple #[.slice none 0 0, .int .i64 10], ?_, hb', .inr ⟨hlen4, rfl⟩⟩
    simp [results, go_sem]

/-- Words of any bytes. -/
theorem words_any (v : Value) (xs : List Nat) (w : World) (hx : Slc .u8 w v xs) (hb : ∀ i k, qb xs k i < 256) (hlen : xs.length ≤ 10000) :
    Calls Tryd.prog 22 #[v] w (WordsR xs w) := (callsIn_wide (n := 4)).1 (words_in 4 (Nat.le_refl _) v xs w hx hb hlen)
#print axioms words_any
end Go.Proofs.YtjoapeeljigjcaaDoor.Words
