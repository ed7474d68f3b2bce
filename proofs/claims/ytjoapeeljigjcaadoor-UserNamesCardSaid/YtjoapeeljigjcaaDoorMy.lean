/-
  may: whether some bytes may be read, or written.
-/
import Derived.Test.YtjoapeeljigjcaaDoorSa
import Derived.Test.YtjoapeeljigjcaaDoorRo
namespace Go.Proofs.YtjoapeeljigjcaaDoor.My
open Go Go.RowKit Go.Shelf Kit Bk
open Fm hiding Mem made_any len_any
open Fo Fr Fw Fx
open Tm hiding Mem
open Ts Tc Ti Sp Pz Ro
set_option linter.unusedVariables false
attribute [local go_sem] Oper.semAt_some

/-- A page may be read, or written. -/
def okW (x : Option En) (wr : Bool) : Bool := match x with
  | some e => !wr || e.w
  | none => false
/-- All pages of m bytes from an address on may. -/
def mayB (T : Nat → Option En) (a m : Nat) (wr : Bool) : Bool := (List.range (cn a m)).all fun i => okW (T (a / 64 + i)) wr
theorem mayB_iff {T : Nat → Option En} {a m : Nat} {wr : Bool} : mayB T a m wr = true ↔ ∀ i, i < cn a m → okW (T (a / 64 + i)) wr = true := by
  unfold mayB
  simp

theorem get_at (w : World) (t : Nat) (T : Nat → Option En) (hT : Tm.Mem w t T) (k : Nat) :
    Calls Tryd.prog 43 #[.pointer (some ⟨t, 0, none⟩), .int .i64 (k : Int)] w fun e w' => e = .returned (.tuple #[ev ((T k).getD z0), .bool (T k).isSome]) ∧ Below w.heap.size w w' := by
  by_cases hk : k < 64
  · exact get_in w t T hT k hk
  · have hg := get_any w t T hT (k : Int)
    rw [atI_out (by omega)] at hg
    rw [hT.2 k (by omega)]
    exact hg
set_option maxRecDepth 100000 in
set_option maxHeartbeats 2000000 in
theorem may_in (n : Nat) (hn : 4 ≤ n) (w : World) (q p t : Nat) (T : Nat → Option En) (h : Sp w q p t) (hT : Tm.Mem w t T) (a m : Nat) (N : Int) (wr : Bool)
    (hN : N = (m : Int) ∨ (N ≤ 0 ∧ m = 0)) (hm : m < 9223372036854775808) (ha : a < 4294967296) :
    CallsIn Fence.wide n Tryd.prog 37 #[.pointer (some ⟨q, 0, none⟩), .int .u32 (a : Int), .int .i64 N, .bool wr] w fun e w' => e = .returned (.bool (mayB T a m wr && decide (0 ≤ N))) ∧ Below w.heap.size w w' := by
  have HM : Hid (∀ W, Below w.heap.size w W → CallsIn Fence.wide (n - 1) Tryd.prog 31 #[.pointer (some ⟨q, 0, none⟩)] W fun e w' => e = .returned (.bool true) ∧ W = w') := Lib.hid fun W hb => (callsIn_wide (n := n - 1)).2 (made_any W q p t (h.below hb))
  refine callsIn_of_wp_marks Tryd.func37 rfl trivial ?_ rfl
  simp only [Tryd.ntmps37, List.size_toArray, List.length_cons, List.length_nil, Nat.reduceAdd, Nat.reduceSub, Array.replicate_succ, Array.replicate_zero, List.push_toArray, List.append_toArray, List.nil_append, List.cons_append]
  have hb0 := ((Below.refl w.heap.size w).alloc (Nat.le_refl _) (.cells #[.pointer (some ⟨q, 0, none⟩)] 22)).alloc (by simp) (.cells #[.bool wr] 4)
  gi_wp2
  refine wpIn_wide.2 (wp_scope_straight ((wpIn_wide (n := n)).1 ?_))
  gi_wp2_with (first | (refine ⟨trivial, fun _ => (by omega), ?_⟩; gi_at_call 31; refine (HM.out _ hb0).mono ?_; rintro e w' ⟨rfl, rfl⟩) | (refine ⟨trivial, fun _ => (by omega), ?_⟩; gi_at_call 39; refine (pieces_in (n - 1) _ _ _).mono ?_; rintro e w' ⟨rfl, rfl⟩))
  refine wpIn_label ?_
  gi_wp2_with (first | (refine ⟨trivial, fun _ => (by omega), ?_⟩; gi_at_call 31; refine (HM.out _ hb0).mono ?_; rintro e w' ⟨rfl, rfl⟩) | (refine ⟨trivial, fun _ => (by omega), ?_⟩; gi_at_call 39; refine (pieces_in (n - 1) _ _ _).mono ?_; rintro e w' ⟨rfl, rfl⟩))
  have hb5 := (((((Below.refl w.heap.size w).alloc (Nat.le_refl _) (.cells #[.pointer (some ⟨q, 0, none⟩)] 22)).alloc (by simp) (.cells #[.bool wr] 4)).alloc (by simp; omega) (.cells #[.int .i64 0] 3)).alloc (by simp; omega) (.cells #[.int .u32 (a : Int)] 25)).alloc (by simp; omega) (.cells #[.int .i64 N] 3)
  have b1 : Blk _ w.heap.size #[.pointer (some ⟨q, 0, none⟩)] 22 := ((((Boxed.new w 22 (.pointer (some ⟨q, 0, none⟩))).alloc (.cells #[.bool wr] 4)).alloc (.cells #[.int .i64 0] 3)).alloc (.cells #[.int .u32 (a : Int)] 25)).alloc (.cells #[.int .i64 N] 3)
  have b2 : Blk _ _ #[.bool wr] 4 := (((Boxed.new (w.alloc (.cells #[.pointer (some ⟨q, 0, none⟩)] 22)) 4 (.bool wr)).alloc (.cells #[.int .i64 0] 3)).alloc (.cells #[.int .u32 (a : Int)] 25)).alloc (.cells #[.int .i64 N] 3)
  have b3 : Blk _ _ #[.int .i64 0] 3 := ((Boxed.new ((w.alloc (.cells #[.pointer (some ⟨q, 0, none⟩)] 22)).alloc (.cells #[.bool wr] 4)) 3 (.int .i64 0)).alloc (.cells #[.int .u32 (a : Int)] 25)).alloc (.cells #[.int .i64 N] 3)
  have b4 : Blk _ _ #[.int .u32 (a : Int)] 25 := (Boxed.new (((w.alloc (.cells #[.pointer (some ⟨q, 0, none⟩)] 22)).alloc (.cells #[.bool wr] 4)).alloc (.cells #[.int .i64 0] 3)) 25 (.int .u32 (a : Int))).alloc (.cells #[.int .i64 N] 3)
  have b5 : Blk _ _ #[.int .i64 N] 3 := Boxed.new ((((w.alloc (.cells #[.pointer (some ⟨q, 0, none⟩)] 22)).alloc (.cells #[.bool wr] 4)).alloc (.cells #[.int .i64 0] 3)).alloc (.cells #[.int .u32 (a : Int)] 25)) 3 (.int .i64 N)
  simp only [World.size_alloc] at b2 b3 b4 b5
  have hs5 : (((((w.alloc (.cells #[.pointer (some ⟨q, 0, none⟩)] 22)).alloc (.cells #[.bool wr] 4)).alloc (.cells #[.int .i64 0] 3)).alloc (.cells #[.int .u32 (a : Int)] 25)).alloc (.cells #[.int .i64 N] 3)).heap.size = w.heap.size + 5 := by simp
  generalize ((((w.alloc (.cells #[.pointer (some ⟨q, 0, none⟩)] 22)).alloc (.cells #[.bool wr] 4)).alloc (.cells #[.int .i64 0] 3)).alloc (.cells #[.int .u32 (a : Int)] 25)).alloc (.cells #[.int .i64 N] 3) = W0 at b1 b2 b3 b4 b5 hb5 hs5 ⊢
  refine pieces_loop (by omega) (w.heap.size + 1 + 1 + 1) (w.heap.size + 1 + 1 + 1 + 1) a m N rfl hN hm ha b4 b5
    (fun i W => Blk W w.heap.size #[.pointer (some ⟨q, 0, none⟩)] 22 ∧ Blk W (w.heap.size + 1) #[.bool wr] 4 ∧ Blk W (w.heap.size + 1 + 1) #[.int .i64 ((min m (fr a i) : Nat) : Int)] 3 ∧ Below w.heap.size w W ∧ ∀ j, j < i → okW (T (a / 64 + j)) wr = true)
    (fun c i W => c = .exit 0 ∧ Blk W (w.heap.size + 1 + 1) #[.int .i64 ((min m (fr a i) : Nat) : Int)] 3 ∧ Below w.heap.size w W ∧ okW (T (a / 64 + i)) wr = false)
    ?hI ?hIx ⟨b1, b2, by rw [fr_zero, Nat.min_zero]; exact b3, hb5, fun j hj => absurd hj (Nat.not_lt_zero _)⟩
    (fun G i => { tmps := #[.pointer (some ⟨q, 0, none⟩), .int .u32 (a : Int), .int .i64 N, .bool wr, .pointer (some ⟨w.heap.size, 0, none⟩), undef, undef, .pointer (some ⟨w.heap.size + 1, 0, none⟩), .bool false, .pointer (some ⟨w.heap.size + 1 + 1, 0, none⟩), .pointer (some ⟨G, 0, none⟩), undef, undef, .pointer (some ⟨q, 0, none⟩), .bool true, .bool false, .int .u32 (a : Int), .int .i64 N, .func (.func 64) #[] #[.pointer (some ⟨w.heap.size + 1 + 1 + 1, 0, none⟩), .pointer (some ⟨w.heap.size + 1 + 1 + 1 + 1, 0, none⟩)], .agg (pcs a m i), undef, undef, undef, undef, undef, undef, undef, undef, undef, undef, undef, undef, undef, undef, undef, undef, undef, undef, undef, undef, undef, undef, undef, undef], defers := [] })
    ?assign ?body ?done ?stop
  case hI =>
    rintro i X Y hk ⟨h1, h2, h3, h4, h5⟩
    exact ⟨Pz.Blk.kc h1 hk (by decide), Pz.Blk.kc h2 hk (by decide), Pz.Blk.kc h3 hk (by decide), below_kc h4 hk (Nat.le_refl _) (by omega), h5⟩
  case hIx =>
    rintro c i X Y hk ⟨h1, h2, h3, h4⟩
    exact ⟨h1, Pz.Blk.kc h2 hk (by decide), below_kc h3 hk (Nat.le_refl _) (by omega), h4⟩
  case assign =>
    intro l i W K hK
    dsimp only [List.setIfInBounds_toArray, List.set_cons_zero, List.set_cons_succ]
    gi_wp2
    exact hK
  case body =>
    rintro l i G W hl ⟨hq0, hw0, hr0, hB, hall⟩ hlt hG0 hG
    have HK : Hid (∀ W', Below W.heap.size W W' → W'.cell? ⟨w.heap.size, 0, none⟩ = some (.pointer (some ⟨q, 0, none⟩)) ∧ W'.cell? ⟨q, 1, none⟩ = some (.pointer (some ⟨t, 0, none⟩)) ∧ W'.cell? ⟨G, 0, none⟩ = some (.int .i64 ((a / 64 + i : Nat) : Int))) :=
      Lib.hid fun W' hb => ⟨(Blk.below hq0 hb).cell 0, (Blk.below (Sp.below h hB) hb).cell 1, (Blk.below hG hb).cell 0⟩
    have HG : Hid (∀ W', Below W.heap.size W W' → Calls Tryd.prog 43 #[.pointer (some ⟨t, 0, none⟩), .int .i64 ((a / 64 + i : Nat) : Int)] W' fun e w' => e = .returned (.tuple #[ev ((T (a / 64 + i)).getD z0), .bool (T (a / 64 + i)).isSome]) ∧ Below W'.heap.size W' w') :=
      Lib.hid fun W' hb => get_at W' t T ((hT.below hB).below hb) (a / 64 + i)
    have B0 : Hid (Below W.heap.size W W.drew) := Lib.hid (Below.refl _ _).drew
    obtain ⟨Pg, hPg⟩ : ∃ Pg : Int, ((a / 64 + i : Nat) : Int) = Pg := ⟨_, rfl⟩
    rw [hPg] at HK HG
    have hok : okW (T (a / 64 + i)) wr = ((T (a / 64 + i)).isSome && (!wr || ((T (a / 64 + i)).getD z0).w)) := by
      cases T (a / 64 + i) <;> rfl
    obtain ⟨b, hb⟩ : ∃ b, (T (a / 64 + i)).isSome = b := ⟨_, rfl⟩
    obtain ⟨⟨xf, xw, xs, xc, xd⟩, he⟩ : ∃ e, (T (a / 64 + i)).getD z0 = e := ⟨_, rfl⟩
    rw [hb, he] at hok HG
    have HOK := Lib.hid hok
    replace HG : Hid (∀ W', Below W.heap.size W W' → Calls Tryd.prog 43 #[.pointer (some ⟨t, 0, none⟩), .int .i64 Pg] W' fun e w' => e = .returned (.tuple #[.agg #[.int .i64 xf, .bool xw, .bool xs, .bool xc, .bool xd], .bool b]) ∧ Below W'.heap.size W' w') := HG
    clear hb he hok
    gi_wp2
    refine round_held (fun W' => W'.cell? ⟨w.heap.size, 0, none⟩ = some (.pointer (some ⟨q, 0, none⟩)) ∧ W'.cell? ⟨q, 1, none⟩ = some (.pointer (some ⟨t, 0, none⟩)) ∧ W'.cell? ⟨G, 0, none⟩ = some (.int .i64 Pg)) (by kernel_rfl) (by kernel_rfl) ?_ (HK.out _ B0.out) (fun hHeld => ?_)
    · intro a' w' hh
      exact hh
    · refine wpAnyH_take (i := 0) (v := ?_) rfl (by kernel_rfl) (by kernel_rfl) (by kernel_rfl) (fun _ _ _ h => h) (Or.inl ⟨by rfl, ?_⟩) (by assumption) ?_
      rotate_left 1
      · intro wz hSw
        try dsimp only at hSw
        go_simp <;> with_reducible rfl
      try simp only [Act.put, List.setIfInBounds_toArray, List.set_cons_zero, List.set_cons_succ, List.getElem_toArray, List.getElem_cons_zero]
      refine wpAnyH_take (i := 1) (v := ?_) rfl (by kernel_rfl) (by kernel_rfl) (by kernel_rfl) (fun _ _ _ h => h) (Or.inl ⟨by rfl, ?_⟩) (by assumption) ?_
      rotate_left 1
      · intro wz hSw
        try dsimp only at hSw
        go_simp <;> with_reducible rfl
      try simp only [Act.put, List.setIfInBounds_toArray, List.set_cons_zero, List.set_cons_succ, List.getElem_toArray, List.getElem_cons_zero, List.getElem_cons_succ]
      refine wpAnyH_take (i := 2) (v := ?_) rfl (by kernel_rfl) (by kernel_rfl) (by kernel_rfl) (fun _ _ _ h => h) (Or.inl ⟨by rfl, ?_⟩) (by assumption) ?_
      rotate_left 1
      · intro wz hSw
        try dsimp only at hSw
        go_simp <;> with_reducible rfl
      try simp only [Act.put, List.setIfInBounds_toArray, List.set_cons_zero, List.set_cons_succ, List.getElem_toArray, List.getElem_cons_zero, List.getElem_cons_succ]
      refine wpAnyH_take (i := 3) (v := ?_) rfl (by kernel_rfl) (by kernel_rfl) (by kernel_rfl) (fun _ _ _ h => h) (Or.inl ⟨by rfl, ?_⟩) (by assumption) ?_
      rotate_left 1
      · intro wz hSw
        try dsimp only at hSw
        go_simp <;> with_reducible rfl
      try simp only [Act.put, List.setIfInBounds_toArray, List.set_cons_zero, List.set_cons_succ, List.getElem_toArray, List.getElem_cons_zero, List.getElem_cons_succ]
      refine wpAnyH_take (i := 4) (v := ?_) rfl (by kernel_rfl) (by kernel_rfl) (by kernel_rfl) (fun _ _ _ h => h) (Or.inl ⟨by rfl, ?_⟩) (by assumption) ?_
      rotate_left 1
      · intro wz hSw
        try dsimp only at hSw
        go_simp <;> with_reducible rfl
      try simp only [Act.put, List.setIfInBounds_toArray, List.set_cons_zero, List.set_cons_succ, List.getElem_toArray, List.getElem_cons_zero, List.getElem_cons_succ]
      refine wpAnyH_take (i := 5) (v := ?_) rfl (by kernel_rfl) (by kernel_rfl) (by kernel_rfl) (fun _ _ _ h => h) (Or.inl ⟨by rfl, ?_⟩) (by assumption) ?_
      rotate_left 1
      · intro wz hSw
        try dsimp only at hSw
        go_simp <;> with_reducible rfl
      try simp only [Act.put, List.setIfInBounds_toArray, List.set_cons_zero, List.set_cons_succ, List.getElem_toArray, List.getElem_cons_zero, List.getElem_cons_succ]
      refine wpAnyH_ready (rs := [6, 10]) (by kernel_rfl) (by simp) ?_
      refine AllReadyH.cons rfl (fun K hK => ?_) ?_
      · go_simp
        go_wp2_with (first | (go_at_call 43; (with_reducible refine (HG.out _ B0.out).mono ?_); rintro e w5 ⟨rfl, hb5⟩; have B5 := Lib.hid (B0.out.trans (hb5.mono B0.out.size)); clear hb5))
        refine hK.out _ _ ?_ (fun hHeld => ?_)
        · try dsimp only
          exact HK.out _ (by repeat' (first | exact B5.out | exact B0.out | refine Below.drew ?_ | refine Below.alloc ?_ B5.out.size _ | refine Below.alloc ?_ (by simp) _ | exact Below.refl _ _ | refine Below.setCell ?_ (by simp) _))
        clear hK K
        refine wpAnyH_take (i := 7) (v := ?_) rfl (by kernel_rfl) (by kernel_rfl) (by kernel_rfl) (fun _ _ _ h => h) (Or.inl ⟨by rfl, ?_⟩) (by assumption) ?_
        rotate_left 1
        · intro wz hSw
          try dsimp only at hSw
          go_simp <;> with_reducible rfl
        try simp only [Act.put, List.setIfInBounds_toArray, List.set_cons_zero, List.set_cons_succ, List.getElem_toArray, List.getElem_cons_zero, List.getElem_cons_succ]
        refine wpAnyH_take (i := 8) (v := ?_) rfl (by kernel_rfl) (by kernel_rfl) (by kernel_rfl) (fun _ _ _ h => h) (Or.inl ⟨by rfl, ?_⟩) (by assumption) ?_
        rotate_left 1
        · intro wz hSw
          try dsimp only at hSw
          go_simp <;> with_reducible rfl
        try simp only [Act.put, List.setIfInBounds_toArray, List.set_cons_zero, List.set_cons_succ, List.getElem_toArray, List.getElem_cons_zero, List.getElem_cons_succ]
        refine wpAnyH_take (i := 9) (v := ?_) rfl (by kernel_rfl) (by kernel_rfl) (by kernel_rfl) (fun _ _ _ h => h) (Or.inl ⟨by rfl, ?_⟩) (by assumption) ?_
        rotate_left 1
        · intro wz hSw
          try dsimp only at hSw
          go_simp <;> with_reducible rfl
        try simp only [Act.put, List.setIfInBounds_toArray, List.set_cons_zero, List.set_cons_succ, List.getElem_toArray, List.getElem_cons_zero, List.getElem_cons_succ]
        refine wpAnyH_ready (rs := [10]) (by kernel_rfl) (by simp) ?_
        refine AllReadyH.cons rfl (fun K hK => ?_) ?_
        · go_simp
          refine hK.out _ _ ?_ (fun hHeld => ?_)
          · try dsimp only
            exact HK.out _ (by repeat' (first | exact B5.out | exact B0.out | refine Below.drew ?_ | refine Below.alloc ?_ B5.out.size _ | refine Below.alloc ?_ (by simp) _ | exact Below.refl _ _ | refine Below.setCell ?_ (by simp) _))
          clear hK K
          refine wpAnyH_ready (rs := [11]) (by kernel_rfl) (by simp) ?_
          refine AllReadyH.cons rfl (fun K hK => ?_) ?_
          · go_simp
            refine hK.out _ _ ?_ (fun hHeld => ?_)
            · try dsimp only
              exact HK.out _ (by repeat' (first | exact B5.out | exact B0.out | refine Below.drew ?_ | refine Below.alloc ?_ B5.out.size _ | refine Below.alloc ?_ (by simp) _ | exact Below.refl _ _ | refine Below.setCell ?_ (by simp) _))
            clear hK K
            refine wpAnyH_take (i := 12) (v := ?_) rfl (by kernel_rfl) (by kernel_rfl) (by kernel_rfl) (fun _ _ _ h => h) (Or.inl ⟨by rfl, ?_⟩) (by assumption) ?_
            rotate_left 1
            · intro wz hSw
              try dsimp only at hSw
              go_simp <;> with_reducible rfl
            try simp only [Act.put, List.setIfInBounds_toArray, List.set_cons_zero, List.set_cons_succ, List.getElem_toArray, List.getElem_cons_zero, List.getElem_cons_succ]
            refine wpAnyH_done (by kernel_rfl) ?_ _
            have BF : Below W.heap.size W (w5.alloc (.cells #[.int .i64 xf, .bool xw, .bool xs, .bool xc, .bool xd] 56)) := B5.out.alloc B5.out.size _
            have hx5 : Blk (w5.alloc (.cells #[.int .i64 xf, .bool xw, .bool xs, .bool xc, .bool xd] 56)) w5.heap.size #[.int .i64 xf, .bool xw, .bool xs, .bool xc, .bool xd] 56 := Blk.new _ _ _
            have qw := (Blk.below hw0 BF).cell 0
            have qr := (Blk.below hr0 BF).cell 0
            have qf := (Blk.below hr0 BF).free 0
            have qp := (Blk.below hG BF).cell 3
            have qx := hx5.cell 1
            replace BF := Lib.hid BF
            clear hx5 HK HG B0 B5 hHeld
            generalize w5.alloc (.cells #[.int .i64 xf, .bool xw, .bool xs, .bool xc, .bool xd] 56) = Wf at *
            cases b
            · gi_wp2
              exact ⟨(keeps_below BF.out).from _, rfl, Blk.below hr0 BF.out, hB.trans (BF.out.mono hB.size), by rw [HOK.out]; rfl⟩
            · cases wr
              · gi_wp2
                exact ⟨((keeps_below BF.out).trans (KeepsOthers.setCell _ _ _)).from _, (kb_below BF.out).trans (kb_set (Blk.below hr0 BF.out) (by decide) (by omega) (by omega) 0 _), ⟨(Blk.below hq0 BF.out).other _ _ _ (by omega), (Blk.below hw0 BF.out).other _ _ _ (by omega), (Blk.below hr0 BF.out).set 0 _, (hB.trans (BF.out.mono hB.size)).setCell (by simp; omega) _, fun j hj => by
                  rcases Nat.lt_succ_iff_lt_or_eq.1 hj with h1 | rfl
                  · exact hall j h1
                  · rw [HOK.out]; rfl⟩⟩
              · cases xw
                · gi_wp2
                  exact ⟨(keeps_below BF.out).from _, rfl, Blk.below hr0 BF.out, hB.trans (BF.out.mono hB.size), by rw [HOK.out]; rfl⟩
                · gi_wp2
                  exact ⟨((keeps_below BF.out).trans (KeepsOthers.setCell _ _ _)).from _, (kb_below BF.out).trans (kb_set (Blk.below hr0 BF.out) (by decide) (by omega) (by omega) 0 _), ⟨(Blk.below hq0 BF.out).other _ _ _ (by omega), (Blk.below hw0 BF.out).other _ _ _ (by omega), (Blk.below hr0 BF.out).set 0 _, (hB.trans (BF.out.mono hB.size)).setCell (by simp; omega) _, fun j hj => by
                    rcases Nat.lt_succ_iff_lt_or_eq.1 hj with h1 | rfl
                    · exact hall j h1
                    · rw [HOK.out]; rfl⟩⟩
          exact AllReadyH.nil
        exact AllReadyH.nil
      refine AllReadyH.cons rfl (fun K hK => ?_) ?_
      · go_simp
        refine hK.out _ _ ?_ (fun hHeld => ?_)
        · try dsimp only
          exact HK.out _ (by repeat' (first | exact B5.out | exact B0.out | refine Below.drew ?_ | refine Below.alloc ?_ B5.out.size _ | refine Below.alloc ?_ (by simp) _ | exact Below.refl _ _ | refine Below.setCell ?_ (by simp) _))
        clear hK K
        refine wpAnyH_ready (rs := [6]) (by kernel_rfl) (by simp) ?_
        refine AllReadyH.cons rfl (fun K hK => ?_) ?_
        · go_simp
          go_wp2_with (first | (go_at_call 43; (with_reducible refine (HG.out _ ((Below.refl _ _).alloc (Nat.le_refl _) _).drew).mono ?_); rintro e w5 ⟨rfl, hb5⟩; have B5 := Lib.hid ((((Below.refl W.heap.size W).alloc (Nat.le_refl _) _).drew).trans (hb5.mono (by simp))); have hz := Blk.below (show Blk (W.alloc (.cells #[.int .i64 0, .bool false, .bool false, .bool false, .bool false] 56)).drew W.heap.size _ _ from Blk.new W _ _) hb5; have z0 := hz.cell 0; have z1 := hz.cell 1; have z2 := hz.cell 2; have z3 := hz.cell 3; have z4 := hz.cell 4; have y0 := hz.free 0; have y1 := hz.free 1; have y2 := hz.free 2; have y3 := hz.free 3; have y4 := hz.free 4; replace hz := Lib.hid hz; clear hb5))
          refine hK.out _ _ ?_ (fun hHeld => ?_)
          · try dsimp only
            exact HK.out _ (by repeat' (first | exact B5.out | exact B0.out | refine Below.drew ?_ | refine Below.alloc ?_ B5.out.size _ | refine Below.alloc ?_ (by simp) _ | exact Below.refl _ _ | refine Below.setCell ?_ (by simp) _))
          clear hK K
          refine wpAnyH_take (i := 7) (v := ?_) rfl (by kernel_rfl) (by kernel_rfl) (by kernel_rfl) (fun _ _ _ h => h) (Or.inl ⟨by rfl, ?_⟩) (by assumption) ?_
          rotate_left 1
          · intro wz hSw
            try dsimp only at hSw
            go_simp <;> with_reducible rfl
          try simp only [Act.put, List.setIfInBounds_toArray, List.set_cons_zero, List.set_cons_succ, List.getElem_toArray, List.getElem_cons_zero, List.getElem_cons_succ]
          refine wpAnyH_take (i := 8) (v := ?_) rfl (by kernel_rfl) (by kernel_rfl) (by kernel_rfl) (fun _ _ _ h => h) (Or.inl ⟨by rfl, ?_⟩) (by assumption) ?_
          rotate_left 1
          · intro wz hSw
            try dsimp only at hSw
            go_simp <;> with_reducible rfl
          try simp only [Act.put, List.setIfInBounds_toArray, List.set_cons_zero, List.set_cons_succ, List.getElem_toArray, List.getElem_cons_zero, List.getElem_cons_succ]
          refine wpAnyH_take (i := 9) (v := ?_) rfl (by kernel_rfl) (by kernel_rfl) (by kernel_rfl) (fun _ _ _ h => h) (Or.inl ⟨by rfl, ?_⟩) (by assumption) ?_
          rotate_left 1
          · intro wz hSw
            try dsimp only at hSw
            go_simp <;> with_reducible rfl
          try simp only [Act.put, List.setIfInBounds_toArray, List.set_cons_zero, List.set_cons_succ, List.getElem_toArray, List.getElem_cons_zero, List.getElem_cons_succ]
          refine wpAnyH_ready (rs := [11]) (by kernel_rfl) (by simp) ?_
          refine AllReadyH.cons rfl (fun K hK => ?_) ?_
          · go_simp
            refine hK.out _ _ ?_ (fun hHeld => ?_)
            · try dsimp only
              exact HK.out _ (by repeat' (first | exact B5.out | exact B0.out | refine Below.drew ?_ | refine Below.alloc ?_ B5.out.size _ | refine Below.alloc ?_ (by simp) _ | exact Below.refl _ _ | refine Below.setCell ?_ (by simp) _))
            clear hK K
            refine wpAnyH_take (i := 12) (v := ?_) rfl (by kernel_rfl) (by kernel_rfl) (by kernel_rfl) (fun _ _ _ h => h) (Or.inl ⟨by rfl, ?_⟩) (by assumption) ?_
            rotate_left 1
            · intro wz hSw
              try dsimp only at hSw
              go_simp <;> with_reducible rfl
            try simp only [Act.put, List.setIfInBounds_toArray, List.set_cons_zero, List.set_cons_succ, List.getElem_toArray, List.getElem_cons_zero, List.getElem_cons_succ]
            refine wpAnyH_done (by kernel_rfl) ?_ _
            have BF : Below W.heap.size W (((((w5.setCell ⟨W.heap.size, 0, none⟩ (.int .i64 xf)).setCell ⟨W.heap.size, 1, none⟩ (.bool xw)).setCell ⟨W.heap.size, 2, none⟩ (.bool xs)).setCell ⟨W.heap.size, 3, none⟩ (.bool xc)).setCell ⟨W.heap.size, 4, none⟩ (.bool xd)) := ((((B5.out.setCell (by simp) _).setCell (by simp) _).setCell (by simp) _).setCell (by simp) _).setCell (by simp) _
            have hx5 : Blk (((((w5.setCell ⟨W.heap.size, 0, none⟩ (.int .i64 xf)).setCell ⟨W.heap.size, 1, none⟩ (.bool xw)).setCell ⟨W.heap.size, 2, none⟩ (.bool xs)).setCell ⟨W.heap.size, 3, none⟩ (.bool xc)).setCell ⟨W.heap.size, 4, none⟩ (.bool xd)) W.heap.size #[.int .i64 xf, .bool xw, .bool xs, .bool xc, .bool xd] 56 := Tc.set5 hz.out _ _ _ _ _
            have qw := (Blk.below hw0 BF).cell 0
            have qr := (Blk.below hr0 BF).cell 0
            have qf := (Blk.below hr0 BF).free 0
            have qp := (Blk.below hG BF).cell 3
            have qx := hx5.cell 1
            replace BF := Lib.hid BF
            clear hx5 HK HG B0 B5 hHeld
            generalize ((((w5.setCell ⟨W.heap.size, 0, none⟩ (.int .i64 xf)).setCell ⟨W.heap.size, 1, none⟩ (.bool xw)).setCell ⟨W.heap.size, 2, none⟩ (.bool xs)).setCell ⟨W.heap.size, 3, none⟩ (.bool xc)).setCell ⟨W.heap.size, 4, none⟩ (.bool xd) = Wf at *
            cases b
            · gi_wp2
              exact ⟨(keeps_below BF.out).from _, rfl, Blk.below hr0 BF.out, hB.trans (BF.out.mono hB.size), by rw [HOK.out]; rfl⟩
            · cases wr
              · gi_wp2
                exact ⟨((keeps_below BF.out).trans (KeepsOthers.setCell _ _ _)).from _, (kb_below BF.out).trans (kb_set (Blk.below hr0 BF.out) (by decide) (by omega) (by omega) 0 _), ⟨(Blk.below hq0 BF.out).other _ _ _ (by omega), (Blk.below hw0 BF.out).other _ _ _ (by omega), (Blk.below hr0 BF.out).set 0 _, (hB.trans (BF.out.mono hB.size)).setCell (by simp; omega) _, fun j hj => by
                  rcases Nat.lt_succ_iff_lt_or_eq.1 hj with h1 | rfl
                  · exact hall j h1
                  · rw [HOK.out]; rfl⟩⟩
              · cases xw
                · gi_wp2
                  exact ⟨(keeps_below BF.out).from _, rfl, Blk.below hr0 BF.out, hB.trans (BF.out.mono hB.size), by rw [HOK.out]; rfl⟩
                · gi_wp2
                  exact ⟨((keeps_below BF.out).trans (KeepsOthers.setCell _ _ _)).from _, (kb_below BF.out).trans (kb_set (Blk.below hr0 BF.out) (by decide) (by omega) (by omega) 0 _), ⟨(Blk.below hq0 BF.out).other _ _ _ (by omega), (Blk.below hw0 BF.out).other _ _ _ (by omega), (Blk.below hr0 BF.out).set 0 _, (hB.trans (BF.out.mono hB.size)).setCell (by simp; omega) _, fun j hj => by
                    rcases Nat.lt_succ_iff_lt_or_eq.1 hj with h1 | rfl
                    · exact hall j h1
                    · rw [HOK.out]; rfl⟩⟩
          exact AllReadyH.nil
        exact AllReadyH.nil
      exact AllReadyH.nil
  case done =>
    rintro D W hD ⟨hq0, hw0, hr0, hB, hall⟩ hK
    rw [to_last] at hr0
    have c0 := hr0.cell 0
    have hd : ((m : Int) == N) = decide (0 ≤ N) := by
      rcases hN with rfl | ⟨h1, rfl⟩
      · rw [decide_eq_true (by omega)]; simp
      · by_cases h0 : N = 0
        · subst h0; rfl
        · rw [decide_eq_false (by omega)]; simp; omega
    have hmy : mayB T a m wr = true := mayB_iff.2 hall
    have HBl := Lib.hid (hB.trans (belowK_b (w := w) (Nat.le_refl _) W D _ (.deferred none) (by omega) hK rfl rfl))
    have HR : Hid ((mayB T a m wr && decide (0 ≤ N)) = ((m : Int) == N)) := Lib.hid (by rw [hmy, hd]; rfl)
    clear hd hmy hall hN hq0 hw0 hr0 hB h hT HM hb0 b1 b2 b3 b4 b5 hb5
    gi_wp2
    rw [Exit.noGoto_ret]
    refine ⟨by simp, .inl ⟨_, _, rfl, run_takeDeferred hK, ?_⟩⟩
    refine ⟨.bool ((m : Int) == N), ?_, by rw [HR.out], HBl.out⟩
    simp [results, go_sem]
  case stop =>
    rintro D c i W hD hi ⟨rfl, hr0, hB, hno⟩ hK
    have hfi := (cn_iff a m i).1 hi
    have hNm : N = (m : Int) := by omega
    rw [show min m (fr a i) = fr a i by omega] at hr0
    have c0 := hr0.cell 0
    have hd : ((fr a i : Int) == N) = false := by simp; omega
    have hmy : mayB T a m wr = false := by
      cases hh : mayB T a m wr with
      | false => rfl
      | true => rw [mayB_iff.1 hh i hi] at hno; cases hno
    have HBl := Lib.hid (hB.trans (belowK_b (w := w) (Nat.le_refl _) W D _ (.deferred none) (by omega) hK rfl rfl))
    have HR : Hid ((mayB T a m wr && decide (0 ≤ N)) = ((fr a i : Int) == N)) := Lib.hid (by rw [hmy, hd]; rfl)
    clear hd hmy hno hN hNm hfi hi hr0 hB h hT HM hb0 b1 b2 b3 b4 b5 hb5
    gi_wp2
    rw [Exit.noGoto_ret]
    refine ⟨by simp, .inl ⟨_, _, rfl, run_takeDeferred hK, ?_⟩⟩
    refine ⟨.bool ((fr a i : Int) == N), ?_, by rw [HR.out], HBl.out⟩
    simp [results, go_sem]
theorem may_any (w : World) (q p t : Nat) (T : Nat → Option En) (h : Sp w q p t) (hT : Tm.Mem w t T) (a m : Nat) (N : Int) (wr : Bool)
    (hN : N = (m : Int) ∨ (N ≤ 0 ∧ m = 0)) (hm : m < 9223372036854775808) (ha : a < 4294967296) :
    Calls Tryd.prog 37 #[.pointer (some ⟨q, 0, none⟩), .int .u32 (a : Int), .int .i64 N, .bool wr] w fun e w' => e = .returned (.bool (mayB T a m wr && decide (0 ≤ N))) ∧ Below w.heap.size w w' :=
  (callsIn_wide (n := 4)).1 (may_in 4 (Nat.le_refl _) w q p t T h hT a m N wr hN hm ha)
theorem may_nil (w : World) (a N : Int) (wr : Bool) :
    Calls Tryd.prog 37 #[.pointer none, .int .u32 a, .int .i64 N, .bool wr] w fun e w' => e = .returned (.bool false) ∧ Below w.heap.size w w' := by
  have hb0 := Lib.hid (((Below.refl w.heap.size w).alloc (Nat.le_refl _) (.cells #[.pointer none] 22)).alloc (by simp) (.cells #[.bool wr] 4))
  have HM := Lib.hid made_nil
  go_enter Tryd.func37, Tryd.ntmps37
  go_wp2
  refine wp_scope_straight ?_
  go_wp2_with (first | (go_at_call 31; (with_reducible refine (HM.out _).mono ?_); rintro e w1 ⟨rfl, rfl⟩))
  rw [Exit.noGoto_ret]
  exact bodyPost_ret (v := .bool false) (by simp [results, Tryd.results37, go_sem]) rfl ⟨rfl, hb0.out⟩
end Go.Proofs.YtjoapeeljigjcaaDoor.My
