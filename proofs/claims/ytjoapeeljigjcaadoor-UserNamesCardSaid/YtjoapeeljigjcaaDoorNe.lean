/-
  needs: how many frames a write needs, the counts kept beside the frames' in a map.
-/
import Derived.Test.YtjoapeeljigjcaaDoorPv
import Derived.Maps.OwnIn
import Derived.Maps.OwnOps
import Derived.Maps.OwnSet
namespace Go.Proofs.YtjoapeeljigjcaaDoor.Ne
open Go Go.RowKit Go.Shelf Kit Bk
open Go.Maps (Keyed)
open Fm hiding Mem made_any len_any
open Fo Fr Fw Fx Fu Fq
open Tm hiding Mem
open Ts Tc Ti Sp Sa Pz Ro To My Pv
set_option linter.unusedVariables false
attribute [local go_sem] Oper.semAt_some

theorem nd_snoc (R : Nat → Nat) (T : Nat → Option En) (a : Nat) : ∀ j i, nd R T a i (j + 1) = nd R T a i j + ndB R (T (a / 64 + (i + j)))
  | 0, i => by simp [nd]
  | j + 1, i => by
    have := nd_snoc R T a j (i + 1)
    rw [show nd R T a i (j + 1 + 1) = ndB R (T (a / 64 + i)) + nd R T a (i + 1) (j + 1) from rfl, this, show nd R T a i (j + 1) = ndB R (T (a / 64 + i)) + nd R T a (i + 1) j from rfl, show i + (j + 1) = i + 1 + j by omega]
    omega
theorem nd_le (R : Nat → Nat) (T : Nat → Option En) (a : Nat) : ∀ j i, nd R T a i j ≤ j
  | 0, i => Nat.le_refl _
  | j + 1, i => by
    have := nd_le R T a j (i + 1)
    rw [show nd R T a i (j + 1) = ndB R (T (a / 64 + i)) + nd R T a (i + 1) j from rfl]
    have : ndB R (T (a / 64 + i)) ≤ 1 := by unfold ndB; split <;> (try split) <;> omega
    omega
theorem map_kc {B k b n : Nat} {X Y : World} {D : DataW Unit} (h : X.ownsMap Tryd.prog k (plainElem Tryd.prog 3) b n D) (hk : Kc B X Y) (hb : b < B) : Y.ownsMap Tryd.prog k (plainElem Tryd.prog 3) b n D := by
  obtain ⟨es, clock, h1, h2⟩ := h
  exact ⟨es, clock, (hk.block b (Array.getElem?_eq_some_iff.1 h1).1 (.inl hb)).trans h1, h2⟩
theorem map_below {k b n : Nat} {X Y : World} {D : DataW Unit} (h : X.ownsMap Tryd.prog k (plainElem Tryd.prog 3) b n D) (hk : Below X.heap.size X Y) : Y.ownsMap Tryd.prog k (plainElem Tryd.prog 3) b n D := by
  obtain ⟨es, clock, h1, h2⟩ := h
  exact ⟨es, clock, (hk.block b (Array.getElem?_eq_some_iff.1 h1).1).trans h1, h2⟩

theorem zero3 (w : World) : (zeroValue 3).run Tryd.prog w = .ok (.int .i64 0) w := by kernel_rfl
set_option maxRecDepth 100000 in
set_option maxHeartbeats 4000000 in
theorem needs_in (n : Nat) (hn : 4 ≤ n) (w : World) (q p t b nf : Nat) (T : Nat → Option En) (R : Nat → Nat) (B : Nat → Nat → Nat) (h : Sp w q p t) (hF : Fm.Mem w p b nf R B) (hT : Tm.Mem w t T) (hfit : Fit nf R T)
    (a m : Nat) (hm : m ≤ 1000000) (ha : a < 4294967296) (hM : ∀ i, i < cn a m → (T (a / 64 + i)).isSome = true) :
    CallsIn Fence.wide n Tryd.prog 38 #[.pointer (some ⟨q, 0, none⟩), .int .u32 (a : Int), .int .i64 (m : Int)] w fun e w' => e = .returned (.int .i64 (nd R T a 0 (cn a m) : Int)) ∧ Below w.heap.size w w' := by
  have hmm := @run_makeMap Tryd.prog
  refine callsIn_of_wp_marks Tryd.func38 rfl trivial ?_ rfl
  simp only [Tryd.ntmps38, List.size_toArray, List.length_cons, List.length_nil, Nat.reduceAdd, Nat.reduceSub, Array.replicate_succ, Array.replicate_zero, List.push_toArray, List.append_toArray, List.nil_append, List.cons_append]
  gi_wp2_with (first | (refine ⟨trivial, fun _ => (by omega), ?_⟩; gi_at_call 39; refine (pieces_in (n - 1) _ _ _).mono ?_; rintro e w' ⟨rfl, rfl⟩))
  have b1 : Blk ((((((w.alloc (.cells #[.pointer (some ⟨q, 0, none⟩)] 22)).alloc (.map #[] 0)).alloc (.cells #[.int .i64 0] 3)).alloc (.cells #[.map (some (w.heap.size + 1))] 127)).alloc (.cells #[.int .u32 (a : Int)] 25)).alloc (.cells #[.int .i64 (m : Int)] 3)) w.heap.size #[.pointer (some ⟨q, 0, none⟩)] 22 := (((((Boxed.new w 22 (.pointer (some ⟨q, 0, none⟩))).alloc _).alloc _).alloc _).alloc _).alloc _
  have hmp := World.ownsMap_made (H := Unit) (w.alloc (.cells #[.pointer (some ⟨q, 0, none⟩)] 22)) Tryd.prog 3 (plainElem Tryd.prog 3)
  have b2 : Blk ((((((w.alloc (.cells #[.pointer (some ⟨q, 0, none⟩)] 22)).alloc (.map #[] 0)).alloc (.cells #[.int .i64 0] 3)).alloc (.cells #[.map (some (w.heap.size + 1))] 127)).alloc (.cells #[.int .u32 (a : Int)] 25)).alloc (.cells #[.int .i64 (m : Int)] 3)) _ #[.int .i64 0] 3 := (((Boxed.new ((w.alloc (.cells #[.pointer (some ⟨q, 0, none⟩)] 22)).alloc (.map #[] 0)) 3 (.int .i64 0)).alloc _).alloc _).alloc _
  have b3 : Blk ((((((w.alloc (.cells #[.pointer (some ⟨q, 0, none⟩)] 22)).alloc (.map #[] 0)).alloc (.cells #[.int .i64 0] 3)).alloc (.cells #[.map (some (w.heap.size + 1))] 127)).alloc (.cells #[.int .u32 (a : Int)] 25)).alloc (.cells #[.int .i64 (m : Int)] 3)) _ #[.map (some (w.heap.size + 1))] 127 := ((Boxed.new (((w.alloc (.cells #[.pointer (some ⟨q, 0, none⟩)] 22)).alloc (.map #[] 0)).alloc (.cells #[.int .i64 0] 3)) 127 (.map (some (w.heap.size + 1)))).alloc _).alloc _
  have b4 : Blk ((((((w.alloc (.cells #[.pointer (some ⟨q, 0, none⟩)] 22)).alloc (.map #[] 0)).alloc (.cells #[.int .i64 0] 3)).alloc (.cells #[.map (some (w.heap.size + 1))] 127)).alloc (.cells #[.int .u32 (a : Int)] 25)).alloc (.cells #[.int .i64 (m : Int)] 3)) _ #[.int .u32 (a : Int)] 25 := (Boxed.new ((((w.alloc (.cells #[.pointer (some ⟨q, 0, none⟩)] 22)).alloc (.map #[] 0)).alloc (.cells #[.int .i64 0] 3)).alloc (.cells #[.map (some (w.heap.size + 1))] 127)) 25 (.int .u32 (a : Int))).alloc _
  have b5 : Blk ((((((w.alloc (.cells #[.pointer (some ⟨q, 0, none⟩)] 22)).alloc (.map #[] 0)).alloc (.cells #[.int .i64 0] 3)).alloc (.cells #[.map (some (w.heap.size + 1))] 127)).alloc (.cells #[.int .u32 (a : Int)] 25)).alloc (.cells #[.int .i64 (m : Int)] 3)) _ #[.int .i64 (m : Int)] 3 := Boxed.new (((((w.alloc (.cells #[.pointer (some ⟨q, 0, none⟩)] 22)).alloc (.map #[] 0)).alloc (.cells #[.int .i64 0] 3)).alloc (.cells #[.map (some (w.heap.size + 1))] 127)).alloc (.cells #[.int .u32 (a : Int)] 25)) 3 (.int .i64 (m : Int))
  have hmp2 := (((hmp.alloc (.cells #[.int .i64 0] 3)).alloc (.cells #[.map (some (w.heap.size + 1))] 127)).alloc (.cells #[.int .u32 (a : Int)] 25)).alloc (.cells #[.int .i64 (m : Int)] 3)
  simp only [World.size_alloc] at b2 b3 b4 b5 hmp2
  have hbB : Below w.heap.size w ((((((w.alloc (.cells #[.pointer (some ⟨q, 0, none⟩)] 22)).alloc (.map #[] 0)).alloc (.cells #[.int .i64 0] 3)).alloc (.cells #[.map (some (w.heap.size + 1))] 127)).alloc (.cells #[.int .u32 (a : Int)] 25)).alloc (.cells #[.int .i64 (m : Int)] 3)) := ((((((Below.refl w.heap.size w).alloc (Nat.le_refl _) _).alloc (by simp) _).alloc (by simp; omega) _).alloc (by simp; omega) _).alloc (by simp; omega) _).alloc (by simp; omega) _
  have hs6 : ((((((w.alloc (.cells #[.pointer (some ⟨q, 0, none⟩)] 22)).alloc (.map #[] 0)).alloc (.cells #[.int .i64 0] 3)).alloc (.cells #[.map (some (w.heap.size + 1))] 127)).alloc (.cells #[.int .u32 (a : Int)] 25)).alloc (.cells #[.int .i64 (m : Int)] 3)).heap.size = w.heap.size + 6 := by simp
  clear hmp
  generalize (((((w.alloc (.cells #[.pointer (some ⟨q, 0, none⟩)] 22)).alloc (.map #[] 0)).alloc (.cells #[.int .i64 0] 3)).alloc (.cells #[.map (some (w.heap.size + 1))] 127)).alloc (.cells #[.int .u32 (a : Int)] 25)).alloc (.cells #[.int .i64 (m : Int)] 3) = W0 at b1 b2 b3 b4 b5 hmp2 hbB hs6 ⊢
  refine pieces_loop (by omega) (w.heap.size + 1 + 1 + 1 + 1) (w.heap.size + 1 + 1 + 1 + 1 + 1) a m (m : Int) rfl (.inl rfl) (by omega) ha b4 b5
    (fun i W => Blk W w.heap.size #[.pointer (some ⟨q, 0, none⟩)] 22 ∧ Blk W (w.heap.size + 1 + 1) #[.int .i64 (nd R T a 0 i : Int)] 3 ∧ Blk W (w.heap.size + 1 + 1 + 1) #[.map (some (w.heap.size + 1))] 127 ∧ Below w.heap.size w W ∧ ∃ D : DataW Unit, W.ownsMap Tryd.prog 3 (plainElem Tryd.prog 3) (w.heap.size + 1) i D ∧ ∀ f : Int, Maps.has D (.int .i64 f) = true → ∃ j, j < i ∧ ∃ x, T (a / 64 + j) = some x ∧ x.f = f)
    (fun c i W => False)
    ?hI (fun c i X Y hk hf => hf) ⟨b1, b2, b3, hbB, _, hmp2, fun f hf => by simp [Maps.has] at hf⟩
    (fun G i => { tmps := #[.pointer (some ⟨q, 0, none⟩), .int .u32 (a : Int), .int .i64 (m : Int), .pointer (some ⟨w.heap.size, 0, none⟩), undef, undef, .int .i64 0, .pointer (some ⟨w.heap.size + 1 + 1, 0, none⟩), .pointer (some ⟨w.heap.size + 1 + 1 + 1, 0, none⟩), .pointer (some ⟨G, 0, none⟩), undef, undef, undef, undef, .map (some (w.heap.size + 1)), .int .u32 (a : Int), .int .i64 (m : Int), .func (.func 64) #[] #[.pointer (some ⟨w.heap.size + 1 + 1 + 1 + 1, 0, none⟩), .pointer (some ⟨w.heap.size + 1 + 1 + 1 + 1 + 1, 0, none⟩)], .agg (pcs a m i), undef, undef, undef, undef, undef, undef, undef, undef, undef, undef, undef, undef, undef, undef, undef, undef, undef, undef, undef, undef, undef, undef, undef, undef, undef, undef, undef, undef, undef, undef, undef, undef, undef, undef, undef, undef, undef, undef, undef, undef, undef], defers := [] })
    ?assign ?body ?done (fun D c i W hD hi hf hK => hf.elim)
  case hI =>
    rintro i X Y hk ⟨h1, h2, h3, h4, D, h5, h6⟩
    exact ⟨Pz.Blk.kc h1 hk (by decide), Pz.Blk.kc h2 hk (by decide), Pz.Blk.kc h3 hk (by decide), below_kc h4 hk (Nat.le_refl _) (by omega), D, map_kc h5 hk (by omega), h6⟩
  case assign =>
    intro l i W K hK
    dsimp only [List.setIfInBounds_toArray, List.set_cons_zero, List.set_cons_succ]
    gi_wp2
    exact hK
  case body =>
    rintro l i G W hl ⟨hq0, hn0, hmp0, hB, D, hmap, hkeys⟩ hlt hG0 hG
    obtain ⟨⟨xf, xw, xs, xc, xd⟩, hx⟩ := Option.isSome_iff_exists.1 (hM i hlt)
    obtain ⟨f, hf1, hf2, hf3⟩ := hfit.rng _ _ hx
    dsimp only at hf1
    subst hf1
    have hnew : Maps.has D (.int .i64 (f : Int)) = false := by
      cases hh : Maps.has D (.int .i64 (f : Int)) with
      | false => rfl
      | true =>
        obtain ⟨j, hj, y, hy, he⟩ := hkeys _ hh
        have := hfit.inj _ _ _ _ hy hx he
        omega
    have hsnoc := nd_snoc R T a i 0
    rw [Nat.zero_add, hx] at hsnoc
    have HK : Hid (∀ W', Below W.heap.size W W' → W'.cell? ⟨w.heap.size, 0, none⟩ = some (.pointer (some ⟨q, 0, none⟩)) ∧ W'.cell? ⟨q, 1, none⟩ = some (.pointer (some ⟨t, 0, none⟩)) ∧ W'.cell? ⟨G, 0, none⟩ = some (.int .i64 ((a / 64 + i : Nat) : Int))) :=
      Lib.hid fun W' hb => ⟨(Blk.below hq0 hb).cell 0, (Blk.below (Sp.below h hB) hb).cell 1, (Blk.below hG hb).cell 0⟩
    have HG : Hid (∀ W', Below W.heap.size W W' → Calls Tryd.prog 43 #[.pointer (some ⟨t, 0, none⟩), .int .i64 ((a / 64 + i : Nat) : Int)] W' fun e w' => e = .returned (.tuple #[ev ((T (a / 64 + i)).getD z0), .bool (T (a / 64 + i)).isSome]) ∧ Below W'.heap.size W' w') :=
      Lib.hid fun W' hb => My.get_at W' t T ((hT.below hB).below hb) (a / 64 + i)
    have B0 : Hid (Below W.heap.size W W.drew) := Lib.hid (Below.refl _ _).drew
    obtain ⟨Pg, hPg⟩ : ∃ Pg : Int, ((a / 64 + i : Nat) : Int) = Pg := ⟨_, rfl⟩
    rw [hPg] at HK HG
    rw [hx] at HG
    obtain ⟨xf, hxf⟩ : ∃ xf : Int, (f : Int) = xf := ⟨_, rfl⟩
    rw [hxf] at HG hnew
    have hwx : (Lit.int .i64 xf).wf = true := by
      rw [← hxf]
      have := hF.pos.2
      simp [Lit.wf, IntKind.min, IntKind.max, IntKind.signed, IntKind.bits]
      omega
    replace HG : Hid (∀ W', Below W.heap.size W W' → Calls Tryd.prog 43 #[.pointer (some ⟨t, 0, none⟩), .int .i64 Pg] W' fun e w' => e = .returned (.tuple #[.agg #[.int .i64 xf, .bool xw, .bool xs, .bool xc, .bool xd], .bool true]) ∧ Below W'.heap.size W' w') := HG
    gi_wp2
    refine wpIn_mono (Q := Only (fun a' Wf => ∃ gx, a' = { tmps := #[.pointer (some ⟨q, 0, none⟩), .int .u32 (a : Int), .int .i64 (m : Int), .pointer (some ⟨w.heap.size, 0, none⟩), undef, undef, .int .i64 0, .pointer (some ⟨w.heap.size + 1 + 1, 0, none⟩), .pointer (some ⟨w.heap.size + 1 + 1 + 1, 0, none⟩), .pointer (some ⟨G, 0, none⟩), .pointer (some ⟨gx, 0, none⟩), .bool true, undef, undef, .map (some (w.heap.size + 1)), .int .u32 (a : Int), .int .i64 (m : Int), .func (.func 64) #[] #[.pointer (some ⟨w.heap.size + 1 + 1 + 1 + 1, 0, none⟩), .pointer (some ⟨w.heap.size + 1 + 1 + 1 + 1 + 1, 0, none⟩)], .agg (pcs a m i), .tuple #[.agg #[.int .i64 xf, .bool xw, .bool xs, .bool xc, .bool xd], .bool true], .pointer (some ⟨q, 0, none⟩), .pointer (some ⟨q, 0, none⟩), .pointer (some ⟨q, 1, none⟩), .pointer (some ⟨t, 0, none⟩), .pointer (some ⟨G, 0, none⟩), .int .i64 Pg, .tuple #[.agg #[.int .i64 xf, .bool xw, .bool xs, .bool xc, .bool xd], .bool true], .agg #[.int .i64 xf, .bool xw, .bool xs, .bool xc, .bool xd], .bool true, undef, undef, undef, undef, undef, undef, undef, undef, undef, undef, undef, undef, undef, undef, undef, undef, undef, undef, undef, undef, undef, undef, undef, undef, undef, undef, undef, undef, undef, undef, undef], defers := [] } ∧ Below W.heap.size W Wf ∧ W.heap.size ≤ gx ∧ Blk Wf gx #[.int .i64 xf, .bool xw, .bool xs, .bool xc, .bool xd] 56)) ?_ ?_
    · refine round_held (fun W' => W'.cell? ⟨w.heap.size, 0, none⟩ = some (.pointer (some ⟨q, 0, none⟩)) ∧ W'.cell? ⟨q, 1, none⟩ = some (.pointer (some ⟨t, 0, none⟩)) ∧ W'.cell? ⟨G, 0, none⟩ = some (.int .i64 Pg)) (by kernel_rfl) (by kernel_rfl) (fun _ _ hh => hh) (HK.out _ B0.out) (fun hHeld => ?_)
      refine wpAnyH_take (i := 0) (v := ?_) rfl (by kernel_rfl) (by kernel_rfl) (by kernel_rfl) (fun _ _ _ h => h) (Or.inl ⟨by rfl, ?_⟩) (by assumption) ?_
      rotate_left 1
      · intro wz hSw
        try dsimp only at hSw
        go_simp <;> with_reducible rfl
      try simp only [Act.put, List.setIfInBounds_toArray, List.set_cons_zero, List.set_cons_succ, List.getElem_toArray, List.getElem_cons_zero]
      refine wpAnyH_take (i := 1) (v := ?_) rfl (by kernel_rfl) (by kernel_rfl) (by kernel_rfl) (fun _ _ _ h => h) (Or.inl ⟨by rfl, ?_⟩) (by assumption) ?_
      rotate_left 1
      · intro wz hSw
        try dsimp only at hSw
        go_simp <;> with_reducible rfl
      try simp only [Act.put, List.setIfInBounds_toArray, List.set_cons_zero, List.set_cons_succ, List.getElem_toArray, List.getElem_cons_zero, List.getElem_cons_succ]
      refine wpAnyH_take (i := 2) (v := ?_) rfl (by kernel_rfl) (by kernel_rfl) (by kernel_rfl) (fun _ _ _ h => h) (Or.inl ⟨by rfl, ?_⟩) (by assumption) ?_
      rotate_left 1
      · intro wz hSw
        try dsimp only at hSw
        go_simp <;> with_reducible rfl
      try simp only [Act.put, List.setIfInBounds_toArray, List.set_cons_zero, List.set_cons_succ, List.getElem_toArray, List.getElem_cons_zero, List.getElem_cons_succ]
      refine wpAnyH_take (i := 3) (v := ?_) rfl (by kernel_rfl) (by kernel_rfl) (by kernel_rfl) (fun _ _ _ h => h) (Or.inl ⟨by rfl, ?_⟩) (by assumption) ?_
      rotate_left 1
      · intro wz hSw
        try dsimp only at hSw
        go_simp <;> with_reducible rfl
      try simp only [Act.put, List.setIfInBounds_toArray, List.set_cons_zero, List.set_cons_succ, List.getElem_toArray, List.getElem_cons_zero, List.getElem_cons_succ]
      refine wpAnyH_take (i := 4) (v := ?_) rfl (by kernel_rfl) (by kernel_rfl) (by kernel_rfl) (fun _ _ _ h => h) (Or.inl ⟨by rfl, ?_⟩) (by assumption) ?_
      rotate_left 1
      · intro wz hSw
        try dsimp only at hSw
        go_simp <;> with_reducible rfl
      try simp only [Act.put, List.setIfInBounds_toArray, List.set_cons_zero, List.set_cons_succ, List.getElem_toArray, List.getElem_cons_zero, List.getElem_cons_succ]
      refine wpAnyH_take (i := 5) (v := ?_) rfl (by kernel_rfl) (by kernel_rfl) (by kernel_rfl) (fun _ _ _ h => h) (Or.inl ⟨by rfl, ?_⟩) (by assumption) ?_
      rotate_left 1
      · intro wz hSw
        try dsimp only at hSw
        go_simp <;> with_reducible rfl
      try simp only [Act.put, List.setIfInBounds_toArray, List.set_cons_zero, List.set_cons_succ, List.getElem_toArray, List.getElem_cons_zero, List.getElem_cons_succ]
      refine wpAnyH_ready (rs := [6, 10]) (by kernel_rfl) (by simp) ?_
      refine AllReadyH.cons rfl (fun K hK => ?_) ?_
      · go_simp
        go_wp2_with (first | (go_at_call 43; (with_reducible refine (HG.out _ B0.out).mono ?_); rintro e w5 ⟨rfl, hb5⟩; have B5 := Lib.hid (B0.out.trans (hb5.mono B0.out.size)); clear hb5))
        refine hK.out _ _ ?_ (fun hHeld => ?_)
        · try dsimp only
          exact HK.out _ (by repeat' (first | exact B5.out | exact B0.out | refine Below.drew ?_ | refine Below.alloc ?_ B5.out.size _ | refine Below.alloc ?_ (by simp) _ | exact Below.refl _ _ | refine Below.setCell ?_ (by simp) _))
        clear hK K
        refine wpAnyH_take (i := 7) (v := ?_) rfl (by kernel_rfl) (by kernel_rfl) (by kernel_rfl) (fun _ _ _ h => h) (Or.inl ⟨by rfl, ?_⟩) (by assumption) ?_
        rotate_left 1
        · intro wz hSw
          try dsimp only at hSw
          go_simp <;> with_reducible rfl
        try simp only [Act.put, List.setIfInBounds_toArray, List.set_cons_zero, List.set_cons_succ, List.getElem_toArray, List.getElem_cons_zero, List.getElem_cons_succ]
        refine wpAnyH_take (i := 8) (v := ?_) rfl (by kernel_rfl) (by kernel_rfl) (by kernel_rfl) (fun _ _ _ h => h) (Or.inl ⟨by rfl, ?_⟩) (by assumption) ?_
        rotate_left 1
        · intro wz hSw
          try dsimp only at hSw
          go_simp <;> with_reducible rfl
        try simp only [Act.put, List.setIfInBounds_toArray, List.set_cons_zero, List.set_cons_succ, List.getElem_toArray, List.getElem_cons_zero, List.getElem_cons_succ]
        refine wpAnyH_take (i := 9) (v := ?_) rfl (by kernel_rfl) (by kernel_rfl) (by kernel_rfl) (fun _ _ _ h => h) (Or.inl ⟨by rfl, ?_⟩) (by assumption) ?_
        rotate_left 1
        · intro wz hSw
          try dsimp only at hSw
          go_simp <;> with_reducible rfl
        try simp only [Act.put, List.setIfInBounds_toArray, List.set_cons_zero, List.set_cons_succ, List.getElem_toArray, List.getElem_cons_zero, List.getElem_cons_succ]
        refine wpAnyH_ready (rs := [10]) (by kernel_rfl) (by simp) ?_
        refine AllReadyH.cons rfl (fun K hK => ?_) ?_
        · go_simp
          refine hK.out _ _ ?_ (fun hHeld => ?_)
          · try dsimp only
            exact HK.out _ (by repeat' (first | exact B5.out | exact B0.out | refine Below.drew ?_ | refine Below.alloc ?_ B5.out.size _ | refine Below.alloc ?_ (by simp) _ | exact Below.refl _ _ | refine Below.setCell ?_ (by simp) _))
          clear hK K
          refine wpAnyH_ready (rs := [11]) (by kernel_rfl) (by simp) ?_
          refine AllReadyH.cons rfl (fun K hK => ?_) ?_
          · go_simp
            refine hK.out _ _ ?_ (fun hHeld => ?_)
            · try dsimp only
              exact HK.out _ (by repeat' (first | exact B5.out | exact B0.out | refine Below.drew ?_ | refine Below.alloc ?_ B5.out.size _ | refine Below.alloc ?_ (by simp) _ | exact Below.refl _ _ | refine Below.setCell ?_ (by simp) _))
            clear hK K
            refine wpAnyH_take (i := 12) (v := ?_) rfl (by kernel_rfl) (by kernel_rfl) (by kernel_rfl) (fun _ _ _ h => h) (Or.inl ⟨by rfl, ?_⟩) (by assumption) ?_
            rotate_left 1
            · intro wz hSw
              try dsimp only at hSw
              go_simp <;> with_reducible rfl
            try simp only [Act.put, List.setIfInBounds_toArray, List.set_cons_zero, List.set_cons_succ, List.getElem_toArray, List.getElem_cons_zero, List.getElem_cons_succ]
            refine wpAnyH_done (by kernel_rfl) ?_ _
            exact ⟨w5.heap.size, rfl, B5.out.alloc B5.out.size _, B5.out.size, Blk.new _ _ _⟩
          exact AllReadyH.nil
        exact AllReadyH.nil
      refine AllReadyH.cons rfl (fun K hK => ?_) ?_
      · go_simp
        refine hK.out _ _ ?_ (fun hHeld => ?_)
        · try dsimp only
          exact HK.out _ (by repeat' (first | exact B5.out | exact B0.out | refine Below.drew ?_ | refine Below.alloc ?_ B5.out.size _ | refine Below.alloc ?_ (by simp) _ | exact Below.refl _ _ | refine Below.setCell ?_ (by simp) _))
        clear hK K
        refine wpAnyH_ready (rs := [6]) (by kernel_rfl) (by simp) ?_
        refine AllReadyH.cons rfl (fun K hK => ?_) ?_
        · go_simp
          go_wp2_with (first | (go_at_call 43; (with_reducible refine (HG.out _ ((Below.refl _ _).alloc (Nat.le_refl _) _).drew).mono ?_); rintro e w5 ⟨rfl, hb5⟩; have B5 := Lib.hid ((((Below.refl W.heap.size W).alloc (Nat.le_refl _) _).drew).trans (hb5.mono (by simp))); have hz := Blk.below (show Blk (W.alloc (.cells #[.int .i64 0, .bool false, .bool false, .bool false, .bool false] 56)).drew W.heap.size _ _ from Blk.new W _ _) hb5; have z0 := hz.cell 0; have z1 := hz.cell 1; have z2 := hz.cell 2; have z3 := hz.cell 3; have z4 := hz.cell 4; have y0 := hz.free 0; have y1 := hz.free 1; have y2 := hz.free 2; have y3 := hz.free 3; have y4 := hz.free 4; replace hz := Lib.hid hz; clear hb5))
          refine hK.out _ _ ?_ (fun hHeld => ?_)
          · try dsimp only
            exact HK.out _ (by repeat' (first | exact B5.out | exact B0.out | refine Below.drew ?_ | refine Below.alloc ?_ B5.out.size _ | refine Below.alloc ?_ (by simp) _ | exact Below.refl _ _ | refine Below.setCell ?_ (by simp) _))
          clear hK K
          refine wpAnyH_take (i := 7) (v := ?_) rfl (by kernel_rfl) (by kernel_rfl) (by kernel_rfl) (fun _ _ _ h => h) (Or.inl ⟨by rfl, ?_⟩) (by assumption) ?_
          rotate_left 1
          · intro wz hSw
            try dsimp only at hSw
            go_simp <;> with_reducible rfl
          try simp only [Act.put, List.setIfInBounds_toArray, List.set_cons_zero, List.set_cons_succ, List.getElem_toArray, List.getElem_cons_zero, List.getElem_cons_succ]
          refine wpAnyH_take (i := 8) (v := ?_) rfl (by kernel_rfl) (by kernel_rfl) (by kernel_rfl) (fun _ _ _ h => h) (Or.inl ⟨by rfl, ?_⟩) (by assumption) ?_
          rotate_left 1
          · intro wz hSw
            try dsimp only at hSw
            go_simp <;> with_reducible rfl
          try simp only [Act.put, List.setIfInBounds_toArray, List.set_cons_zero, List.set_cons_succ, List.getElem_toArray, List.getElem_cons_zero, List.getElem_cons_succ]
          refine wpAnyH_take (i := 9) (v := ?_) rfl (by kernel_rfl) (by kernel_rfl) (by kernel_rfl) (fun _ _ _ h => h) (Or.inl ⟨by rfl, ?_⟩) (by assumption) ?_
          rotate_left 1
          · intro wz hSw
            try dsimp only at hSw
            go_simp <;> with_reducible rfl
          try simp only [Act.put, List.setIfInBounds_toArray, List.set_cons_zero, List.set_cons_succ, List.getElem_toArray, List.getElem_cons_zero, List.getElem_cons_succ]
          refine wpAnyH_ready (rs := [11]) (by kernel_rfl) (by simp) ?_
          refine AllReadyH.cons rfl (fun K hK => ?_) ?_
          · go_simp
            refine hK.out _ _ ?_ (fun hHeld => ?_)
            · try dsimp only
              exact HK.out _ (by repeat' (first | exact B5.out | exact B0.out | refine Below.drew ?_ | refine Below.alloc ?_ B5.out.size _ | refine Below.alloc ?_ (by simp) _ | exact Below.refl _ _ | refine Below.setCell ?_ (by simp) _))
            clear hK K
            refine wpAnyH_take (i := 12) (v := ?_) rfl (by kernel_rfl) (by kernel_rfl) (by kernel_rfl) (fun _ _ _ h => h) (Or.inl ⟨by rfl, ?_⟩) (by assumption) ?_
            rotate_left 1
            · intro wz hSw
              try dsimp only at hSw
              go_simp <;> with_reducible rfl
            try simp only [Act.put, List.setIfInBounds_toArray, List.set_cons_zero, List.set_cons_succ, List.getElem_toArray, List.getElem_cons_zero, List.getElem_cons_succ]
            refine wpAnyH_done (by kernel_rfl) ?_ _
            exact ⟨W.heap.size, rfl, ((((B5.out.setCell (by simp) _).setCell (by simp) _).setCell (by simp) _).setCell (by simp) _).setCell (by simp) _, Nat.le_refl _, Tc.set5 hz.out _ _ _ _ _⟩
          exact AllReadyH.nil
        exact AllReadyH.nil
      exact AllReadyH.nil
    · intro e a' Wf hmid
      cases e <;> first | exact hmid.elim | skip
      obtain ⟨gx, rfl, hBF, hgx, hxF⟩ := hmid
      clear HG HK B0
      have hq1 := Blk.below hq0 hBF
      have hn1 := Blk.below hn0 hBF
      have hm1 := Blk.below hmp0 hBF
      have hmap1 := map_below hmap hBF
      have cm := hm1.cell 0
      have cn' := hn1.cell 0
      have cnf := hn1.free 0
      have e0 := hxF.cell 0
      have e3 := hxF.cell 3
      have hWF : Below w.heap.size w Wf := hB.trans (hBF.mono hB.size)
      have HRF := Lib.hid (refs_in Wf.drew p b nf R B ((hF.below hWF).below (Below.refl _ _).drew) f hf2)
      rw [hxf] at HRF
      have HK7 : Hid (∀ W', Below Wf.heap.size Wf W' → W'.cell? ⟨w.heap.size, 0, none⟩ = some (.pointer (some ⟨q, 0, none⟩)) ∧ W'.cell? ⟨q, 0, none⟩ = some (.pointer (some ⟨p, 0, none⟩)) ∧ W'.cell? ⟨gx, 0, none⟩ = some (.int .i64 xf)) := Lib.hid fun W' hb => ⟨(Blk.below hq1 hb).cell 0, (Blk.below (Sp.below h hWF) hb).cell 0, (Blk.below hxF hb).cell 0⟩
      have KD7 : Hid (Below Wf.heap.size Wf Wf.drew) := Lib.hid (Below.refl _ _).drew
      obtain ⟨lv, lps, hlk, -⟩ := hmap1.look_ok (Maps.int_keyed Tryd.underlying3) Tryd.underlying127 (zero3 Wf) (plainElem_int (H := Unit) Tryd.underlying3 (by decide : (Lit.int .i64 0).wf = true)) (Maps.keyOf_int_mk Tryd.underlying3 hwx)
      rw [hnew] at hlk
      have HFIN : Hid (∀ (W2 W3 : World) (d : DataW Unit) (A : Act), Below Wf.heap.size Wf W2 ∨ (∃ v, W2 = Wf.drew.setCell ⟨w.heap.size + 1 + 1, 0, none⟩ v) → Blk W2 (w.heap.size + 1 + 1) #[.int .i64 (nd R T a 0 (i + 1) : Int)] 3 → W3.ownsMap Tryd.prog 3 (plainElem Tryd.prog 3) (w.heap.size + 1) (i + 1) (D.put (.int .i64 xf) d) → W2.grownBy W3 (some (w.heap.size + 1)) →
          Post W0.heap.size (w.heap.size + 1 + 1 + 1 + 1) (w.heap.size + 1 + 1 + 1 + 1 + 1) (fun i W => Blk W w.heap.size #[.pointer (some ⟨q, 0, none⟩)] 22 ∧ Blk W (w.heap.size + 1 + 1) #[.int .i64 (nd R T a 0 i : Int)] 3 ∧ Blk W (w.heap.size + 1 + 1 + 1) #[.map (some (w.heap.size + 1))] 127 ∧ Below w.heap.size w W ∧ ∃ D : DataW Unit, W.ownsMap Tryd.prog 3 (plainElem Tryd.prog 3) (w.heap.size + 1) i D ∧ ∀ f : Int, Maps.has D (.int .i64 f) = true → ∃ j, j < i ∧ ∃ x, T (a / 64 + j) = some x ∧ x.f = f) (fun c i W => False) i W .normal A W3) := Lib.hid (fun W2 W3 d A hW2 hn2 hown3 hgr => by
        have hmapW : ∃ es ck, Wf.heap[w.heap.size + 1]? = some (.map es ck) := by obtain ⟨es, ck, h1, _⟩ := hmap1; exact ⟨es, ck, h1⟩
        have hk2 : KeepsOthers Wf W2 ∧ Kb (w.heap.size + 1 + 1 + 1 + 1) (w.heap.size + 1 + 1 + 1 + 1 + 1) Wf W2 ∧ Below w.heap.size w W2 ∧ (∀ k, k ≠ w.heap.size + 1 + 1 → k < Wf.heap.size → W2.heap[k]? = Wf.heap[k]?) := by
          rcases hW2 with h2 | ⟨v, rfl⟩
          · exact ⟨Ro.keeps_below h2, kb_below h2, hWF.trans (h2.mono hWF.size), fun k _ hl => h2.block k hl⟩
          · exact ⟨(KeepsOthers.drew Wf).trans (KeepsOthers.setCell _ _ _), kb_set (show Blk Wf.drew _ _ _ from hn1) (by decide) (by omega) (by omega) 0 _, (hWF.drew).setCell (by simp; omega) _, fun k hne hl => Below.heap_setCell _ _ _ k hne⟩
        have hk3 : KeepsFrom W0.heap.size W W3 := (((Ro.keeps_below hBF).trans hk2.1).from _).trans (KeepsFrom.of_grownBy hgr (fun j e => by cases e; omega))
        have hgb : ∀ k, k ≠ w.heap.size + 1 → k < W2.heap.size → W3.heap[k]? = W2.heap[k]? := fun k hne hl => hgr.block k hl (fun e => hne (by cases e; rfl))
        have hsz2 : Wf.heap.size ≤ W2.heap.size := hk2.1.size
        have hb3 : ∀ (k : Nat) (cs : Array Value) (TT : TypeId), k ≠ w.heap.size + 1 → k ≠ w.heap.size + 1 + 1 → Blk W k cs TT → Blk W3 k cs TT := fun k cs TT h1 h2 hk => by
          have e1 := Blk.below hk hBF
          exact (hgb k h1 (by have := Blk.lt e1; omega)).trans ((hk2.2.2.2 k h2 (Blk.lt e1)).trans e1)
        refine ⟨hk3, (kb_below hBF).trans (hk2.2.1.trans (fun k hk hl => hgb k (fun e => ?_) hl)), hb3 _ _ _ (by omega) (by omega) hq0, (hgb _ (by omega) (Blk.lt hn2)).trans hn2, hb3 _ _ _ (by omega) (by omega) hmp0, ⟨hgr.os.trans hk2.2.2.1.os, hgr.tape.trans hk2.2.2.1.tape, hgr.output.trans hk2.2.2.1.output, Nat.le_trans hk2.2.2.1.size hgr.size, fun k hl => (hgb k (by omega) (by have := hk2.2.2.1.size; omega)).trans (hk2.2.2.1.block k hl)⟩, _, hown3, fun f' hf' => ?_⟩
        · subst e
          rcases hk with h1 | h1 | ⟨cs, z, hc⟩
          · omega
          · omega
          · obtain ⟨es, ck, hmw⟩ := hmapW
            rw [hk2.2.2.2 _ (by omega) (Array.getElem?_eq_some_iff.1 hmw).1, hmw] at hc
            cases hc
        · by_cases e : f' = xf
          · exact ⟨i, Nat.lt_succ_self i, _, hx, hxf.trans e.symm⟩
          · rw [Maps.has_put_other (by intro e2; cases e2; exact e rfl)] at hf'
            obtain ⟨j, hj, y, hy⟩ := hkeys f' hf'
            exact ⟨j, by omega, y, hy⟩)
      have hndle := nd_le R T a i 0
      have hi57 : i < 1000000 := by have := (cn_iff a m i).1 hlt; unfold fr at this; omega
      have hRf := hF.refs f
      show Exit.then _ _ Exit.normal _ _
      gi_wp2
      refine round_held (fun W' => W'.cell? ⟨w.heap.size, 0, none⟩ = some (.pointer (some ⟨q, 0, none⟩)) ∧ W'.cell? ⟨q, 0, none⟩ = some (.pointer (some ⟨p, 0, none⟩)) ∧ W'.cell? ⟨gx, 0, none⟩ = some (.int .i64 xf)) (by kernel_rfl) (by kernel_rfl) (fun _ _ hh => hh) (HK7.out _ KD7.out) (fun hHeld => ?_)
      refine wpAnyH_take (i := 0) (v := ?_) rfl (by kernel_rfl) (by kernel_rfl) (by kernel_rfl) (fun _ _ _ h => h) (Or.inl ⟨by rfl, ?_⟩) (by assumption) ?_
      rotate_left 1
      · intro wz hSw
        try dsimp only at hSw
        go_simp <;> with_reducible rfl
      try simp only [Act.put, List.setIfInBounds_toArray, List.set_cons_zero, List.set_cons_succ, List.getElem_toArray, List.getElem_cons_zero]
      refine wpAnyH_take (i := 1) (v := ?_) rfl (by kernel_rfl) (by kernel_rfl) (by kernel_rfl) (fun _ _ _ h => h) (Or.inl ⟨by rfl, ?_⟩) (by assumption) ?_
      rotate_left 1
      · intro wz hSw
        try dsimp only at hSw
        go_simp <;> with_reducible rfl
      try simp only [Act.put, List.setIfInBounds_toArray, List.set_cons_zero, List.set_cons_succ, List.getElem_toArray, List.getElem_cons_zero, List.getElem_cons_succ]
      refine wpAnyH_take (i := 2) (v := ?_) rfl (by kernel_rfl) (by kernel_rfl) (by kernel_rfl) (fun _ _ _ h => h) (Or.inl ⟨by rfl, ?_⟩) (by assumption) ?_
      rotate_left 1
      · intro wz hSw
        try dsimp only at hSw
        go_simp <;> with_reducible rfl
      try simp only [Act.put, List.setIfInBounds_toArray, List.set_cons_zero, List.set_cons_succ, List.getElem_toArray, List.getElem_cons_zero, List.getElem_cons_succ]
      refine wpAnyH_take (i := 3) (v := ?_) rfl (by kernel_rfl) (by kernel_rfl) (by kernel_rfl) (fun _ _ _ h => h) (Or.inl ⟨by rfl, ?_⟩) (by assumption) ?_
      rotate_left 1
      · intro wz hSw
        try dsimp only at hSw
        go_simp <;> with_reducible rfl
      try simp only [Act.put, List.setIfInBounds_toArray, List.set_cons_zero, List.set_cons_succ, List.getElem_toArray, List.getElem_cons_zero, List.getElem_cons_succ]
      refine wpAnyH_take (i := 4) (v := ?_) rfl (by kernel_rfl) (by kernel_rfl) (by kernel_rfl) (fun _ _ _ h => h) (Or.inl ⟨by rfl, ?_⟩) (by assumption) ?_
      rotate_left 1
      · intro wz hSw
        try dsimp only at hSw
        go_simp <;> with_reducible rfl
      try simp only [Act.put, List.setIfInBounds_toArray, List.set_cons_zero, List.set_cons_succ, List.getElem_toArray, List.getElem_cons_zero, List.getElem_cons_succ]
      refine wpAnyH_take (i := 5) (v := ?_) rfl (by kernel_rfl) (by kernel_rfl) (by kernel_rfl) (fun _ _ _ h => h) (Or.inl ⟨by rfl, ?_⟩) (by assumption) ?_
      rotate_left 1
      · intro wz hSw
        try dsimp only at hSw
        go_simp <;> with_reducible rfl
      try simp only [Act.put, List.setIfInBounds_toArray, List.set_cons_zero, List.set_cons_succ, List.getElem_toArray, List.getElem_cons_zero, List.getElem_cons_succ]
      refine wpAnyH_ready (rs := [6]) (by kernel_rfl) (by simp) ?_
      refine AllReadyH.cons rfl (fun K hK => ?_) ?_
      · go_simp
        go_wp2_with (first | (go_at_call 63; (with_reducible refine HRF.out.mono ?_); rintro e c7 ⟨rfl, rfl⟩))
        refine hK.out _ _ ?_ (fun hHeld => ?_)
        · try dsimp only
          exact HK7.out _ KD7.out
        clear hK K
        refine wpAnyH_take (i := 7) (v := ?_) rfl (by kernel_rfl) (by kernel_rfl) (by kernel_rfl) (fun _ _ _ h => h) (Or.inl ⟨by rfl, ?_⟩) (by assumption) ?_
        rotate_left 1
        · intro wz hSw
          try dsimp only at hSw
          go_simp <;> with_reducible rfl
        try simp only [Act.put, List.setIfInBounds_toArray, List.set_cons_zero, List.set_cons_succ, List.getElem_toArray, List.getElem_cons_zero, List.getElem_cons_succ]
        refine wpAnyH_done (by kernel_rfl) ?_ _
        by_cases hd : dbl R ⟨xf, xw, xs, xc, xd⟩ = true
        · obtain ⟨hc, hg⟩ : xc = true ∧ 1 < R f := by
            unfold dbl at hd
            rw [← hxf] at hd
            simpa using hd
          subst hc
          rw [show ndB R (some (⟨(f : Int), xw, xs, true, xd⟩ : En)) = 1 by rw [hxf]; exact if_pos hd] at hsnoc
          have hg1 : decide (1 < (R f : Int)) = true := decide_eq_true (by omega)
          have hg2 : decide (1 < R f) = true := decide_eq_true hg
          have hmapY := (hmap1.setCell (a := ⟨w.heap.size + 1 + 1, 0, none⟩) (by show w.heap.size + 1 ≠ w.heap.size + 1 + 1; omega) (.int .i64 ((nd R T a 0 i : Int) + 1))).drew
          obtain ⟨W3, hrun, hown3, hgr⟩ := hmapY.update (Maps.int_keyed Tryd.underlying3) Tryd.underlying127 (by unfold maxLen; omega) (Maps.keyOf_int_mk Tryd.underlying3 hwx) (plainElem_int (H := Unit) Tryd.underlying3 (a := (R f : Int) - 1) (by simp [Lit.wf, IntKind.min, IntKind.max, IntKind.signed, IntKind.bits]; omega))
          have hg0 : (Wf.setCell ⟨w.heap.size + 1 + 1, 0, none⟩ (.int .i64 ((nd R T a 0 i : Int) + 1))).drew.cell? ⟨gx, 0, none⟩ = some (.int .i64 xf) := (Blk.other hxF (w.heap.size + 1 + 1) 0 (.int .i64 ((nd R T a 0 i : Int) + 1)) (by have := hB.size; have := Blk.lt hn0; omega)).cell 0
          have hn2 : Blk (Wf.setCell ⟨w.heap.size + 1 + 1, 0, none⟩ (.int .i64 ((nd R T a 0 i : Int) + 1))).drew (w.heap.size + 1 + 1) #[.int .i64 (nd R T a 0 (i + 1) : Int)] 3 := by
            have := Blk.set (show Blk Wf.drew _ _ _ from hn1) 0 (.int .i64 ((nd R T a 0 i : Int) + 1))
            have e2 : Blk (Wf.drew.setCell ⟨w.heap.size + 1 + 1, 0, none⟩ (.int .i64 ((nd R T a 0 i : Int) + 1))) (w.heap.size + 1 + 1) #[.int .i64 ((nd R T a 0 i : Int) + 1)] 3 := by simpa using this
            rw [hsnoc, show ((nd R T a 0 i + 1 : Nat) : Int) = (nd R T a 0 i : Int) + 1 by omega]
            exact e2
          have HO := Lib.hid (fun A => HFIN.out _ W3 _ A (.inr ⟨(.int .i64 ((nd R T a 0 i : Int) + 1)), rfl⟩) hn2 hown3 hgr)
          have hnb : (nd R T a 0 i : Int) < 1000001 := by omega
          have hrb : (R f : Int) < 1000000000 := by omega
          have hrb1 : (1 : Int) < (R f : Int) := by omega
          have hnb0 : (0 : Int) ≤ (nd R T a 0 i : Int) := by omega
          clear HFIN hn2 hown3 hgr hmapY hsnoc hd hg hmap1 hlk hnew hkeys hmap hndle hi57 hRf ha hm hF hg2 hf3 hfit hx HRF
          generalize (R f : Int) = RF at *
          generalize (nd R T a 0 i : Int) = ND at *
          gi_wp2
          exact HO.out _
        · have hg : xc = true → R f ≤ 1 := fun e => by
            subst e
            unfold dbl at hd
            rw [← hxf] at hd
            simp at hd
            exact hd
          rw [show ndB R (some (⟨(f : Int), xw, xs, xc, xd⟩ : En)) = 0 by rw [hxf]; exact if_neg hd] at hsnoc
          have hg1 : xc = true → decide (1 < (R f : Int)) = false := fun e => decide_eq_false (by have := hg e; omega)
          have hg2 : xc = true → decide (1 < R f) = false := fun e => decide_eq_false (by have := hg e; omega)
          obtain ⟨W3, hrun, hown3, hgr⟩ := (hmap1.drew).update (Maps.int_keyed Tryd.underlying3) Tryd.underlying127 (by unfold maxLen; omega) (Maps.keyOf_int_mk Tryd.underlying3 hwx) (plainElem_int (H := Unit) Tryd.underlying3 (a := (R f : Int)) (by simp [Lit.wf, IntKind.min, IntKind.max, IntKind.signed, IntKind.bits]; omega))
          have hn2 : Blk Wf.drew (w.heap.size + 1 + 1) #[.int .i64 (nd R T a 0 (i + 1) : Int)] 3 := by
            rw [hsnoc, Nat.add_zero]
            exact hn1
          have HO := Lib.hid (fun A => HFIN.out _ W3 _ A (.inl (Below.refl _ _).drew) hn2 hown3 hgr)
          clear HFIN hn2 hown3 hgr hsnoc hd hg hmap1 hlk hnew hkeys hmap
          cases xc with
          | false =>
            gi_wp2
            exact HO.out _
          | true =>
            have hg3 := hg1 rfl
            have hg4 := hg2 rfl
            clear hg1 hg2
            gi_wp2
            exact HO.out _
      exact AllReadyH.nil
  case done =>
    rintro D W hD ⟨hq0, hn0, hmp0, hB, -⟩ hK
    have c0 := hn0.cell 0
    have HBl := Lib.hid (hB.trans (belowK_b (w := w) (Nat.le_refl _) W D _ (.deferred none) (by omega) hK rfl rfl))
    clear hq0 hn0 hmp0 hB
    gi_wp2
    refine ⟨by simp, .inl ⟨_, _, rfl, run_takeDeferred hK, ?_⟩⟩
    refine ⟨.int .i64 (nd R T a 0 (cn a m) : Int), ?_, rfl, HBl.out⟩
    simp [results, go_sem]
theorem needs_any (w : World) (q p t b nf : Nat) (T : Nat → Option En) (R : Nat → Nat) (B : Nat → Nat → Nat) (h : Sp w q p t) (hF : Fm.Mem w p b nf R B) (hT : Tm.Mem w t T) (hfit : Fit nf R T)
    (a m : Nat) (hm : m ≤ 1000000) (ha : a < 4294967296) (hM : ∀ i, i < cn a m → (T (a / 64 + i)).isSome = true) :
    Calls Tryd.prog 38 #[.pointer (some ⟨q, 0, none⟩), .int .u32 (a : Int), .int .i64 (m : Int)] w fun e w' => e = .returned (.int .i64 (nd R T a 0 (cn a m) : Int)) ∧ Below w.heap.size w w' :=
  (callsIn_wide (n := 4)).1 (needs_in 4 (Nat.le_refl _) w q p t b nf T R B h hF hT hfit a m hm ha hM)
end Go.Proofs.YtjoapeeljigjcaaDoor.Ne
