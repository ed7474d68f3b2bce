/-
  Read: the bytes of all pieces, one behind the other.
-/
import Derived.Test.YtjoapeeljigjcaaDoorPv
import Derived.Test.YtjoapeeljigjcaaDoorRd
namespace Go.Proofs.YtjoapeeljigjcaaDoor.Re
open Go Go.RowKit Go.Shelf Kit Bk
open Fm hiding Mem made_any len_any
open Fo Fr Fw Fx Fu Fq
open Tm hiding Mem
open Ts Tc Ti Sp Sa Pz Ro To My Pv
set_option linter.unusedVariables false
attribute [local go_sem] Oper.semAt_some
attribute [local go_sem ↓] Fr.app_wrap

/-- What stands in the pieces before the i-th. -/
def fk (x : Option En) : Nat := ((x.map fun (e : En) => e.f).getD 0).toNat
def pl (B : Nat → Nat → Nat) (T : Nat → Option En) (a m i : Nat) : List Nat := (List.range (to a m i - fr a i)).map fun j => B (fk (T (a / 64 + i))) (po a i + j)
def rdl (B : Nat → Nat → Nat) (T : Nat → Option En) (a m : Nat) : Nat → List Nat
  | 0 => []
  | i + 1 => rdl B T a m i ++ pl B T a m i
theorem rdl_len (B : Nat → Nat → Nat) (T : Nat → Option En) (a m : Nat) : ∀ i, i ≤ cn a m → (rdl B T a m i).length = min m (fr a i)
  | 0, _ => by rw [fr_zero, Nat.min_zero]; rfl
  | i + 1, hi => by
    have h1 := rdl_len B T a m i (by omega)
    have h2 := (cn_iff a m i).1 (by omega)
    have h3 := fr_to (show i < cn a m by omega)
    show (rdl B T a m i ++ pl B T a m i).length = _
    rw [List.length_append, h1]
    unfold pl
    rw [List.length_map, List.length_range, show min m (fr a i) = fr a i by omega]
    show fr a i + (to a m i - fr a i) = to a m i
    omega
theorem u8s_app (xs ys : List Nat) : u8s (xs ++ ys) = u8s xs ++ u8s ys := by simp [u8s]
theorem u8f_pl (f : Nat → Nat) (k : Nat) : u8f f k = u8s ((List.range k).map f) := by simp [u8f, u8s, Function.comp_def]
theorem row_kc {B base k : Nat} {X Y : World} {v : Value} {xs : List Value} (h : X.ownsRow base 5 1 v k xs) (hk : Kc B X Y) : Y.ownsRow base 5 1 v k xs := by
  refine ⟨h.1, ?_⟩
  rcases h.2 with h2 | ⟨g, cap, cur, hv, hg, hh, h3⟩
  · exact .inl h2
  · exact .inr ⟨g, cap, cur, hv, hg, Pz.Blk.kc (show Blk X g cur 5 from hh) hk (by decide), h3⟩

set_option maxRecDepth 100000 in
set_option maxHeartbeats 4000000 in
theorem read_in (n : Nat) (hn : 6 ≤ n) (w : World) (q p t b nf : Nat) (T : Nat → Option En) (R : Nat → Nat) (B : Nat → Nat → Nat) (h : Sp w q p t) (hF : Fm.Mem w p b nf R B) (hT : Tm.Mem w t T) (hfit : Fit nf R T)
    (a m : Nat) (hm : m ≤ 1000000) (ha : a < 4294967296) (hM : mayB T a m false = true) :
    CallsIn Fence.wide n Tryd.prog 21 #[.pointer (some ⟨q, 0, none⟩), .int .u32 (a : Int), .int .i64 (m : Int)] w fun e w' => Below w.heap.size w w' ∧ ∃ r, e = .returned (.tuple #[r, .int .i64 0]) ∧ w'.ownsRow w.heap.size 5 1 r m (u8s (rdl B T a m (cn a m))) := by
  have hb1 := (Below.refl w.heap.size w).alloc (Nat.le_refl _) (.cells #[.pointer (some ⟨q, 0, none⟩)] 22)
  have b1 : Blk (w.alloc (.cells #[.pointer (some ⟨q, 0, none⟩)] 22)) w.heap.size #[.pointer (some ⟨q, 0, none⟩)] 22 := Blk.new w _ _
  have hmy := may_any _ q p t T (Sp.below h hb1) (hT.below hb1) a m (m : Int) false (.inl rfl) (by omega) ha
  rw [hM, decide_eq_true (by omega : (0 : Int) ≤ (m : Int))] at hmy
  have HMY := Lib.hid ((callsIn_wide (n := n - 1)).2 hmy)
  have hs1 : (w.alloc (.cells #[.pointer (some ⟨q, 0, none⟩)] 22)).heap.size = w.heap.size + 1 := by simp
  clear hmy
  refine callsIn_of_wp_marks Tryd.func21 rfl trivial ?_ rfl
  simp only [Tryd.ntmps21, List.size_toArray, List.length_cons, List.length_nil, Nat.reduceAdd, Nat.reduceSub, Array.replicate_succ, Array.replicate_zero, List.push_toArray, List.append_toArray, List.nil_append, List.cons_append]
  gi_wp2_with (first | (refine ⟨trivial, fun _ => (by omega), ?_⟩; gi_at_call 37; refine HMY.out.mono ?_; rintro e w3 ⟨rfl, hb3⟩; replace hb3 := Lib.hid hb3) | (refine ⟨trivial, fun _ => (by omega), ?_⟩; gi_at_call 39; refine (pieces_in (n - 1) _ _ _).mono ?_; rintro e w' ⟨rfl, rfl⟩))
  have hB3 : Below w.heap.size w w3 := hb1.trans (hb3.out.mono (by omega))
  have hs3 := hb3.out.size
  have c1 : Blk (((w3.alloc (.cells #[.slice none 0 0] 37)).alloc (.cells #[.int .u32 (a : Int)] 25)).alloc (.cells #[.int .i64 (m : Int)] 3)) w.heap.size #[.pointer (some ⟨q, 0, none⟩)] 22 := ((Boxed.alloc (Blk.below b1 hb3.out) _).alloc _).alloc _
  have c2 : Blk (((w3.alloc (.cells #[.slice none 0 0] 37)).alloc (.cells #[.int .u32 (a : Int)] 25)).alloc (.cells #[.int .i64 (m : Int)] 3)) w3.heap.size #[.slice none 0 0] 37 := ((Boxed.new w3 37 (.slice none 0 0)).alloc _).alloc _
  have c4 : Blk (((w3.alloc (.cells #[.slice none 0 0] 37)).alloc (.cells #[.int .u32 (a : Int)] 25)).alloc (.cells #[.int .i64 (m : Int)] 3)) _ #[.int .u32 (a : Int)] 25 := (Boxed.new (w3.alloc (.cells #[.slice none 0 0] 37)) 25 (.int .u32 (a : Int))).alloc _
  have c5 : Blk (((w3.alloc (.cells #[.slice none 0 0] 37)).alloc (.cells #[.int .u32 (a : Int)] 25)).alloc (.cells #[.int .i64 (m : Int)] 3)) _ #[.int .i64 (m : Int)] 3 := Boxed.new ((w3.alloc (.cells #[.slice none 0 0] 37)).alloc (.cells #[.int .u32 (a : Int)] 25)) 3 (.int .i64 (m : Int))
  simp only [World.size_alloc] at c4 c5
  have hbB : Below w3.heap.size w3 (((w3.alloc (.cells #[.slice none 0 0] 37)).alloc (.cells #[.int .u32 (a : Int)] 25)).alloc (.cells #[.int .i64 (m : Int)] 3)) := (((Below.refl w3.heap.size w3).alloc (Nat.le_refl _) _).alloc (by simp) _).alloc (by simp; omega) _
  have hs6 : (((w3.alloc (.cells #[.slice none 0 0] 37)).alloc (.cells #[.int .u32 (a : Int)] 25)).alloc (.cells #[.int .i64 (m : Int)] 3)).heap.size = w3.heap.size + 3 := by simp
  have hrow0 := World.ownsRow_nil (((w3.alloc (.cells #[.slice none 0 0] 37)).alloc (.cells #[.int .u32 (a : Int)] 25)).alloc (.cells #[.int .i64 (m : Int)] 3)) (((w3.alloc (.cells #[.slice none 0 0] 37)).alloc (.cells #[.int .u32 (a : Int)] 25)).alloc (.cells #[.int .i64 (m : Int)] 3)).heap.size 5 1
  clear hb3 HMY b1 hb1
  generalize ((w3.alloc (.cells #[.slice none 0 0] 37)).alloc (.cells #[.int .u32 (a : Int)] 25)).alloc (.cells #[.int .i64 (m : Int)] 3) = W0 at c1 c2 c4 c5 hbB hs6 hrow0 ⊢
  refine pieces_loop (by omega) (w3.heap.size + 1) (w3.heap.size + 1 + 1) a m (m : Int) rfl (.inl rfl) (by omega) ha c4 c5
    (fun i W => Blk W w.heap.size #[.pointer (some ⟨q, 0, none⟩)] 22 ∧ Below w3.heap.size w3 W ∧ ∃ v, Blk W w3.heap.size #[v] 37 ∧ W.ownsRow W0.heap.size 5 1 v (min m (fr a i)) (u8s (rdl B T a m i)))
    (fun c i W => False)
    ?hI (fun c i X Y hk hf => hf) ⟨c1, hbB, _, c2, by rw [fr_zero, Nat.min_zero]; exact hrow0⟩
    (fun G i => { tmps := #[.pointer (some ⟨q, 0, none⟩), .int .u32 (a : Int), .int .i64 (m : Int), .pointer (some ⟨w.heap.size, 0, none⟩), undef, undef, .slice none 0 0, .int .i64 0, .pointer (some ⟨w3.heap.size, 0, none⟩), .pointer (some ⟨G, 0, none⟩), undef, undef, undef, undef, .pointer (some ⟨q, 0, none⟩), .int .u32 (a : Int), .int .i64 (m : Int), .bool true, .bool false, .int .u32 (a : Int), .int .i64 (m : Int), .func (.func 64) #[] #[.pointer (some ⟨w3.heap.size + 1, 0, none⟩), .pointer (some ⟨w3.heap.size + 1 + 1, 0, none⟩)], .agg (pcs a m i), undef, undef, undef, undef, undef, undef, undef, undef, undef, undef, undef, undef, undef, undef, undef, undef, undef, undef, undef, undef, undef, undef, undef, undef, undef, undef, undef, undef, undef, undef, undef], defers := [] })
    ?assign ?body ?done (fun D c i W hD hi hf hK => hf.elim)
  case hI =>
    rintro i X Y hk ⟨h1, h2, v, h3, h4⟩
    exact ⟨Pz.Blk.kc h1 hk (by decide), below_kc h2 hk (Nat.le_refl _) (by omega), v, Pz.Blk.kc h3 hk (by decide), row_kc h4 hk⟩
  case assign =>
    intro l i W K hK
    dsimp only [List.setIfInBounds_toArray, List.set_cons_zero, List.set_cons_succ]
    gi_wp2
    exact hK
  case body =>
    rintro l i G W hl ⟨hq0, hB3, v0, hv0, hrow⟩ hlt hG0 hG
    have hB : Below w.heap.size w W := by rename_i hBw; exact hBw.trans (hB3.mono (by omega))
    have hsome : (T (a / 64 + i)).isSome = true := by
      have := mayB_iff.1 hM i hlt
      cases hx : T (a / 64 + i) with
      | none => rw [hx] at this; cases this
      | some x => rfl
    obtain ⟨⟨xf, xw, xs, xc, xd⟩, hx⟩ := Option.isSome_iff_exists.1 hsome
    obtain ⟨f, hf1, hf2, hf3⟩ := hfit.rng _ _ hx
    dsimp only at hf1
    subst hf1
    obtain ⟨h1, h2, h3⟩ := fr_to hlt
    have HLT := Lib.hid hlt
    have HSZ : Hid (w3.heap.size < W0.heap.size ∧ W0.heap.size = w3.heap.size + 3) := Lib.hid ⟨by omega, hs6⟩
    have HW3 : Hid (w.heap.size < w3.heap.size) := Lib.hid (by omega)
    have HMN : Hid (min m (fr a (i + 1)) = min m (fr a i) + (to a m i - fr a i)) := Lib.hid (by
      have := (cn_iff a m i).1 hlt
      show to a m i = _
      omega)
    have hfk : fk (T (a / 64 + i)) = f := by rw [hx]; rfl
    have HPL : Hid ((u8s (pl B T a m i)).length = to a m i - fr a i) := Lib.hid (by simp [u8s, pl])
    have HU : Hid (u8f (fun j => B f (po a i + j)) (to a m i - fr a i) = u8s (pl B T a m i)) := Lib.hid (by rw [u8f_pl]; unfold pl; rw [hfk])
    have HLN : Hid (1 ≤ to a m i - fr a i ∧ to a m i - fr a i ≤ 64 ∧ min m (fr a i) ≤ 1000000) := Lib.hid (by omega)
    have HK : Hid (∀ W', Below W.heap.size W W' → W'.cell? ⟨w.heap.size, 0, none⟩ = some (.pointer (some ⟨q, 0, none⟩)) ∧ W'.cell? ⟨q, 1, none⟩ = some (.pointer (some ⟨t, 0, none⟩)) ∧ W'.cell? ⟨G, 0, none⟩ = some (.int .i64 ((a / 64 + i : Nat) : Int))) :=
      Lib.hid fun W' hb => ⟨(Blk.below hq0 hb).cell 0, (Blk.below (Sp.below h hB) hb).cell 1, (Blk.below hG hb).cell 0⟩
    have HG : Hid (∀ W', Below W.heap.size W W' → Calls Tryd.prog 43 #[.pointer (some ⟨t, 0, none⟩), .int .i64 ((a / 64 + i : Nat) : Int)] W' fun e w' => e = .returned (.tuple #[ev ((T (a / 64 + i)).getD z0), .bool (T (a / 64 + i)).isSome]) ∧ Below W'.heap.size W' w') :=
      Lib.hid fun W' hb => My.get_at W' t T ((hT.below hB).below hb) (a / 64 + i)
    have B0 : Hid (Below W.heap.size W W.drew) := Lib.hid (Below.refl _ _).drew
    obtain ⟨Pg, hPg⟩ : ∃ Pg : Int, ((a / 64 + i : Nat) : Int) = Pg := ⟨_, rfl⟩
    rw [hPg] at HK HG
    rw [hx] at HG
    obtain ⟨xf, hxf⟩ : ∃ xf : Int, (f : Int) = xf := ⟨_, rfl⟩
    rw [hxf] at HG
    replace HG : Hid (∀ W', Below W.heap.size W W' → Calls Tryd.prog 43 #[.pointer (some ⟨t, 0, none⟩), .int .i64 Pg] W' fun e w' => e = .returned (.tuple #[.agg #[.int .i64 xf, .bool xw, .bool xs, .bool xc, .bool xd], .bool true]) ∧ Below W'.heap.size W' w') := HG
    gi_wp2
    refine wpIn_mono (Q := Only (fun a' Wf => ∃ gx, a' = { tmps := #[.pointer (some ⟨q, 0, none⟩), .int .u32 (a : Int), .int .i64 (m : Int), .pointer (some ⟨w.heap.size, 0, none⟩), undef, undef, .slice none 0 0, .int .i64 0, .pointer (some ⟨w3.heap.size, 0, none⟩), .pointer (some ⟨G, 0, none⟩), .pointer (some ⟨gx, 0, none⟩), .bool true, undef, undef, .pointer (some ⟨q, 0, none⟩), .int .u32 (a : Int), .int .i64 (m : Int), .bool true, .bool false, .int .u32 (a : Int), .int .i64 (m : Int), .func (.func 64) #[] #[.pointer (some ⟨w3.heap.size + 1, 0, none⟩), .pointer (some ⟨w3.heap.size + 1 + 1, 0, none⟩)], .agg (pcs a m i), .tuple #[.agg #[.int .i64 xf, .bool xw, .bool xs, .bool xc, .bool xd], .bool true], .pointer (some ⟨q, 0, none⟩), .pointer (some ⟨q, 0, none⟩), .pointer (some ⟨q, 1, none⟩), .pointer (some ⟨t, 0, none⟩), .pointer (some ⟨G, 0, none⟩), .int .i64 Pg, .tuple #[.agg #[.int .i64 xf, .bool xw, .bool xs, .bool xc, .bool xd], .bool true], .agg #[.int .i64 xf, .bool xw, .bool xs, .bool xc, .bool xd], .bool true, undef, undef, undef, undef, undef, undef, undef, undef, undef, undef, undef, undef, undef, undef, undef, undef, undef, undef, undef, undef, undef], defers := [] } ∧ Below W.heap.size W Wf ∧ W.heap.size ≤ gx ∧ Blk Wf gx #[.int .i64 xf, .bool xw, .bool xs, .bool xc, .bool xd] 56)) ?_ ?_
    · refine round_held (fun W' => W'.cell? ⟨w.heap.size, 0, none⟩ = some (.pointer (some ⟨q, 0, none⟩)) ∧ W'.cell? ⟨q, 1, none⟩ = some (.pointer (some ⟨t, 0, none⟩)) ∧ W'.cell? ⟨G, 0, none⟩ = some (.int .i64 Pg)) (by kernel_rfl) (by kernel_rfl) (fun _ _ hh => hh) (HK.out _ B0.out) (fun hHeld => ?_)
      refine wpAnyH_take (i := 0) (v := ?_) rfl (by kernel_rfl) (by kernel_rfl) (by kernel_rfl) (fun _ _ _ h => h) (Or.inl ⟨by rfl, ?_⟩) (by assumption) ?_
      rotate_left 1
      · intro wz hSw
        try dsimp only at hSw
        go_simp <;> with_reducible rfl
      try simp only [Act.put, List.setIfInBounds_toArray, List.set_cons_zero, List.set_cons_succ, List.getElem_toArray, List.getElem_cons_zero]
      refine wpAnyH_take (i := 1) (v := ?_) rfl (by kernel_rfl) (by kernel_rfl) (by kernel_rfl) (fun _ _ _ h => h) (Or.inl ⟨by rfl, ?_⟩) (by assumption) ?_
      rotate_left 1
      · intro wz hSw
        try dsimp only at hSw
        go_simp <;> with_reducible rfl
      try simp only [Act.put, List.setIfInBounds_toArray, List.set_cons_zero, List.set_cons_succ, List.getElem_toArray, List.getElem_cons_zero, List.getElem_cons_succ]
      refine wpAnyH_take (i := 2) (v := ?_) rfl (by kernel_rfl) (by kernel_rfl) (by kernel_rfl) (fun _ _ _ h => h) (Or.inl ⟨by rfl, ?_⟩) (by assumption) ?_
      rotate_left 1
      · intro wz hSw
        try dsimp only at hSw
        go_simp <;> with_reducible rfl
      try simp only [Act.put, List.setIfInBounds_toArray, List.set_cons_zero, List.set_cons_succ, List.getElem_toArray, List.getElem_cons_zero, List.getElem_cons_succ]
      refine wpAnyH_take (i := 3) (v := ?_) rfl (by kernel_rfl) (by kernel_rfl) (by kernel_rfl) (fun _ _ _ h => h) (Or.inl ⟨by rfl, ?_⟩) (by assumption) ?_
      rotate_left 1
      · intro wz hSw
        try dsimp only at hSw
        go_simp <;> with_reducible rfl
      try simp only [Act.put, List.setIfInBounds_toArray, List.set_cons_zero, List.set_cons_succ, List.getElem_toArray, List.getElem_cons_zero, List.getElem_cons_succ]
      refine wpAnyH_take (i := 4) (v := ?_) rfl (by kernel_rfl) (by kernel_rfl) (by kernel_rfl) (fun _ _ _ h => h) (Or.inl ⟨by rfl, ?_⟩) (by assumption) ?_
      rotate_left 1
      · intro wz hSw
        try dsimp only at hSw
        go_simp <;> with_reducible rfl
      try simp only [Act.put, List.setIfInBounds_toArray, List.set_cons_zero, List.set_cons_succ, List.getElem_toArray, List.getElem_cons_zero, List.getElem_cons_succ]
      refine wpAnyH_take (i := 5) (v := ?_) rfl (by kernel_rfl) (by kernel_rfl) (by kernel_rfl) (fun _ _ _ h => h) (Or.inl ⟨by rfl, ?_⟩) (by assumption) ?_
      rotate_left 1
      · intro wz hSw
        try dsimp only at hSw
        go_simp <;> with_reducible rfl
      try simp only [Act.put, List.setIfInBounds_toArray, List.set_cons_zero, List.set_cons_succ, List.getElem_toArray, List.getElem_cons_zero, List.getElem_cons_succ]
      refine wpAnyH_ready (rs := [6, 10]) (by kernel_rfl) (by simp) ?_
      refine AllReadyH.cons rfl (fun K hK => ?_) ?_
      · go_simp
        go_wp2_with (first | (go_at_call 43; (with_reducible refine (HG.out _ B0.out).mono ?_); rintro e w5 ⟨rfl, hb5⟩; have B5 := Lib.hid (B0.out.trans (hb5.mono B0.out.size)); clear hb5))
        refine hK.out _ _ ?_ (fun hHeld => ?_)
        · try dsimp only
          exact HK.out _ (by repeat' (first | exact B5.out | exact B0.out | refine Below.drew ?_ | refine Below.alloc ?_ B5.out.size _ | refine Below.alloc ?_ (by simp) _ | exact Below.refl _ _ | refine Below.setCell ?_ (by simp) _))
        clear hK K
        refine wpAnyH_take (i := 7) (v := ?_) rfl (by kernel_rfl) (by kernel_rfl) (by kernel_rfl) (fun _ _ _ h => h) (Or.inl ⟨by rfl, ?_⟩) (by assumption) ?_
        rotate_left 1
        · intro wz hSw
          try dsimp only at hSw
          go_simp <;> with_reducible rfl
        try simp only [Act.put, List.setIfInBounds_toArray, List.set_cons_zero, List.set_cons_succ, List.getElem_toArray, List.getElem_cons_zero, List.getElem_cons_succ]
        refine wpAnyH_take (i := 8) (v := ?_) rfl (by kernel_rfl) (by kernel_rfl) (by kernel_rfl) (fun _ _ _ h => h) (Or.inl ⟨by rfl, ?_⟩) (by assumption) ?_
        rotate_left 1
        · intro wz hSw
          try dsimp only at hSw
          go_simp <;> with_reducible rfl
        try simp only [Act.put, List.setIfInBounds_toArray, List.set_cons_zero, List.set_cons_succ, List.getElem_toArray, List.getElem_cons_zero, List.getElem_cons_succ]
        refine wpAnyH_take (i := 9) (v := ?_) rfl (by kernel_rfl) (by kernel_rfl) (by kernel_rfl) (fun _ _ _ h => h) (Or.inl ⟨by rfl, ?_⟩) (by assumption) ?_
        rotate_left 1
        · intro wz hSw
          try dsimp only at hSw
          go_simp <;> with_reducible rfl
        try simp only [Act.put, List.setIfInBounds_toArray, List.set_cons_zero, List.set_cons_succ, List.getElem_toArray, List.getElem_cons_zero, List.getElem_cons_succ]
        refine wpAnyH_ready (rs := [10]) (by kernel_rfl) (by simp) ?_
        refine AllReadyH.cons rfl (fun K hK => ?_) ?_
        · go_simp
          refine hK.out _ _ ?_ (fun hHeld => ?_)
          · try dsimp only
            exact HK.out _ (by repeat' (first | exact B5.out | exact B0.out | refine Below.drew ?_ | refine Below.alloc ?_ B5.out.size _ | refine Below.alloc ?_ (by simp) _ | exact Below.refl _ _ | refine Below.setCell ?_ (by simp) _))
          clear hK K
          refine wpAnyH_ready (rs := [11]) (by kernel_rfl) (by simp) ?_
          refine AllReadyH.cons rfl (fun K hK => ?_) ?_
          · go_simp
            refine hK.out _ _ ?_ (fun hHeld => ?_)
            · try dsimp only
              exact HK.out _ (by repeat' (first | exact B5.out | exact B0.out | refine Below.drew ?_ | refine Below.alloc ?_ B5.out.size _ | refine Below.alloc ?_ (by simp) _ | exact Below.refl _ _ | refine Below.setCell ?_ (by simp) _))
            clear hK K
            refine wpAnyH_take (i := 12) (v := ?_) rfl (by kernel_rfl) (by kernel_rfl) (by kernel_rfl) (fun _ _ _ h => h) (Or.inl ⟨by rfl, ?_⟩) (by assumption) ?_
            rotate_left 1
            · intro wz hSw
              try dsimp only at hSw
              go_simp <;> with_reducible rfl
            try simp only [Act.put, List.setIfInBounds_toArray, List.set_cons_zero, List.set_cons_succ, List.getElem_toArray, List.getElem_cons_zero, List.getElem_cons_succ]
            refine wpAnyH_done (by kernel_rfl) ?_ _
            exact ⟨w5.heap.size, rfl, B5.out.alloc B5.out.size _, B5.out.size, Blk.new _ _ _⟩
          exact AllReadyH.nil
        exact AllReadyH.nil
      refine AllReadyH.cons rfl (fun K hK => ?_) ?_
      · go_simp
        refine hK.out _ _ ?_ (fun hHeld => ?_)
        · try dsimp only
          exact HK.out _ (by repeat' (first | exact B5.out | exact B0.out | refine Below.drew ?_ | refine Below.alloc ?_ B5.out.size _ | refine Below.alloc ?_ (by simp) _ | exact Below.refl _ _ | refine Below.setCell ?_ (by simp) _))
        clear hK K
        refine wpAnyH_ready (rs := [6]) (by kernel_rfl) (by simp) ?_
        refine AllReadyH.cons rfl (fun K hK => ?_) ?_
        · go_simp
          go_wp2_with (first | (go_at_call 43; (with_reducible refine (HG.out _ ((Below.refl _ _).alloc (Nat.le_refl _) _).drew).mono ?_); rintro e w5 ⟨rfl, hb5⟩; have B5 := Lib.hid ((((Below.refl W.heap.size W).alloc (Nat.le_refl _) _).drew).trans (hb5.mono (by simp))); have hz := Blk.below (show Blk (W.alloc (.cells #[.int .i64 0, .bool false, .bool false, .bool false, .bool false] 56)).drew W.heap.size _ _ from Blk.new W _ _) hb5; have z0 := hz.cell 0; have z1 := hz.cell 1; have z2 := hz.cell 2; have z3 := hz.cell 3; have z4 := hz.cell 4; have y0 := hz.free 0; have y1 := hz.free 1; have y2 := hz.free 2; have y3 := hz.free 3; have y4 := hz.free 4; replace hz := Lib.hid hz; clear hb5))
          refine hK.out _ _ ?_ (fun hHeld => ?_)
          · try dsimp only
            exact HK.out _ (by repeat' (first | exact B5.out | exact B0.out | refine Below.drew ?_ | refine Below.alloc ?_ B5.out.size _ | refine Below.alloc ?_ (by simp) _ | exact Below.refl _ _ | refine Below.setCell ?_ (by simp) _))
          clear hK K
          refine wpAnyH_take (i := 7) (v := ?_) rfl (by kernel_rfl) (by kernel_rfl) (by kernel_rfl) (fun _ _ _ h => h) (Or.inl ⟨by rfl, ?_⟩) (by assumption) ?_
          rotate_left 1
          · intro wz hSw
            try dsimp only at hSw
            go_simp <;> with_reducible rfl
          try simp only [Act.put, List.setIfInBounds_toArray, List.set_cons_zero, List.set_cons_succ, List.getElem_toArray, List.getElem_cons_zero, List.getElem_cons_succ]
          refine wpAnyH_take (i := 8) (v := ?_) rfl (by kernel_rfl) (by kernel_rfl) (by kernel_rfl) (fun _ _ _ h => h) (Or.inl ⟨by rfl, ?_⟩) (by assumption) ?_
          rotate_left 1
          · intro wz hSw
            try dsimp only at hSw
            go_simp <;> with_reducible rfl
          try simp only [Act.put, List.setIfInBounds_toArray, List.set_cons_zero, List.set_cons_succ, List.getElem_toArray, List.getElem_cons_zero, List.getElem_cons_succ]
          refine wpAnyH_take (i := 9) (v := ?_) rfl (by kernel_rfl) (by kernel_rfl) (by kernel_rfl) (fun _ _ _ h => h) (Or.inl ⟨by rfl, ?_⟩) (by assumption) ?_
          rotate_left 1
          · intro wz hSw
            try dsimp only at hSw
            go_simp <;> with_reducible rfl
          try simp only [Act.put, List.setIfInBounds_toArray, List.set_cons_zero, List.set_cons_succ, List.getElem_toArray, List.getElem_cons_zero, List.getElem_cons_succ]
          refine wpAnyH_ready (rs := [11]) (by kernel_rfl) (by simp) ?_
          refine AllReadyH.cons rfl (fun K hK => ?_) ?_
          · go_simp
            refine hK.out _ _ ?_ (fun hHeld => ?_)
            · try dsimp only
              exact HK.out _ (by repeat' (first | exact B5.out | exact B0.out | refine Below.drew ?_ | refine Below.alloc ?_ B5.out.size _ | refine Below.alloc ?_ (by simp) _ | exact Below.refl _ _ | refine Below.setCell ?_ (by simp) _))
            clear hK K
            refine wpAnyH_take (i := 12) (v := ?_) rfl (by kernel_rfl) (by kernel_rfl) (by kernel_rfl) (fun _ _ _ h => h) (Or.inl ⟨by rfl, ?_⟩) (by assumption) ?_
            rotate_left 1
            · intro wz hSw
              try dsimp only at hSw
              go_simp <;> with_reducible rfl
            try simp only [Act.put, List.setIfInBounds_toArray, List.set_cons_zero, List.set_cons_succ, List.getElem_toArray, List.getElem_cons_zero, List.getElem_cons_succ]
            refine wpAnyH_done (by kernel_rfl) ?_ _
            exact ⟨W.heap.size, rfl, ((((B5.out.setCell (by simp) _).setCell (by simp) _).setCell (by simp) _).setCell (by simp) _).setCell (by simp) _, Nat.le_refl _, Tc.set5 hz.out _ _ _ _ _⟩
          exact AllReadyH.nil
        exact AllReadyH.nil
      exact AllReadyH.nil
    · intro e a' Wf hmid
      cases e <;> first | exact hmid.elim | skip
      obtain ⟨gx, rfl, hBF, hgx, hxF⟩ := hmid
      clear HG HK B0
      have hq1 := Blk.below hq0 hBF
      have hG1 := Blk.below hG hBF
      have hWF : Below w.heap.size w Wf := hB.trans (hBF.mono hB.size)
      have hrd := read_ok Wf.drew p b nf R B ((hF.below hWF).below (Below.refl _ _).drew) f hf2 hf3 (po a i) (to a m i - fr a i) h3
      obtain ⟨ln, hln⟩ : ∃ ln, to a m i - fr a i = ln := ⟨_, rfl⟩
      rw [hln] at hrd HLN HPL HU HMN
      obtain ⟨Po, hPo⟩ : ∃ Po : Int, (po a i : Int) = Po := ⟨_, rfl⟩
      obtain ⟨Fi, hFi⟩ : ∃ Fi : Int, (fr a i : Int) = Fi := ⟨_, rfl⟩
      obtain ⟨Ti, hTi⟩ : ∃ Ti : Int, (to a m i : Int) = Ti := ⟨_, rfl⟩
      rw [hxf, hPo, show (ln : Int) = Ti - Fi by omega] at hrd
      have hb1 : 0 ≤ Fi := by omega
      have hb2 : Ti ≤ 1000000 := by omega
      have hb3 : Fi < Ti := by omega
      have hwr : IntKind.i64.wrap (Ti - Fi) = Ti - Fi := by rw [IntKind.wrap_i64]; omega
      have HRD := Lib.hid hrd
      have HGS : Hid (W0.heap.size < W.heap.size) := Lib.hid (Nat.lt_of_le_of_lt hG0 (Blk.lt hG))
      have HBF := Lib.hid hBF
      have HK7 : Hid (∀ W', Below Wf.heap.size Wf W' → W'.cell? ⟨w.heap.size, 0, none⟩ = some (.pointer (some ⟨q, 0, none⟩)) ∧ W'.cell? ⟨q, 0, none⟩ = some (.pointer (some ⟨p, 0, none⟩)) ∧ W'.cell? ⟨gx, 0, none⟩ = some (.int .i64 xf) ∧ W'.cell? ⟨G, 1, none⟩ = some (.int .i64 Po) ∧ W'.cell? ⟨G, 2, none⟩ = some (.int .i64 Fi) ∧ W'.cell? ⟨G, 3, none⟩ = some (.int .i64 Ti)) := Lib.hid fun W' hb => ⟨(Blk.below hq1 hb).cell 0, (Blk.below (Sp.below h hWF) hb).cell 0, (Blk.below hxF hb).cell 0, by rw [← hPo]; exact (Blk.below hG1 hb).cell 1, by rw [← hFi]; exact (Blk.below hG1 hb).cell 2, by rw [← hTi]; exact (Blk.below hG1 hb).cell 3⟩
      have KD7 : Hid (Below Wf.heap.size Wf Wf.drew) := Lib.hid (Below.refl _ _).drew
      clear hrd hPo hFi hTi hln hx hfk h1 h2 h3 hM hfit hF hT hm ha hPg hxf hf3 hq1 hG1 hBF hG hlt
      show Exit.then _ _ Exit.normal _ _
      gi_wp2
      refine round_held (fun W' => W'.cell? ⟨w.heap.size, 0, none⟩ = some (.pointer (some ⟨q, 0, none⟩)) ∧ W'.cell? ⟨q, 0, none⟩ = some (.pointer (some ⟨p, 0, none⟩)) ∧ W'.cell? ⟨gx, 0, none⟩ = some (.int .i64 xf) ∧ W'.cell? ⟨G, 1, none⟩ = some (.int .i64 Po) ∧ W'.cell? ⟨G, 2, none⟩ = some (.int .i64 Fi) ∧ W'.cell? ⟨G, 3, none⟩ = some (.int .i64 Ti)) (by kernel_rfl) (by kernel_rfl) (fun _ _ hh => hh) (HK7.out _ KD7.out) (fun hHeld => ?_)
      refine wpAnyH_take (i := 0) (v := ?_) rfl (by kernel_rfl) (by kernel_rfl) (by kernel_rfl) (fun _ _ _ h => h) (Or.inl ⟨by rfl, ?_⟩) (by assumption) ?_
      rotate_left 1
      · intro wz hSw
        try dsimp only at hSw
        go_simp <;> with_reducible rfl
      try simp only [Act.put, List.setIfInBounds_toArray, List.set_cons_zero, List.set_cons_succ, List.getElem_toArray, List.getElem_cons_zero]
      refine wpAnyH_take (i := 1) (v := ?_) rfl (by kernel_rfl) (by kernel_rfl) (by kernel_rfl) (fun _ _ _ h => h) (Or.inl ⟨by rfl, ?_⟩) (by assumption) ?_
      rotate_left 1
      · intro wz hSw
        try dsimp only at hSw
        go_simp <;> with_reducible rfl
      try simp only [Act.put, List.setIfInBounds_toArray, List.set_cons_zero, List.set_cons_succ, List.getElem_toArray, List.getElem_cons_zero, List.getElem_cons_succ]
      refine wpAnyH_take (i := 2) (v := ?_) rfl (by kernel_rfl) (by kernel_rfl) (by kernel_rfl) (fun _ _ _ h => h) (Or.inl ⟨by rfl, ?_⟩) (by assumption) ?_
      rotate_left 1
      · intro wz hSw
        try dsimp only at hSw
        go_simp <;> with_reducible rfl
      try simp only [Act.put, List.setIfInBounds_toArray, List.set_cons_zero, List.set_cons_succ, List.getElem_toArray, List.getElem_cons_zero, List.getElem_cons_succ]
      refine wpAnyH_take (i := 3) (v := ?_) rfl (by kernel_rfl) (by kernel_rfl) (by kernel_rfl) (fun _ _ _ h => h) (Or.inl ⟨by rfl, ?_⟩) (by assumption) ?_
      rotate_left 1
      · intro wz hSw
        try dsimp only at hSw
        go_simp <;> with_reducible rfl
      try simp only [Act.put, List.setIfInBounds_toArray, List.set_cons_zero, List.set_cons_succ, List.getElem_toArray, List.getElem_cons_zero, List.getElem_cons_succ]
      refine wpAnyH_take (i := 4) (v := ?_) rfl (by kernel_rfl) (by kernel_rfl) (by kernel_rfl) (fun _ _ _ h => h) (Or.inl ⟨by rfl, ?_⟩) (by assumption) ?_
      rotate_left 1
      · intro wz hSw
        try dsimp only at hSw
        go_simp <;> with_reducible rfl
      try simp only [Act.put, List.setIfInBounds_toArray, List.set_cons_zero, List.set_cons_succ, List.getElem_toArray, List.getElem_cons_zero, List.getElem_cons_succ]
      refine wpAnyH_take (i := 5) (v := ?_) rfl (by kernel_rfl) (by kernel_rfl) (by kernel_rfl) (fun _ _ _ h => h) (Or.inl ⟨by rfl, ?_⟩) (by assumption) ?_
      rotate_left 1
      · intro wz hSw
        try dsimp only at hSw
        go_simp <;> with_reducible rfl
      try simp only [Act.put, List.setIfInBounds_toArray, List.set_cons_zero, List.set_cons_succ, List.getElem_toArray, List.getElem_cons_zero, List.getElem_cons_succ]
      refine wpAnyH_take (i := 6) (v := ?_) rfl (by kernel_rfl) (by kernel_rfl) (by kernel_rfl) (fun _ _ _ h => h) (Or.inl ⟨by rfl, ?_⟩) (by assumption) ?_
      rotate_left 1
      · intro wz hSw
        try dsimp only at hSw
        go_simp <;> with_reducible rfl
      try simp only [Act.put, List.setIfInBounds_toArray, List.set_cons_zero, List.set_cons_succ, List.getElem_toArray, List.getElem_cons_zero, List.getElem_cons_succ]
      refine wpAnyH_take (i := 7) (v := ?_) rfl (by kernel_rfl) (by kernel_rfl) (by kernel_rfl) (fun _ _ _ h => h) (Or.inl ⟨by rfl, ?_⟩) (by assumption) ?_
      rotate_left 1
      · intro wz hSw
        try dsimp only at hSw
        go_simp <;> with_reducible rfl
      try simp only [Act.put, List.setIfInBounds_toArray, List.set_cons_zero, List.set_cons_succ, List.getElem_toArray, List.getElem_cons_zero, List.getElem_cons_succ]
      refine wpAnyH_take (i := 8) (v := ?_) rfl (by kernel_rfl) (by kernel_rfl) (by kernel_rfl) (fun _ _ _ h => h) (Or.inl ⟨by rfl, ?_⟩) (by assumption) ?_
      rotate_left 1
      · intro wz hSw
        try dsimp only at hSw
        go_simp <;> with_reducible rfl
      try simp only [Act.put, List.setIfInBounds_toArray, List.set_cons_zero, List.set_cons_succ, List.getElem_toArray, List.getElem_cons_zero, List.getElem_cons_succ]
      refine wpAnyH_take (i := 9) (v := ?_) rfl (by kernel_rfl) (by kernel_rfl) (by kernel_rfl) (fun _ _ _ h => h) (Or.inl ⟨by rfl, ?_⟩) (by assumption) ?_
      rotate_left 1
      · intro wz hSw
        try dsimp only at hSw
        go_simp <;> with_reducible rfl
      try simp only [Act.put, List.setIfInBounds_toArray, List.set_cons_zero, List.set_cons_succ, List.getElem_toArray, List.getElem_cons_zero, List.getElem_cons_succ]
      refine wpAnyH_take (i := 10) (v := ?_) rfl (by kernel_rfl) (by kernel_rfl) (by kernel_rfl) (fun _ _ _ h => h) (Or.inl ⟨by rfl, ?_⟩) (by assumption) ?_
      rotate_left 1
      · intro wz hSw
        try dsimp only at hSw
        go_simp <;> with_reducible rfl
      try simp only [Act.put, List.setIfInBounds_toArray, List.set_cons_zero, List.set_cons_succ, List.getElem_toArray, List.getElem_cons_zero, List.getElem_cons_succ]
      refine wpAnyH_take (i := 11) (v := ?_) rfl (by kernel_rfl) (by kernel_rfl) (by kernel_rfl) (fun _ _ _ h => h) (Or.inl ⟨by rfl, ?_⟩) (by assumption) ?_
      rotate_left 1
      · intro wz hSw
        try dsimp only at hSw
        go_simp <;> with_reducible rfl
      try simp only [Act.put, List.setIfInBounds_toArray, List.set_cons_zero, List.set_cons_succ, List.getElem_toArray, List.getElem_cons_zero, List.getElem_cons_succ]
      refine wpAnyH_take (i := 12) (v := ?_) rfl (by kernel_rfl) (by kernel_rfl) (by kernel_rfl) (fun _ _ _ h => h) (Or.inl ⟨by rfl, ?_⟩) (by assumption) ?_
      rotate_left 1
      · intro wz hSw
        try dsimp only at hSw
        go_simp <;> with_reducible rfl
      try simp only [Act.put, List.setIfInBounds_toArray, List.set_cons_zero, List.set_cons_succ, List.getElem_toArray, List.getElem_cons_zero, List.getElem_cons_succ]
      refine wpAnyH_ready (rs := [13]) (by kernel_rfl) (by simp) ?_
      refine AllReadyH.cons rfl (fun K hK => ?_) ?_
      · go_simp
        go_wp2_with (first | (go_at_call 44; (with_reducible refine HRD.out.mono ?_); rintro e c7 ⟨hb7, r7, rfl, ho7⟩; have B7 := Lib.hid (KD7.out.trans (hb7.mono (by exact KD7.out.size))); have O7 := Lib.hid ho7; clear hb7 ho7))
        refine hK.out _ _ ?_ (fun hHeld => ?_)
        · try dsimp only
          exact HK7.out _ B7.out
        clear hK K
        refine wpAnyH_take (i := 14) (v := ?_) rfl (by kernel_rfl) (by kernel_rfl) (by kernel_rfl) (fun _ _ _ h => h) (Or.inl ⟨by rfl, ?_⟩) (by assumption) ?_
        rotate_left 1
        · intro wz hSw
          try dsimp only at hSw
          go_simp <;> with_reducible rfl
        try simp only [Act.put, List.setIfInBounds_toArray, List.set_cons_zero, List.set_cons_succ, List.getElem_toArray, List.getElem_cons_zero, List.getElem_cons_succ]
        refine wpAnyH_take (i := 15) (v := ?_) rfl (by kernel_rfl) (by kernel_rfl) (by kernel_rfl) (fun _ _ _ h => h) (Or.inl ⟨by rfl, ?_⟩) (by assumption) ?_
        rotate_left 1
        · intro wz hSw
          try dsimp only at hSw
          go_simp <;> with_reducible rfl
        try simp only [Act.put, List.setIfInBounds_toArray, List.set_cons_zero, List.set_cons_succ, List.getElem_toArray, List.getElem_cons_zero, List.getElem_cons_succ]
        refine wpAnyH_take (i := 16) (v := ?_) rfl (by kernel_rfl) (by kernel_rfl) (by kernel_rfl) (fun _ _ _ h => h) (Or.inl ⟨by rfl, ?_⟩) (by assumption) ?_
        rotate_left 1
        · intro wz hSw
          try dsimp only at hSw
          go_simp <;> with_reducible rfl
        try simp only [Act.put, List.setIfInBounds_toArray, List.set_cons_zero, List.set_cons_succ, List.getElem_toArray, List.getElem_cons_zero, List.getElem_cons_succ]
        refine wpAnyH_take (i := 17) (v := ?_) rfl (by kernel_rfl) (by kernel_rfl) (by kernel_rfl) (fun _ _ _ h => h) (Or.inl ⟨by rfl, ?_⟩) (by assumption) ?_
        rotate_left 1
        · intro wz hSw
          try dsimp only at hSw
          go_simp <;> with_reducible rfl
        try simp only [Act.put, List.setIfInBounds_toArray, List.set_cons_zero, List.set_cons_succ, List.getElem_toArray, List.getElem_cons_zero, List.getElem_cons_succ]
        refine wpAnyH_take (i := 18) (v := ?_) rfl (by kernel_rfl) (by kernel_rfl) (by kernel_rfl) (fun _ _ _ h => h) (Or.inl ⟨by rfl, ?_⟩) (by assumption) ?_
        rotate_left 1
        · intro wz hSw
          try dsimp only at hSw
          go_simp <;> with_reducible rfl
        try simp only [Act.put, List.setIfInBounds_toArray, List.set_cons_zero, List.set_cons_succ, List.getElem_toArray, List.getElem_cons_zero, List.getElem_cons_succ]
        refine wpAnyH_done (by kernel_rfl) ?_ _
        obtain ⟨ln0, rfl⟩ : ∃ k, ln = k + 1 := ⟨ln - 1, by have := HLN.out; omega⟩
        have ho7 := O7.out
        obtain ⟨g7, cap7, rfl⟩ := ownsRow_succ ho7
        have hB7 : Below W.heap.size W c7 := HBF.out.trans (B7.out.mono HBF.out.size)
        have hv7 := Blk.below hv0 hB7
        have hrow7 := own_below hrow hB7
        have hlenr := rdl_len B T a m i (by have := HLT.out; omega)
        obtain ⟨i0, hi0, hz0, hz1, hz2⟩ := info_parts Fr.info5
        have hnews : ∀ j u, (u8s (pl B T a m i))[j]? = some u → c7.cell? ((⟨g7, 0, none⟩ : Addr).add j) = some u := by
          intro j u hj
          obtain ⟨_, ⟨h0, _⟩ | ⟨g8, cap8, cur8, hv8, hg8, hb8, hc8, hm8, hs8, he8⟩⟩ := ho7
          · cases h0
          · cases hv8
            rw [Addr.add_mid, Nat.zero_add, Blk.cell (show Blk c7 g7 cur8 _ from hb8)]
            have hjl : j < (ln0 + 1) * 1 := by
              have := (List.getElem?_eq_some_iff.1 hj).1
              rw [HPL.out] at this
              omega
            have := congrArg (fun l => l[j]?) he8
            simp only [List.getElem?_take, hjl, if_true, Array.getElem?_toList] at this
            rw [this, HU.out]
            exact hj
        obtain ⟨v', w9, hrun0, hown9, hgr9, -⟩ := run_append_own (P := Tryd.prog) (w := c7) W0.heap.size 37 37 5 i0 (.int .u8 0) 1 1 Tryd.underlying37 hi0 hz0 hz1 hz2 rfl (by decide) v0 _ _ hrow7 ⟨g7, 0, none⟩ (ln0 + 1) cap7 (u8s (pl B T a m i)) (by rw [HPL.out, Nat.mul_one]) hnews (u8s_one _) (by unfold maxLen; have := HLN.out; omega) (by have := HLN.out; omega) (by have := hB7.size; have := HGS.out; omega)
        obtain ⟨g9, cap9, rfl⟩ := ownsRow_succ (k := min m (fr a i) + ln0) hown9
        have hrun : (Fr.appO #[37, 37] 37 #[v0, .slice (some ⟨g7, 0, none⟩) (ln0 + 1) cap7]).run Tryd.prog c7 = .ok (.slice (some ⟨g9, 0, none⟩) (min m (fr a i) + ln0 + 1) cap9) w9 := hrun0
        have hown : ∀ k, v0.ownBlock = some k → W0.heap.size ≤ k ∧ ∃ cur, Blk c7 k cur 5 := fun k e => by
          obtain ⟨_, ⟨h0, _⟩ | ⟨g8, cap8, cur8, hv8, hg8, hb8, _⟩⟩ := hrow7
          · subst h0; cases e
          · subst hv8; cases e; exact ⟨hg8, cur8, hb8⟩
        have hkeep9 : ∀ (k : Nat) (cs : Array Value) (TT : TypeId), Blk c7 k cs TT → TT ≠ 5 → Blk w9 k cs TT := fun k cs TT hk hT9 => (hgr9.block k (Blk.lt hk) (fun e => by obtain ⟨_, cur, hc⟩ := hown k e.symm; exact hk.ne hc hT9 rfl)).trans hk
        have hv9 := hkeep9 _ _ _ hv7 (by decide)
        have hs9 : Blk (w9.setCell ⟨w3.heap.size, 0, none⟩ (.slice (some ⟨g9, 0, none⟩) (min m (fr a i) + ln0 + 1) cap9)) w3.heap.size #[.slice (some ⟨g9, 0, none⟩) (min m (fr a i) + ln0 + 1) cap9] 37 := by
          have := hv9.set 0 (.slice (some ⟨g9, 0, none⟩) (min m (fr a i) + ln0 + 1) cap9)
          simpa using this
        have cv := Blk.cell hv7 0
        have cv9 := Blk.cell hv9 0
        have cf9 := Blk.free hv9 0
        have hrow9 : (w9.setCell ⟨w3.heap.size, 0, none⟩ (.slice (some ⟨g9, 0, none⟩) (min m (fr a i) + ln0 + 1) cap9)).ownsRow W0.heap.size 5 1 (.slice (some ⟨g9, 0, none⟩) (min m (fr a i) + ln0 + 1) cap9) (min m (fr a (i + 1))) (u8s (rdl B T a m (i + 1))) := by
          rw [show min m (fr a (i + 1)) = min m (fr a i) + (ln0 + 1) from HMN.out, show u8s (rdl B T a m (i + 1)) = u8s (rdl B T a m i) ++ u8s (pl B T a m i) from u8s_app _ _]
          refine ⟨hown9.1, ?_⟩
          rcases hown9.2 with h2 | ⟨g, cap, cur, hv, hg, hh, h3⟩
          · exact .inl h2
          · exact .inr ⟨g, cap, cur, hv, hg, (Below.heap_setCell _ _ _ g (fun e => by
              have e : g = w3.heap.size := e
              have := HSZ.out
              omega)).trans hh, h3⟩
        have hBB : Below w3.heap.size w3 (w9.setCell ⟨w3.heap.size, 0, none⟩ (.slice (some ⟨g9, 0, none⟩) (min m (fr a i) + ln0 + 1) cap9)) := ((hB3.trans (hB7.mono hB3.size)).grown hgr9 (by have := hB7.size; have := hB3.size; omega) (fun k e => by have := (hown k e).1; have := HSZ.out; omega)).setCell (Nat.le_refl _) _
        have hKO : KeepsOthers c7 w9 := KeepsOthers.of_grownBy hgr9 (fun j o e ho => by obtain ⟨_, cur, hc⟩ := hown j e; rw [show c7.heap[j]? = _ from hc] at ho; cases ho; rfl)
        have hKB : Kb (w3.heap.size + 1) (w3.heap.size + 1 + 1) c7 w9 := fun k hk hl => hgr9.block k hl (fun e => by
          obtain ⟨h1, cur, hc⟩ := hown k e.symm
          have := HSZ.out
          rcases hk with rfl | rfl | ⟨cs, z, hc2⟩
          · omega
          · omega
          · rw [show c7.heap[k]? = _ from hc] at hc2; cases hc2)
        have HO : Hid (∀ A, Post W0.heap.size (w3.heap.size + 1) (w3.heap.size + 1 + 1) (fun i W => Blk W w.heap.size #[.pointer (some ⟨q, 0, none⟩)] 22 ∧ Below w3.heap.size w3 W ∧ ∃ v, Blk W w3.heap.size #[v] 37 ∧ W.ownsRow W0.heap.size 5 1 v (min m (fr a i)) (u8s (rdl B T a m i))) (fun c i W => False) i W .normal A (w9.setCell ⟨w3.heap.size, 0, none⟩ (.slice (some ⟨g9, 0, none⟩) (min m (fr a i) + ln0 + 1) cap9))) := Lib.hid fun A =>
          ⟨(((Ro.keeps_below hB7).trans hKO).trans (KeepsOthers.setCell _ _ _)).from _, (kb_below hB7).trans (hKB.trans (kb_set hv9 (by decide) (by omega) (by omega) 0 (.slice (some ⟨g9, 0, none⟩) (min m (fr a i) + ln0 + 1) cap9))), Blk.other (hkeep9 _ _ _ (Blk.below hq0 hB7) (by decide)) _ _ _ (by have := HW3.out; omega), hBB, _, hs9, hrow9⟩
        clear hnews hrun0 hown9 hgr9 hown hkeep9 hv9 hs9 hrow9 hBB hKO hKB hv7 hrow7 hlenr hB7 ho7 hi0 hz0 hz1 hz2 hrow hv0 hq0
        gi_wp2
        exact HO.out _
      exact AllReadyH.nil
  case done =>
    rintro D W hD ⟨hq0, hB, v, hv, hrow⟩ hK
    rw [to_last] at hrow
    have c0 := Blk.cell hv 0
    have HR := Lib.hid (own_base (ownsRow_putObj hrow (.deferred none) hK rfl) (show w.heap.size ≤ W0.heap.size by omega))
    have HBl := Lib.hid (hB3.trans ((hB.trans (belowK_b (w := w3) (Nat.le_refl _) W D _ (.deferred none) (by omega) hK rfl rfl)).mono hB3.size))
    clear hq0 hB hv hrow
    gi_wp2
    refine ⟨by simp, .inl ⟨_, _, rfl, run_takeDeferred hK, ?_⟩⟩
    refine ⟨.tuple #[v, .int .i64 0], ?_, HBl.out, v, rfl, HR.out⟩
    simp [results, go_sem]
theorem read_any (w : World) (q p t b nf : Nat) (T : Nat → Option En) (R : Nat → Nat) (B : Nat → Nat → Nat) (h : Sp w q p t) (hF : Fm.Mem w p b nf R B) (hT : Tm.Mem w t T) (hfit : Fit nf R T)
    (a m : Nat) (hm : m ≤ 1000000) (ha : a < 4294967296) (hM : mayB T a m false = true) :
    Calls Tryd.prog 21 #[.pointer (some ⟨q, 0, none⟩), .int .u32 (a : Int), .int .i64 (m : Int)] w fun e w' => Below w.heap.size w w' ∧ ∃ r, e = .returned (.tuple #[r, .int .i64 0]) ∧ w'.ownsRow w.heap.size 5 1 r m (u8s (rdl B T a m (cn a m))) :=
  (callsIn_wide (n := 6)).1 (read_in 6 (Nat.le_refl _) w q p t b nf T R B h hF hT hfit a m hm ha hM)
end Go.Proofs.YtjoapeeljigjcaaDoor.Re
