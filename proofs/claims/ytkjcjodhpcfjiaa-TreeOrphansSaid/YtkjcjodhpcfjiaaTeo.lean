/-
  Zombie, Reap.
-/
import Derived.Test.YtkjcjodhpcfjiaaTen
namespace Go.Proofs.Ytkjcjodhpcfjiaa.Teo
open Go Go.RowKit Go.Shelf Kit Bk Tea Teb Tec Ted Tee Tef Teg Teh Tei Tej Tek Tel Tem Ten
set_option linter.unusedVariables false
attribute [local go_sem] Oper.semAt_some

variable {B : Nat} {w W : World} {q b : Nat} {v : Value} {rm : Nat} {L M : St} {S : List Bool} {p : Int}
/-- The least zombie. -/
def zf (L : St) (p : Int) : Option Pr := (kl L p).find? fun x => x.2.st == 2
def zb (L : St) (p : Int) : Int × Nat × Int := if (gt L p).st = 1 then (match zf L p with | some x => (x.1, x.2.su, 0) | none => (0, 0, if kl L p = [] then 152 else 151)) else (0, 0, 2)
theorem zf_some {i : Nat} (hi : i < (kl L p).length) (h2 : (rc (kl L p) i).st = 2) (hn : ∀ j, j < i → (rc (kl L p) j).st ≠ 2) : zf L p = some (pd (kl L p) i, rc (kl L p) i) := by
  unfold zf
  rw [pd_at hi, rc_at hi]
  rw [rc_at hi] at h2
  rw [List.find?_eq_some_iff_getElem]
  refine ⟨by simpa using h2, i, hi, rfl, fun j hj => ?_⟩
  have := hn j hj
  rw [rc_at (Nat.lt_trans hj hi)] at this
  simpa using this
theorem zf_none (hn : ∀ j, j < (kl L p).length → (rc (kl L p) j).st ≠ 2) : zf L p = none := by
  unfold zf
  rw [List.find?_eq_none]
  intro x hx
  obtain ⟨j, hj, rfl⟩ := List.getElem_of_mem hx
  have := hn j hj
  rw [rc_at hj] at this
  simpa using this
set_option maxRecDepth 100000 in
set_option maxHeartbeats 2000000 in
theorem zombie_no (h : Tb B w q b v rm L S) (ho : Okt rm L S) (hp : (Lit.int .i64 p).wf = true) (hz : (gt L p).st ≠ 1) :
    Calls Try.prog 30 #[pv q, .int .i64 p] w fun e w' => e = .returned (.tuple #[.int .i64 0, .int .u32 0, .int .i64 2]) ∧ Below w.heap.size w w' := by
  have b1 := (Below.refl w.heap.size w).alloc (Nat.le_refl _) (.cells #[.int .i64 0] 3)
  have b2 := b1.alloc b1.size (.cells #[.int .u32 0] 28)
  have b3 := b2.alloc b2.size (.cells #[.int .i64 0] 25)
  have HD := Lib.hid (made_any (h.below b3) ho.room.1)
  have HS := Lib.hid (state_any (h.below b3) hp)
  have d1 : ((gt L p).st != 1) = true := by simpa using hz
  clear h ho hz
  generalize (gt L p).st = z at *
  have hx := Lib.hid b3
  clear b1 b2 b3
  go_enter Try.func30, Try.ntmps30
  go_wp2
  refine wp_scope_straight ?_
  go_wp2_with (first
    | (go_at_call 26; (with_reducible refine HD.out.mono ?_); rintro e w1 ⟨rfl, rfl⟩)
    | (go_at_call 25; (with_reducible refine HS.out.mono ?_); rintro e w1 ⟨rfl, rfl⟩))
  rw [Exit.noGoto_ret]
  have c1 := Boxed.new w 3 (.int .i64 0)
  have c2 := Boxed.new (w.alloc (.cells #[.int .i64 0] 3)) 28 (.int .u32 0)
  have c3 := Boxed.new ((w.alloc (.cells #[.int .i64 0] 3)).alloc (.cells #[.int .u32 0] 28)) 25 (.int .i64 2)
  have b1 := (Below.refl w.heap.size w).alloc (Nat.le_refl _) (.cells #[.int .i64 0] 3)
  have b2 := b1.alloc b1.size (.cells #[.int .u32 0] 28)
  have b3 := b2.alloc b2.size (.cells #[.int .i64 2] 25)
  refine bodyPost_ret (res_box rfl _ _ w.heap.size (w.heap.size + 1) (w.heap.size + 1 + 1) _ _ _ rfl rfl rfl ((c1.alloc _).alloc _).cell (by have := (c2.alloc (.cells #[.int .i64 2] 25)).cell; simpa using this) (by have := c3.cell; simpa using this)) rfl ?_
  exact ⟨rfl, b3⟩
/-- The least zombie, as far as it has been looked for. -/
structure Zi (B : Nat) (w : World) (q b : Nat) (v : Value) (rm : Nat) (L : St) (S : List Bool) (p : Int) (i : Nat) (W : World) : Prop where
  one : Blk W w.heap.size #[.int .i64 0] 3
  two : Blk W (w.heap.size + 1) #[.int .u32 0] 28
  thr : Blk W (w.heap.size + 1 + 1) #[.int .i64 (if i = 0 then 152 else 151)] 25
  tb : Tb B W q b v rm L S
  bel : Below w.heap.size w W
  no : ∀ j, j < i → (rc (kl L p) j).st ≠ 2
theorem Zi.kz {B0 i : Nat} {X Y : World} (h : Zi B w q b v rm L S p i X) (hB : w.heap.size ≤ B0) (hb : b < B0) (hk : Kz B0 X Y) : Zi B w q b v rm L S p i Y :=
  ⟨Blk.kz h.one hk, Blk.kz h.two hk, Blk.kz h.thr hk, Tb.kz h.tb hb hk, (Kp.kz hB (Kp.of_below (S := fun _ => False) h.bel) hk).below (Nat.le_refl _) (fun _ e => e.elim), h.no⟩
/-- What lies in the three boxes. -/
structure Bs3 (w W : World) (v1 v2 v3 : Value) : Prop where
  one : Blk W w.heap.size #[v1] 3
  two : Blk W (w.heap.size + 1) #[v2] 28
  thr : Blk W (w.heap.size + 1 + 1) #[v3] 25
  bel : Below w.heap.size w W
/-- The three boxes. -/
def zbx (w : World) (k : Nat) : Prop := k = w.heap.size ∨ k = w.heap.size + 1 ∨ k = w.heap.size + 1 + 1
/-- A zombie was found. -/
structure Zx (w : World) (L : St) (p : Int) (i : Nat) (W : World) : Prop where
  one : Blk W w.heap.size #[.int .i64 (pd (kl L p) i)] 3
  two : Blk W (w.heap.size + 1) #[uv (rc (kl L p) i).su] 28
  thr : Blk W (w.heap.size + 1 + 1) #[.int .i64 0] 25
  bel : Below w.heap.size w W
  is : (rc (kl L p) i).st = 2
  no : ∀ j, j < i → (rc (kl L p) j).st ≠ 2
theorem Zx.kz {B0 i : Nat} {X Y : World} (h : Zx w L p i X) (hB : w.heap.size ≤ B0) (hk : Kz B0 X Y) : Zx w L p i Y :=
  ⟨Blk.kz h.one hk, Blk.kz h.two hk, Blk.kz h.thr hk, (Kp.kz hB (Kp.of_below (S := fun _ => False) h.bel) hk).below (Nat.le_refl _) (fun _ e => e.elim), h.is, h.no⟩
theorem blk_drew {W : World} {g : Nat} {cs : Array Value} {T : TypeId} (h : Blk W g cs T) : Blk W.drew g cs T := h
theorem blk_other {W : World} {g k : Nat} {cs : Array Value} {T : TypeId} {u : Value} (hn : g ≠ k) (h : Blk W g cs T) : Blk (W.setCell ⟨k, 0, none⟩ u) g cs T := h.other k 0 u hn
theorem blk_set {W : World} {g : Nat} {T : TypeId} {u : Value} (x : Value) (h : Blk W g #[x] T) : Blk (W.setCell ⟨g, 0, none⟩ u) g #[u] T := h.set 0 u
theorem kp_drew {F : Nat → Prop} {X W : World} (h : Kp F X W) : Kp F X W.drew := h.drew
theorem kp_set {F : Nat → Prop} {X W : World} {k : Nat} {u : Value} (hk : F k) (h : Kp F X W) : Kp F X (W.setCell ⟨k, 0, none⟩ u) := h.trans (Kp.set (S := F) _ _ _ _ hk) (fun _ e => .inl e)
theorem kf_kp {F : Nat → Prop} {B0 : Nat} {X Y : World} (h : Kp F X Y) (hF : ∀ j, F j → j < B0) : KeepsFrom B0 X Y := keeps_of h (fun j e => .inl (hF j e))
set_option maxRecDepth 100000 in
set_option maxHeartbeats 4000000 in
theorem zombie_in (n : Nat) (hn : 8 ≤ n) (h : Tb B w q b v rm L S) (ho : Okt rm L S) (hp : (Lit.int .i64 p).wf = true) (hz : (gt L p).st = 1) :
    CallsIn Fence.wide n Try.prog 30 #[pv q, .int .i64 p] w fun e w' => e = .returned (.tuple #[.int .i64 (zb L p).1, uv (zb L p).2.1, .int .i64 (zb L p).2.2]) ∧ Below w.heap.size w w' := by
  have hfr := h.fr_lt
  have hll : L.length < 80000 := by have := ho.len; have := ho.room; omega
  have b1 := (Below.refl w.heap.size w).alloc (Nat.le_refl _) (.cells #[.int .i64 0] 3)
  have b2 := b1.alloc b1.size (.cells #[.int .u32 0] 28)
  have b3 := b2.alloc b2.size (.cells #[.int .i64 0] 25)
  have HD := Lib.hid (made_any (h.below b3) ho.room.1)
  have HS := state_any (h.below b3) hp
  rw [hz] at HS
  replace HS := Lib.hid HS
  refine callsIn_of_wp_marks Try.func30 rfl trivial ?_ rfl
  simp only [Try.ntmps30, List.size_toArray, List.length_cons, List.length_nil, Nat.reduceAdd, Nat.reduceSub, Array.replicate_succ, Array.replicate_zero, List.push_toArray, List.append_toArray, List.nil_append, List.cons_append]
  gi_wp2
  refine wpIn_wide.2 (wp_scope_straight ((wpIn_wide (n := n)).1 ?_))
  gi_wp2_with (first
    | (refine ⟨trivial, ?_⟩; gi_at_call 26; refine (callsIn_wide.2 HD.out).mono ?_; rintro e w' ⟨rfl, rfl⟩)
    | (refine ⟨trivial, fun _ => (by omega), ?_⟩; gi_at_call 26; refine (callsIn_wide.2 HD.out).mono ?_; rintro e w' ⟨rfl, rfl⟩)
    | (refine ⟨trivial, ?_⟩; gi_at_call 25; refine (callsIn_wide.2 HS.out).mono ?_; rintro e w' ⟨rfl, rfl⟩)
    | (refine ⟨trivial, fun _ => (by omega), ?_⟩; gi_at_call 25; refine (callsIn_wide.2 HS.out).mono ?_; rintro e w' ⟨rfl, rfl⟩)
    | (refine ⟨trivial, ?_⟩; gi_at_call 28; refine (children_in (n - 1) _ _ _).mono ?_; rintro e w' ⟨rfl, rfl⟩)
    | (refine ⟨trivial, fun _ => (by omega), ?_⟩; gi_at_call 28; refine (children_in (n - 1) _ _ _).mono ?_; rintro e w' ⟨rfl, rfl⟩))
  refine wpIn_label ?_
  gi_wp2_with (first
    | (refine ⟨trivial, ?_⟩; gi_at_call 26; refine (callsIn_wide.2 HD.out).mono ?_; rintro e w' ⟨rfl, rfl⟩)
    | (refine ⟨trivial, fun _ => (by omega), ?_⟩; gi_at_call 26; refine (callsIn_wide.2 HD.out).mono ?_; rintro e w' ⟨rfl, rfl⟩)
    | (refine ⟨trivial, ?_⟩; gi_at_call 25; refine (callsIn_wide.2 HS.out).mono ?_; rintro e w' ⟨rfl, rfl⟩)
    | (refine ⟨trivial, fun _ => (by omega), ?_⟩; gi_at_call 25; refine (callsIn_wide.2 HS.out).mono ?_; rintro e w' ⟨rfl, rfl⟩)
    | (refine ⟨trivial, ?_⟩; gi_at_call 28; refine (children_in (n - 1) _ _ _).mono ?_; rintro e w' ⟨rfl, rfl⟩)
    | (refine ⟨trivial, fun _ => (by omega), ?_⟩; gi_at_call 28; refine (children_in (n - 1) _ _ _).mono ?_; rintro e w' ⟨rfl, rfl⟩))
  clear HD HS b1 b2 b3
  have b1 := (Below.refl w.heap.size w).alloc (Nat.le_refl _) (.cells #[.int .i64 0] 3)
  have b2 := b1.alloc b1.size (.cells #[.int .u32 0] 28)
  have b3 := b2.alloc b2.size (.cells #[.int .i64 152] 25)
  have b4 := b3.alloc b3.size (.cells #[pv q] 22)
  have hB0 := b4.alloc b4.size (.cells #[.int .i64 p] 3)
  have k1 := ((((Boxed.new w 3 (.int .i64 0)).alloc (.cells #[.int .u32 0] 28)).alloc (.cells #[.int .i64 152] 25)).alloc (.cells #[pv q] 22)).alloc (.cells #[.int .i64 p] 3)
  have k2 := (((Boxed.new (w.alloc (.cells #[.int .i64 0] 3)) 28 (.int .u32 0)).alloc (.cells #[.int .i64 152] 25)).alloc (.cells #[pv q] 22)).alloc (.cells #[.int .i64 p] 3)
  have k3 := ((Boxed.new ((w.alloc (.cells #[.int .i64 0] 3)).alloc (.cells #[.int .u32 0] 28)) 25 (.int .i64 152)).alloc (.cells #[pv q] 22)).alloc (.cells #[.int .i64 p] 3)
  have bT := (Boxed.new (((w.alloc (.cells #[.int .i64 0] 3)).alloc (.cells #[.int .u32 0] 28)).alloc (.cells #[.int .i64 152] 25)) 22 (pv q)).alloc (.cells #[.int .i64 p] 3)
  have bP := Boxed.new ((((w.alloc (.cells #[.int .i64 0] 3)).alloc (.cells #[.int .u32 0] 28)).alloc (.cells #[.int .i64 152] 25)).alloc (.cells #[pv q] 22)) 3 (.int .i64 p)
  have hsz : (((((w.alloc (.cells #[.int .i64 0] 3)).alloc (.cells #[.int .u32 0] 28)).alloc (.cells #[.int .i64 152] 25)).alloc (.cells #[pv q] 22)).alloc (.cells #[.int .i64 p] 3)).heap.size = w.heap.size + 5 := by simp
  simp only [World.size_alloc] at k2 k3 bT bP ⊢
  obtain ⟨W0, hW0⟩ : ∃ W0, ((((w.alloc (.cells #[.int .i64 0] 3)).alloc (.cells #[.int .u32 0] 28)).alloc (.cells #[.int .i64 152] 25)).alloc (.cells #[pv q] 22)).alloc (.cells #[.int .i64 p] 3) = W0 := ⟨_, rfl⟩
  clear b1 b2 b3 b4
  rw [hW0] at k1 k2 k3 bT bP hB0 hsz ⊢
  clear hW0
  have hT0 : Zi B w q b v rm L S p 0 W0 := ⟨k1, k2, k3, h.below hB0, hB0, fun j hj => absurd hj (Nat.not_lt_zero _)⟩
  have hb0 := h.map.lt
  have hkl := kl_le L p
  have hmine : ∀ X, Below W0.heap.size W0 X → ∀ k, Mine (zbx w) b X k → zbx w k ∨ k = b := fun X hX k e => by
    rcases e with e | e | ⟨g2, (rfl | rfl | rfl), v', T, z, e1, e2⟩
    · exact .inl e
    · exact .inr e
    · rw [hX.block _ k1.lt, show W0.heap[w.heap.size]? = _ from k1] at e1
      cases e1
      cases e2
    · rw [hX.block _ k2.lt, show W0.heap[w.heap.size + 1]? = _ from k2] at e1
      cases e1
      cases e2
    · rw [hX.block _ k3.lt, show W0.heap[w.heap.size + 1 + 1]? = _ from k3] at e1
      cases e1
      cases e2
  refine tells_loop (by omega) eg_children (c := (kl L p).length) (v1 := fun i => .int .i64 (pd (kl L p) i)) (v2 := fun i => rv (rc (kl L p) i)) (E := Ec q b L p) (P := zbx w) (b := b) (fv := #[.pointer (some ⟨w.heap.size + 1 + 1 + 1, 0, none⟩), .pointer (some ⟨w.heap.size + 1 + 1 + 1 + 1, 0, none⟩)]) rfl (fun k hk => by unfold zbx at hk; omega)
    (fun W1 hW1 hs1 => children_tells (h.below (hB0.trans (hW1.mono hB0.size))) ho.ok.up (by omega) ((hW1.block _ bT.lt).trans bT) ((hW1.block _ bP.lt).trans bP) (fun k hk => by
      have := hmine W1 hW1 k hk
      unfold zbx at this
      omega))
    (fun i X => Zi B w q b v rm L S p i X) (fun cc i X => cc = .exit 1 ∧ Zx w L p i X)
    (fun i X hi k hk => Tb.er hi.tb ho.ok k) (fun i X Y hk hi => hi.kz (by omega) (by omega) hk) (fun cc i X Y hk hi => ⟨hi.1, hi.2.kz (by omega) hk⟩)
    (fun s0 i a' X => ∃ r, a' = { tmps := #[pv q, .int .i64 p, undef, undef, .pointer (some ⟨w.heap.size, 0, none⟩), .pointer (some ⟨w.heap.size + 1, 0, none⟩), .pointer (some ⟨w.heap.size + 1 + 1, 0, none⟩), .int .i64 (pd (kl L p) i), .pointer (some ⟨r, 0, none⟩), .bool false, pv q, .bool true, .bool false, .bool false, pv q, .int .i64 p, .int .i64 1, .bool false, pv q, .int .i64 p, .func (.func 40) #[] #[.pointer (some ⟨w.heap.size + 1 + 1 + 1, 0, none⟩), .pointer (some ⟨w.heap.size + 1 + 1 + 1 + 1, 0, none⟩)], .int .i64 (pd (kl L p) i), rv (rc (kl L p) i), undef, undef, undef, undef, undef, undef, undef, undef, undef, undef], defers := [] } ∧ Blk X r #[.int .i64 (rc (kl L p) i).par, .int .i64 (rc (kl L p) i).st, uv (rc (kl L p) i).su] 61)
    (fun s0 i a' X Y hk ⟨r, e, hb⟩ => ⟨r, e, (hk.block r hb.lt (.inr ⟨_, _, _, hb⟩)).trans hb⟩)
    hT0 ?assign ?body ?done ?stop
  case assign =>
    intro l i W K hic hi hW hK
    generalize rc (kl L p) i = r at *
    unfold rv
    gi_wp2
    exact hK _ _ ((Below.refl _ _).alloc (Nat.le_refl _) _) ⟨_, rfl, Blk.new _ _ _⟩
  case body =>
    rintro l i s0 a' X hlw hZ ⟨r, rfl, hr⟩ hic hs0 hs1
    have hXs : W0.heap.size ≤ X.heap.size := Nat.le_trans hs0 hs1
    have hne1 : r ≠ w.heap.size := hr.ne hZ.one (by decide)
    have hne2 : r ≠ w.heap.size + 1 := hr.ne hZ.two (by decide)
    have hne3 : r ≠ w.heap.size + 1 + 1 := hr.ne hZ.thr (by decide)
    have z1 : X.cell? ⟨w.heap.size, 0, none⟩ = some (.int .i64 0) := hZ.one.cell 0
    have z2 : X.cell? ⟨w.heap.size + 1, 0, none⟩ = some (.int .u32 0) := hZ.two.cell 0
    have z3 : X.cell? ⟨w.heap.size + 1 + 1, 0, none⟩ = some (.int .i64 (if i = 0 then 152 else 151)) := hZ.thr.cell 0
    have f1 := hZ.one.free 0
    have f2 := hZ.two.free 0
    have f3 := hZ.thr.free 0
    have r1 : X.cell? ⟨r, 1, none⟩ = some (.int .i64 (rc (kl L p) i).st) := hr.cell 1
    have r2 : X.cell? ⟨r, 2, none⟩ = some (uv (rc (kl L p) i).su) := hr.cell 2
    have HX := Lib.hid (And.intro hXs hsz)
    have hzl : ∀ j, zbx w j → w.heap.size ≤ j ∧ j < W0.heap.size := fun j e => by unfold zbx at e; omega
    by_cases h2 : (rc (kl L p) i).st = 2
    · have HF : Hid (∀ (Y : World) (a : Act), Kp (zbx w) X Y → Blk Y w.heap.size #[.int .i64 (pd (kl L p) i)] 3 → Blk Y (w.heap.size + 1) #[uv (rc (kl L p) i).su] 28 → Blk Y (w.heap.size + 1 + 1) #[.int .i64 0] 25 →
          Post s0 W0.heap.size (zbx w) b (fun i X => Zi B w q b v rm L S p i X) (fun cc i X => cc = Code.exit 1 ∧ Zx w L p i X) i X (Exit.exit 1) a Y) := Lib.hid (fun Y a hk o1 o2 o3 =>
        ⟨kf_kp hk (fun j e => (hzl j e).2), rfl, o1, o2, o3, hZ.bel.trans (hk.below hZ.bel.size (fun j e => (hzl j e).1)), h2, hZ.no⟩)
      have o1 := hZ.one
      have o2 := hZ.two
      have o3 := hZ.thr
      have HO := Lib.hid (And.intro o1 (And.intro o2 o3))
      rw [h2] at r1
      clear hT0 h ho hb0 hmine hZ h2 hr o1 o2 o3
      generalize (if i = 0 then (152 : Int) else 151) = e0 at *
      generalize rc (kl L p) i = x at *
      generalize pd (kl L p) i = y at *
      gi_wp2
      gi_region
      all_goals
        gi_wp2
        refine HF.out _ _ ?_ ?_ ?_ ?_
        · repeat (first | with_reducible refine kp_drew ?_ | with_reducible refine kp_set (by simp [zbx]) ?_)
          exact Kp.refl _ _
        · repeat (first | with_reducible refine blk_drew ?_ | with_reducible refine blk_other (by omega) ?_ | with_reducible refine blk_set (.int .i64 0) ?_)
          exact HO.out.1
        · repeat (first | with_reducible refine blk_drew ?_ | with_reducible refine blk_other (by omega) ?_ | with_reducible refine blk_set (.int .u32 0) ?_)
          exact HO.out.2.1
        · repeat (first | with_reducible refine blk_drew ?_ | with_reducible refine blk_other (by omega) ?_ | with_reducible refine blk_set (.int .i64 e0) ?_)
          exact HO.out.2.2
    · have d1 : ((rc (kl L p) i).st == 2) = false := by simpa using h2
      have HE : Hid (KeepsFrom W0.heap.size X (X.setCell ⟨w.heap.size + 1 + 1, 0, none⟩ (.int .i64 151)) ∧ Stay (zbx w) b X (X.setCell ⟨w.heap.size + 1 + 1, 0, none⟩ (.int .i64 151)) ∧ Zi B w q b v rm L S p (i + 1) (X.setCell ⟨w.heap.size + 1 + 1, 0, none⟩ (.int .i64 151))) := Lib.hid (by
        have hk : Kp (fun j => j = w.heap.size + 1 + 1) X (X.setCell ⟨w.heap.size + 1 + 1, 0, none⟩ (.int .i64 151)) := Kp.set _ _ _ _ rfl
        have ht := hZ.thr.set 0 (.int .i64 151)
        have h1 := hZ.one.other (w.heap.size + 1 + 1) 0 (.int .i64 151) (by omega)
        have h2' := hZ.two.other (w.heap.size + 1 + 1) 0 (.int .i64 151) (by omega)
        refine ⟨kf_kp hk (fun j e => by omega), stay_of hk (fun j e => .inl (.inr (.inr e))) (fun k e => ?_), h1, h2', ?_, hZ.tb.kept hk (fun j e e2 => by have := hfr j e; omega), hZ.bel.trans (hk.below hZ.bel.size (fun j e => by omega)), fun j hj => ?_⟩
        · rcases e with e | e | ⟨g2, (rfl | rfl | rfl), v', T, z, e1, e2⟩
          · exact .inl (.inl e)
          · exact .inl (.inr (.inl e))
          · rw [show (X.setCell ⟨w.heap.size + 1 + 1, 0, none⟩ (.int .i64 151)).heap[w.heap.size]? = _ from h1] at e1
            cases e1
            cases e2
          · rw [show (X.setCell ⟨w.heap.size + 1 + 1, 0, none⟩ (.int .i64 151)).heap[w.heap.size + 1]? = _ from h2'] at e1
            cases e1
            cases e2
          · rw [show (X.setCell ⟨w.heap.size + 1 + 1, 0, none⟩ (.int .i64 151)).heap[w.heap.size + 1 + 1]? = _ from ht] at e1
            cases e1
            cases e2
        · rw [if_neg (Nat.succ_ne_zero i)]
          exact ht
        · by_cases e : j = i
          · subst e; exact h2
          · exact hZ.no j (by omega))
      clear hT0 h ho hb0 hmine hZ h2 hr
      generalize (if i = 0 then (152 : Int) else 151) = e0 at *
      generalize rc (kl L p) i = x at *
      generalize pd (kl L p) i = y at *
      gi_wp2
      exact ⟨HE.out.1, StayB.of HE.out.2.1, HE.out.2.2⟩
  case done =>
    rintro D W hD hZ hK
    have HR : Hid (zb L p = (0, 0, if (kl L p).length = 0 then 152 else 151)) := Lib.hid (by
      unfold zb
      rw [if_pos hz, zf_none hZ.no]
      dsimp only
      by_cases e : kl L p = []
      · rw [if_pos e, e]; rfl
      · rw [if_neg e, if_neg (fun h => e (List.eq_nil_of_length_eq_zero h))])
    have z1 : W.cell? ⟨w.heap.size, 0, none⟩ = some (.int .i64 0) := hZ.one.cell 0
    have z2 : W.cell? ⟨w.heap.size + 1, 0, none⟩ = some (.int .u32 0) := hZ.two.cell 0
    have z3 : W.cell? ⟨w.heap.size + 1 + 1, 0, none⟩ = some (.int .i64 (if (kl L p).length = 0 then 152 else 151)) := hZ.thr.cell 0
    have f1 := hZ.one.free 0
    have f2 := hZ.two.free 0
    have f3 := hZ.thr.free 0
    have HE : Hid (Bs3 w W (.int .i64 0) (.int .u32 0) (.int .i64 (if (kl L p).length = 0 then 152 else 151))) := Lib.hid ⟨hZ.one, hZ.two, hZ.thr, hZ.bel⟩
    clear hT0 h ho hb0 hmine hZ
    generalize (if (kl L p).length = 0 then (152 : Int) else 151) = e0 at *
    gi_wp2
    gi_region
    gi_wp2
    rw [Exit.noGoto_ret]
    obtain ⟨V, hV⟩ : ∃ V, V = (((W.setCell ⟨w.heap.size, 0, none⟩ (.int .i64 0)).setCell ⟨w.heap.size + 1, 0, none⟩ (.int .u32 0)).setCell ⟨w.heap.size + 1 + 1, 0, none⟩ (.int .i64 e0)).drew := ⟨_, rfl⟩
    have vk : Kp (zbx w) W V := by
      rw [hV]
      repeat (first | with_reducible refine kp_drew ?_ | with_reducible refine kp_set (by simp [zbx]) ?_)
      exact Kp.refl _ _
    have v1 : Blk V w.heap.size #[.int .i64 0] 3 := by
      rw [hV]
      repeat (first | with_reducible refine blk_drew ?_ | with_reducible refine blk_other (by omega) ?_ | with_reducible refine blk_set (.int .i64 0) ?_)
      exact HE.out.one
    have v2 : Blk V (w.heap.size + 1) #[.int .u32 0] 28 := by
      rw [hV]
      repeat (first | with_reducible refine blk_drew ?_ | with_reducible refine blk_other (by omega) ?_ | with_reducible refine blk_set (.int .u32 0) ?_)
      exact HE.out.two
    have v3 : Blk V (w.heap.size + 1 + 1) #[.int .i64 e0] 25 := by
      rw [hV]
      repeat (first | with_reducible refine blk_drew ?_ | with_reducible refine blk_other (by omega) ?_ | with_reducible refine blk_set (.int .i64 e0) ?_)
      exact HE.out.thr
    rw [← hV]
    clear hV
    have vd : V.heap[D]? = some (.deferred (some [])) := (vk.block D (Array.getElem?_eq_some_iff.1 hK).1 (fun e => by unfold zbx at e; omega)).trans hK
    have hk := Kz.putObj (B0 := W0.heap.size) hD vd rfl (.deferred none)
    refine ⟨by simp, .inl ⟨_, _, rfl, run_takeDeferred vd, ?_⟩⟩
    refine ⟨_, res_box rfl _ _ w.heap.size (w.heap.size + 1) (w.heap.size + 1 + 1) _ _ _ rfl rfl rfl ((Blk.kz v1 hk).cell 0) ((Blk.kz v2 hk).cell 0) ((Blk.kz v3 hk).cell 0), ?_, ?_⟩
    · rw [HR.out]; rfl
    · exact (Kp.kz (B0 := W0.heap.size) (by omega) (Kp.of_below (S := fun _ => False) (HE.out.bel.trans (vk.below HE.out.bel.size (fun j e => by unfold zbx at e; omega)))) hk).below (Nat.le_refl _) (fun _ e => e.elim)
  case stop =>
    rintro D cc i W hD hic ⟨rfl, hZ⟩ hK
    have HR : Hid (zb L p = (pd (kl L p) i, (rc (kl L p) i).su, 0)) := Lib.hid (by
      unfold zb
      rw [if_pos hz, zf_some hic hZ.is hZ.no])
    have z1 : W.cell? ⟨w.heap.size, 0, none⟩ = some (.int .i64 (pd (kl L p) i)) := hZ.one.cell 0
    have z2 : W.cell? ⟨w.heap.size + 1, 0, none⟩ = some (uv (rc (kl L p) i).su) := hZ.two.cell 0
    have z3 : W.cell? ⟨w.heap.size + 1 + 1, 0, none⟩ = some (.int .i64 0) := hZ.thr.cell 0
    have f1 := hZ.one.free 0
    have f2 := hZ.two.free 0
    have f3 := hZ.thr.free 0
    have HE : Hid (Bs3 w W (.int .i64 (pd (kl L p) i)) (uv (rc (kl L p) i).su) (.int .i64 0)) := Lib.hid ⟨hZ.one, hZ.two, hZ.thr, hZ.bel⟩
    clear hT0 h ho hb0 hmine hZ hic
    generalize rc (kl L p) i = x at *
    generalize pd (kl L p) i = y at *
    gi_wp2
    gi_region
    gi_wp2
    rw [Exit.noGoto_ret]
    obtain ⟨V, hV⟩ : ∃ V, V = (((W.setCell ⟨w.heap.size, 0, none⟩ (.int .i64 y)).setCell ⟨w.heap.size + 1, 0, none⟩ (uv x.su)).setCell ⟨w.heap.size + 1 + 1, 0, none⟩ (.int .i64 0)).drew := ⟨_, rfl⟩
    have vk : Kp (zbx w) W V := by
      rw [hV]
      repeat (first | with_reducible refine kp_drew ?_ | with_reducible refine kp_set (by simp [zbx]) ?_)
      exact Kp.refl _ _
    have v1 : Blk V w.heap.size #[.int .i64 y] 3 := by
      rw [hV]
      repeat (first | with_reducible refine blk_drew ?_ | with_reducible refine blk_other (by omega) ?_ | with_reducible refine blk_set (.int .i64 y) ?_)
      exact HE.out.one
    have v2 : Blk V (w.heap.size + 1) #[uv x.su] 28 := by
      rw [hV]
      repeat (first | with_reducible refine blk_drew ?_ | with_reducible refine blk_other (by omega) ?_ | with_reducible refine blk_set (uv x.su) ?_)
      exact HE.out.two
    have v3 : Blk V (w.heap.size + 1 + 1) #[.int .i64 0] 25 := by
      rw [hV]
      repeat (first | with_reducible refine blk_drew ?_ | with_reducible refine blk_other (by omega) ?_ | with_reducible refine blk_set (.int .i64 0) ?_)
      exact HE.out.thr
    rw [← hV]
    clear hV
    have vd : V.heap[D]? = some (.deferred (some [])) := (vk.block D (Array.getElem?_eq_some_iff.1 hK).1 (fun e => by unfold zbx at e; omega)).trans hK
    have hk := Kz.putObj (B0 := W0.heap.size) hD vd rfl (.deferred none)
    refine ⟨by simp, .inl ⟨_, _, rfl, run_takeDeferred vd, ?_⟩⟩
    refine ⟨_, res_box rfl _ _ w.heap.size (w.heap.size + 1) (w.heap.size + 1 + 1) _ _ _ rfl rfl rfl ((Blk.kz v1 hk).cell 0) ((Blk.kz v2 hk).cell 0) ((Blk.kz v3 hk).cell 0), ?_, ?_⟩
    · rw [HR.out]; rfl
    · exact (Kp.kz (B0 := W0.heap.size) (by omega) (Kp.of_below (S := fun _ => False) (HE.out.bel.trans (vk.below HE.out.bel.size (fun j e => by unfold zbx at e; omega)))) hk).below (Nat.le_refl _) (fun _ e => e.elim)
theorem zombie_any (h : Tb B w q b v rm L S) (ho : Okt rm L S) (hp : (Lit.int .i64 p).wf = true) :
    Calls Try.prog 30 #[pv q, .int .i64 p] w fun e w' => e = .returned (.tuple #[.int .i64 (zb L p).1, uv (zb L p).2.1, .int .i64 (zb L p).2.2]) ∧ Below w.heap.size w w' := by
  by_cases hz : (gt L p).st = 1
  · exact callsIn_wide.1 (zombie_in 8 (Nat.le_refl _) h ho hp hz)
  · refine (zombie_no h ho hp hz).mono ?_
    rintro e w' ⟨rfl, hb⟩
    unfold zb
    rw [if_neg hz]
    exact ⟨rfl, hb⟩
end Go.Proofs.Ytkjcjodhpcfjiaa.Teo
