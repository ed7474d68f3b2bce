/-
  Sleepers of a law's own, above what lay there; the calls on them; alive.
-/
import Derived.Test.YtpblnjphkgilfaaSlk
namespace Go.Proofs.Ytpblnjphkgilfaa.Sll
open Go Go.RowKit Go.Shelf Kit Bk Sla Slb Slc Sld Sle Slf Slg Slh Sli Slj Slk
set_option linter.unusedVariables false

structure On (w0 w : World) (q : Nat) (m : Option Nat) (L : St) : Prop where
  sv : Sv w q m L
  ok : Ok L
  bel : Below w0.heap.size w0 w
  lo : w0.heap.size ≤ q ∧ ∀ b, m = some b → w0.heap.size ≤ b
variable {w0 w w' : World} {q : Nat} {m : Option Nat} {L : St}
theorem On.below (h : On w0 w q m L) (hb : Below w.heap.size w w') : On w0 w' q m L := ⟨h.sv.below hb, h.ok, h.bel.trans (hb.mono h.bel.size), h.lo⟩
theorem On.kept {S : Nat → Prop} (h : On w0 w q m L) (hk : Kp S w w') (hS : ∀ j, S j → w0.heap.size ≤ j) (hq : ¬ S q) (hm : ∀ b, m = some b → ¬ S b) : On w0 w' q m L := ⟨h.sv.kept hk hq hm, h.ok, h.bel.trans (hk.below h.bel.size hS), h.lo⟩
theorem On.fr (h : On w0 w q m L) : ∀ j, fr q m j → w0.heap.size ≤ j := fun j e => e.elim (fun e => by rw [e]; exact h.lo.1) (fun e => h.lo.2 j e.symm)
theorem On.new (w : World) : On w (w.alloc (.cells #[.map none] 26)) w.heap.size none [] :=
  ⟨⟨Blk.new _ _ _, rfl⟩, ok_nil, (Below.refl _ _).alloc (Nat.le_refl _) _, Nat.le_refl _, fun b e => by cases e⟩
/-- Rows of other types lie as they lay. -/
theorem Sv.row {base n s : Nat} {e : TypeId} {v : Value} {xs : List Value} (h : Sv w q m L) (hr : w.ownsRow base e s v n xs) (hk : Kp (Slb.fr q m) w w') (he : 26 ≠ e) : w'.ownsRow base e s v n xs :=
  own_kept hr hk (fun g hg e2 => by
    obtain ⟨_, cs, hc⟩ := own_cells hr hg
    rcases e2 with e2 | e2
    · subst e2
      rw [show w.heap[g]? = _ from h.blk] at hc
      cases hc
      exact he rfl
    · obtain ⟨es, ck, ho⟩ := Mp.obj (show Mp w g L from by have := h.map; rw [← e2] at this; exact this)
      rw [ho] at hc
      cases hc)
theorem Sv.blk' {g : Nat} {cs : Array Value} {T : TypeId} (h : Sv w q m L) (hb : Blk w g cs T) (hk : Kp (Slb.fr q m) w w') (he : 26 ≠ T) : Blk w' g cs T :=
  hb.kept hk (fun e2 => by
    rcases e2 with e2 | e2
    · subst e2
      exact he (h.blk.inj hb).2
    · exact Mp.ne (show Mp w g L from by have := h.map; rw [← e2] at this; exact this) hb rfl)
/-- A step of a law's own. -/
theorem On.step {L' : St} {m' : Option Nat} (h : On w0 w q m L) (h1 : Sv w' q m' L') (h2 : Kp (Slb.fr q m) w w') (h3 : m' = m ∨ ∃ b, m' = some b ∧ w.heap.size ≤ b) (ho : Ok L') : On w0 w' q m' L' :=
  ⟨h1, ho, h.bel.trans (h2.below h.bel.size h.fr), h.lo.1, fun b e => by
    rcases h3 with e2 | ⟨c, e2, hc⟩
    · rw [e2] at e; exact h.lo.2 b e
    · rw [e2] at e; cases e; exact Nat.le_trans h.bel.size hc⟩
theorem On.add (h : On w0 w q m L) (hl : L.length < 80000) (p : Int) (n : Nat) (hp : (Lit.int .i64 p).wf = true) (h3 : n < 4294967296) :
    Calls Try.prog 8 #[pv q, .int .i64 p, uv n] w fun e w' => e = .returned (.int .i64 ((adE L p n : Nat) : Int)) ∧ ∃ m', On w0 w' q m' (adL L p n) ∧ Kp (Slb.fr q m) w w' ∧ (m' = m ∨ ∃ b, m' = some b ∧ w.heap.size ≤ b) :=
  (add_any h.sv h.ok (by omega) p n hp h3).mono (by
    rintro e w' ⟨rfl, m', h1, h2, h4⟩
    exact ⟨rfl, m', h.step h1 h2 h4 (h.ok.adL (by have := i64_bd hp; omega) h3), h2, h4⟩)
theorem On.tick (h : On w0 w q m L) (hl : L.length < 80000) :
    Calls Try.prog 10 #[pv q] w fun e w' => On w0 w' q m (tkL L) ∧ Kp (Slb.fr q m) w w' ∧ ∃ u, e = .returned u ∧ w'.ownsRow w.heap.size 3 1 u (tkW L).length (ints (tkW L)) :=
  (tick_any h.sv h.ok hl).mono (by
    rintro e w' ⟨h1, h2, h3⟩
    exact ⟨h.step h2 h1 (.inl rfl) h.ok.tkL, h1, h3⟩)
theorem On.drop (h : On w0 w q m L) (p : Int) (hp : (Lit.int .i64 p).wf = true) :
    Calls Try.prog 13 #[pv q, .int .i64 p] w fun e w' => e = .returned (.tuple #[uv (lft L p), .bool (slp L p)]) ∧ On w0 w' q m (drL L p) ∧ Kp (Slb.fr q m) w w' :=
  (drop_any h.sv h.ok p hp).mono (by
    rintro e w' ⟨rfl, h1, h2⟩
    exact ⟨rfl, h.step h1 h2 (.inl rfl) (h.ok.drL p), h2⟩)
theorem On.next (h : On w0 w q m L) (hl : L.length < 80000) : Calls Try.prog 18 #[pv q] w fun e w' => e = .returned (.tuple #[uv (nx L), .bool (decide (0 < nx L))]) ∧ On w0 w' q m L ∧ Below w.heap.size w w' :=
  (next_any (sn_some h.sv) h.ok hl).mono (by
    rintro e w' ⟨rfl, h1⟩
    exact ⟨rfl, h.below h1, h1⟩)
theorem On.all (h : On w0 w q m L) (hl : L.length < 80000) : Calls Try.prog 20 #[pv q] w fun e w' => On w0 w' q m L ∧ Below w.heap.size w w' ∧ ∃ u, e = .returned u ∧ w'.ownsRow w.heap.size 54 2 u L.length (ics L) :=
  (all_any (sn_some h.sv) h.ok hl).mono (by
    rintro e w' ⟨h1, h2⟩
    exact ⟨h.below h1, h1, h2⟩)
/-- Calls with their answers written out. -/
theorem On.add_lit (h : On w0 w q m L) (p : Int) (n : Nat) (nv : Int) (E : Int) (L' : St) (hl : L.length < 80000) (hp : (Lit.int .i64 p).wf = true) (h3 : n < 4294967296) (hn : (n : Int) = nv) (hE : ((adE L p n : Nat) : Int) = E) (hL : adL L p n = L') :
    Calls Try.prog 8 #[pv q, .int .i64 p, .int .u32 nv] w fun e w' => e = .returned (.int .i64 E) ∧ ∃ m', On w0 w' q m' L' := by
  rw [← hE, ← hL, ← hn]
  exact (h.add hl p n hp h3).mono (by rintro e w' ⟨rfl, m', h1, _⟩; exact ⟨rfl, m', h1⟩)
theorem On.tick_lit (h : On w0 w q m L) (W : List Int) (k : Nat) (L' : St) (hl : L.length < 80000) (hk : W.length = k) (hW : tkW L = W) (hL : tkL L = L') :
    Calls Try.prog 10 #[pv q] w fun e w' => On w0 w' q m L' ∧ Kp (Slb.fr q m) w w' ∧ ∃ a c, e = .returned (.slice a k c) ∧ Nr w' (.slice a k c) W := by
  rw [← hk, ← hW, ← hL]
  refine (h.tick hl).mono ?_
  rintro e w' ⟨h1, h2, u, rfl, h3⟩
  have h4 : Nr w' u (tkW L) := own_base h3 (Nat.zero_le _)
  obtain ⟨a, c, rfl, _⟩ := nr_cells h4
  exact ⟨h1, h2, a, c, rfl, h4⟩
theorem Nr.lit1 (w : World) (x : Int) : Nr (w.alloc (.cells #[.int .i64 x] 3)) (.slice (some ⟨w.heap.size, 0, none⟩) 1 1) [x] :=
  World.ownsRow_lit (base := 0) (e := 3) (size := 1) w #[.int .i64 x] 1 (Nat.zero_le _) (by decide) rfl
theorem Nr.lit2 (w : World) (x y : Int) : Nr (w.alloc (.cells #[.int .i64 x, .int .i64 y] 3)) (.slice (some ⟨w.heap.size, 0, none⟩) 2 2) [x, y] :=
  World.ownsRow_lit (base := 0) (e := 3) (size := 1) w #[.int .i64 x, .int .i64 y] 2 (Nat.zero_le _) (by decide) rfl
theorem nr_below {u : Value} {l : List Int} (h : Nr w u l) (hb : Below w.heap.size w w') : Nr w' u l := own_below h hb

theorem On.next_lit (h : On w0 w q m L) (nv : Int) (b : Bool) (hl : L.length < 80000) (hn : ((nx L : Nat) : Int) = nv) (hb : decide (0 < nx L) = b) : Calls Try.prog 18 #[pv q] w fun e w' => e = .returned (.tuple #[.int .u32 nv, .bool b]) ∧ On w0 w' q m L ∧ Below w.heap.size w w' := by
  rw [← hn, ← hb]
  exact h.next hl
def A3 : St := [(2, 1), (3, 2), (9, 2)]
set_option maxRecDepth 100000 in
set_option maxHeartbeats 2000000 in
theorem alive_any (w : World) : Calls Try.prog 22 #[] w fun e w' => e = .returned (.bool true) ∧ Below w.heap.size w w' := by
  have HN := Lib.hid (On.new w)
  go_enter Try.func22, Try.ntmps22
  go_wp2_with (first
    | (go_at_call 8; (with_reducible refine (HN.out.add_lit 3 2 2 0 [(3, 2)] (by decide) (by decide) (by decide) rfl (by decide) (by decide)).mono ?_); rintro e w1 ⟨rfl, m1, h1⟩; clear HN; have H1 := Lib.hid h1; clear h1)
    | (go_at_call 8; (with_reducible refine (H1.out.add_lit 2 1 1 0 [(2, 1), (3, 2)] (by decide) (by decide) (by decide) rfl (by decide) (by decide)).mono ?_); rintro e w2 ⟨rfl, m2, h1⟩; clear H1; have H2 := Lib.hid h1; clear h1)
    | (go_at_call 8; (with_reducible refine (H2.out.add_lit 9 2 2 0 A3 (by decide) (by decide) (by decide) rfl (by decide) (by decide)).mono ?_); rintro e w3 ⟨rfl, m3, h1⟩; clear H2; have H3 := Lib.hid h1; clear h1)
    | (go_at_call 18; (with_reducible refine (H3.out.next_lit 1 true (by decide) (by decide) (by decide)).mono ?_); rintro e w4 ⟨rfl, h1, -⟩; clear H3; have H4 := Lib.hid h1; clear h1)
    | (go_at_call 10; (with_reducible refine (H4.out.tick_lit [2] 1 [(3, 1), (9, 1)] (by decide) rfl (by decide) (by decide)).mono ?_); rintro e w5 ⟨h1, -, a1, c1, rfl, r1⟩; clear H4; have H5 := Lib.hid h1; have R1 := Lib.hid r1; clear h1 r1)
    | (go_at_call 10; (with_reducible refine (H5.out.tick_lit [3, 9] 2 [] (by decide) rfl (by decide) (by decide)).mono ?_); rintro e w6 ⟨h1, k1, a2, c2, rfl, r2⟩; replace R1 := Lib.hid (Sv.row H5.out.sv R1.out k1 (by decide)); clear H5; have H6 := Lib.hid h1; have R2 := Lib.hid r2; clear h1 r2 k1)
    | (go_at_call 10; (with_reducible refine (H6.out.tick_lit [] 0 [] (by decide) rfl (by decide) (by decide)).mono ?_); rintro e w7 ⟨h1, k1, a3, c3, rfl, r3⟩; replace R1 := Lib.hid (Sv.row H6.out.sv R1.out k1 (by decide)); replace R2 := Lib.hid (Sv.row H6.out.sv R2.out k1 (by decide)); clear H6; have H7 := Lib.hid h1; clear h1 r3 k1)
    | (go_at_call 11; first
      | ((with_reducible refine (same_ints _ _ _ [2] [2] (nr_below R1.out ((Below.refl _ _).alloc (Nat.le_refl _) _)) (Nr.lit1 _ 2)).mono ?_); rintro e w8 ⟨rfl, hb⟩; clear R1; have hb2 := ((Below.refl _ _).alloc (Nat.le_refl _) _).trans (hb.mono (by simp)); replace R2 := Lib.hid (nr_below R2.out hb2); replace H7 := Lib.hid (H7.out.below hb2); clear hb hb2)
      | ((with_reducible refine (same_ints _ _ _ [3, 9] [3, 9] (nr_below R2.out ((Below.refl _ _).alloc (Nat.le_refl _) _)) (Nr.lit2 _ 3 9)).mono ?_); rintro e w9 ⟨rfl, hb⟩; clear R2; have hb2 := ((Below.refl _ _).alloc (Nat.le_refl _) _).trans (hb.mono (by simp)); replace H7 := Lib.hid (H7.out.below hb2); clear hb hb2)))
  go_ret
  exact ⟨rfl, H7.out.bel⟩
end Go.Proofs.Ytpblnjphkgilfaa.Sll
