/-
  The document's own memory of frames (carryallref04): what it holds; Is, Take, Share, Drop.
-/
import Derived.Test.YtompcmbaiegkaaaFx
namespace Go.Proofs.Ytompcmbaiegkaaa.Gm
open Go Go.RowKit Kit Fm Fo Fr Fw Fx
set_option linter.unusedVariables false

/-- The reference's memory: its struct in block q, its counts in block rr, its slices of bytes in block rb. -/
structure RMem (w : World) (q rr rb n : Nat) (R : Nat → Nat) (B : Nat → Nat → Nat) : Prop where
  hd : ∃ c1 c2, Blk w q #[.slice (some ⟨rr, 0, none⟩) n c1, .slice (some ⟨rb, 0, none⟩) n c2] 47 ∧ n ≤ c1 ∧ n ≤ c2 ∧ c1 ≤ maxLen ∧ c2 ≤ maxLen
  refs : ∃ cs, Blk w rr cs 3 ∧ n ≤ cs.size ∧ ∀ k, k < n → cs[k]? = some (.int .i64 (R k : Int))
  rows : ∃ cs, Blk w rb cs 31 ∧ n ≤ cs.size ∧ ∀ k, k < n → ∃ g cap cur, cs[k]? = some (.slice (some ⟨g, 0, none⟩) 64 cap) ∧ 64 ≤ cap ∧ cap ≤ maxLen ∧ Blk w g cur 5 ∧ ∀ i, i < 64 → cur[i]? = some (.int .u8 (B k i : Int))
  pos : 1 ≤ n ∧ n ≤ 256
  u8 : ∀ k i, B k i < 256
  small : ∀ k, R k < 1000000000
theorem RMem.kept {S : Nat → Prop} {w w' : World} {q rr rb n : Nat} {R : Nat → Nat} {B : Nat → Nat → Nat} (h : RMem w q rr rb n R B) (hk : Kp S w w') (h1 : ¬ S q) (h2 : ¬ S rr) (h3 : ¬ S rb) (h4 : ∀ g cs, Blk w g cs 5 → ¬ S g) : RMem w' q rr rb n R B := by
  obtain ⟨⟨c1, c2, a1, a2⟩, ⟨cs, b1, b2⟩, ⟨ds, d1, d2, d3⟩, h5, h6, h7⟩ := h
  refine ⟨⟨c1, c2, a1.kept hk h1, a2⟩, ⟨cs, b1.kept hk h2, b2⟩, ⟨ds, d1.kept hk h3, d2, fun k hk' => ?_⟩, h5, h6, h7⟩
  obtain ⟨g, cap, cur, e1, e2, e3, e4, e5⟩ := d3 k hk'
  exact ⟨g, cap, cur, e1, e2, e3, e4.kept hk (h4 g cur e4), e5⟩
theorem RMem.below {w w' : World} {q rr rb n : Nat} {R : Nat → Nat} {B : Nat → Nat → Nat} (h : RMem w q rr rb n R B) (hb : Below w.heap.size w w') : RMem w' q rr rb n R B := h.kept (S := fun _ => False) (.of_below hb) (fun e => e) (fun e => e) (fun e => e) (fun _ _ _ e => e)
theorem RMem.drew {w : World} {q rr rb n : Nat} {R : Nat → Nat} {B : Nat → Nat → Nat} (h : RMem w q rr rb n R B) : RMem w.drew q rr rb n R B := h.below ((Below.refl _ _).drew)
/-- A step of the frames' own memory leaves it. -/
theorem RMem.beside {w w' : World} {q rr rb n p b m : Nat} {R R' : Nat → Nat} {B B' : Nat → Nat → Nat} (h : RMem w q rr rb n R B) (hM : Mem w p b m R' B') (hk : Kp (fun j => j = b) w w') : RMem w' q rr rb n R B := by
  obtain ⟨_, ⟨cs, h3, _⟩, _⟩ := hM
  obtain ⟨c1, c2, a1, a2⟩ := h.hd
  obtain ⟨ds, b1, b2⟩ := h.refs
  obtain ⟨es, d1, d2⟩ := h.rows
  exact h.kept hk (a1.ne h3 (by decide)) (b1.ne h3 (by decide)) (d1.ne h3 (by decide)) (fun g cs' hg => hg.ne h3 (by decide))
theorem Mem.beside {w w' : World} {q rr rb n p b m : Nat} {R R' : Nat → Nat} {B B' : Nat → Nat → Nat} (h : Mem w p b m R' B') (hM : RMem w q rr rb n R B) (hk : Kp (fun j => j = rr ∨ j = rb) w w') : Mem w' p b m R' B' := by
  obtain ⟨ds, b1, b2⟩ := hM.refs
  obtain ⟨es, d1, d2⟩ := hM.rows
  obtain ⟨cs, h3, _⟩ := h.row
  obtain ⟨cap, h1, _⟩ := h.hd
  refine h.kept hk (fun e => ?_) (fun e => ?_)
  · rcases e with e | e
    · exact h1.ne b1 (by decide) e
    · exact h1.ne d1 (by decide) e
  · rcases e with e | e
    · exact h3.ne b1 (by decide) e
    · exact h3.ne d1 (by decide) e
theorem RMem.lt {w : World} {q rr rb n : Nat} {R : Nat → Nat} {B : Nat → Nat → Nat} (h : RMem w q rr rb n R B) : q < w.heap.size ∧ rr < w.heap.size ∧ rb < w.heap.size := by
  obtain ⟨⟨c1, c2, a1, a2⟩, ⟨cs, b1, b2⟩, ⟨ds, d1, d2⟩, h5⟩ := h
  exact ⟨a1.lt, b1.lt, d1.lt⟩
theorem RMem.ne {w : World} {q rr rb n : Nat} {R : Nat → Nat} {B : Nat → Nat → Nat} (h : RMem w q rr rb n R B) : q ≠ rr ∧ q ≠ rb ∧ rr ≠ rb := by
  obtain ⟨⟨c1, c2, a1, a2⟩, ⟨cs, b1, b2⟩, ⟨ds, d1, d2⟩, h5⟩ := h
  exact ⟨a1.ne b1 (by decide), a1.ne d1 (by decide), b1.ne d1 (by decide)⟩
/-- A count stored. -/
theorem RMem.setRef {w : World} {q rr rb n : Nat} {R : Nat → Nat} {B : Nat → Nat → Nat} (h : RMem w q rr rb n R B) (k v : Nat) (hk : k < n) (hv : v < 1000000000) : RMem (w.setCell ⟨rr, k, none⟩ (.int .i64 (v : Int))) q rr rb n (up R k v) B := by
  have hne := h.ne
  have hkp : Kp (fun j => j = rr) w (w.setCell ⟨rr, k, none⟩ (.int .i64 (v : Int))) := Kp.set _ _ _ _ rfl
  obtain ⟨⟨c1, c2, a1, a2⟩, ⟨cs, b1, b2, b3⟩, ⟨ds, d1, d2, d3⟩, h5, h6, h7⟩ := h
  refine ⟨⟨c1, c2, a1.kept hkp hne.1, a2⟩, ⟨_, b1.set _ _, by simpa using b2, fun j hj => ?_⟩, ⟨ds, d1.kept hkp (Ne.symm hne.2.2), d2, fun j hj => ?_⟩, h5, h6, fun j => ?_⟩
  · rw [Array.getElem?_setIfInBounds]
    by_cases e : j = k
    · subst e
      rw [if_pos rfl, if_pos (by omega), up_same]
    · rw [if_neg (by omega), up_other _ _ _ _ e]
      exact b3 j hj
  · obtain ⟨g, cap, cur, e1, e2, e3, e4, e5⟩ := d3 j hj
    exact ⟨g, cap, cur, e1, e2, e3, e4.kept hkp (e4.ne b1 (by decide)), e5⟩
  · unfold up
    split
    · exact hv
    · exact h7 j
/-- A slice of bytes stored. -/
theorem RMem.setRow {w : World} {q rr rb n : Nat} {R : Nat → Nat} {B : Nat → Nat → Nat} (h : RMem w q rr rb n R B) (k g cap : Nat) (cur : Array Value) (f : Nat → Nat) (hk : k < n) (hc : 64 ≤ cap) (hm : cap ≤ maxLen) (hg : Blk w g cur 5) (hf : ∀ i, i < 64 → cur[i]? = some (.int .u8 (f i : Int))) (hx : ∀ i, f i < 256) :
    RMem (w.setCell ⟨rb, k, none⟩ (.slice (some ⟨g, 0, none⟩) 64 cap)) q rr rb n R (up B k f) := by
  have hne := h.ne
  have hkp : Kp (fun j => j = rb) w (w.setCell ⟨rb, k, none⟩ (.slice (some ⟨g, 0, none⟩) 64 cap)) := Kp.set _ _ _ _ rfl
  obtain ⟨⟨c1, c2, a1, a2⟩, ⟨cs, b1, b2, b3⟩, ⟨ds, d1, d2, d3⟩, h5, h6, h7⟩ := h
  refine ⟨⟨c1, c2, a1.kept hkp hne.2.1, a2⟩, ⟨cs, b1.kept hkp hne.2.2, b2, b3⟩, ⟨_, d1.set _ _, by simpa using d2, fun j hj => ?_⟩, h5, fun j i => ?_, h7⟩
  · by_cases e : j = k
    · subst e
      refine ⟨g, cap, cur, ?_, hc, hm, hg.kept hkp (hg.ne d1 (by decide)), fun i hi => by rw [up_same]; exact hf i hi⟩
      rw [Array.getElem?_setIfInBounds, if_pos rfl, if_pos (by omega)]
    · obtain ⟨g', cap', cur', e1, e2, e3, e4, e5⟩ := d3 j hj
      refine ⟨g', cap', cur', ?_, e2, e3, e4.kept hkp (e4.ne d1 (by decide)), fun i hi => by rw [up_other _ _ _ _ e]; exact e5 i hi⟩
      rw [Array.getElem?_setIfInBounds, if_neg (by omega)]
      exact e1
  · unfold up
    split
    · exact hx i
    · exact h6 j i

/-- A block in which a frame's bytes lie. -/
def Rws (w : World) (rb n g : Nat) : Prop := ∃ k cap, k < n ∧ w.cell? ⟨rb, k, none⟩ = some (.slice (some ⟨g, 0, none⟩) 64 cap)
theorem RMem.kept2 {S : Nat → Prop} {w w' : World} {q rr rb n : Nat} {R : Nat → Nat} {B : Nat → Nat → Nat} (h : RMem w q rr rb n R B) (hk : Kp S w w') (h1 : ¬ S q) (h2 : ¬ S rr) (h3 : ¬ S rb) (h4 : ∀ g, Rws w rb n g → ¬ S g) : RMem w' q rr rb n R B := by
  obtain ⟨⟨c1, c2, a1, a2⟩, ⟨cs, b1, b2⟩, ⟨ds, d1, d2, d3⟩, h5, h6, h7⟩ := h
  refine ⟨⟨c1, c2, a1.kept hk h1, a2⟩, ⟨cs, b1.kept hk h2, b2⟩, ⟨ds, d1.kept hk h3, d2, fun k hk' => ?_⟩, h5, h6, h7⟩
  obtain ⟨g, cap, cur, e1, e2, e3, e4, e5⟩ := d3 k hk'
  exact ⟨g, cap, cur, e1, e2, e3, e4.kept hk (h4 g ⟨k, cap, hk', (d1.cell k).trans e1⟩), e5⟩
theorem RMem.rows_lt {w : World} {q rr rb n : Nat} {R : Nat → Nat} {B : Nat → Nat → Nat} (h : RMem w q rr rb n R B) {g : Nat} (hg : Rws w rb n g) : g < w.heap.size := by
  obtain ⟨k, cap, hk, hc⟩ := hg
  obtain ⟨ds, d1, d2, d3⟩ := h.rows
  obtain ⟨g', cap', cur, e1, e2, e3, e4, e5⟩ := d3 k hk
  rw [d1.cell, e1] at hc
  cases hc
  exact e4.lt
theorem Rws.kept {S : Nat → Prop} {w w' : World} {rb n g : Nat} (h : Rws w' rb n g) (hk : Kp S w w') (hl : rb < w.heap.size) (hS : ¬ S rb) : Rws w rb n g := by
  obtain ⟨k, cap, h1, h2⟩ := h
  exact ⟨k, cap, h1, by rw [← h2]; exact (World.cell?_of_block (a := ⟨rb, k, none⟩) (hk.block rb hl hS)).symm⟩
theorem Rws.set {w : World} {rb n g k g2 cap2 : Nat} (h : Rws (w.setCell ⟨rb, k, none⟩ (.slice (some ⟨g2, 0, none⟩) 64 cap2)) rb n g) {cs : Array Value} {T : TypeId} (hb : Blk w rb cs T) : Rws w rb n g ∨ g = g2 := by
  obtain ⟨j, cap, h1, h2⟩ := h
  by_cases e : j = k
  · subst e
    rw [(hb.set _ _).cell, Array.getElem?_setIfInBounds, if_pos rfl] at h2
    split at h2
    · cases h2; exact .inr rfl
    · cases h2
  · refine .inl ⟨j, cap, h1, ?_⟩
    rw [(hb.set _ _).cell, Array.getElem?_setIfInBounds, if_neg (Ne.symm e)] at h2
    rw [hb.cell]
    exact h2

theorem is_yes (w : World) (q rr rb n : Nat) (R : Nat → Nat) (B : Nat → Nat → Nat) (h : RMem w q rr rb n R B) (k : Nat) (hk : k < n) (hr : R k ≠ 0) :
    Calls Try.prog 24 #[.pointer (some ⟨q, 0, none⟩), .int .i64 (k : Int)] w fun e w' => e = .returned (.bool true) ∧ w = w' := by
  obtain ⟨⟨c1, c2, a1, a2⟩, ⟨cs, b1, b2, b3⟩, _⟩ := h
  have c0 := a1.cell 0
  have ck := (b1.cell k).trans (b3 k hk)
  have d0 : decide (0 ≤ (k : Int)) = true := decide_eq_true (by omega)
  have d1 : decide ((k : Int) < (n : Int)) = true := decide_eq_true (by omega)
  have d2 : decide (0 < (R k : Int)) = true := decide_eq_true (by omega)
  have hk2 : (k : Int) < (n : Int) := by omega
  obtain ⟨r, hr2⟩ : ∃ r : Int, r = (R k : Int) := ⟨_, rfl⟩
  rw [← hr2] at ck d2
  clear a1 a2 b1 b2 b3 hr hr2
  go_enter Try.func24, Try.ntmps24
  go_wp2
  go_ret
  exact ⟨rfl, rfl⟩
theorem is_no (w : World) (q rr rb n : Nat) (R : Nat → Nat) (B : Nat → Nat → Nat) (h : RMem w q rr rb n R B) (k : Int) (hk : rf n R k = 0) :
    Calls Try.prog 24 #[.pointer (some ⟨q, 0, none⟩), .int .i64 k] w fun e w' => e = .returned (.bool false) ∧ w = w' := by
  obtain ⟨⟨c1, c2, a1, a2⟩, ⟨cs, b1, b2, b3⟩, _⟩ := h
  have c0 := a1.cell 0
  by_cases h0 : 0 ≤ k
  · have d0 : decide (0 ≤ k) = true := decide_eq_true h0
    by_cases h1 : k < (n : Int)
    · obtain ⟨j, rfl⟩ := Int.eq_ofNat_of_zero_le h0
      rw [rf_nat (by omega)] at hk
      have ck := (b1.cell j).trans (b3 j (by omega))
      rw [hk, Int.natCast_zero] at ck
      have d1 : decide ((j : Int) < (n : Int)) = true := decide_eq_true (by omega)
      clear a1 a2 b1 b2 b3 hk h0
      go_enter Try.func24, Try.ntmps24
      go_wp2
      go_ret
      exact ⟨rfl, rfl⟩
    · have d1 : decide (k < (n : Int)) = false := decide_eq_false h1
      clear a1 a2 b1 b2 b3 hk h0 h1
      go_enter Try.func24, Try.ntmps24
      go_wp2
      go_ret
      exact ⟨rfl, rfl⟩
  · have d0 : decide (0 ≤ k) = false := decide_eq_false h0
    clear a1 a2 b1 b2 b3 hk h0
    go_enter Try.func24, Try.ntmps24
    go_wp2
    go_ret
    exact ⟨rfl, rfl⟩
end Go.Proofs.Ytompcmbaiegkaaa.Gm
