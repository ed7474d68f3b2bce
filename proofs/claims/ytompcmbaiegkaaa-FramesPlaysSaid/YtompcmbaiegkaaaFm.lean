/-
  A memory of frames, as it lies: what it holds; what a step keeps.
-/
import Derived.Test.YtompcmbaiegkaaaKit
import Derived.Maps.AppendAt
import Derived.Laws.CopyOwn
import Derived.Laws.OwnMore
import Derived.Deep.Heap
import Derived.Deep.MidRow
import Derived.BigRegion
import Derived.RegionTactic
import Derived.ChangeAlike
namespace Go.Proofs.Ytompcmbaiegkaaa.Fm
open Go Go.RowKit Kit
set_option linter.unusedVariables false

/-- A block, known whole. -/
def Blk (w : World) (b : Nat) (cs : Array Value) (T : TypeId) : Prop := w.heap[b]? = some (.cells cs T (0, 0))
theorem Blk.lt {w : World} {b : Nat} {cs : Array Value} {T : TypeId} (h : Blk w b cs T) : b < w.heap.size := (Array.getElem?_eq_some_iff.1 h).1
theorem Blk.cell {w : World} {b : Nat} {cs : Array Value} {T : TypeId} (h : Blk w b cs T) (i : Nat) : w.cell? ⟨b, i, none⟩ = cs[i]? := by unfold Blk at h; simp [World.cell?, h]
theorem Blk.free {w : World} {b : Nat} {cs : Array Value} {T : TypeId} (h : Blk w b cs T) (i : Nat) : w.frozen? ⟨b, i, none⟩ = false := by unfold Blk at h; simp [World.frozen?, h]
theorem Blk.below {w w' : World} {b : Nat} {cs : Array Value} {T : TypeId} (h : Blk w b cs T) (hb : Below w.heap.size w w') : Blk w' b cs T := (hb.block b h.lt).trans h
theorem Blk.set {w : World} {b : Nat} {cs : Array Value} {T : TypeId} (h : Blk w b cs T) (i : Nat) (v : Value) : Blk (w.setCell ⟨b, i, none⟩ v) b (cs.setIfInBounds i v) T := by
  have hlt := h.lt
  have h' : w.heap[b] = .cells cs T (0, 0) := by unfold Blk at h; simpa [Array.getElem?_eq_getElem hlt] using h
  show (w.heap.modify b _)[b]? = _
  rw [Array.getElem?_eq_getElem (by simpa using hlt), Array.getElem_modify_self, h']
  rfl
theorem Blk.other {w : World} {b : Nat} {cs : Array Value} {T : TypeId} (h : Blk w b cs T) (g i : Nat) (v : Value) (hne : b ≠ g) : Blk (w.setCell ⟨g, i, none⟩ v) b cs T := (Deep.blk_setCell_other w ⟨g, i, none⟩ v b hne).trans h
theorem Blk.new (w : World) (cs : Array Value) (T : TypeId) : Blk (w.alloc (.cells cs T)) w.heap.size cs T := heap_alloc_new w _
theorem Blk.row {w : World} {b : Nat} {cs : Array Value} {T : TypeId} (h : Blk w b cs T) (ds : Array Value) : Blk (w.setRow b ds) b ds T := by
  have hlt := h.lt
  have h' : w.heap[b] = .cells cs T (0, 0) := by unfold Blk at h; simpa [Array.getElem?_eq_getElem hlt] using h
  show (w.heap.modify b _)[b]? = _
  rw [Array.getElem?_eq_getElem (by simpa using hlt), Array.getElem_modify_self, h']
theorem Blk.inj {w : World} {b : Nat} {cs ds : Array Value} {T U : TypeId} (h : Blk w b cs T) (k : Blk w b ds U) : cs = ds ∧ T = U := by
  unfold Blk at h k
  rw [h] at k
  cases k
  exact ⟨rfl, rfl⟩
theorem Blk.ne {w : World} {b g : Nat} {cs ds : Array Value} {T U : TypeId} (h : Blk w b cs T) (k : Blk w g ds U) (hT : T ≠ U) : b ≠ g := fun e => by
  subst e
  exact hT (h.inj k).2

/-- What a step keeps: all blocks but those of S. -/
structure Kp (S : Nat → Prop) (w w' : World) : Prop where
  os : w'.os = w.os
  tape : w'.tape = w.tape
  output : w'.output = w.output
  size : w.heap.size ≤ w'.heap.size
  block : ∀ k, k < w.heap.size → ¬ S k → w'.heap[k]? = w.heap[k]?
theorem Kp.refl (S : Nat → Prop) (w : World) : Kp S w w := ⟨rfl, rfl, rfl, Nat.le_refl _, fun _ _ _ => rfl⟩
theorem Kp.trans {S S' : Nat → Prop} {a b c : World} (h : Kp S a b) (k : Kp S' b c) (hS : ∀ j, S' j → S j ∨ a.heap.size ≤ j) : Kp S a c :=
  ⟨k.os.trans h.os, k.tape.trans h.tape, k.output.trans h.output, Nat.le_trans h.size k.size, fun i hi hn => (k.block i (Nat.lt_of_lt_of_le hi h.size) (fun e => (hS i e).elim hn (fun h2 => by omega))).trans (h.block i hi hn)⟩
theorem Kp.mono {S S' : Nat → Prop} {w w' : World} (h : Kp S w w') (hS : ∀ j, j < w.heap.size → S j → S' j) : Kp S' w w' := ⟨h.os, h.tape, h.output, h.size, fun k hk hn => h.block k hk (fun e => hn (hS k hk e))⟩
theorem Kp.of_below {S : Nat → Prop} {w w' : World} (h : Below w.heap.size w w') : Kp S w w' := ⟨h.os, h.tape, h.output, h.size, fun k hk _ => h.block k hk⟩
theorem Kp.below {S : Nat → Prop} {n : Nat} {w w' : World} (h : Kp S w w') (hn : n ≤ w.heap.size) (hS : ∀ j, S j → n ≤ j) : Below n w w' := ⟨h.os, h.tape, h.output, h.size, fun k hk => h.block k (by omega) (fun e => by have := hS k e; omega)⟩
theorem Kp.of_grown {w w' : World} {row : Option Nat} (h : w.grownBy w' row) : Kp (fun k => some k = row) w w' := ⟨h.os, h.tape, h.output, h.size, fun k hk hn => h.block k hk hn⟩
theorem Kp.set {S : Nat → Prop} (w : World) (b i : Nat) (v : Value) (hS : S b) : Kp S w (w.setCell ⟨b, i, none⟩ v) :=
  ⟨rfl, rfl, rfl, by simp [World.setCell], fun k hk hn => Deep.blk_setCell_other w ⟨b, i, none⟩ v k (fun e => hn (by cases e; exact hS))⟩
theorem Kp.setRow {S : Nat → Prop} (w : World) (b : Nat) (cs : Array Value) (hS : S b) : Kp S w (w.setRow b cs) :=
  ⟨rfl, rfl, rfl, by simp, fun k hk hn => by
    show (w.heap.modify b _)[k]? = _
    rw [Array.getElem?_modify, if_neg (fun e => hn (by rw [← e]; exact hS))]⟩
theorem Kp.alloc (S : Nat → Prop) (w : World) (o : Obj) : Kp S w (w.alloc o) := .of_below ((Below.refl _ _).alloc (Nat.le_refl _) _)
theorem Kp.drew {S : Nat → Prop} {a w : World} (h : Kp S a w) : Kp S a w.drew := ⟨h.os, h.tape, h.output, h.size, h.block⟩
theorem Blk.kept {S : Nat → Prop} {w w' : World} {b : Nat} {cs : Array Value} {T : TypeId} (h : Blk w b cs T) (hk : Kp S w w') (hS : ¬ S b) : Blk w' b cs T := (hk.block b h.lt hS).trans h

/-- Many cells stored in a row. -/
theorem Blk.sets {b : Nat} {T : TypeId} : ∀ (vs : List Value) (o : Nat) (w : World) (cs : Array Value), Blk w b cs T →
    ∃ ds, Blk (w.setCells b o vs) b ds T ∧ ds.size = cs.size ∧ (∀ j, j < o ∨ o + vs.length ≤ j → ds[j]? = cs[j]?) ∧ ∀ j, j < vs.length → o + j < cs.size → ds[o + j]? = vs[j]?
  | [], o, w, cs, h => ⟨cs, h, rfl, fun _ _ => rfl, fun j hj => absurd hj (Nat.not_lt_zero _)⟩
  | v :: r, o, w, cs, h => by
    obtain ⟨ds, h1, h2, h3, h4⟩ := Blk.sets r (o + 1) _ _ (h.set o v)
    refine ⟨ds, h1, by rw [h2]; simp, fun j hj => ?_, fun j hj ho => ?_⟩
    · rw [h3 j (by simp at hj; omega), Array.getElem?_setIfInBounds, if_neg (by simp at hj; omega)]
    · cases j with
      | zero => rw [Nat.add_zero, h3 o (.inl (by omega)), Array.getElem?_setIfInBounds, if_pos rfl, if_pos (by omega)]; rfl
      | succ j =>
        rw [show o + (j + 1) = o + 1 + j by omega, h4 j (by simpa using hj) (by simp; omega)]
        rfl
theorem Kp.sets {S : Nat → Prop} (b : Nat) (hS : S b) : ∀ (vs : List Value) (o : Nat) (w : World), Kp S w (w.setCells b o vs)
  | [], _, w => Kp.refl _ _
  | v :: r, o, w => (Kp.set w b o v hS).trans (Kp.sets b hS r (o + 1) _) (fun _ h => .inl h)
theorem Blk.there {w : World} {b : Nat} {cs : Array Value} {T : TypeId} (h : Blk w b cs T) (o n : Nat) (hn : o + n ≤ cs.size) : w.there b o n := fun j hj =>
  ⟨by rw [h.cell, Array.getElem?_eq_getElem (by omega)]; rfl, h.free _⟩

/-- The memory in block p, its frames in block b: n of them, of each its count and its bytes. -/
structure Mem (w : World) (p b n : Nat) (R : Nat → Nat) (B : Nat → Nat → Nat) : Prop where
  hd : ∃ cap, Blk w p #[.slice (some ⟨b, 0, none⟩) n cap] 55 ∧ n ≤ cap ∧ cap ≤ maxLen
  row : ∃ cs, Blk w b cs 66 ∧ n * 65 ≤ cs.size ∧ (∀ k, k < n → cs[k * 65]? = some (.int .i64 (R k : Int))) ∧ ∀ k i, k < n → i < 64 → cs[k * 65 + 1 + i]? = some (.int .u8 (B k i : Int))
  pos : 1 ≤ n ∧ n ≤ 256
  u8 : ∀ k i, B k i < 256
  refs : ∀ k, R k < 1000000000
theorem Mem.kept {S : Nat → Prop} {w w' : World} {p b n : Nat} {R : Nat → Nat} {B : Nat → Nat → Nat} (h : Mem w p b n R B) (hk : Kp S w w') (hp : ¬ S p) (hb : ¬ S b) : Mem w' p b n R B := by
  obtain ⟨⟨cap, h1, h2⟩, ⟨cs, h3, h4⟩, h5, h6, h7⟩ := h
  exact ⟨⟨cap, h1.kept hk hp, h2⟩, ⟨cs, h3.kept hk hb, h4⟩, h5, h6, h7⟩
theorem Mem.below {w w' : World} {p b n : Nat} {R : Nat → Nat} {B : Nat → Nat → Nat} (h : Mem w p b n R B) (hb : Below w.heap.size w w') : Mem w' p b n R B := h.kept (S := fun _ => False) (.of_below hb) (fun e => e) (fun e => e)
theorem Mem.lt {w : World} {p b n : Nat} {R : Nat → Nat} {B : Nat → Nat → Nat} (h : Mem w p b n R B) : p < w.heap.size ∧ b < w.heap.size := by
  obtain ⟨⟨cap, h1, h2⟩, ⟨cs, h3, h4⟩, _⟩ := h
  exact ⟨h1.lt, h3.lt⟩
theorem Mem.ne {w : World} {p b n : Nat} {R : Nat → Nat} {B : Nat → Nat → Nat} (h : Mem w p b n R B) : p ≠ b := by
  obtain ⟨⟨cap, h1, h2⟩, ⟨cs, h3, h4⟩, _⟩ := h
  exact h1.ne h3 (by decide)

set_option maxRecDepth 10000 in
theorem len_any (w : World) (p b n : Nat) (R : Nat → Nat) (B : Nat → Nat → Nat) (h : Mem w p b n R B) :
    Calls Try.prog 21 #[.pointer (some ⟨p, 0, none⟩)] w fun e w' => e = .returned (.int .i64 n) ∧ w = w' := by
  obtain ⟨⟨cap, h1, h2⟩, _⟩ := h
  have c0 := h1.cell 0
  clear h1
  go_enter Try.func21, Try.ntmps21
  go_wp2
  go_ret
  exact ⟨rfl, rfl⟩
theorem made_any (w : World) (p b n : Nat) (R : Nat → Nat) (B : Nat → Nat → Nat) (h : Mem w p b n R B) :
    Calls Try.prog 30 #[.pointer (some ⟨p, 0, none⟩)] w fun e w' => e = .returned (.bool true) ∧ w = w' := by
  obtain ⟨⟨cap, h1, h2⟩, _, ⟨h3, h4⟩, _⟩ := h
  have c0 := h1.cell 0
  have hn : (0 : Int) < (n : Int) := by omega
  have hd : decide (0 < n) = true := decide_eq_true (by omega)
  clear h1
  go_enter Try.func30, Try.ntmps30
  go_wp2
  go_ret
  exact ⟨rfl, rfl⟩
/-- A frame's count, of whatever number. -/
def rf (n : Nat) (R : Nat → Nat) (k : Int) : Nat := if 0 ≤ k ∧ k < (n : Int) then R k.toNat else 0
theorem rf_nat {n : Nat} {R : Nat → Nat} {k : Nat} (hk : k < n) : rf n R (k : Int) = R k := by unfold rf; rw [if_pos ⟨by omega, by omega⟩]; rfl
theorem rf_pos {n : Nat} {R : Nat → Nat} {k : Int} (h : rf n R k ≠ 0) : ∃ j : Nat, k = (j : Int) ∧ j < n ∧ R j ≠ 0 := by
  unfold rf at h
  split at h
  · rename_i hk; exact ⟨k.toNat, by omega, by omega, h⟩
  · exact absurd rfl h
theorem refs_in (w : World) (p b n : Nat) (R : Nat → Nat) (B : Nat → Nat → Nat) (h : Mem w p b n R B) (k : Nat) (hk : k < n) :
    Calls Try.prog 23 #[.pointer (some ⟨p, 0, none⟩), .int .i64 (k : Int)] w fun e w' => e = .returned (.int .i64 (R k : Int)) ∧ w = w' := by
  have HL := Lib.hid (len_any w p b n R B h)
  obtain ⟨⟨cap, h1, h2⟩, ⟨cs, h3, h4, h5, _⟩, ⟨h6, h7⟩, _⟩ := h
  have c0 := h1.cell 0
  have c1 := h3.cell (k * 65)
  rw [h5 k hk] at c1
  have hk0 : decide ((k : Int) < 0) = false := decide_eq_false (by omega)
  have hk1 : decide ((n : Int) ≤ (k : Int)) = false := decide_eq_false (by omega)
  have hk2 : (k : Int) < (n : Int) := by omega
  clear h1 h3 h4 h5
  go_enter Try.func23, Try.ntmps23
  go_wp2_with (first | (go_at_call 21; (with_reducible refine HL.out.mono ?_); rintro e w1 ⟨rfl, rfl⟩))
  go_ret
  exact ⟨rfl, rfl⟩
theorem refs_out (w : World) (p b n : Nat) (R : Nat → Nat) (B : Nat → Nat → Nat) (h : Mem w p b n R B) (k : Int) (hk : ¬ (0 ≤ k ∧ k < (n : Int))) :
    Calls Try.prog 23 #[.pointer (some ⟨p, 0, none⟩), .int .i64 k] w fun e w' => e = .returned (.int .i64 0) ∧ w = w' := by
  have HL := Lib.hid (len_any w p b n R B h)
  clear h
  by_cases h0 : k < 0
  · have hd : decide (k < 0) = true := decide_eq_true h0
    clear hk h0
    go_enter Try.func23, Try.ntmps23
    go_wp2
    go_ret
    exact ⟨rfl, rfl⟩
  · have hd : decide (k < 0) = false := decide_eq_false h0
    have hd2 : decide ((n : Int) ≤ k) = true := decide_eq_true (by omega)
    have h0' : 0 ≤ k := by omega
    have h1' : (n : Int) ≤ k := by omega
    clear hk h0
    go_enter Try.func23, Try.ntmps23
    go_wp2_with (first | (go_at_call 21; (with_reducible refine HL.out.mono ?_); rintro e w1 ⟨rfl, rfl⟩))
    go_ret
    exact ⟨rfl, rfl⟩
theorem refs_any (w : World) (p b n : Nat) (R : Nat → Nat) (B : Nat → Nat → Nat) (h : Mem w p b n R B) (k : Int) :
    Calls Try.prog 23 #[.pointer (some ⟨p, 0, none⟩), .int .i64 k] w fun e w' => e = .returned (.int .i64 (rf n R k : Int)) ∧ w = w' := by
  by_cases hk : 0 ≤ k ∧ k < (n : Int)
  · obtain ⟨j, rfl⟩ := Int.eq_ofNat_of_zero_le hk.1
    rw [rf_nat (by omega)]
    exact refs_in w p b n R B h j (by omega)
  · unfold rf
    rw [if_neg hk]
    exact refs_out w p b n R B h k hk
theorem held_no (w : World) (p b n : Nat) (R : Nat → Nat) (B : Nat → Nat → Nat) (h : Mem w p b n R B) (k : Int) (hk : rf n R k = 0) :
    Calls Try.prog 32 #[.pointer (some ⟨p, 0, none⟩), .int .i64 k] w fun e w' => e = .returned (.int .i64 41) ∧ w = w' := by
  have HM := Lib.hid (made_any w p b n R B h)
  have HR := refs_any w p b n R B h k
  rw [hk] at HR
  have HR2 := Lib.hid HR
  clear h hk HR
  go_enter Try.func32, Try.ntmps32
  go_wp2_with (first | (go_at_call 30; (with_reducible refine HM.out.mono ?_); rintro e w1 ⟨rfl, rfl⟩) | (go_at_call 23; (with_reducible refine HR2.out.mono ?_); rintro e w1 ⟨rfl, rfl⟩))
  go_ret
  exact ⟨rfl, rfl⟩
theorem held_ok (w : World) (p b n : Nat) (R : Nat → Nat) (B : Nat → Nat → Nat) (h : Mem w p b n R B) (k : Nat) (hk : k < n) (hr : R k ≠ 0) :
    Calls Try.prog 32 #[.pointer (some ⟨p, 0, none⟩), .int .i64 (k : Int)] w fun e w' => e = .returned (.int .i64 0) ∧ w = w' := by
  have HM := Lib.hid (made_any w p b n R B h)
  have HR := Lib.hid (refs_in w p b n R B h k hk)
  have hd : ((R k : Int) == 0) = false := by simp; omega
  clear h hk hr
  go_enter Try.func32, Try.ntmps32
  go_wp2_with (first | (go_at_call 30; (with_reducible refine HM.out.mono ?_); rintro e w1 ⟨rfl, rfl⟩) | (go_at_call 23; (with_reducible refine HR.out.mono ?_); rintro e w1 ⟨rfl, rfl⟩))
  go_ret
  exact ⟨rfl, rfl⟩

/-- One value turned. -/
def up {α : Type} (R : Nat → α) (k : Nat) (v : α) : Nat → α := fun j => if j = k then v else R j
theorem up_same {α : Type} (R : Nat → α) (k : Nat) (v : α) : up R k v k = v := if_pos rfl
theorem up_other {α : Type} (R : Nat → α) (k j : Nat) (v : α) (h : j ≠ k) : up R k v j = R j := if_neg h
/-- A count stored. -/
theorem Mem.setRef {w : World} {p b n : Nat} {R : Nat → Nat} {B : Nat → Nat → Nat} (h : Mem w p b n R B) (k v : Nat) (hk : k < n) (hv : v < 1000000000) : Mem (w.setCell ⟨b, k * 65, none⟩ (.int .i64 (v : Int))) p b n (up R k v) B := by
  have hne := h.ne
  obtain ⟨⟨cap, h1, h2⟩, ⟨cs, h3, h4, h5, h6⟩, h7, h8, h9⟩ := h
  refine ⟨⟨cap, h1.other _ _ _ hne, h2⟩, ⟨_, h3.set _ _, by simpa using h4, fun j hj => ?_, fun j i hj hi => ?_⟩, h7, h8, fun j => ?_⟩
  · rw [Array.getElem?_setIfInBounds]
    by_cases e : j = k
    · subst e
      rw [if_pos rfl, if_pos (by omega), up_same]
    · rw [if_neg (by omega), up_other _ _ _ _ e]
      exact h5 j hj
  · rw [Array.getElem?_setIfInBounds, if_neg (by omega)]
    exact h6 j i hj hi
  · unfold up
    split
    · exact hv
    · exact h9 j

theorem take_full (w : World) (p b n : Nat) (R : Nat → Nat) (B : Nat → Nat → Nat) (h : Mem w p b n R B) (hf : ∀ k, k < n → R k ≠ 0) :
    Calls Try.prog 14 #[.pointer (some ⟨p, 0, none⟩)] w fun e w' => e = .returned (.tuple #[.int .i64 0, .int .i64 40]) ∧ w = w' := by
  have HM := Lib.hid (made_any w p b n R B h)
  obtain ⟨⟨cap, h1, h2⟩, ⟨cs, h3, h4, h5, _⟩, ⟨h6, h7⟩, _⟩ := h
  have c0 := h1.cell 0
  have hc : ∀ k, k < n → w.cell? ⟨b, k * 65, none⟩ = some (.int .i64 (R k : Int)) := fun k hk => (h3.cell _).trans (h5 k hk)
  clear h1 h3 h4 h5
  go_enter Try.func14, Try.ntmps14
  go_wp2_with (first | (go_at_call 30; (with_reducible refine HM.out.mono ?_); rintro e w1 ⟨rfl, rfl⟩))
  go_loop [13] (fun i => ∃ k : Nat, k ≤ n ∧ i = .int .i64 (k : Int)) (fun i => n - (intOf i).toNat)
  case atStart => exact ⟨0, Nat.zero_le _, rfl⟩
  case round =>
    obtain ⟨k, hk, rfl⟩ := hrel
    by_cases hlt : k < n
    · have c1 := hc k hlt
      have hd : ((R k : Int) == 0) = false := by have := hf k hlt; simp; omega
      clear hc hf
      go_wp2
      go_round
      case rel => exact ⟨k + 1, by omega, by go_num⟩
      case measure => simp [intOf]; omega
    · obtain rfl : k = n := by omega
      clear hc hf
      go_wp2
      go_ret2
      exact ⟨rfl, rfl⟩
theorem take_ok (w : World) (p b n : Nat) (R : Nat → Nat) (B : Nat → Nat → Nat) (h : Mem w p b n R B) (m : Nat) (hm : m < n) (hz : R m = 0) (hf : ∀ k, k < m → R k ≠ 0) :
    Calls Try.prog 14 #[.pointer (some ⟨p, 0, none⟩)] w fun e w' => e = .returned (.tuple #[.int .i64 (m : Int), .int .i64 0]) ∧ w' = w.setCell ⟨b, m * 65, none⟩ (.int .i64 1) := by
  have HM := Lib.hid (made_any w p b n R B h)
  obtain ⟨⟨cap, h1, h2⟩, ⟨cs, h3, h4, h5, _⟩, ⟨h6, h7⟩, _⟩ := h
  have c0 := h1.cell 0
  have hc : ∀ k, k < n → w.cell? ⟨b, k * 65, none⟩ = some (.int .i64 (R k : Int)) := fun k hk => (h3.cell _).trans (h5 k hk)
  have hfr := h3.free (m * 65)
  clear h1 h3 h4 h5
  go_enter Try.func14, Try.ntmps14
  go_wp2_with (first | (go_at_call 30; (with_reducible refine HM.out.mono ?_); rintro e w1 ⟨rfl, rfl⟩))
  go_loop [13] (fun i => ∃ k : Nat, k ≤ m ∧ i = .int .i64 (k : Int)) (fun i => m - (intOf i).toNat)
  case atStart => exact ⟨0, Nat.zero_le _, rfl⟩
  case round =>
    obtain ⟨k, hk, rfl⟩ := hrel
    by_cases hlt : k < m
    · have c1 := hc k (by omega)
      have hd : ((R k : Int) == 0) = false := by have := hf k hlt; simp; omega
      clear hc hf
      go_wp2
      go_round
      case rel => exact ⟨k + 1, by omega, by go_num⟩
      case measure => simp [intOf]; omega
    · obtain rfl : k = m := by omega
      have c1 := hc k (by omega)
      rw [hz] at c1
      clear hc hf hz
      go_wp2
      go_ret2
      exact ⟨rfl, rfl⟩
end Go.Proofs.Ytompcmbaiegkaaa.Fm
