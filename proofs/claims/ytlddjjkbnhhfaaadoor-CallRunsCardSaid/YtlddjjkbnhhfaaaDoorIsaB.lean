/-
  The program that lines make: what its memory holds; a word more.
-/
import Derived.Test.YtlddjjkbnhhfaaaDoorIsaR
import Derived.Maps.OwnSet
import Derived.Maps.AppendAt
import Derived.OneCell
import Derived.StillTailTactics
import Derived.RangeFuncNested
namespace Go.Proofs.YtlddjjkbnhhfaaaDoor.IsaB
open Go Go.RowKit Kit IsaM IsaT IsaL IsaC IsaE IsaN IsaD IsaA IsaW IsaS IsaP IsaR
open Go.Maps (Keyed)
set_option linter.unusedVariables false

structure Jmp where
  line : Nat
  place : Nat
  k : Nat
  a : Int
  b : Int
  i : Int
  label : Tx
structure PSt where
  words : List Nat
  places : List (Tx × Nat)
  jumps : List Jmp

def u32s (l : List Nat) : List Value := l.map fun (x : Nat) => Value.int .u32 (x : Int)
def jcell (j : Jmp) : List Value := [.int .i64 (j.line : Int), .int .i64 (j.place : Int), .int .i64 (j.k : Int), .int .i64 j.a, .int .i64 j.b, .int .i64 j.i, .string (st j.label)]
def jcells (l : List Jmp) : List Value := l.flatMap jcell
theorem jcells_len (l : List Jmp) : (jcells l).length = l.length * 7 := by
  induction l with
  | nil => rfl
  | cons a r ih => show (jcell a ++ jcells r).length = _; rw [List.length_append, ih, List.length_cons]; simp [jcell]; omega
def place (t : Tx) : List (Tx × Nat) → Option Nat
  | [] => none
  | (s, n) :: r => if s = t then some n else place t r
def mapD : List (Tx × Nat) → DataW Unit
  | [] => .map []
  | (s, n) :: r => (mapD r).put (.string s) (.lit (.int .i64 (n : Int)))
theorem mapD_isMap : ∀ l, Maps.IsMap (mapD l)
  | [] => Maps.isMap_empty
  | (s, n) :: r => (mapD_isMap r).put _ _
theorem isKey (s : Tx) : WideAt.IsKeyLit (.string s) := by unfold WideAt.IsKeyLit; trivial
theorem has_mapD (t : Tx) : ∀ l, Maps.has (mapD l) (.string t) = (place t l).isSome
  | [] => rfl
  | (s, n) :: r => by
    unfold place mapD
    by_cases h : s = t
    · subst h; rw [if_pos rfl, Maps.has_put_same (mapD_isMap r) (isKey s)]; rfl
    · rw [if_neg h, Maps.has_put_other (fun e => h (by cases e; rfl)), has_mapD t r]
theorem at_mapD (t : Tx) : ∀ l, (mapD l).atKey (.string t) (.lit (.int .i64 0)) = .lit (.int .i64 (((place t l).getD 0 : Nat) : Int))
  | [] => rfl
  | (s, n) :: r => by
    unfold place mapD
    by_cases h : s = t
    · subst h; rw [if_pos rfl, Maps.atKey_put_same (mapD_isMap r) (isKey s)]; rfl
    · rw [if_neg h, Maps.atKey_put_other (fun e => h (by cases e; rfl)), at_mapD t r]

theorem info24 : (Tryd.prog.info? 22).map (fun i => (i.zero, i.size, i.bytes)) = some (some (.int .u32 0), 1, 4) := by kernel_rfl
theorem info111 : (Tryd.prog.info? 112).map (fun i => (i.zero, i.size, i.bytes)) = some (some (.agg #[.int .i64 0, .int .i64 0, .int .i64 0, .int .i64 0, .int .i64 0, .int .i64 0, .string ⟨#[]⟩]), 7, 64) := by kernel_rfl

/-- The struct in block Bp, its map in block Bm, hold p; all of it lies from B0 on. -/
structure St (B0 Bp Bm : Nat) (p : PSt) (w : World) : Prop where
  lo : B0 ≤ Bp ∧ B0 ≤ Bm
  hold : ∃ v1 v3, Blk w Bp #[v1, .map (some Bm), v3] 88 ∧ w.ownsRow B0 22 1 v1 p.words.length (u32s p.words) ∧ w.ownsRow B0 112 7 v3 p.jumps.length (jcells p.jumps)
  map : w.ownsMap Tryd.prog 9 (plainElem Tryd.prog 3) Bm p.places.length (mapD p.places)
  le : p.words.length ≤ 512 ∧ p.jumps.length ≤ 1000 ∧ p.places.length ≤ 1000000000
  u32 : ∀ x ∈ p.words, x < 4294967296

/-- A row is nil or a slice that begins its block. -/
theorem row_form {w : World} {base : Nat} {e : TypeId} {size : Nat} {v : Value} {n : Nat} {xs : List Value} (h : w.ownsRow base e size v n xs) : ∃ ad cap, v = .slice ad n cap := by
  rcases h.2 with ⟨h1, h2⟩ | ⟨g, cap, cur, h1, _⟩
  · subst h2; exact ⟨none, 0, h1⟩
  · exact ⟨_, _, h1⟩
theorem row_ne {w : World} {base : Nat} {e : TypeId} {size : Nat} {v : Value} {n : Nat} {xs : List Value} (h : w.ownsRow base e size v n xs) {b : Nat} {cs : Array Value} {T : TypeId} (hb : Blk w b cs T) (ht : T ≠ e) : v.ownBlock ≠ some b := fun e' => by
  rcases h.2 with ⟨h1, h2⟩ | ⟨g, cap, cur, h1, hg, hh, _⟩
  · subst h1; simp [Value.ownBlock] at e'
  · subst h1
    simp [Value.ownBlock] at e'
    subst e'
    unfold Blk at hb
    rw [hb] at hh
    cases hh
    exact ht rfl
theorem row_block {w : World} {base : Nat} {e : TypeId} {size : Nat} {v : Value} {n : Nat} {xs : List Value} (h : w.ownsRow base e size v n xs) {r : Nat} (hr : v.ownBlock = some r) : base ≤ r ∧ ∃ cs, Blk w r cs e := by
  rcases h.2 with ⟨h1, h2⟩ | ⟨g, cap, cur, h1, hg, hh, _⟩
  · subst h1; simp [Value.ownBlock] at hr
  · subst h1; simp [Value.ownBlock] at hr; subst hr; exact ⟨hg, cur, hh⟩
theorem row_set {w : World} {base : Nat} {e : TypeId} {size : Nat} {v : Value} {n : Nat} {xs : List Value} (h : w.ownsRow base e size v n xs) {b : Nat} {cs : Array Value} {T : TypeId} (hb : Blk w b cs T) (ht : T ≠ e) (i : Nat) (x : Value) : (w.setCell ⟨b, i, none⟩ x).ownsRow base e size v n xs := ownsRow_setCell_other h (row_ne h hb ht) x

/-- What a step of the program's own keeps: all below B0; cells of other types; what is no cells, but the map. -/
structure Fr (B0 Bm : Nat) (w w' : World) : Prop where
  bel : Below B0 w w'
  grow : w.heap.size ≤ w'.heap.size
  cells : ∀ b cs T, T ≠ 88 → T ≠ 22 → T ≠ 112 → Blk w b cs T → Blk w' b cs T
  oth : ∀ k o, k ≠ Bm → w.heap[k]? = some o → o.isCells = false → w'.heap[k]? = some o
theorem Fr.refl (B0 Bm : Nat) (w : World) : Fr B0 Bm w w := ⟨Below.refl _ _, Nat.le_refl _, fun _ _ _ _ _ _ h => h, fun _ _ _ h _ => h⟩
theorem Fr.trans {B0 Bm : Nat} {a b c : World} (h : Fr B0 Bm a b) (k : Fr B0 Bm b c) : Fr B0 Bm a c :=
  ⟨h.bel.trans k.bel, Nat.le_trans h.grow k.grow, fun x cs T h1 h2 h3 hb => k.cells x cs T h1 h2 h3 (h.cells x cs T h1 h2 h3 hb), fun x o hx ho hc => k.oth x o hx (h.oth x o hx ho hc) hc⟩
theorem Fr.below {B0 Bm : Nat} {w w' : World} (h : Below w.heap.size w w') (hB : B0 ≤ w.heap.size) : Fr B0 Bm w w' :=
  ⟨h.mono hB, h.size, fun b cs T _ _ _ hb => hb.below h, fun k o _ ho _ => (h.block k (Array.getElem?_eq_some_iff.1 ho).1).trans ho⟩
theorem Fr.grown {B0 Bm : Nat} {w w' : World} {row : Option Nat} (hg : w.grownBy w' row) (hB : B0 ≤ w.heap.size) (hrow : ∀ r, row = some r → B0 ≤ r ∧ ((∃ cs T, Blk w r cs T ∧ (T = 88 ∨ T = 22 ∨ T = 112)) ∨ (r = Bm ∧ ∃ o, w.heap[r]? = some o ∧ o.isCells = false))) : Fr B0 Bm w w' := by
  refine ⟨(Below.refl _ _).grown hg hB (fun j e => (hrow j e).1), hg.size, fun b cs T h1 h2 h3 hb => ?_, fun k o hk ho hc => ?_⟩
  · refine (hg.block b hb.lt (fun e => ?_)).trans hb
    rcases (hrow b e.symm).2 with ⟨cs', T', hb', hT⟩ | ⟨_, o, ho, hc⟩
    · unfold Blk at hb hb'
      rw [hb] at hb'
      cases hb'
      rcases hT with h | h | h
      · exact h1 h
      · exact h2 h
      · exact h3 h
    · unfold Blk at hb
      rw [hb] at ho
      cases ho
      simp [Obj.isCells] at hc
  · refine (hg.block k (Array.getElem?_eq_some_iff.1 ho).1 (fun e => ?_)).trans ho
    rcases (hrow k e.symm).2 with ⟨cs', T', hb', hT⟩ | ⟨h, _⟩
    · unfold Blk at hb'
      rw [ho] at hb'
      cases hb'
      simp [Obj.isCells] at hc
    · exact hk h
theorem Fr.set {B0 Bm : Nat} {w : World} {b : Nat} {cs : Array Value} {T : TypeId} (hb : Blk w b cs T) (hB : B0 ≤ b) (hT : T = 88 ∨ T = 22 ∨ T = 112) (i : Nat) (x : Value) : Fr B0 Bm w (w.setCell ⟨b, i, none⟩ x) :=
  Fr.grown (row := some b) ⟨rfl, rfl, rfl, by rw [Deep.nblk_setCell]; exact Nat.le_refl _, fun k _ hk => Deep.blk_setCell_other w ⟨b, i, none⟩ x k (fun e => hk (by rw [e]))⟩ (Nat.le_of_lt (Nat.lt_of_le_of_lt hB hb.lt)) (fun r e => by cases e; exact ⟨hB, .inl ⟨cs, T, hb, hT⟩⟩)
/-- The program's state stands under what turns none of its blocks. -/
theorem St.grown {B0 Bp Bm : Nat} {p : PSt} {w w' : World} {row : Option Nat} (h : St B0 Bp Bm p w) (hg : w.grownBy w' row) (hrow : ∀ r, row = some r → r ≠ Bm ∧ ∀ cs T, Blk w r cs T → T ≠ 88 ∧ T ≠ 22 ∧ T ≠ 112) : St B0 Bp Bm p w' := by
  obtain ⟨v1, v3, hb, h1, h3⟩ := h.hold
  have k1 : v1.ownBlock = none ∨ v1.ownBlock ≠ row := by
    cases hv : v1.ownBlock with
    | none => exact .inl rfl
    | some r =>
      refine .inr fun e => ?_
      obtain ⟨_, cs, hbb⟩ := row_block h1 hv
      exact ((hrow r e.symm).2 cs _ hbb).2.1 rfl
  have k3 : v3.ownBlock = none ∨ v3.ownBlock ≠ row := by
    cases hv : v3.ownBlock with
    | none => exact .inl rfl
    | some r =>
      refine .inr fun e => ?_
      obtain ⟨_, cs, hbb⟩ := row_block h3 hv
      exact ((hrow r e.symm).2 cs _ hbb).2.2 rfl
  refine ⟨h.lo, ⟨v1, v3, (hg.block Bp hb.lt (fun e => ((hrow Bp e.symm).2 _ _ hb).1 rfl)).trans hb, h1.kept hg k1, h3.kept hg k3⟩, h.map.kept hg (fun e => (hrow Bm e.symm).1 rfl), h.le, h.u32⟩
theorem grown_below {w w' : World} (h : Below w.heap.size w w') : w.grownBy w' none := ⟨h.1, h.2, h.3, h.size, fun k hk _ => h.block k hk⟩
theorem St.below {B0 Bp Bm : Nat} {p : PSt} {w w' : World} (h : St B0 Bp Bm p w) (hb : Below w.heap.size w w') : St B0 Bp Bm p w' := h.grown (grown_below hb) (fun r e => by cases e)
theorem St.hs {B0 Bp Bm : Nat} {p : PSt} {w : World} (h : St B0 Bp Bm p w) : B0 ≤ w.heap.size := by
  obtain ⟨v1, v3, hb, _⟩ := h.hold
  have := hb.lt
  have := h.lo
  omega
end Go.Proofs.YtlddjjkbnhhfaaaDoor.IsaB
