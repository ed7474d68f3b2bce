/-
  The table as it lies: a block that holds room, map and row; the map's entries, records of three cells.
-/
import Derived.Test.YtkjcjodhpcfjiaaTea
import Derived.Test.YtkjcjodhpcfjiaaBk
import Derived.Maps.OwnIn
import Derived.Maps.OwnOps
import Derived.Maps.OwnSet
import Derived.Maps.Views
import Derived.Maps.Range
import Derived.Lib.SlKeysI
namespace Go.Proofs.Ytkjcjodhpcfjiaa.Teb
open Go Go.RowKit Kit Bk Tea
open Go.Maps (Keyed)
set_option linter.unusedVariables false

abbrev uv (m : Nat) : Value := .int .u32 (m : Int)
abbrev pv (q : Nat) : Value := .pointer (some ⟨q, 0, none⟩)
/-- A record as a value; as a datum. -/
def rv (r : Rc) : Value := .agg #[.int .i64 r.par, .int .i64 r.st, uv r.su]
def dr (r : Rc) : DataW Unit := .agg [.lit (.int .i64 r.par), .lit (.int .i64 r.st), .lit (.int .u32 r.su)]
theorem rv_inj {r r' : Rc} (h : rv r = rv r') : r = r' := by
  obtain ⟨a, b, c⟩ := r
  obtain ⟨a', b', c'⟩ := r'
  simp [rv] at h
  obtain ⟨rfl, rfl, h⟩ := h
  obtain rfl : c = c' := by omega
  rfl
theorem dr_inj {r r' : Rc} (h : dr r = dr r') : r = r' := by
  obtain ⟨a, b, c⟩ := r
  obtain ⟨a', b', c'⟩ := r'
  simp [dr] at h
  obtain ⟨rfl, rfl, h⟩ := h
  obtain rfl : c = c' := by omega
  rfl
/-- How an entry's value reads. -/
noncomputable def Rd (v : Value) : Option (DataW Unit × List MemPlace) := by
  classical exact if h : ∃ r : Rc, v = rv r then some (dr (Classical.choose h), []) else none
theorem rd_rv (r : Rc) : Rd (rv r) = some (dr r, []) := by
  have h : ∃ r' : Rc, rv r = rv r' := ⟨r, rfl⟩
  unfold Rd
  rw [dif_pos h, ← rv_inj (Classical.choose_spec h)]
theorem rd_inv {v : Value} {r : Rc} {ps : List MemPlace} (h : Rd v = some (dr r, ps)) : v = rv r := by
  unfold Rd at h
  split at h
  · rename_i h2
    simp only [Option.some.injEq, Prod.mk.injEq] at h
    rw [Classical.choose_spec h2, dr_inj h.1]
  · cases h
/-- The datum says what the list says. -/
def Al (D : DataW Unit) (L : St) : Prop := (∀ p : Int, Maps.has D (.int .i64 p) = hs L p) ∧ ∀ p : Int, D.atKey (.int .i64 p) (dr Z) = dr (gt L p)
abbrev Ow (w : World) (b n : Nat) (D : DataW Unit) : Prop := w.ownsMap Try.prog 3 Rd b n D
theorem KI : Keyed Try.prog 3 := Maps.int_keyed Try.underlying3
theorem keyI {p : Int} (h : (Lit.int .i64 p).wf = true) : keyOf Try.prog 3 (.int .i64 p) = some (.int .i64 p) := Maps.keyOf_int_mk Try.underlying3 h
theorem wf64 {p : Int} (h : -9223372036854775808 ≤ p ∧ p < 9223372036854775808) : (Lit.int .i64 p).wf = true := by
  simp [Lit.wf, IntKind.min, IntKind.max, IntKind.signed, IntKind.bits]; omega
theorem wf32 {n : Nat} (h : n < 4294967296) : (Lit.int .u32 (n : Int)).wf = true := by
  simp [Lit.wf, IntKind.min, IntKind.max, IntKind.signed, IntKind.bits]; omega
theorem zeroP (w : World) : (zeroValue 61).run Try.prog w = .ok (rv Z) w := by kernel_rfl
theorem ow_keys {w : World} {b n : Nat} {D : DataW Unit} {L : St} (h : Ow w b n D) (ha : Al D L) (hn : (pids L).Nodup) : (pids L).Perm (intKeys D) ∧ Maps.size D = L.length := by
  obtain ⟨es, hD, hpw, _⟩ := h.entries KI
  obtain ⟨es', hD', hk⟩ := h.keysOf
  obtain rfl : es = es' := by rw [hD] at hD'; simpa using hD'
  subst hD
  have hp : (pids L).Perm (intKeys (.map es)) := perm_intKeys hpw (fun p hp => by
    obtain ⟨key, hkey⟩ := hk p hp
    obtain ⟨x, _, hx, _⟩ := Maps.keyOf_i64 Try.underlying3 hkey
    exact ⟨x, hx⟩) hn (fun x => by rw [ha.1 x]; exact hs_mem.symm)
  refine ⟨hp, ?_⟩
  have := hp.length_eq
  simp [pids, intKeys] at this
  rw [Maps.size_eq, this]
theorem ow_norm {w : World} {b n : Nat} {D : DataW Unit} {L : St} (h : Ow w b n D) (ha : Al D L) (hn : (pids L).Nodup) : Ow w b L.length D := by
  have hs := (ow_keys h ha hn).2
  obtain ⟨es, clock, hb, F, _, hD⟩ := h
  refine ⟨es, clock, hb, F, ?_, hD⟩
  rw [← hs, hD]
  simp [Maps.size, length_sorted]
/-- A map with these entries. -/
def Mp (w : World) (b : Nat) (L : St) : Prop := ∃ D, Ow w b L.length D ∧ Al D L
theorem Mp.lt {w : World} {b : Nat} {L : St} (h : Mp w b L) : b < w.heap.size := by
  obtain ⟨D, h, _⟩ := h
  exact h.lt
theorem Mp.obj {w : World} {b : Nat} {L : St} (h : Mp w b L) : ∃ es clock, w.heap[b]? = some (.map es clock) := by
  obtain ⟨D, ⟨es, clock, h, _⟩, _⟩ := h
  exact ⟨es, clock, h⟩
theorem Mp.ne {w : World} {b g : Nat} {L : St} {cs : Array Value} {T : TypeId} (h : Mp w b L) (k : Blk w g cs T) : g ≠ b := fun e => by
  subst e
  obtain ⟨es, clock, h⟩ := h.obj
  rw [show w.heap[g]? = _ from k] at h
  cases h
theorem Mp.same {w w' : World} {b : Nat} {L : St} (h : Mp w b L) (e : w'.heap[b]? = w.heap[b]?) : Mp w' b L := by
  obtain ⟨D, ⟨es, clock, h1, h2⟩, h3⟩ := h
  exact ⟨D, ⟨es, clock, e.trans h1, h2⟩, h3⟩
theorem Mp.kept {S : Nat → Prop} {w w' : World} {b : Nat} {L : St} (h : Mp w b L) (hk : Kp S w w') (hS : ¬ S b) : Mp w' b L := h.same (hk.block b h.lt hS)
theorem Mp.below {w w' : World} {b : Nat} {L : St} (h : Mp w b L) (hb : Below w.heap.size w w') : Mp w' b L := h.same (hb.block b h.lt)
theorem al_nil : Al (.map []) [] := ⟨fun _ => rfl, fun _ => rfl⟩
theorem Mp.made (w : World) : Mp (w.alloc (.map #[] 0)) w.heap.size [] := ⟨_, World.ownsMap_made w Try.prog 3 Rd, al_nil⟩
variable {w w' : World} {b : Nat} {L M : St} {p : Int}
theorem Mp.look1 (h : Mp w b L) (hp : (Lit.int .i64 p).wf = true) : (Instr.lookup 62 (.map (some b)) (.int .i64 p) false).run Try.prog w = .ok (rv (gt L p)) w := by
  obtain ⟨D, h1, h2, h3⟩ := h
  obtain ⟨v, ps, q1, q2⟩ := h1.lookup KI Try.underlying62 (zeroP w) (zd := dr Z) (zp := []) (rd_rv Z) (keyI hp)
  rw [h3 p] at q2
  rw [q1, rd_inv q2]
theorem look_none (w : World) (hp : (Lit.int .i64 p).wf = true) : (Instr.lookup 62 (.map none) (.int .i64 p) false).run Try.prog w = .ok (rv Z) w := by
  have := Maps.look_nil (w := w) false KI Try.underlying62 (zeroP w) (keyI hp)
  simpa using this
theorem Mp.len (h : Mp w b L) (hu : Up L) (ty : TypeId) : (Builtin.len_ #[62] ty #[.map (some b)]).run Try.prog w = .ok (.int .i64 ((L.length : Nat) : Int)) w := by
  obtain ⟨D, h1, h2⟩ := h
  rw [h1.len Try.underlying62 ty, (ow_keys h1 h2 hu.nodup).2]
theorem isKey (p : Int) : WideAt.IsKeyLit (.int .i64 p) := by first | trivial | exact ⟨⟩ | decide | simp [WideAt.IsKeyLit]
theorem key_ne {p q : Int} (h : p ≠ q) : (Lit.int .i64 p) ≠ .int .i64 q := fun e => h (by cases e; rfl)
/-- A store. -/
theorem Mp.put (h : Mp w b L) (hl : L.length < 90000) (hp : (Lit.int .i64 p).wf = true) (r : Rc) (hM : Up M) (m1 : ∀ q, hs M q = (p == q || hs L q)) (m2 : ∀ q, gt M q = if p = q then r else gt L q) :
    ∃ w', (Instr.mapUpdate 62 (.map (some b)) (.int .i64 p) (rv r)).run Try.prog w = .ok () w' ∧ Mp w' b M ∧ Kp (fun j => j = b) w w' := by
  obtain ⟨D, h1, h2, h3⟩ := h
  obtain ⟨w', q1, q2, q3⟩ := h1.update KI Try.underlying62 (by unfold maxLen; omega) (keyI hp) (rd_rv r)
  have ha : Al (D.put (.int .i64 p) (dr r)) M := by
    refine ⟨fun q => ?_, fun q => ?_⟩
    · rw [m1 q]
      by_cases e : q = p
      · subst e; rw [Maps.has_put_same h1.isMap (isKey _)]; simp
      · rw [Maps.has_put_other (key_ne e), h2 q, show (p == q) = false from beq_eq_false_iff_ne.2 (Ne.symm e), Bool.false_or]
    · rw [m2 q]
      by_cases e : q = p
      · subst e; rw [Maps.atKey_put_same h1.isMap (isKey _), if_pos rfl]
      · rw [Maps.atKey_put_other (key_ne e), h3 q, if_neg (Ne.symm e)]
  exact ⟨w', q1, ⟨_, ow_norm q2 ha hM.nodup, ha⟩, (Kp.of_grown q3).mono (fun j _ e => by cases e; rfl)⟩
theorem Mp.ins (h : Mp w b L) (hl : L.length < 90000) (hp : (Lit.int .i64 p).wf = true) (r : Rc) (hu : Up L) :
    ∃ w', (Instr.mapUpdate 62 (.map (some b)) (.int .i64 p) (rv r)).run Try.prog w = .ok () w' ∧ Mp w' b (ins L p r) ∧ Kp (fun j => j = b) w w' :=
  h.put hl hp r (hu.ins p r) (hs_ins L p r) (gt_ins L p r)
/-- One is changed. -/
theorem Mp.turn (h : Mp w b L) (hl : L.length < 90000) (hp : (Lit.int .i64 p).wf = true) (r : Rc) (hu : Up M) (hin : hs L p = true) (m1 : ∀ q, hs M q = hs L q) (m2 : ∀ q, hs L q = true → gt M q = if p = q then r else gt L q) :
    ∃ w', (Instr.mapUpdate 62 (.map (some b)) (.int .i64 p) (rv r)).run Try.prog w = .ok () w' ∧ Mp w' b M ∧ Kp (fun j => j = b) w w' :=
  h.put hl hp r hu (fun q => by
    rw [m1 q]
    by_cases e : p = q
    · subst e; rw [hin]; simp
    · rw [show (p == q) = false from beq_eq_false_iff_ne.2 e, Bool.false_or]) (fun q => by
    cases hq : hs L q
    · have e : p ≠ q := fun e => by subst e; rw [hin] at hq; cases hq
      rw [if_neg e, gt_no hq, gt_no (by rw [m1 q, hq])]
    · exact m2 q hq)
/-- One is struck. -/
theorem Mp.del (h : Mp w b L) (hp : (Lit.int .i64 p).wf = true) (hu : Up L) (ty : TypeId) :
    ∃ w', (Builtin.delete_ #[62, 3] ty #[.map (some b), .int .i64 p]).run Try.prog w = .ok (.tuple #[]) w' ∧ Mp w' b (Tea.del L p) ∧ Kp (fun j => j = b) w w' := by
  obtain ⟨D, h1, h2, h3⟩ := h
  obtain ⟨w', q1, q2, q3⟩ := h1.drop KI Try.underlying62 (keyI hp) ty
  have ha : Al (D.del (.int .i64 p)) (Tea.del L p) := by
    refine ⟨fun q => ?_, fun q => ?_⟩
    · rw [hs_del]
      by_cases e : q = p
      · subst e; rw [Maps.has_del_same]; simp
      · rw [Maps.has_del_other (key_ne e), h2 q, show (q != p) = true from bne_iff_ne.2 e, Bool.true_and]
    · rw [gt_del]
      by_cases e : q = p
      · subst e; rw [Maps.atKey_del_same]; simp
      · rw [Maps.atKey_del_other (key_ne e), h3 q, if_pos (bne_iff_ne.2 e)]
  exact ⟨w', q1, ⟨_, ow_norm q2 ha (hu.del p).nodup, ha⟩, (Kp.of_grown q3.grown).mono (fun j _ e => by cases e; rfl)⟩

/-- Rows, as they lie. -/
theorem own_kept {S : Nat → Prop} {w w' : World} {base : Nat} {e : TypeId} {s : Nat} {v : Value} {n : Nat} {xs : List Value} (h : w.ownsRow base e s v n xs) (hk : Kp S w w') (hS : ∀ g, v.ownBlock = some g → ¬ S g) : w'.ownsRow base e s v n xs := by
  refine ⟨h.1, ?_⟩
  rcases h.2 with h2 | ⟨g, cap, cur, hv, hg, hh, h3⟩
  · exact .inl h2
  · exact .inr ⟨g, cap, cur, hv, hg, (hk.block g (Array.getElem?_eq_some_iff.1 hh).1 (hS g (by rw [hv]; rfl))).trans hh, h3⟩
theorem own_cells {w : World} {base : Nat} {e : TypeId} {s : Nat} {v : Value} {n : Nat} {xs : List Value} (h : w.ownsRow base e s v n xs) {g : Nat} (hg : v.ownBlock = some g) : base ≤ g ∧ ∃ cs, w.heap[g]? = some (.cells cs e (0, 0)) := by
  rcases h.2 with ⟨rfl, _⟩ | ⟨g', cap, cur, rfl, hb, hh, _⟩
  · cases hg
  · obtain rfl : g' = g := by simpa [Value.ownBlock] using hg
    exact ⟨hb, cur, hh⟩

/-- The table at block q: its map b, its row v of pids that ever were; all of it from B on. -/
structure Tb (B : Nat) (w : World) (q b : Nat) (v : Value) (rm : Nat) (L : St) (S : List Bool) : Prop where
  blk : Blk w q #[.int .i64 (rm : Int), .map (some b), v] 65
  map : Mp w b L
  row : w.ownsRow B 4 1 v S.length (S.map Value.bool)
  lo : B ≤ q ∧ B ≤ b
/-- What a call may turn. -/
def fr (q b : Nat) (v : Value) (j : Nat) : Prop := j = q ∨ j = b ∨ v.ownBlock = some j
variable {B q : Nat} {v : Value} {rm : Nat} {S : List Bool}
theorem Tb.kept {F : Nat → Prop} (h : Tb B w q b v rm L S) (hk : Kp F w w') (hF : ∀ j, fr q b v j → ¬ F j) : Tb B w' q b v rm L S :=
  ⟨h.blk.kept hk (hF _ (.inl rfl)), h.map.kept hk (hF _ (.inr (.inl rfl))), own_kept h.row hk (fun g e => hF _ (.inr (.inr e))), h.lo⟩
theorem Tb.below (h : Tb B w q b v rm L S) (hb : Below w.heap.size w w') : Tb B w' q b v rm L S :=
  h.kept (Kp.of_below (S := fun _ => False) hb) (fun _ _ e => e)
theorem Tb.fr_lo (h : Tb B w q b v rm L S) : ∀ j, fr q b v j → B ≤ j := fun j e => by
  rcases e with e | e | e
  · rw [e]; exact h.lo.1
  · rw [e]; exact h.lo.2
  · exact (own_cells h.row e).1
theorem Tb.fr_lt (h : Tb B w q b v rm L S) : ∀ j, fr q b v j → j < w.heap.size := fun j e => by
  rcases e with e | e | e
  · rw [e]; exact h.blk.lt
  · rw [e]; exact h.map.lt
  · obtain ⟨_, cs, h⟩ := own_cells h.row e; exact (Array.getElem?_eq_some_iff.1 h).1
/-- Blocks of other types are not the table's. -/
theorem Tb.not_fr (h : Tb B w q b v rm L S) {g : Nat} {cs : Array Value} {T : TypeId} {z : Nat × Nat} (hg : w.heap[g]? = some (.cells cs T z)) (h1 : T ≠ 65) (h2 : T ≠ 4) : ¬ fr q b v g := fun e => by
  rcases e with e | e | e
  · subst e
    rw [show w.heap[g]? = _ from h.blk] at hg
    cases hg
    exact h1 rfl
  · subst e
    obtain ⟨es, ck, ho⟩ := h.map.obj
    rw [ho] at hg
    cases hg
  · obtain ⟨_, cs, ho⟩ := own_cells h.row e
    rw [ho] at hg
    cases hg
    exact h2 rfl
theorem Tb.cell0 (h : Tb B w q b v rm L S) : w.cell? ⟨q, 0, none⟩ = some (.int .i64 (rm : Int)) := h.blk.cell 0
theorem Tb.cell1 (h : Tb B w q b v rm L S) : w.cell? ⟨q, 1, none⟩ = some (.map (some b)) := h.blk.cell 1
theorem Tb.cell2 (h : Tb B w q b v rm L S) : w.cell? ⟨q, 2, none⟩ = some v := h.blk.cell 2
/-- The row of pids that ever were: a slice, its cells. -/
theorem row_cells {w : World} {B : Nat} {v : Value} {S : List Bool} (h : w.ownsRow B 4 1 v S.length (S.map Value.bool)) : ∃ a c, v = .slice a S.length c ∧ c ≤ maxLen ∧ S.length ≤ c ∧ ∀ i (hi : i < S.length), ∃ r, a = some ⟨r, 0, none⟩ ∧ w.cell? ⟨r, i, none⟩ = some (.bool S[i]) := by
  rcases h.2 with ⟨rfl, h0⟩ | ⟨g, cap, cur, rfl, hg, hh, h3, h4, h5, h6⟩
  · exact ⟨none, 0, by rw [h0], Nat.zero_le _, by omega, fun i hi => by omega⟩
  · refine ⟨_, cap, rfl, h4, h3, fun i hi => ⟨g, rfl, ?_⟩⟩
    rw [h.cellAt i (by omega)]
    simp [hi]
end Go.Proofs.Ytkjcjodhpcfjiaa.Teb
