/-
  Sleepers as they lie: a block that holds a map, the map's entries.
-/
import Derived.Test.YtpblnjphkgilfaaSla
import Derived.Test.YtpblnjphkgilfaaBk
import Derived.Maps.OwnIn
import Derived.Maps.OwnOps
import Derived.Maps.OwnSet
import Derived.Maps.Views
import Derived.Maps.Range
import Derived.Lib.SlKeysI
namespace Go.Proofs.Ytpblnjphkgilfaa.Slb
open Go Go.RowKit Kit Bk Sla
open Go.Maps (Keyed)
set_option linter.unusedVariables false

/-- The datum says what the list says. -/
def Al (D : DataW Unit) (L : St) : Prop := (∀ p : Int, Maps.has D (.int .i64 p) = slp L p) ∧ ∀ p : Int, D.atKey (.int .i64 p) (.lit (.int .u32 0)) = .lit (.int .u32 ((lft L p : Nat) : Int))
abbrev Ow (w : World) (b n : Nat) (D : DataW Unit) : Prop := w.ownsMap Try.prog 3 (plainElem Try.prog 31) b n D
theorem KI : Keyed Try.prog 3 := Maps.int_keyed Try.underlying3
theorem keyI {p : Int} (h : (Lit.int .i64 p).wf = true) : keyOf Try.prog 3 (.int .i64 p) = some (.int .i64 p) := Maps.keyOf_int_mk Try.underlying3 h
theorem wf64 {p : Int} (h : -9223372036854775808 ≤ p ∧ p < 9223372036854775808) : (Lit.int .i64 p).wf = true := by
  simp [Lit.wf, IntKind.min, IntKind.max, IntKind.signed, IntKind.bits]; omega
theorem wf32 {n : Nat} (h : n < 4294967296) : (Lit.int .u32 (n : Int)).wf = true := by
  simp [Lit.wf, IntKind.min, IntKind.max, IntKind.signed, IntKind.bits]; omega
theorem zeroU (w : World) : (zeroValue 31).run Try.prog w = .ok (.int .u32 0) w := by kernel_rfl
theorem ow_keys {w : World} {b n : Nat} {D : DataW Unit} {L : St} (h : Ow w b n D) (ha : Al D L) (hn : (pids L).Nodup) : (pids L).Perm (intKeys D) ∧ Maps.size D = L.length := by
  obtain ⟨es, hD, hpw, _⟩ := h.entries KI
  obtain ⟨es', hD', hk⟩ := h.keysOf
  obtain rfl : es = es' := by rw [hD] at hD'; simpa using hD'
  subst hD
  have hp : (pids L).Perm (intKeys (.map es)) := perm_intKeys hpw (fun p hp => by
    obtain ⟨key, hkey⟩ := hk p hp
    obtain ⟨x, _, hx, _⟩ := Maps.keyOf_i64 Try.underlying3 hkey
    exact ⟨x, hx⟩) hn (fun x => by rw [ha.1 x]; exact slp_mem.symm)
  refine ⟨hp, ?_⟩
  have := hp.length_eq
  simp [pids, intKeys] at this
  rw [Maps.size_eq, this]
theorem ow_norm {w : World} {b n : Nat} {D : DataW Unit} {L : St} (h : Ow w b n D) (ha : Al D L) (hn : (pids L).Nodup) : Ow w b L.length D := by
  have hs := (ow_keys h ha hn).2
  obtain ⟨es, clock, hb, F, _, hD⟩ := h
  refine ⟨es, clock, hb, F, ?_, hD⟩
  rw [← hs, hD]
  simp [Maps.size, length_sorted]
/-- A map with these entries. -/
def Mp (w : World) (b : Nat) (L : St) : Prop := ∃ D, Ow w b L.length D ∧ Al D L
theorem Mp.lt {w : World} {b : Nat} {L : St} (h : Mp w b L) : b < w.heap.size := by
  obtain ⟨D, h, _⟩ := h
  exact h.lt
theorem Mp.obj {w : World} {b : Nat} {L : St} (h : Mp w b L) : ∃ es clock, w.heap[b]? = some (.map es clock) := by
  obtain ⟨D, ⟨es, clock, h, _⟩, _⟩ := h
  exact ⟨es, clock, h⟩
theorem Mp.ne {w : World} {b g : Nat} {L : St} {cs : Array Value} {T : TypeId} (h : Mp w b L) (k : Blk w g cs T) : g ≠ b := fun e => by
  subst e
  obtain ⟨es, clock, h⟩ := h.obj
  rw [show w.heap[g]? = _ from k] at h
  cases h
theorem Mp.same {w w' : World} {b : Nat} {L : St} (h : Mp w b L) (e : w'.heap[b]? = w.heap[b]?) : Mp w' b L := by
  obtain ⟨D, ⟨es, clock, h1, h2⟩, h3⟩ := h
  exact ⟨D, ⟨es, clock, e.trans h1, h2⟩, h3⟩
theorem Mp.kept {S : Nat → Prop} {w w' : World} {b : Nat} {L : St} (h : Mp w b L) (hk : Kp S w w') (hS : ¬ S b) : Mp w' b L := h.same (hk.block b h.lt hS)
theorem Mp.below {w w' : World} {b : Nat} {L : St} (h : Mp w b L) (hb : Below w.heap.size w w') : Mp w' b L := h.same (hb.block b h.lt)
theorem al_nil : Al (.map []) [] := ⟨fun _ => rfl, fun _ => rfl⟩
theorem Mp.made (w : World) : Mp (w.alloc (.map #[] 0)) w.heap.size [] := ⟨_, World.ownsMap_made w Try.prog 3 (plainElem Try.prog 31), al_nil⟩
variable {w w' : World} {b : Nat} {L M : St} {p : Int}
theorem Mp.look (h : Mp w b L) (hp : (Lit.int .i64 p).wf = true) : (Instr.lookup 24 (.map (some b)) (.int .i64 p) true).run Try.prog w = .ok (.tuple #[.int .u32 ((lft L p : Nat) : Int), .bool (slp L p)]) w := by
  obtain ⟨D, h1, h2, h3⟩ := h
  obtain ⟨v, ps, q1, q2⟩ := h1.look_ok KI Try.underlying24 (zeroU w) (zd := .lit (.int .u32 0)) (zp := []) (plainElem_int Try.underlying31 (by decide)) (keyI hp)
  obtain ⟨c, rfl, hc, hwc⟩ := plainElem_int_inv Try.underlying31 q2
  simp only [Prod.mk.injEq] at hc
  have hc := hc.1
  rw [h3 p] at hc
  simp at hc
  rw [q1, h2 p, ← hc]
theorem Mp.look1 (h : Mp w b L) (hp : (Lit.int .i64 p).wf = true) : (Instr.lookup 24 (.map (some b)) (.int .i64 p) false).run Try.prog w = .ok (.int .u32 ((lft L p : Nat) : Int)) w := by
  obtain ⟨D, h1, h2, h3⟩ := h
  obtain ⟨v, ps, q1, q2⟩ := h1.lookup KI Try.underlying24 (zeroU w) (zd := .lit (.int .u32 0)) (zp := []) (plainElem_int Try.underlying31 (by decide)) (keyI hp)
  obtain ⟨c, rfl, hc, hwc⟩ := plainElem_int_inv Try.underlying31 q2
  simp only [Prod.mk.injEq] at hc
  have hc := hc.1
  rw [h3 p] at hc
  simp at hc
  rw [q1, ← hc]
theorem look_none (w : World) (hp : (Lit.int .i64 p).wf = true) : (Instr.lookup 24 (.map none) (.int .i64 p) true).run Try.prog w = .ok (.tuple #[.int .u32 0, .bool false]) w := by
  have := Maps.look_nil (w := w) true KI Try.underlying24 (zeroU w) (keyI hp)
  simpa using this
theorem isKey (p : Int) : WideAt.IsKeyLit (.int .i64 p) := by first | trivial | exact ⟨⟩ | decide | simp [WideAt.IsKeyLit]
theorem key_ne {p q : Int} (h : p ≠ q) : (Lit.int .i64 p) ≠ .int .i64 q := fun e => h (by cases e; rfl)
/-- A store. -/
theorem Mp.put (h : Mp w b L) (hl : L.length < 90000) (hp : (Lit.int .i64 p).wf = true) {n : Nat} (hn : n < 4294967296) (hM : (pids M).Nodup) (m1 : ∀ q, slp M q = (p == q || slp L q)) (m2 : ∀ q, lft M q = if p = q then n else lft L q) :
    ∃ w', (Instr.mapUpdate 24 (.map (some b)) (.int .i64 p) (.int .u32 (n : Int))).run Try.prog w = .ok () w' ∧ Mp w' b M ∧ Kp (fun j => j = b) w w' := by
  obtain ⟨D, h1, h2, h3⟩ := h
  obtain ⟨w', q1, q2, q3⟩ := h1.update KI Try.underlying24 (by unfold maxLen; omega) (keyI hp) (plainElem_int (H := Unit) Try.underlying31 (wf32 hn))
  have ha : Al (D.put (.int .i64 p) (.lit (.int .u32 (n : Int)))) M := by
    refine ⟨fun q => ?_, fun q => ?_⟩
    · rw [m1 q]
      by_cases e : q = p
      · subst e; rw [Maps.has_put_same h1.isMap (isKey _)]; simp
      · rw [Maps.has_put_other (key_ne e), h2 q, show (p == q) = false from beq_eq_false_iff_ne.2 (Ne.symm e), Bool.false_or]
    · rw [m2 q]
      by_cases e : q = p
      · subst e; rw [Maps.atKey_put_same h1.isMap (isKey _), if_pos rfl]
      · rw [Maps.atKey_put_other (key_ne e), h3 q, if_neg (Ne.symm e)]
  exact ⟨w', q1, ⟨_, ow_norm q2 ha hM, ha⟩, (Kp.of_grown q3).mono (fun j _ e => by cases e; rfl)⟩
/-- One is struck. -/
theorem Mp.del (h : Mp w b L) (hp : (Lit.int .i64 p).wf = true) (hM : (pids M).Nodup) (m1 : ∀ q, slp M q = (q != p && slp L q)) (m2 : ∀ q, lft M q = if (q != p) = true then lft L q else 0) (ty : TypeId) :
    ∃ w', (Builtin.delete_ #[24, 3] ty #[.map (some b), .int .i64 p]).run Try.prog w = .ok (.tuple #[]) w' ∧ Mp w' b M ∧ Kp (fun j => j = b) w w' := by
  obtain ⟨D, h1, h2, h3⟩ := h
  obtain ⟨w', q1, q2, q3⟩ := h1.drop KI Try.underlying24 (keyI hp) ty
  have ha : Al (D.del (.int .i64 p)) M := by
    refine ⟨fun q => ?_, fun q => ?_⟩
    · rw [m1 q]
      by_cases e : q = p
      · subst e; rw [Maps.has_del_same]; simp
      · rw [Maps.has_del_other (key_ne e), h2 q, show (q != p) = true from bne_iff_ne.2 e, Bool.true_and]
    · rw [m2 q]
      by_cases e : q = p
      · subst e; rw [Maps.atKey_del_same]; simp
      · rw [Maps.atKey_del_other (key_ne e), h3 q, if_pos (bne_iff_ne.2 e)]
  exact ⟨w', q1, ⟨_, ow_norm q2 ha hM, ha⟩, (Kp.of_grown q3.grown).mono (fun j _ e => by cases e; rfl)⟩
theorem del_none (w : World) (hp : (Lit.int .i64 p).wf = true) (ty : TypeId) : (Builtin.delete_ #[24, 3] ty #[.map none, .int .i64 p]).run Try.prog w = .ok (.tuple #[]) w :=
  Maps.drop_nil KI Try.underlying24 (keyI hp) ty

/-- The map of sleepers: none, or in a block. -/
def Ml (w : World) (m : Option Nat) (L : St) : Prop := match m with | none => L = [] | some b => Mp w b L
/-- Sleepers at block q, their map m. -/
structure Sv (w : World) (q : Nat) (m : Option Nat) (L : St) : Prop where
  blk : Blk w q #[.map m] 26
  map : Ml w m L
/-- What a call may turn. -/
def fr (q : Nat) (m : Option Nat) (j : Nat) : Prop := j = q ∨ some j = m
theorem Ml.kept {S : Nat → Prop} {m : Option Nat} (h : Ml w m L) (hk : Kp S w w') (hS : ∀ b, m = some b → ¬ S b) : Ml w' m L := by
  cases m with
  | none => exact h
  | some b => exact Mp.kept h hk (hS b rfl)
theorem Sv.kept {S : Nat → Prop} {q : Nat} {m : Option Nat} (h : Sv w q m L) (hk : Kp S w w') (hq : ¬ S q) (hS : ∀ b, m = some b → ¬ S b) : Sv w' q m L := ⟨h.blk.kept hk hq, h.map.kept hk hS⟩
theorem Sv.below {q : Nat} {m : Option Nat} (h : Sv w q m L) (hb : Below w.heap.size w w') : Sv w' q m L := h.kept (Kp.of_below (S := fun _ => False) hb) (fun e => e) (fun _ _ e => e)
theorem Ml.lt {m : Option Nat} (h : Ml w m L) : ∀ b, m = some b → b < w.heap.size := by
  intro b e
  subst e
  exact Mp.lt h
theorem Ml.look {m : Option Nat} (h : Ml w m L) (hp : (Lit.int .i64 p).wf = true) : (Instr.lookup 24 (.map m) (.int .i64 p) true).run Try.prog w = .ok (.tuple #[.int .u32 ((lft L p : Nat) : Int), .bool (slp L p)]) w := by
  cases m with
  | none => cases h; exact look_none w hp
  | some b => exact Mp.look h hp
end Go.Proofs.Ytpblnjphkgilfaa.Slb
