/-
  FutexKeys: what the walk carries, with the map of numbers met.
-/
import Derived.Test.YtpfnjeicenhciaaFtu
import Derived.Maps.OwnIn
import Derived.Maps.OwnOps
import Derived.Maps.OwnSet
import Derived.Maps.Views
namespace Go.Proofs.Ytpfnjeicenhciaa.Ftv
open Go Go.RowKit Kit Bk Fta Ftb Ftc Ftd Fte Ftf Ftg Fth Fti Ftj Ftk Ftl Ftm Ftn Fto Ftq Ftr Fts Ftt Ftu
open Go.Maps (Keyed)
set_option linter.unusedVariables false

theorem zeroI (w : World) : (zeroValue 3).run Try.prog w = .ok (.int .i64 0) w := by kernel_rfl
theorem own1_ne {L : List Wt} (h : Own1 L) {m i : Nat} (hm : m < i) (hi : i < L.length) : L[m].q ≠ L[i].q := by
  unfold Own1 at h
  have := List.pairwise_iff_getElem.1 h m i (by rw [List.length_map]; omega) (by rw [List.length_map]; omega) hm
  simpa using this
/-- Who waits, waits where he stands. -/
theorem key_self {c i : Nat} {L : List Wt} (h : Gd c L) (hi : i < L.length) : fkK L L[i].q = L[i].k ∧ fkB L L[i].q = true := by
  have hne : ∀ m (hm : m < i), L[m].q ≠ L[i].q := fun m hm => own1_ne h.own hm hi
  have hs := fk_some hi hne rfl
  exact ⟨by unfold fkK; rw [hs]; rfl, by unfold fkB; rw [hs]; rfl⟩
theorem run_same (k : Ky) (hk : Fta.kwf k) (w : World) : (Op.equalIn 10000 31 (kv k) (kv k)).run Try.prog w = .ok true w := by
  rw [run_key k k hk hk w]
  simp
/-- The futex f (of L), all who wait (slice ua), and the map of those met. -/
structure Ks (W1 w : World) (f r b0 bm i : Nat) (k : Ky) (L : List Wt) (ua : Value) : Prop where
  on_ : On W1 w f r L
  key : Blk w b0 #[.int .i64 k.p, .int .i64 k.f, .int .i64 k.o] 31
  all : Nw w ua L
  map : ∃ D : DataW Unit, w.ownsMap Try.prog 3 (plainElem Try.prog 3) bm i D ∧ ∀ q : Int, Maps.has D (.int .i64 q) = true → ∃ m, m < i ∧ ∃ x, L[m]? = some x ∧ x.q = q
  bml : W1.heap.size ≤ bm
variable {W1 w w' : World} {f r b0 bm i : Nat} {k : Ky} {L : List Wt} {ua : Value}
theorem map_below {k b n : Nat} {X Y : World} {D : DataW Unit} (h : X.ownsMap Try.prog k (plainElem Try.prog 3) b n D) (hk : Below X.heap.size X Y) : Y.ownsMap Try.prog k (plainElem Try.prog 3) b n D := by
  obtain ⟨es, clock, h1, h2⟩ := h
  exact ⟨es, clock, (hk.block b (Array.getElem?_eq_some_iff.1 h1).1).trans h1, h2⟩
theorem Ks.below (h : Ks W1 w f r b0 bm i k L ua) (hb : Below w.heap.size w w') : Ks W1 w' f r b0 bm i k L ua := by
  obtain ⟨h1, h2, h3, ⟨D, h4, h5⟩, h6⟩ := h
  exact ⟨h1.below hb, h2.below hb, h3.below hb, ⟨D, map_below h4 hb, h5⟩, h6⟩
theorem Ks.look (h : Ks W1 w f r b0 bm i k L ua) (hd : Gd 200 L) (hi : i < L.length) : (Instr.lookup 59 (.map (some bm)) (.int .i64 L[i].q) false).run Try.prog w = .ok (.int .i64 0) w := by
  obtain ⟨h1, h2, h3, ⟨D, h4, h5⟩, h6⟩ := h
  have hwf := (hd.each L[i] (List.getElem_mem hi)).2.2.1
  obtain ⟨v, ps, q1, q2⟩ := h4.lookup (Maps.int_keyed Try.underlying3) Try.underlying59 (zeroI w) (zd := .lit (.int .i64 0)) (zp := []) (plainElem_int Try.underlying3 (by decide)) (Maps.keyOf_int_mk Try.underlying3 hwf)
  have hno : Maps.has D (.int .i64 L[i].q) = false := by
    cases hh : Maps.has D (.int .i64 L[i].q) with
    | false => rfl
    | true =>
      obtain ⟨m, hm, x, hx, e⟩ := h5 _ hh
      exfalso
      have hml : m < L.length := by omega
      rw [List.getElem?_eq_getElem hml] at hx
      cases hx
      exact own1_ne hd.own hm hi e
  rw [Maps.atKey_of_not_has hno] at q2
  obtain ⟨c, rfl, hc, hwc⟩ := plainElem_int_inv Try.underlying3 q2
  simp only [Prod.mk.injEq] at hc
  have := hc.1
  simp at this
  rw [q1, ← this]
theorem Ks.upd (h : Ks W1 w f r b0 bm i k L ua) (hd : Gd 200 L) (hi : i < L.length) {g : Nat} {cs : Array Value} {T : TypeId} (hg : Blk w g cs T) :
    ∃ w', (Instr.mapUpdate 59 (.map (some bm)) (.int .i64 L[i].q) (.int .i64 1)).run Try.prog w = .ok () w' ∧ Ks W1 w' f r b0 bm (i + 1) k L ua ∧ Blk w' g cs T := by
  obtain ⟨h1, h2, h3, ⟨D, h4, h5⟩, h6⟩ := h
  have hwf := (hd.each L[i] (List.getElem_mem hi)).2.2.1
  have hl := hd.len
  obtain ⟨w', q1, q2, q3⟩ := h4.update (Maps.int_keyed Try.underlying3) Try.underlying59 (by unfold maxLen; omega) (Maps.keyOf_int_mk Try.underlying3 hwf) (plainElem_int (H := Unit) Try.underlying3 (a := 1) (by decide))
  have hk : Kp (fun j => some j = some bm) w w' := Kp.of_grown q3
  have hne : ∀ (b : Nat) (ds : Array Value) (U : TypeId), Blk w b ds U → ¬ (some b = some bm) := fun b ds U hb e => by
    cases e
    obtain ⟨es, clock, hm, _⟩ := h4
    rw [show w.heap[bm]? = _ from hb] at hm
    cases hm
  refine ⟨w', q1, ⟨⟨h1.bel.trans (hk.below h1.bel.size (fun j e => by cases e; exact h6)), ?_, h1.lo⟩, h2.kept hk (hne _ _ _ h2), h3.kept hk (fun b n c e => ?_), ⟨_, q2, fun q hq => ?_⟩, h6⟩, hg.kept hk (hne _ _ _ hg)⟩
  · obtain ⟨v, u1, u2⟩ := id h1.lx
    refine h1.lx.kept hk (hne _ _ _ u1) ?_
    rcases h1.lx.row with e | ⟨ds, u3⟩
    · rw [e]; exact hne _ _ _ u1
    · exact hne _ _ _ u3
  · obtain ⟨ds, u1⟩ := own_blk (by have := h3; unfold Nw at this; rw [e] at this; exact this)
    exact hne _ _ _ u1
  · by_cases e : q = L[i].q
    · exact ⟨i, Nat.lt_succ_self _, L[i], List.getElem?_eq_getElem hi, e.symm⟩
    · rw [Maps.has_put_other (by intro e2; cases e2; exact e rfl)] at hq
      obtain ⟨m, hm, x⟩ := h5 q hq
      exact ⟨m, by omega, x⟩
/-- Who waits does not wait once more. -/
theorem Ks.wait (h : Ks W1 w f r b0 bm i k L ua) (hd : Gd 200 L) {j : Nat} (hj : j < L.length) (hk : mayK k = true) :
    Calls Try.prog 9 #[.pointer (some ⟨f, 0, none⟩), .int .i64 L[j].q, kv k] w fun e w' => e = .returned (.int .i64 110) ∧ Below w.heap.size w w' :=
  wait_old w f r L L[j].q k h.on_.lx hk (hd.each L[j] (List.getElem_mem hj)).1 (key_self hd hj).2
theorem Ks.check (w : World) {c j : Nat} {L : List Wt} (hd : Gd c L) (hj : j < L.length) :
    Calls Try.prog 21 #[kv L[j].k] w fun e w' => e = .returned (.int .i64 0) ∧ Below w.heap.size w w' := by
  have := check_any w L[j].k
  rw [ckE_ok.2 (hd.each L[j] (List.getElem_mem hj)).2.1] at this
  exact this
theorem Ks.find (h : Ks W1 w f r b0 bm i k L ua) (hd : Gd 200 L) {j : Nat} (hj : j < L.length) :
    Calls Try.prog 17 #[.pointer (some ⟨f, 0, none⟩), .int .i64 L[j].q] w fun e w' => e = .returned (.tuple #[kv L[j].k, .bool true]) ∧ Below w.heap.size w w' := by
  have := key_any w f r L L[j].q h.on_.lx
  rw [(key_self hd hj).1, (key_self hd hj).2] at this
  exact this
theorem Ks.at_ (h : Ks W1 w f r b0 bm i k L ua) (hd : Gd 200 L) {j : Nat} (hj : j < L.length) :
    Calls Try.prog 19 #[.pointer (some ⟨f, 0, none⟩), kv L[j].k] w fun e w' => Below w.heap.size w w' ∧ ∃ u, e = .returned u ∧ w'.ownsRow w.heap.size 3 1 u (ats L L[j].k).length (ints (ats L L[j].k)) :=
  at_any w f r L L[j].k h.on_.lx hd.kwf (hd.kwf _ (List.getElem_mem hj)) (by have := hd.len; omega)

theorem keys_long (va : Value) (ops : List Opr) (k : Ky) (w : World) (h : OpsAt w va ops) (hl : ¬ ops.length ≤ 200) :
    Calls Try.prog 8 #[va, kv k] w fun e w' => e = .returned (.bool true) ∧ Below w.heap.size w w' := by
  obtain ⟨ad, cap, rfl, h1, h2, h3⟩ := h
  have dl : decide ((200 : Int) < (ops.length : Int)) = true := decide_eq_true (by omega)
  have hb0 := Lib.hid ((Below.refl w.heap.size w).alloc (Nat.le_refl _) (.cells #[.int .i64 k.p, .int .i64 k.f, .int .i64 k.o] 31))
  clear h3 hl
  go_enter Try.func8, Try.ntmps8
  go_wp2_with (go_at_call 28; (with_reducible refine (alive_any _).mono ?_); rintro e w1 ⟨rfl, b1⟩; have B1 := Lib.hid (hb0.out.trans (b1.mono hb0.out.size)); clear b1)
  go_ret
  exact ⟨rfl, B1.out⟩
end Go.Proofs.Ytpfnjeicenhciaa.Ftv
