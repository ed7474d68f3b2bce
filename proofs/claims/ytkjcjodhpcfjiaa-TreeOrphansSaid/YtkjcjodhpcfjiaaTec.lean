/-
  What is read: processes, made, State, Status, Parent, Free, Next; made of none.
-/
import Derived.Test.YtkjcjodhpcfjiaaTeb
import Derived.Test.YtkjcjodhpcfjiaaShelfT
import Derived.BigQuiet
namespace Go.Proofs.Ytkjcjodhpcfjiaa.Tec
open Go Go.RowKit Go.Shelf Kit Bk Tea Teb
set_option linter.unusedVariables false

theorem fld0 (a b : Int) (c : Nat) (w : World) : (Instr.field 61 (.agg #[.int .i64 a, .int .i64 b, uv c]) 0).run Try.prog w = .ok (.int .i64 a) w := by kernel_rfl
theorem fld1 (a b : Int) (c : Nat) (w : World) : (Instr.field 61 (.agg #[.int .i64 a, .int .i64 b, uv c]) 1).run Try.prog w = .ok (.int .i64 b) w := by kernel_rfl
theorem fld2 (a b : Int) (c : Nat) (w : World) : (Instr.field 61 (.agg #[.int .i64 a, .int .i64 b, uv c]) 2).run Try.prog w = .ok (uv c) w := by kernel_rfl
theorem processes_nil (w : World) : Calls Try.prog 35 #[.pointer none] w fun e w' => e = .returned (.map none) ∧ w = w' := by
  go_enter Try.func35, Try.ntmps35
  go_wp2
  go_ret
  exact ⟨rfl, rfl⟩
variable {B : Nat} {w w' : World} {q b : Nat} {v : Value} {rm : Nat} {L : St} {S : List Bool} {p : Int}
theorem processes_any (h : Tb B w q b v rm L S) : Calls Try.prog 35 #[pv q] w fun e w' => e = .returned (.map (some b)) ∧ w = w' := by
  have hc := h.cell1
  clear h
  go_enter Try.func35, Try.ntmps35
  go_wp2
  go_ret
  exact ⟨rfl, rfl⟩
theorem made_nil (w : World) : Calls Try.prog 26 #[.pointer none] w fun e w' => e = .returned (.bool false) ∧ w = w' := by
  go_enter Try.func26, Try.ntmps26
  go_wp2
  go_ret
  exact ⟨rfl, rfl⟩
theorem made_any (h : Tb B w q b v rm L S) (hr : 1 ≤ rm) : Calls Try.prog 26 #[pv q] w fun e w' => e = .returned (.bool true) ∧ w = w' := by
  have hc := h.cell0
  have d1 : decide ((0 : Int) < (rm : Int)) = true := decide_eq_true (by omega)
  have d2 : decide (0 < rm) = true := decide_eq_true (by omega)
  clear h hr
  go_enter Try.func26, Try.ntmps26
  go_wp2
  go_ret
  exact ⟨rfl, rfl⟩
set_option maxRecDepth 100000 in
theorem state_any (h : Tb B w q b v rm L S) (hp : (Lit.int .i64 p).wf = true) : Calls Try.prog 25 #[pv q, .int .i64 p] w fun e w' => e = .returned (.int .i64 (gt L p).st) ∧ w = w' := by
  have HA := Lib.hid (processes_any h)
  have hl : (Instr.lookup 62 (.map (some b)) (.int .i64 p) false).run Try.prog w = .ok (.agg #[.int .i64 (gt L p).par, .int .i64 (gt L p).st, uv (gt L p).su]) w := h.map.look1 hp
  clear h
  generalize gt L p = r at *
  have hf := fld1 r.par r.st r.su
  go_enter Try.func25, Try.ntmps25
  go_wp2_with (go_at_call 35; (with_reducible refine HA.out.mono ?_); rintro e w1 ⟨rfl, rfl⟩)
  go_ret
  exact ⟨rfl, rfl⟩
set_option maxRecDepth 100000 in
theorem status_any (h : Tb B w q b v rm L S) (hp : (Lit.int .i64 p).wf = true) : Calls Try.prog 18 #[pv q, .int .i64 p] w fun e w' => e = .returned (uv (gt L p).su) ∧ w = w' := by
  have HA := Lib.hid (processes_any h)
  have hl : (Instr.lookup 62 (.map (some b)) (.int .i64 p) false).run Try.prog w = .ok (.agg #[.int .i64 (gt L p).par, .int .i64 (gt L p).st, uv (gt L p).su]) w := h.map.look1 hp
  clear h
  generalize gt L p = r at *
  have hf := fld2 r.par r.st r.su
  go_enter Try.func18, Try.ntmps18
  go_wp2_with (go_at_call 35; (with_reducible refine HA.out.mono ?_); rintro e w1 ⟨rfl, rfl⟩)
  go_ret
  exact ⟨rfl, rfl⟩
set_option maxRecDepth 100000 in
theorem parent_any (h : Tb B w q b v rm L S) (hp : (Lit.int .i64 p).wf = true) : Calls Try.prog 24 #[pv q, .int .i64 p] w fun e w' => e = .returned (.int .i64 (gt L p).par) ∧ w = w' := by
  have HA := Lib.hid (processes_any h)
  have hl : (Instr.lookup 62 (.map (some b)) (.int .i64 p) false).run Try.prog w = .ok (.agg #[.int .i64 (gt L p).par, .int .i64 (gt L p).st, uv (gt L p).su]) w := h.map.look1 hp
  clear h
  generalize gt L p = r at *
  have hf := fld0 r.par r.st r.su
  go_enter Try.func24, Try.ntmps24
  go_wp2_with (go_at_call 35; (with_reducible refine HA.out.mono ?_); rintro e w1 ⟨rfl, rfl⟩)
  go_ret
  exact ⟨rfl, rfl⟩
theorem free_nil (w : World) : Calls Try.prog 20 #[.pointer none] w fun e w' => e = .returned (.int .i64 0) ∧ w = w' := by
  have HA := Lib.hid (made_nil w)
  go_enter Try.func20, Try.ntmps20
  go_wp2_with (go_at_call 26; (with_reducible refine HA.out.mono ?_); rintro e w1 ⟨rfl, rfl⟩)
  go_ret
  exact ⟨rfl, rfl⟩
theorem free_any (h : Tb B w q b v rm L S) (hr : 1 ≤ rm ∧ rm ≤ 32) (hL : L.length ≤ rm) (hu : Up L) : Calls Try.prog 20 #[pv q] w fun e w' => e = .returned (.int .i64 ((rm - L.length : Nat) : Int)) ∧ Below w.heap.size w w' := by
  have HA := Lib.hid (made_any h hr.1)
  have HL := Lib.hid (fun ty => (h.below ((Below.refl _ _).drew)).map.len hu ty)
  have hc := h.cell0
  have hc1 := h.cell1
  have hw : IntKind.i64.wrap ((rm : Int) - (L.length : Int)) = ((rm - L.length : Nat) : Int) := by
    rw [show (rm : Int) - (L.length : Int) = ((rm - L.length : Nat) : Int) by omega]
    have : rm - L.length < 1000 := by omega
    generalize rm - L.length = z at *
    simp [IntKind.wrap, IntKind.bits, IntKind.signed]
    omega
  clear h hr hL hu
  generalize L.length = n at *
  generalize rm - n = z at *
  go_enter Try.func20, Try.ntmps20
  go_wp2_with (go_at_call 26; (with_reducible refine HA.out.mono ?_); rintro e w1 ⟨rfl, rfl⟩)
  have hln := fun ty => HL.out ty
  go_region
  go_wp2
  go_ret
  exact ⟨rfl, (Below.refl _ _).drew⟩
theorem next_nil (w : World) : Calls Try.prog 17 #[.pointer none] w fun e w' => e = .returned (.int .i64 0) ∧ w = w' := by
  have HA := Lib.hid (made_nil w)
  go_enter Try.func17, Try.ntmps17
  go_wp2_with (go_at_call 26; (with_reducible refine HA.out.mono ?_); rintro e w1 ⟨rfl, rfl⟩)
  go_ret
  exact ⟨rfl, rfl⟩
/-- The next pid. -/
def nxt (S : List Bool) : Nat := if 65535 < S.length then 0 else S.length
theorem next_any (h : Tb B w q b v rm L S) (hr : 1 ≤ rm) : Calls Try.prog 17 #[pv q] w fun e w' => e = .returned (.int .i64 (nxt S : Int)) ∧ w = w' := by
  have HA := Lib.hid (made_any h hr)
  have hc := h.cell2
  obtain ⟨a, c, rfl, h1, h2, -⟩ := row_cells h.row
  unfold nxt
  clear h hr
  by_cases hn : 65535 < S.length
  · rw [if_pos hn]
    have d1 : decide ((65535 : Int) < (S.length : Int)) = true := decide_eq_true (by omega)
    have d2 : decide (65535 < S.length) = true := decide_eq_true (by omega)
    clear hn
    generalize S.length = n at *
    go_enter Try.func17, Try.ntmps17
    go_wp2_with (go_at_call 26; (with_reducible refine HA.out.mono ?_); rintro e w1 ⟨rfl, rfl⟩)
    go_ret
    exact ⟨rfl, rfl⟩
  · rw [if_neg hn]
    have d1 : decide ((65535 : Int) < (S.length : Int)) = false := decide_eq_false (by omega)
    have d2 : decide (65535 < S.length) = false := decide_eq_false (by omega)
    clear hn
    generalize S.length = n at *
    go_enter Try.func17, Try.ntmps17
    go_wp2_with (go_at_call 26; (with_reducible refine HA.out.mono ?_); rintro e w1 ⟨rfl, rfl⟩)
    go_ret
    exact ⟨rfl, rfl⟩
end Go.Proofs.Ytkjcjodhpcfjiaa.Tec
