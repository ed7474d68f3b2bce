/-
  change; mayEnd, mayBear, unused, May, fits.
-/
import Derived.Test.YtkjcjodhpcfjiaaTei
import Derived.Deep.RegionHeld
namespace Go.Proofs.Ytkjcjodhpcfjiaa.Tej
open Go Go.RowKit Go.Shelf Kit Bk Tea Teb Tec Ted Tee Tef Teg Teh Tei
set_option linter.unusedVariables false

variable {B : Nat} {w W : World} {q b : Nat} {v : Value} {rm : Nat} {L M : St} {S : List Bool} {p : Int}
set_option maxRecDepth 100000 in
set_option maxHeartbeats 2000000 in
theorem change_any (h : Tb B w q b v rm L S) (hl : L.length < 80000) (hp : (Lit.int .i64 p).wf = true) (hin : hs L p = true) (st : Int) (su : Nat) (hu : Up M) (m1 : ∀ q, hs M q = hs L q) (m2 : ∀ q, hs L q = true → gt M q = if p = q then ⟨(gt L p).par, st, su⟩ else gt L q) :
    Calls Try.prog 29 #[pv q, .int .i64 p, .int .i64 st, uv su] w fun e w' => (∃ x, e = .returned x) ∧ Tb B w' q b v rm M S ∧ Kp (fun j => j = b) w w' := by
  have h1 := h.below (w' := w.drew) ((Below.refl _ _).drew)
  have HP := Lib.hid (parent_any h1 hp)
  have hc1 : w.cell? ⟨q, 1, none⟩ = some (.map (some b)) := h.cell1
  have hc2 : w.drew.cell? ⟨q, 1, none⟩ = some (.map (some b)) := h1.cell1
  obtain ⟨w2, q1, q2, q3⟩ := h1.map.turn (by omega) hp ⟨(gt L p).par, st, su⟩ hu hin m1 m2
  have HE : Hid (Tb B w2 q b v rm M S ∧ Kp (fun j => j = b) w w2) := Lib.hid ⟨Tb.upd h1 q2 q3, (Kp.of_below (S := fun j => j = b) ((Below.refl _ _).drew)).trans q3 (fun _ e => .inl e)⟩
  have hc3 : w2.cell? ⟨q, 1, none⟩ = some (.map (some b)) := HE.out.1.cell1
  unfold rv at q1
  dsimp only at q1
  clear q2 q3 h h1 hl hin hu m1 m2
  generalize (gt L p).par = y at *
  go_enter Try.func29, Try.ntmps29
  go_wp2
  go_region_held (fun w' => w'.cell? ⟨q, 1, none⟩ = some (.map (some b))) (first | exact hc2 | exact hc1 | exact hc3) ((go_at_call 24; (with_reducible refine HP.out.mono ?_); rintro e w1 ⟨rfl, rfl⟩))
  go_wp2
  go_end0
  exact ⟨⟨_, rfl⟩, HE.out.1, HE.out.2⟩
theorem end_any (h : Tb B w q b v rm L S) (hp : (Lit.int .i64 p).wf = true) : Calls Try.prog 27 #[pv q, .int .i64 p] w fun e w' => e = .returned (.bool (p != 1 && (gt L p).st == 1)) ∧ w = w' := by
  have HS := Lib.hid (state_any h hp)
  clear h
  generalize (gt L p).st = z at *
  cases d1 : (p != 1)
  · go_enter Try.func27, Try.ntmps27
    go_wp2
    go_ret
    exact ⟨rfl, rfl⟩
  · cases d2 : (z == 1)
    · go_enter Try.func27, Try.ntmps27
      go_wp2_with (go_at_call 25; (with_reducible refine HS.out.mono ?_); rintro e w1 ⟨rfl, rfl⟩)
      go_ret
      exact ⟨rfl, rfl⟩
    · go_enter Try.func27, Try.ntmps27
      go_wp2_with (go_at_call 25; (with_reducible refine HS.out.mono ?_); rintro e w1 ⟨rfl, rfl⟩)
      go_ret
      exact ⟨rfl, rfl⟩
theorem bear_any (h : Tb B w q b v rm L S) (hp : (Lit.int .i64 p).wf = true) : Calls Try.prog 34 #[pv q, .int .i64 p] w fun e w' => e = .returned (.bool ((gt L p).st == 1 || (gt L p).st == 3)) ∧ w = w' := by
  have HS := Lib.hid (state_any h hp)
  clear h
  generalize (gt L p).st = z at *
  cases d1 : (z == 1)
  · cases d2 : (z == 3)
    · go_enter Try.func34, Try.ntmps34
      go_wp2_with (go_at_call 25; (with_reducible refine HS.out.mono ?_); rintro e w1 ⟨rfl, rfl⟩)
      go_ret
      exact ⟨rfl, rfl⟩
    · go_enter Try.func34, Try.ntmps34
      go_wp2_with (go_at_call 25; (with_reducible refine HS.out.mono ?_); rintro e w1 ⟨rfl, rfl⟩)
      go_ret
      exact ⟨rfl, rfl⟩
  · go_enter Try.func34, Try.ntmps34
    go_wp2_with (go_at_call 25; (with_reducible refine HS.out.mono ?_); rintro e w1 ⟨rfl, rfl⟩)
    go_ret
    exact ⟨rfl, rfl⟩
/-- May p be, and never was? -/
def un (S : List Bool) (p : Int) : Bool := (decide (1 ≤ p) && decide (p ≤ 65535)) && (decide ((S.length : Int) ≤ p) || !(S[p.toNat]?.getD false))
theorem unused_any (h : Tb B w q b v rm L S) : Calls Try.prog 33 #[pv q, .int .i64 p] w fun e w' => e = .returned (.bool (un S p)) ∧ w = w' := by
  obtain ⟨a, c, rfl, h1, h2, h3⟩ := row_cells h.row
  have hc := h.cell2
  unfold un
  clear h
  cases d1 : decide (1 ≤ p)
  · go_enter Try.func33, Try.ntmps33
    go_wp2
    go_ret
    exact ⟨rfl, rfl⟩
  · cases d2 : decide (p ≤ 65535)
    · go_enter Try.func33, Try.ntmps33
      go_wp2
      go_ret
      exact ⟨rfl, rfl⟩
    · cases d3 : decide ((S.length : Int) ≤ p)
      · obtain ⟨k, rfl⟩ : ∃ k : Nat, p = (k : Int) := ⟨p.toNat, by have := of_decide_eq_true d1; omega⟩
        have hk : k < S.length := by have := of_decide_eq_false d3; omega
        obtain ⟨r, rfl, h4⟩ := h3 k hk
        have e : S[(k : Int).toNat]?.getD false = S[k] := by simp [hk]
        rw [e]
        have hkI : (k : Int) < (S.length : Int) := by omega
        have d4 : decide (S.length ≤ k) = false := decide_eq_false (by omega)
        clear e h3
        generalize S[k] = x at *
        cases x
        · generalize S.length = n at *
          go_enter Try.func33, Try.ntmps33
          go_wp2
          go_ret
          exact ⟨rfl, rfl⟩
        · generalize S.length = n at *
          go_enter Try.func33, Try.ntmps33
          go_wp2
          go_ret
          exact ⟨rfl, rfl⟩
      · generalize S[p.toNat]?.getD false = x at *
        clear h3
        generalize S.length = n at *
        go_enter Try.func33, Try.ntmps33
        go_wp2
        go_ret
        exact ⟨rfl, rfl⟩
/-- What fits a process. -/
def ft (L : St) (p st : Int) (su : Nat) : Bool := if st = 1 then su == 0 else if st = 2 then (kids L p).length == 0 else false
theorem fits_any (h : Tb B w q b v rm L S) (ho : Ok L) (hl : L.length < 80000) (st : Int) (su : Nat) : Calls Try.prog 32 #[pv q, .int .i64 p, .int .i64 st, uv su] w fun e w' => e = .returned (.bool (ft L p st su)) ∧ Below w.heap.size w w' := by
  have HK := Lib.hid (kids_any (p := p) h ho hl)
  clear h ho hl
  unfold ft
  by_cases h1 : st = 1
  · subst h1
    rw [if_pos rfl]
    clear HK
    have d1 : ((su : Int) == 0) = (su == 0) := by cases su with | zero => rfl | succ n => simp; omega
    generalize hx : (su == 0) = x at *
    clear hx
    go_enter Try.func32, Try.ntmps32
    go_wp2
    go_ret
    exact ⟨rfl, Below.refl _ _⟩
  · rw [if_neg h1]
    have d1 : (st == 1) = false := by simpa using h1
    clear h1
    by_cases h2 : st = 2
    · subst h2
      rw [if_pos rfl]
      have d2 : (((kids L p).length : Int) == 0) = ((kids L p).length == 0) := by cases (kids L p).length with | zero => rfl | succ n => simp; omega
      generalize hx : ((kids L p).length == 0) = x at *
      clear hx
      go_enter Try.func32, Try.ntmps32
      go_wp2_with (go_at_call 21; (with_reducible refine HK.out.mono ?_); rintro e w1 ⟨hb, u, rfl, hr⟩; obtain ⟨ua, uc, rfl, -, -, -⟩ := nr_cells hr; have HB := Lib.hid hb; clear hb hr)
      go_ret
      exact ⟨rfl, HB.out⟩
    · rw [if_neg h2]
      have d2 : (st == 2) = false := by simpa using h2
      clear h2 HK
      go_enter Try.func32, Try.ntmps32
      go_wp2
      go_ret
      exact ⟨rfl, Below.refl _ _⟩
end Go.Proofs.Ytkjcjodhpcfjiaa.Tej
