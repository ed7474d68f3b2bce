/-
  four, alive; TreeNames, walked.
-/
import Derived.Test.YtkjcjodhpcfjiaaTer
namespace Go.Proofs.Ytkjcjodhpcfjiaa.Tes
open Go Go.RowKit Go.Shelf Kit Bk Tea Teb Tec Ted Tee Tef Teg Teh Tei Tej Tek Tel Tem Ten Teo Tep Teq Ter
set_option linter.unusedVariables false

variable {w0 w w' : World} {q rm : Nat} {L : St} {S : List Bool} {p : Int}
theorem On.fork_lit (h : On w0 w q rm L S) (p a e : Int) (L' : St) (S' : List Bool) (hp : (Lit.int .i64 p).wf = true) (ha : fkR rm L S p = (a, e)) (hL : fkL rm L S p = L') (hS : fkS rm L S p = S') :
    Calls Try.prog 10 #[pv q, .int .i64 p] w fun e2 w' => e2 = .returned (.tuple #[.int .i64 a, .int .i64 e]) ∧ On w0 w' q rm L' S' ∧ Rk w w' := by
  have := h.fork hp
  rw [ha, hL, hS] at this
  exact this
theorem On.exit_lit (h : On w0 w q rm L S) (p : Int) (su : Nat) (sv : Int) (k : Nat) (l : List Int) (e : Int) (L' : St) (hp : (Lit.int .i64 p).wf = true) (hsu : su < 4294967296) (hs : (su : Int) = sv) (hl : exA L p = l) (hk : l.length = k) (he : fzE L p = e) (hL : exM L p su = L') :
    Calls Try.prog 8 #[pv q, .int .i64 p, .int .u32 sv] w fun e2 w' => ∃ a c, e2 = .returned (.tuple #[.slice a k c, .int .i64 e]) ∧ Nr w' (.slice a k c) l ∧ On w0 w' q rm L' S ∧ Rk w w' := by
  have := h.exit (su := su) hp hsu
  rw [hl, hk, he, hL] at this
  rw [← hs]
  exact this
theorem On.freeze_lit (h : On w0 w q rm L S) (p : Int) (k : Nat) (l : List Int) (e : Int) (L' : St) (hp : (Lit.int .i64 p).wf = true) (hl : fzA L p = l) (hk : l.length = k) (he : fzE L p = e) (hL : fzM L p = L') :
    Calls Try.prog 11 #[pv q, .int .i64 p] w fun e2 w' => ∃ a c, e2 = .returned (.tuple #[.slice a k c, .int .i64 e]) ∧ Nr w' (.slice a k c) l ∧ On w0 w' q rm L' S ∧ Rk w w' := by
  have := h.freeze hp
  rw [hl, hk, he, hL] at this
  exact this
theorem On.reap_lit (h : On w0 w q rm L S) (p a : Int) (su : Nat) (sv e : Int) (L' : St) (hp : (Lit.int .i64 p).wf = true) (hs : (su : Int) = sv) (ha : zb L p = (a, su, e)) (hL : rpL L p = L') :
    Calls Try.prog 9 #[pv q, .int .i64 p] w fun e2 w' => e2 = .returned (.tuple #[.int .i64 a, .int .u32 sv, .int .i64 e]) ∧ On w0 w' q rm L' S ∧ Rk w w' := by
  have := h.reap hp
  rw [ha, hL] at this
  rw [← hs]
  exact this
theorem On.zombie_lit (h : On w0 w q rm L S) (p a : Int) (su : Nat) (sv e : Int) (hp : (Lit.int .i64 p).wf = true) (hs : (su : Int) = sv) (ha : zb L p = (a, su, e)) :
    Calls Try.prog 30 #[pv q, .int .i64 p] w fun e2 w' => e2 = .returned (.tuple #[.int .i64 a, .int .u32 sv, .int .i64 e]) ∧ Below w.heap.size w w' := by
  have := h.zombie hp
  rw [ha] at this
  rw [← hs]
  exact this
theorem On.thaw_lit (h : On w0 w q rm L S) (p r st : Int) (su : Nat) (sv e : Int) (L' : St) (S' : List Bool) (hp : (Lit.int .i64 p).wf = true) (hr : (Lit.int .i64 r).wf = true) (hsu : su < 4294967296) (hs : (su : Int) = sv) (he : thE rm L S p r st su = e) (hL : thM rm L S p r st su = L') (hS : thS rm L S p r st su = S') :
    Calls Try.prog 12 #[pv q, .int .i64 p, .int .i64 r, .int .i64 st, .int .u32 sv] w fun e2 w' => e2 = .returned (.int .i64 e) ∧ On w0 w' q rm L' S' ∧ Rk w w' := by
  have := h.thaw (st := st) hp hr hsu
  rw [he, hL, hS] at this
  rw [← hs]
  exact this
theorem On.may_lit (h : On w0 w q rm L S) (p r e : Int) (hp : (Lit.int .i64 p).wf = true) (hr : (Lit.int .i64 r).wf = true) (he : myE rm L S p r = e) :
    Calls Try.prog 13 #[pv q, .int .i64 p, .int .i64 r] w fun e2 w' => e2 = .returned (.int .i64 e) ∧ Below w.heap.size w w' := by
  have := h.may hp hr
  rw [he] at this
  exact this
def F1 : St := [(1, ⟨0, 1, 0⟩), (2, ⟨1, 1, 0⟩)]
def F2 : St := [(1, ⟨0, 1, 0⟩), (2, ⟨1, 1, 0⟩), (3, ⟨2, 1, 0⟩)]
def F3 : St := [(1, ⟨0, 1, 0⟩), (2, ⟨1, 1, 0⟩), (3, ⟨2, 1, 0⟩), (4, ⟨1, 1, 0⟩)]
def E2 : St := [(1, ⟨0, 1, 0⟩), (2, ⟨1, 2, 7⟩), (3, ⟨1, 1, 0⟩), (4, ⟨1, 1, 0⟩)]
def R1 : St := [(1, ⟨0, 1, 0⟩), (3, ⟨1, 1, 0⟩), (4, ⟨1, 1, 0⟩)]
def K5 : St := [(1, ⟨0, 1, 0⟩), (3, ⟨1, 1, 0⟩), (4, ⟨1, 1, 0⟩), (5, ⟨1, 1, 0⟩)]
def Z3 : St := [(1, ⟨0, 1, 0⟩), (3, ⟨1, 3, 0⟩), (4, ⟨1, 1, 0⟩), (5, ⟨1, 1, 0⟩)]
def X4 : St := [(1, ⟨0, 1, 0⟩), (3, ⟨1, 1, 0⟩), (4, ⟨1, 2, 0⟩), (5, ⟨1, 1, 0⟩)]
def Y4 : St := [(1, ⟨0, 1, 0⟩), (3, ⟨1, 1, 0⟩), (5, ⟨1, 1, 0⟩)]
def W9 : St := [(1, ⟨0, 1, 0⟩), (3, ⟨1, 1, 0⟩), (5, ⟨1, 1, 0⟩), (9, ⟨3, 2, 5⟩)]
def B1 : List Bool := [false, true]
def B2 : List Bool := [false, true, true]
def B3 : List Bool := [false, true, true, true]
def B4 : List Bool := [false, true, true, true, true]
def B5 : List Bool := [false, true, true, true, true, true]
def B9 : List Bool := [false, true, true, true, true, true, false, false, false, true]
theorem new4 (w : World) : Calls Try.prog 14 #[.int .i64 4] w fun e w' => ∃ q, e = .returned (.tuple #[pv q, .int .i64 0]) ∧ On w w' q 4 L1 B1 := On.new 4 (by decide) w
set_option maxRecDepth 100000 in
set_option maxHeartbeats 2000000 in
theorem four_any (w : World) : Calls Try.prog 7 #[] w fun e w' => ∃ q, e = .returned (pv q) ∧ On w w' q 4 F3 B4 := by
  go_enter Try.func7, Try.ntmps7
  go_wp2_with (first
    | (go_at_call 14; (with_reducible refine (new4 _).mono ?_); rintro e w1 ⟨q, rfl, h1⟩; have H0 := Lib.hid h1; clear h1)
    | (go_at_call 10; (with_reducible refine (Tes.On.fork_lit H0.out 1 2 0 F1 B2 (by decide) rfl rfl rfl).mono ?_); rintro e w2 ⟨rfl, h1, -⟩; clear H0; have H1 := Lib.hid h1; clear h1)
    | (go_at_call 10; (with_reducible refine (Tes.On.fork_lit H1.out 2 3 0 F2 B3 (by decide) rfl rfl rfl).mono ?_); rintro e w3 ⟨rfl, h1, -⟩; clear H1; have H2 := Lib.hid h1; clear h1)
    | (go_at_call 10; (with_reducible refine (Tes.On.fork_lit H2.out 1 4 0 F3 B4 (by decide) rfl rfl rfl).mono ?_); rintro e w4 ⟨rfl, h1, -⟩; clear H2; have H3 := Lib.hid h1; clear h1))
  go_ret
  exact ⟨q, rfl, H3.out⟩
theorem On.parent_lit (h : On w0 w q rm L S) (p r : Int) (hp : (Lit.int .i64 p).wf = true) (hr : (gt L p).par = r) : Calls Try.prog 24 #[pv q, .int .i64 p] w fun e w' => e = .returned (.int .i64 r) ∧ w = w' := by
  rw [← hr]; exact h.parent hp
theorem On.status_lit (h : On w0 w q rm L S) (p : Int) (su : Nat) (sv : Int) (hp : (Lit.int .i64 p).wf = true) (hs : (su : Int) = sv) (hr : (gt L p).su = su) : Calls Try.prog 18 #[pv q, .int .i64 p] w fun e w' => e = .returned (.int .u32 sv) ∧ w = w' := by
  rw [← hs, ← hr]; exact h.status hp
theorem On.next_lit (h : On w0 w q rm L S) (z : Int) (hz : (nxt S : Int) = z) : Calls Try.prog 17 #[pv q] w fun e w' => e = .returned (.int .i64 z) ∧ w = w' := by
  rw [← hz]; exact h.next
set_option maxRecDepth 100000 in
set_option maxHeartbeats 2000000 in
theorem alive_any (w : World) : Calls Try.prog 15 #[] w fun e w' => e = .returned (.bool true) ∧ Below w.heap.size w w' := by
  go_enter Try.func15, Try.ntmps15
  go_wp2_with (first
    | (go_at_call 7; (with_reducible refine (four_any _).mono ?_); rintro e w1 ⟨q, rfl, h1⟩; have H0 := Lib.hid h1; clear h1)
    | (go_at_call 10; (with_reducible refine (Tes.On.fork_lit H0.out 3 0 150 F3 B4 (by decide) rfl rfl rfl).mono ?_); rintro e w2 ⟨rfl, h1, -⟩; clear H0; have H1 := Lib.hid h1; clear h1)
    | (go_at_call 8; (with_reducible refine (Tes.On.exit_lit H1.out 2 7 7 1 [3] 0 E2 (by decide) (by decide) rfl rfl rfl rfl rfl).mono ?_); rintro e w3 ⟨a1, c1, rfl, r1, h1, -⟩; clear H1; have H2 := Lib.hid h1; have R := Lib.hid r1; clear h1 r1)
    | (go_at_call 30; (with_reducible refine (Tes.On.zombie_lit H2.out 1 2 7 7 0 (by decide) rfl rfl).mono ?_); rintro e w4 ⟨rfl, hb⟩; have H3 := Lib.hid (H2.out.below hb); have R2 := Lib.hid (nr_below R.out hb); clear H2 R hb)
    | (go_at_call 16; (with_reducible refine (same_ints _ _ _ [3] [3] (nr_below R2.out ((Below.refl _ _).alloc (Nat.le_refl _) _)) (Nr.lit1 _ 3)).mono ?_); rintro e w5 ⟨rfl, hb⟩; clear R2; have H4 := Lib.hid (H3.out.below (((Below.refl _ _).alloc (Nat.le_refl _) _).trans (hb.mono (by simp)))); clear H3 hb)
    | (go_at_call 24; (with_reducible refine (Tes.On.parent_lit H4.out 3 1 (by decide) rfl).mono ?_); rintro e w6 ⟨rfl, rfl⟩))
  go_ret
  exact ⟨rfl, H4.out.bel⟩
end Go.Proofs.Ytkjcjodhpcfjiaa.Tes
