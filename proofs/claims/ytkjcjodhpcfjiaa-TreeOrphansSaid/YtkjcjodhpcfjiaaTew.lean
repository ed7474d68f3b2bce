/-
  roots, walked.
-/
import Derived.Test.YtkjcjodhpcfjiaaTev
import Derived.Test.YtkjcjodhpcfjiaaTes
namespace Go.Proofs.Ytkjcjodhpcfjiaa.Tew
open Go Go.RowKit Go.Shelf Kit Bk Tea Teb Tec Ted Tee Tef Teg Teh Tei Tej Tek Tel Tem Ten Teo Tep Teq Ter Tes Teu Tev
set_option linter.unusedVariables false

variable {w0 w w' : World} {q rm : Nat} {L : St} {S : List Bool} {p : Int}
theorem pid_at {i : Nat} (hi : i < (pids L).length) : hs L (pids L)[i] = true := hs_mem.2 (List.getElem_mem hi)
set_option maxRecDepth 100000 in
set_option maxHeartbeats 2000000 in
theorem roots_any (h : On w0 w q rm L S) : Calls Try.prog 23 #[pv q] w fun e w' => e = .returned (.bool true) ∧ Below w.heap.size w w' := by
  obtain ⟨dp, d0, d1, d2, d3⟩ := h.ok.ok.depth
  obtain ⟨rk, hrk⟩ := h.ok.ok.tree
  have hll := h.len
  have HO := Lib.hid h
  have HA := Lib.hid h.all
  have H1 := Lib.hid d1
  have H2 := Lib.hid d2
  have H3 := Lib.hid hrk
  clear h d1 d2 d3 hrk
  go_enter Try.func23, Try.ntmps23
  go_wp2_with (go_at_call 19; (with_reducible refine HA.out.mono ?_); rintro e w1 ⟨a, c, rfl, hr, hb⟩; obtain ⟨a2, c2, e2, hc1, hc2, hcl⟩ := nr_cells hr; cases e2; have HR := Lib.hid hcl; have HB := Lib.hid hb; have HO1 := Lib.hid (HO.out.below hb); clear HA hr hb hcl)
  have hpl : (pids L).length = L.length := by simp [pids]
  rw [hpl] at hc2 ⊢
  have hlI : (L.length : Int) ≤ 80000 := by omega
  go_loopw [4] (fun i wr => ∃ j : Nat, j ≤ L.length ∧ i = .int .i64 (j : Int) ∧ w1 = wr) (fun i _ => L.length - (intOf i).toNat)
  case atStart => exact ⟨0, Nat.zero_le _, rfl, rfl⟩
  case round =>
    obtain ⟨j, hj, rfl, rfl⟩ := hrel
    by_cases hlt : j < L.length
    · have hltI : (j : Int) < (L.length : Int) := by omega
      obtain ⟨r, rfl, hck⟩ := HR.out j (by rw [hpl]; exact hlt)
      have HIn : Hid (hs L ((pids L)[j]'(by rw [hpl]; exact hlt)) = true) := Lib.hid (pid_at _)
      generalize (pids L)[j]'(by rw [hpl]; exact hlt) = x at *
      go_wp2
      go_loopw [6, 5] (fun n z wr => ∃ (k : Nat) (y : Int), n = .int .i64 (k : Int) ∧ z = .int .i64 y ∧ hs L y = true ∧ k + dp y ≤ L.length ∧ w1 = wr) (fun n z _ => dp (intOf z))
      case atStart => exact ⟨0, x, rfl, rfl, HIn.out, by have := H1.out x HIn.out; omega, rfl⟩
      case round =>
        obtain ⟨k, y, rfl, rfl, hy, hk, rfl⟩ := hrel
        have hd1 := H1.out y hy
        have hkI : decide ((k : Int) ≤ (L.length : Int)) = true := decide_eq_true (by omega)
        have hkN : decide (k ≤ L.length) = true := decide_eq_true (by omega)
        by_cases e1 : y = 1
        · subst e1
          go_wp2
          go_roundw
          case rel => exact ⟨j + 1, by omega, by go_num, trivial⟩
          case measure => simp [intOf]; omega
        · have e2 : (y != 1) = true := by simpa using e1
          obtain ⟨p1, _, _⟩ := H3.out y hy e1
          have hd2 := H2.out y hy
          have hd3 := H1.out _ p1
          have hbd := HO1.out.ok.ok.pid y hy
          have hbd2 := HO1.out.ok.ok.pid _ p1
          have hst := (HO1.out.ok.ok.st _ p1).1
          have HP := Lib.hid (HO1.out.parent (p := y) (wf64 (by omega)))
          have HS := Lib.hid (HO1.out.state (p := (gt L y).par) (wf64 (by omega)))
          have e3 : ((gt L (gt L y).par).st == 0) = false := beq_eq_false_iff_ne.2 (by omega)
          have HE := Lib.hid (And.intro p1 (And.intro hd2 hk))
          have hkw : (k : Int) + 1 ≤ 90000 := by omega
          clear hy hk hd1 e1 p1 hd2 hd3 hbd hbd2 hst
          generalize (gt L (gt L y).par).st = s at *
          generalize (gt L y).par = z at *
          go_wp2_with (first
            | (go_at_call 24; (with_reducible refine HP.out.mono ?_); rintro e w2 ⟨rfl, rfl⟩)
            | (go_at_call 25; (with_reducible refine HS.out.mono ?_); rintro e w2 ⟨rfl, rfl⟩))
          go_roundw
          case rel => exact ⟨k + 1, z, by go_num, rfl, HE.out.1, by have := HE.out.2; omega, trivial⟩
          case measure => exact HE.out.2.1
    · obtain rfl : j = L.length := by omega
      have HS := HO1.out.state (p := 1) (by decide)
      rw [HO1.out.ok.ok.one.2] at HS
      replace HS := Lib.hid HS
      go_wp2_with (go_at_call 25; (with_reducible refine HS.out.mono ?_); rintro e w2 ⟨rfl, rfl⟩)
      go_ret
      exact ⟨rfl, HB.out⟩
end Go.Proofs.Ytkjcjodhpcfjiaa.Tew
