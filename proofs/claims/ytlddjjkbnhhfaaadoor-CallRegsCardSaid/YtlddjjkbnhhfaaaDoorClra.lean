/-
  The document's own Name, Many, Code, Answer, Failed.
-/
import Derived.Test.YtlddjjkbnhhfaaaDoorClf
namespace Go.Proofs.YtlddjjkbnhhfaaaDoor.Clra
open Go Go.RowKit Go.Shelf Kit IsaM Cla Clt Clf
set_option linter.unusedVariables false

theorem few (n : Int) (h0 : 1 ≤ n) (h1 : n < 23) : n = 1 ∨ n = 2 ∨ n = 3 ∨ n = 4 ∨ n = 5 ∨ n = 6 ∨ n = 7 ∨ n = 8 ∨ n = 9 ∨ n = 10 ∨ n = 11 ∨ n = 12 ∨ n = 13 ∨ n = 14 ∨ n = 15 ∨ n = 16 ∨ n = 17 ∨ n = 18 ∨ n = 19 ∨ n = 20 ∨ n = 21 ∨ n = 22 := by omega
theorem isC_off {n : Int} (h : n < 1 ∨ 22 < n) : isC n = false := by
  cases e : isC n with
  | false => rfl
  | true => rw [isC_iff] at e; omega
set_option maxRecDepth 100000 in
set_option maxHeartbeats 4000000 in
theorem rmany_any (n : Int) (w : World) : Calls Tryd.prog 14 #[.int .i64 n] w fun e w' => e = .returned (.int .i64 (manyI n)) ∧ w = w' := by
  by_cases hc : n < 1 ∨ 22 < n
  · rw [many_no (isC_off hc)]
    have d1 : (n == 1) = false := by simp; omega
    have d2 : (n == 2) = false := by simp; omega
    have d3 : (n == 3) = false := by simp; omega
    have d4 : (n == 4) = false := by simp; omega
    have d5 : (n == 5) = false := by simp; omega
    have d6 : (n == 6) = false := by simp; omega
    have d7 : (n == 7) = false := by simp; omega
    have d8 : (n == 8) = false := by simp; omega
    have d9 : (n == 9) = false := by simp; omega
    have d10 : (n == 10) = false := by simp; omega
    have d11 : (n == 11) = false := by simp; omega
    have d12 : (n == 12) = false := by simp; omega
    have d13 : (n == 13) = false := by simp; omega
    have d14 : (n == 14) = false := by simp; omega
    have d15 : (n == 15) = false := by simp; omega
    have d16 : (n == 16) = false := by simp; omega
    have d17 : (n == 17) = false := by simp; omega
    have d18 : (n == 18) = false := by simp; omega
    have d19 : (n == 19) = false := by simp; omega
    have d20 : (n == 20) = false := by simp; omega
    have d21 : (n == 21) = false := by simp; omega
    have d22 : (n == 22) = false := by simp; omega
    clear hc
    go_enter Tryd.func14, Tryd.ntmps14
    go_wp2
    go_ret
    exact ⟨rfl, rfl⟩
  · have hc := few n (by omega) (by omega)
    rcases hc with rfl | rfl | rfl | rfl | rfl | rfl | rfl | rfl | rfl | rfl | rfl | rfl | rfl | rfl | rfl | rfl | rfl | rfl | rfl | rfl | rfl | rfl <;>
    · go_enter Tryd.func14, Tryd.ntmps14
      go_wp2
      go_ret
      exact ⟨rfl, rfl⟩
theorem cd_else : ∀ k : Fin 61, k.val ∉ [1, 3, 4, 9, 10, 11, 12, 14, 16, 22, 23, 24, 32, 38, 60] → cd k.val = [] := by decide +kernel
set_option maxRecDepth 100000 in
set_option maxHeartbeats 4000000 in
theorem rcode_any (n : Int) (w : World) : Calls Tryd.prog 17 #[.int .i64 n] w fun e w' => e = .returned (.string (tx (codeT n))) ∧ w = w' := by
  by_cases hc : n = 1 ∨ n = 3 ∨ n = 4 ∨ n = 9 ∨ n = 10 ∨ n = 11 ∨ n = 12 ∨ n = 14 ∨ n = 16 ∨ n = 22 ∨ n = 23 ∨ n = 24 ∨ n = 32 ∨ n = 38 ∨ n = 60
  · rcases hc with rfl | rfl | rfl | rfl | rfl | rfl | rfl | rfl | rfl | rfl | rfl | rfl | rfl | rfl | rfl <;>
    · go_enter Tryd.func17, Tryd.ntmps17
      go_wp2
      go_ret
      exact ⟨rfl, rfl⟩
  · have e : codeT n = [] := by
      unfold codeT
      split
      · rfl
      · exact cd_else ⟨n.toNat, by omega⟩ (by simp; omega)
    rw [e]
    have d1 : (n == 1) = false := by simp; omega
    have d3 : (n == 3) = false := by simp; omega
    have d4 : (n == 4) = false := by simp; omega
    have d9 : (n == 9) = false := by simp; omega
    have d10 : (n == 10) = false := by simp; omega
    have d11 : (n == 11) = false := by simp; omega
    have d12 : (n == 12) = false := by simp; omega
    have d14 : (n == 14) = false := by simp; omega
    have d16 : (n == 16) = false := by simp; omega
    have d22 : (n == 22) = false := by simp; omega
    have d23 : (n == 23) = false := by simp; omega
    have d24 : (n == 24) = false := by simp; omega
    have d32 : (n == 32) = false := by simp; omega
    have d38 : (n == 38) = false := by simp; omega
    have d60 : (n == 60) = false := by simp; omega
    clear hc e
    go_enter Tryd.func17, Tryd.ntmps17
    go_wp2
    go_ret
    exact ⟨rfl, rfl⟩

end Go.Proofs.YtlddjjkbnhhfaaaDoor.Clra
