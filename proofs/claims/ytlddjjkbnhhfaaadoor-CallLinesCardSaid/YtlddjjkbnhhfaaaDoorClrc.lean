/-
  The document's own Name.
-/
import Derived.Test.YtlddjjkbnhhfaaaDoorClra
namespace Go.Proofs.YtlddjjkbnhhfaaaDoor.Clrc
open Go Go.RowKit Go.Shelf Kit IsaM Cla Clt Clf Clra
set_option linter.unusedVariables false
theorem nm_at (k : Nat) (h1 : 1 ≤ k) (h2 : k < 23) : ([Value.string { data := #[101, 120, 105, 116] }, Value.string { data := #[102, 111, 114, 107] }, Value.string { data := #[119, 97, 105, 116] }, Value.string { data := #[103, 101, 116, 112, 105, 100] }, Value.string { data := #[103, 101, 116, 112, 112, 105, 100] }, Value.string { data := #[112, 105, 112, 101] }, Value.string { data := #[114, 101, 97, 100] }, Value.string { data := #[119, 114, 105, 116, 101] }, Value.string { data := #[99, 108, 111, 115, 101] }, Value.string { data := #[100, 117, 112] }, Value.string { data := #[107, 105, 108, 108] }, Value.string { data := #[109, 97, 115, 107] }, Value.string { data := #[104, 97, 110, 100, 108, 101] }, Value.string { data := #[115, 105, 103, 114, 101, 116, 117, 114, 110] }, Value.string { data := #[102, 117, 116, 101, 120, 119, 97, 105, 116] }, Value.string { data := #[102, 117, 116, 101, 120, 119, 97, 107, 101] }, Value.string { data := #[115, 108, 101, 101, 112] }, Value.string { data := #[121, 105, 101, 108, 100] }, Value.string { data := #[109, 97, 112] }, Value.string { data := #[117, 110, 109, 97, 112] }, Value.string { data := #[97, 102, 102, 105, 110, 105, 116, 121] }, Value.string { data := #[112, 114, 105, 110, 116] }] : List Value)[k - 1]? = some (.string (tx (wd k))) := by
  have hc : k = 1 ∨ k = 2 ∨ k = 3 ∨ k = 4 ∨ k = 5 ∨ k = 6 ∨ k = 7 ∨ k = 8 ∨ k = 9 ∨ k = 10 ∨ k = 11 ∨ k = 12 ∨ k = 13 ∨ k = 14 ∨ k = 15 ∨ k = 16 ∨ k = 17 ∨ k = 18 ∨ k = 19 ∨ k = 20 ∨ k = 21 ∨ k = 22 := by omega
  rcases hc with rfl | rfl | rfl | rfl | rfl | rfl | rfl | rfl | rfl | rfl | rfl | rfl | rfl | rfl | rfl | rfl | rfl | rfl | rfl | rfl | rfl | rfl <;> rfl
set_option maxRecDepth 100000 in
set_option maxHeartbeats 1000000 in
theorem rname_in (k : Nat) (h1 : 1 ≤ k) (h2 : k < 23) (w : World) : Calls Tryd.prog 9 #[.int .i64 (k : Int)] w fun e w' => e = .returned (.string (tx (wd k))) ∧ Below w.heap.size w w' := by
  have hL := nm_at k h1 h2
  go_enter Tryd.func9, Tryd.ntmps9
  go_wp2_with fail
  go_ret
  exact ⟨rfl, (Below.refl _ _).alloc (Nat.le_refl _) _⟩
theorem rname_any (n : Int) (w : World) : Calls Tryd.prog 9 #[.int .i64 n] w fun e w' => e = .returned (.string (tx (nameT n))) ∧ Below w.heap.size w w' := by
  by_cases h0 : n < 1
  · have e : nameT n = [] := by unfold nameT; rw [isC_off (.inl h0)]; rfl
    rw [e]
    clear e
    go_enter Tryd.func9, Tryd.ntmps9
    go_wp2
    go_ret
    exact ⟨rfl, (Below.refl _ _).alloc (Nat.le_refl _) _⟩
  · by_cases h1 : 22 < n
    · have e : nameT n = [] := by unfold nameT; rw [isC_off (.inr h1)]; rfl
      rw [e]
      clear e
      go_enter Tryd.func9, Tryd.ntmps9
      go_wp2
      go_ret
      exact ⟨rfl, (Below.refl _ _).alloc (Nat.le_refl _) _⟩
    · obtain ⟨k, rfl⟩ := Int.eq_ofNat_of_zero_le (show 0 ≤ n by omega)
      have e : nameT (k : Int) = wd k := by unfold nameT; rw [isC_iff.2 ⟨by omega, by omega⟩, if_pos rfl, Int.toNat_natCast]
      rw [e]
      exact rname_in k (by omega) (by omega) w
end Go.Proofs.YtlddjjkbnhhfaaaDoor.Clrc
