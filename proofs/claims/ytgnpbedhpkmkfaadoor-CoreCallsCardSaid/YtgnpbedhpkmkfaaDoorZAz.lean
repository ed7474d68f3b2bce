/-
  append(bytes, make([]byte, 100)...) to a program's bytes.
-/
import Derived.Test.YtgnpbedhpkmkfaaDoorZBy4
import Derived.ArgAppend
namespace Go.Proofs.YtgnpbedhpkmkfaaDoor.Az
open Go Go.RowKit Kit Bk CoM CoR CoB CoC CoW CoE CoY Bytes3 IsaT IsaU IsaV Sm Ar
set_option linter.unusedVariables false
theorem grow100 (w : World) (B : Nat) (b : CoM.Bs) (hL : Lies w B (some ⟨B, 0, none⟩) 16 b) (hn : b.length = 16) (hb : ∀ x ∈ b, x < 256) :
    ∃ g cap w', (appO #[26, 3] 26 #[.slice (some ⟨B, 0, none⟩) 16 16, .int .i64 100]).run Tryd.prog w = .ok (.slice (some ⟨g, 0, none⟩) 116 cap) w' ∧ Lies w' g (some ⟨g, 0, none⟩) cap (b ++ List.replicate 100 0) ∧ (116 ≤ cap ∧ cap ≤ maxLen) ∧ w.heap.size ≤ g ∧ g < w'.heap.size ∧ Below w.heap.size w w' := by
  obtain ⟨i0, hi, hz0, hz1, hz2⟩ := info_parts info5
  have hul : (u8s b).length = 16 := by simp [u8s, hn]
  have hcells : ∀ j u, (u8s b)[j]? = some u → w.cell? ((⟨B, 0, none⟩ : Addr).add j) = some u := by
    rcases hL.row with h | ⟨h1, h2, h3, cells, T, h4, h5⟩
    · rw [h] at hn; simp at hn
    · intro j u hj
      have hjm : j < b.length := by rw [hn, ← hul]; exact (List.getElem?_eq_some_iff.1 hj).1
      rw [u8s_at b j hjm] at hj
      cases hj
      rw [Addr.add_mid, Nat.zero_add, h4.cell]
      exact h5 j hjm
  have hc : w.cell? = w.drew.cell? := rfl
  have hold : (Builtin.firstCells i0.size 16 (.slice (some ⟨B, 0, none⟩) 16 16)).run Tryd.prog w.drew = .ok (u8s b).toArray w.drew :=
    run_firstCells_some (P := Tryd.prog) w.drew i0.size 16 ⟨B, 0, none⟩ 16 16 (u8s b) (by rw [hul, hz1]) (fun j u hj => hcells j u hj)
  have hge := grownCap_ge w 116 16 5
  have hcm : grownCap w 116 16 5 ≤ maxLen := grownCap_le_maxLen w 116 16 5 (by unfold maxLen; omega)
  have hr := Lib.run_append_grow_zeros (P := Tryd.prog) w 26 3 26 5 i0 (.int .u8 0) .i64 .i64 Tryd.underlying26 Tryd.underlying3 hi hz0 (some ⟨B, 0, none⟩) 16 16 (u8s b) hold 100 (by decide) (by rw [hz1]; decide) (by decide) (by decide) (by rw [hz2]; decide) (by rw [hz2]; decide)
  have hz : (Builtin.zeroCells #[Value.int .u8 0] 100).toList = u8s (List.replicate 100 0) := by kernel_rfl
  have hown : World.ownsRow (w.drew.alloc (.cells ((u8s b).toArray ++ Builtin.zeroCells (Value.int .u8 0).cells 100 ++ Builtin.zeroCells (Value.int .u8 0).cells (grownCap w 116 16 5 - 116)) 5)) w.heap.size 5 1 (.slice (some ⟨w.heap.size, 0, none⟩) 116 (grownCap w 116 16 5)) 116 (u8s (b ++ List.replicate 100 0)) := by
    refine ⟨by simp [u8s, hn], .inr ⟨w.heap.size, _, _, rfl, Nat.le_refl _, heap_alloc_new w.drew _, hge, hcm, ?_, ?_⟩⟩
    · simp only [Array.size_append, List.size_toArray, size_zeroCells, hul]
      show 16 + 100 * 1 + (grownCap w 116 16 5 - 116) * 1 = _
      omega
    · have e : u8s (b ++ List.replicate 100 0) = u8s b ++ u8s (List.replicate 100 0) := by simp [u8s]
      rw [e, ← hz]
      simp only [Array.toList_append]
      have hlen : (u8s b ++ (Builtin.zeroCells #[Value.int .u8 0] 100).toList).length = 116 * 1 := by rw [List.length_append, hul, hz]; simp [u8s]
      rw [← hlen]
      exact List.take_left
  obtain ⟨h1, h2, h3, h4, h5⟩ := lies_own hown (by simp [hn]) (fun x hx => (List.mem_append.1 hx).elim (hb x) (fun h => by rw [(List.mem_replicate.1 h).2]; decide))
  exact ⟨_, _, _, hr, h2, ⟨hge, hcm⟩, h4, h5, (Below.refl w.heap.size w).drew.alloc (Nat.le_refl _) _⟩
end Go.Proofs.YtgnpbedhpkmkfaaDoor.Az
