/-
  The document's own Same and All: two slices that read alike are the same; words' bytes one behind another.
-/
import Derived.Test.YtjoapeeljigjcaaDoorBytes
import Derived.Maps.AppendAt
namespace Go.Proofs.YtjoapeeljigjcaaDoor.Same
open Go Go.RowKit Nums Kit Leaf Bytes
set_option linter.unusedVariables false

theorem same_any (va vb : Value) (xs : List Nat) (w : World) (ha : Slc .u32 w va xs) (hb : Slc .u32 w vb xs) :
    Calls Tryd.prog 9 #[va, vb] w fun e w' => e = .returned (.bool true) ∧ ∃ k, w' = w.drewN k := by
  obtain ⟨a, capa, rfl, hcapa, hmaxa, hra⟩ := ha
  obtain ⟨b, capb, rfl, hcapb, hmaxb, hrb⟩ := hb
  unfold maxLen at hmaxa hmaxb
  go_enter Tryd.func9, Tryd.ntmps9
  go_wp2
  go_loopw [5] (fun i wr => ∃ k : Nat, k ≤ xs.length ∧ i = .int .i64 k ∧ ∃ d, wr = w.drewN d) (fun i _ => xs.length - (intOf i).toNat)
  case atStart => exact ⟨0, Nat.zero_le _, rfl, 0, rfl⟩
  case round =>
    obtain ⟨k, hk, rfl, d, hd⟩ := hrel
    by_cases hlt : k < xs.length
    · rcases hra with h0 | ⟨ba, oa, rfl, hla, hca⟩
      · subst h0; simp at hlt
      · rcases hrb with h0 | ⟨bb, ob, rfl, hlb, hcb⟩
        · subst h0; simp at hlt
        · have ca : wr.cell? ⟨ba, oa + k, none⟩ = some (.int .u32 ((xs[k]?.getD 0 : Nat) : Int)) := by rw [hd]; exact hca k hlt
          have cb : wr.cell? ⟨bb, ob + k, none⟩ = some (.int .u32 ((xs[k]?.getD 0 : Nat) : Int)) := by rw [hd]; exact hcb k hlt
          obtain ⟨x, hx⟩ : ∃ x, xs[k]?.getD 0 = x := ⟨_, rfl⟩
          rw [hx] at ca cb
          clear hca hcb hx
          have HD := Lib.hid hd
          clear hd
          go_wp2
          go_region
          go_wp2
          go_roundw
          case rel => exact ⟨k + 1, by omega, by go_num, d + 1, by rw [HD.out]; rfl⟩
          case measure => simp [intOf]; omega
    · obtain rfl : k = xs.length := by omega
      clear hra hrb
      go_wp2
      go_ret
      exact ⟨rfl, d, rfl⟩

theorem news_cells (w : World) (x t : Nat) : ∀ (j : Nat) (u : Value), (u8s (bs x))[j]? = some u →
    (w.alloc (.cells (u8s (bs x)).toArray t)).cell? ((⟨w.heap.size, 0, none⟩ : Addr).add j) = some u := by
  intro j u h
  rw [add_zero_off, World.cell?_alloc_at _ _ _ _ rfl]
  rw [← h]
  simp

end Go.Proofs.YtjoapeeljigjcaaDoor.Same
