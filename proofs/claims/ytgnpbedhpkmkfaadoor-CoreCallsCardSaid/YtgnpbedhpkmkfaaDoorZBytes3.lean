/-
  Bytes of package isa: four of each word, the lowest first.
-/
import Derived.Test.YtgnpbedhpkmkfaaDoorZIsaB
import Derived.Deep.DeepMust
import Derived.IntWalk
namespace Go.Proofs.YtgnpbedhpkmkfaaDoor.Bytes3
open Go Go.RowKit Kit Nums IsaN IsaB
set_option linter.unusedVariables false

def b0 (v : Nat) : Nat := v % 256
def b1 (v : Nat) : Nat := v / 256 % 256
def b2 (v : Nat) : Nat := v / 65536 % 256
def b3 (v : Nat) : Nat := v / 16777216
def bs (v : Nat) : List Nat := [b0 v, b1 v, b2 v, b3 v]
def u8s (l : List Nat) : List Value := l.map fun (x : Nat) => Value.int .u8 (x : Int)
theorem u8s_append (a b : List Nat) : u8s (a ++ b) = u8s a ++ u8s b := by simp [u8s]
theorem add_zero_off (g j : Nat) : (⟨g, 0, none⟩ : Addr).add j = ⟨g, j, none⟩ := by unfold Addr.add; split <;> simp_all
theorem quad_cells (w : World) (x t : Nat) (z0 z1 z2 z3 : Int) (h0 : z0 = (b0 x : Nat)) (h1 : z1 = (b1 x : Nat)) (h2 : z2 = (b2 x : Nat)) (h3 : z3 = (b3 x : Nat)) : ∀ (j : Nat) (u : Value), (u8s (bs x))[j]? = some u →
    (w.alloc (.cells #[.int .u8 z0, .int .u8 z1, .int .u8 z2, .int .u8 z3] t)).cell? ((⟨w.heap.size, 0, none⟩ : Addr).add j) = some u := by
  intro j u h
  subst h0 h1 h2 h3
  rw [add_zero_off, World.cell?_alloc_at _ _ _ _ rfl]
  rw [← h]
  simp [u8s, bs]
theorem u8s_one (l : List Nat) : ∀ u ∈ u8s l, u.oneCell' = true := by
  intro u h
  simp only [u8s, List.mem_map] at h
  obtain ⟨x, _, rfl⟩ := h
  rfl
def allB (l : List Nat) : List Nat := l.flatMap bs
theorem allB_snoc (l : List Nat) (x : Nat) : allB (l ++ [x]) = allB l ++ bs x := by simp [allB]
theorem info5 : (Tryd.prog.info? 5).map (fun i => (i.zero, i.size, i.bytes)) = some (some (.int .u8 0), 1, 1) := by kernel_rfl
theorem take_snoc {xs : List Nat} {k x : Nat} (h : k < xs.length) (hx : xs[k]?.getD 0 = x) : xs.take (k + 1) = xs.take k ++ [x] := by
  rw [List.take_succ_eq_append_getElem h]
  rw [List.getElem?_eq_getElem h] at hx
  simp at hx
  rw [hx]

set_option maxRecDepth 100000 in
set_option maxHeartbeats 4000000 in
theorem bytes_any (v : Value) (xs : List Nat) (w : World) (hx : Slc .u32 w v xs) (hb : ∀ x ∈ xs, x < 4294967296) (hn : xs.length ≤ 1000) :
    Calls Tryd.prog 42 #[v] w fun e w' => ∃ g cap, e = .returned (.slice (some ⟨g, 0, none⟩) (4 * xs.length) cap) ∧ w'.ownsRow w.heap.size 5 1 (.slice (some ⟨g, 0, none⟩) (4 * xs.length) cap) (4 * xs.length) (u8s (allB xs)) ∧ Below w.heap.size w w' := by
  obtain ⟨a, cap, rfl, hcap, hmax, hread⟩ := hx
  unfold maxLen at hmax
  have hnb : ((xs.length : Nat) : Int) ≤ 1000 := by omega
  obtain ⟨i0, hi, hz0, hz1, hz2⟩ := info_parts info5
  go_enter Tryd.func42, Tryd.ntmps42
  go_wp2_with (at_make; go_must (refine wpList_make_own _ rfl _ _ 26 rfl w.heap.size 5 i0 (.int .u8 0) 1 Tryd.underlying26 hi hz0 hz1 .i64 .i64 _ (4 * xs.length) rfl rfl (by omega) (by rw [hz2]; omega) (by unfold maxLen; omega) (Nat.le_refl _) ?_); intro w1 hown hgr)
  have hown0 : w1.ownsRow w.heap.size 5 1 (.slice (some ⟨w.heap.size, 0, none⟩) (4 * 0) (4 * xs.length)) (4 * 0) (u8s (allB (xs.take 0))) := hown
  have hb1 : Below w.heap.size w w1 := (Below.refl _ w).grown hgr (Nat.le_refl _) (fun _ h => by cases h)
  clear hown hgr
  go_loopw [3, 12] (fun b i wr => ∃ k : Nat, k ≤ xs.length ∧ i = .int .i64 k ∧ b = .slice (some ⟨w.heap.size, 0, none⟩) (4 * k) (4 * xs.length) ∧ wr.ownsRow w.heap.size 5 1 (.slice (some ⟨w.heap.size, 0, none⟩) (4 * k) (4 * xs.length)) (4 * k) (u8s (allB (xs.take k))) ∧ Below w.heap.size w wr) (fun _ i _ => xs.length - (intOf i).toNat)
  case atStart => exact ⟨0, Nat.zero_le _, rfl, rfl, hown0, hb1⟩
  case round =>
    clear hown0 hb1
    obtain ⟨k, hk, rfl, rfl, hown, hbw⟩ := hrel
    by_cases hlt : k < xs.length
    · rcases hread with h0 | ⟨b, off, rfl, hblt, hcells⟩
      · subst h0; simp at hlt
      · have hc : wr.cell? ⟨b, off + k, none⟩ = some (.int .u32 ((xs[k]?.getD 0 : Nat) : Int)) := (hbw.cell (p := ⟨b, off + k, none⟩) hblt).trans (hcells k hlt)
        have hxk : xs[k]?.getD 0 < 4294967296 := by rw [List.getElem?_eq_getElem hlt]; exact hb _ (List.getElem_mem _)
        obtain ⟨x, hx⟩ : ∃ x, xs[k]?.getD 0 = x := ⟨_, rfl⟩
        rw [hx] at hc hxk
        have HX := Lib.hid hx
        have HB := Lib.hid hb
        clear hx hcells hb
        go_wp2_with (at_builtin; go_must (refine wpList_append_fits _ rfl _ _ 26 rfl w.heap.size 5 i0 1 Tryd.underlying26 hi hz1 w.heap.size (4 * k) (4 * xs.length) (u8s (allB (xs.take k))) rfl (hown.alloc _) ⟨wr.heap.size, 0, none⟩ 4 4 (u8s (bs x)) rfl rfl (quad_cells _ x _ _ _ _ _ (by unfold b0; omega) (by unfold b1; omega) (by unfold b2; omega) (by unfold b3; omega)) (u8s_one _) (by omega) ?_); intro w3 hown3 hgr3)
        go_roundw
        case rel =>
          have hts := take_snoc hlt HX.out
          refine ⟨k + 1, by omega, by go_num, rfl, ?_, ?_⟩
          · rw [hts, allB_snoc, u8s_append]; exact hown3
          · exact (hbw.alloc hbw.size _).grown hgr3 (by have h1 := hbw.size; simp; omega) (fun j h => by cases h; exact Nat.le_refl _)
        case measure => simp [intOf]; omega
    · obtain rfl : k = xs.length := by omega
      clear hread
      go_wp2
      go_ret
      exact ⟨_, _, rfl, by rw [List.take_length] at hown; exact hown, hbw⟩
end Go.Proofs.YtgnpbedhpkmkfaaDoor.Bytes3
