/-
  Bytes of words: what split, All and Bytes of package word come to.
-/
import Derived.Test.YtjoapeeljigjcaaDoorLeaf
import Derived.Deep.DeepMust
namespace Go.Proofs.YtjoapeeljigjcaaDoor.Bytes
open Go Go.RowKit Nums Kit Leaf
set_option linter.unusedVariables false

/-- A word's bytes, the lowest first. -/
def b0 (v : Nat) : Nat := v % 256
def b1 (v : Nat) : Nat := v / 256 % 256
def b2 (v : Nat) : Nat := v / 65536 % 256
def b3 (v : Nat) : Nat := v / 16777216
def bs (v : Nat) : List Nat := [b0 v, b1 v, b2 v, b3 v]
def u8s (l : List Nat) : List Value := l.map fun (x : Nat) => Value.int .u8 (x : Int)
theorem u8s_append (a b : List Nat) : u8s (a ++ b) = u8s a ++ u8s b := by simp [u8s]

theorem add_zero_off (g j : Nat) : (⟨g, 0, none⟩ : Addr).add j = ⟨g, j, none⟩ := by unfold Addr.add; split <;> simp_all
theorem quad_cells (w : World) (x t : Nat) : ∀ (j : Nat) (u : Value), (u8s (bs x))[j]? = some u →
    (w.alloc (.cells #[.int .u8 (b0 x : Nat), .int .u8 (b1 x : Nat), .int .u8 (b2 x : Nat), .int .u8 (b3 x : Nat)] t)).cell? ((⟨w.heap.size, 0, none⟩ : Addr).add j) = some u := by
  intro j u h
  rw [add_zero_off, World.cell?_alloc_at _ _ _ _ rfl]
  rw [← h]
  simp [u8s, bs]
theorem u8s_one (l : List Nat) : ∀ u ∈ u8s l, u.oneCell' = true := by
  intro u h
  simp only [u8s, List.mem_map] at h
  obtain ⟨x, _, rfl⟩ := h
  rfl

theorem split_any (v : Nat) (w : World) (hv : v < 4294967296) :
    Calls Tryd.prog 42 #[.int .u32 (v : Int)] w fun e w' => e = .returned (.agg #[.int .u8 (b0 v : Nat), .int .u8 (b1 v : Nat), .int .u8 (b2 v : Nat), .int .u8 (b3 v : Nat)]) ∧ Below w.heap.size w w' := by
  go_enter Tryd.func42, Tryd.ntmps42
  go_wp2
  exact bodyPost_ret (v := .agg #[.int .u8 (b0 v : Nat), .int .u8 (b1 v : Nat), .int .u8 (b2 v : Nat), .int .u8 (b3 v : Nat)]) (by simp [results, Tryd.results42, go_sem, b0, b1, b2, b3]) rfl ⟨rfl, (Below.refl _ _).alloc (Nat.le_refl _) _⟩

/-- The bytes of words, one behind the other. -/
def allB (l : List Nat) : List Nat := l.flatMap bs
theorem allB_length (l : List Nat) : (allB l).length = 4 * l.length := by
  induction l with
  | nil => rfl
  | cons x l ih => unfold allB at *; simp [bs, ih]; omega
theorem allB_snoc (l : List Nat) (x : Nat) : allB (l ++ [x]) = allB l ++ bs x := by simp [allB]
theorem Tryd.info5 : (Tryd.prog.info? 5).map (fun i => (i.zero, i.size, i.bytes)) = some (some (.int .u8 0), 1, 1) := by kernel_rfl

/-- A new row of bytes is answered. -/
def RowOf (w : World) (n : Nat) (l : List Nat) (e : Ending) (w' : World) : Prop :=
  ∃ r, e = .returned r ∧ w'.ownsRow w.heap.size 5 1 r n (u8s l) ∧ Below w.heap.size w w'
theorem take_snoc {xs : List Nat} {k x : Nat} (h : k < xs.length) (hx : xs[k]?.getD 0 = x) : xs.take (k + 1) = xs.take k ++ [x] := by
  rw [List.take_succ_eq_append_getElem h]
  rw [List.getElem?_eq_getElem h] at hx
  simp at hx
  rw [hx]

theorem all_any (v : Value) (xs : List Nat) (w : World) (hx : Slc .u32 w v xs) (hb : ∀ x ∈ xs, x < 4294967296) (hn : xs.length ≤ 1000) :
    Calls Tryd.prog 20 #[v] w (RowOf w (4 * xs.length) (allB xs)) := by
  obtain ⟨a, cap, rfl, hcap, hmax, hread⟩ := hx
  unfold maxLen at hmax
  have hnb : ((xs.length : Nat) : Int) ≤ 1000 := by omega
  obtain ⟨i0, hi, hz0, hz1, hz2⟩ := info_parts Tryd.info5
  go_enter Tryd.func20, Tryd.ntmps20
  go_wp2_with (at_make; go_must (refine wpList_make_own _ rfl _ _ 37 rfl w.heap.size 5 i0 (.int .u8 0) 1 Tryd.underlying37 hi hz0 hz1 .i64 .i64 _ (4 * xs.length) rfl rfl (by omega) (by rw [hz2]; omega) (by unfold maxLen; omega) (Nat.le_refl _) ?_); intro w1 hown hgr)
  have hown0 : w1.ownsRow w.heap.size 5 1 (.slice (some ⟨w.heap.size, 0, none⟩) (4 * 0) (4 * xs.length)) (4 * 0) (u8s (allB (xs.take 0))) := hown
  have hb1 : Below w.heap.size w w1 := (Below.refl _ w).grown hgr (Nat.le_refl _) (fun _ h => by cases h)
  clear hown hgr
  go_loopw [3, 13] (fun b i wr => ∃ k : Nat, k ≤ xs.length ∧ i = .int .i64 k ∧ b = .slice (some ⟨w.heap.size, 0, none⟩) (4 * k) (4 * xs.length) ∧ wr.ownsRow w.heap.size 5 1 (.slice (some ⟨w.heap.size, 0, none⟩) (4 * k) (4 * xs.length)) (4 * k) (u8s (allB (xs.take k))) ∧ Below w.heap.size w wr) (fun _ i _ => xs.length - (intOf i).toNat)
  case atStart => exact ⟨0, Nat.zero_le _, rfl, rfl, hown0, hb1⟩
  case round =>
    clear hown0 hb1
    obtain ⟨k, hk, rfl, rfl, hown, hbw⟩ := hrel
    by_cases hlt : k < xs.length
    · rcases hread with h0 | ⟨b, off, rfl, hblt, hcells⟩
      · subst h0; simp at hlt
      · have hc : wr.cell? ⟨b, off + k, none⟩ = some (.int .u32 ((xs[k]?.getD 0 : Nat) : Int)) := (hbw.cell (p := ⟨b, off + k, none⟩) hblt).trans (hcells k hlt)
        have hxk : xs[k]?.getD 0 < 4294967296 := by rw [List.getElem?_eq_getElem hlt]; exact hb _ (List.getElem_mem _)
        obtain ⟨x, hx⟩ : ∃ x, xs[k]?.getD 0 = x := ⟨_, rfl⟩
        rw [hx] at hc hxk
        have HX := Lib.hid hx
        have HB := Lib.hid hb
        clear hx hcells hb
        go_wp2_with (first | (go_at_call 42; refine (split_any _ _ hxk).mono ?_; rintro e w2 ⟨rfl, hb2⟩) | (at_builtin; go_must (refine wpList_append_fits _ rfl _ _ 37 rfl w.heap.size 5 i0 1 Tryd.underlying37 hi hz1 w.heap.size (4 * k) (4 * xs.length) (u8s (allB (xs.take k))) rfl ((own_below hown hb2).alloc _) ⟨w2.heap.size, 0, none⟩ 4 4 (u8s (bs x)) rfl rfl (quad_cells _ _ _) (u8s_one _) (by omega) ?_); intro w3 hown3 hgr3))
        go_roundw
        case rel =>
          have hts := take_snoc hlt HX.out
          refine ⟨k + 1, by omega, by go_num, rfl, ?_, ?_⟩
          · rw [hts, allB_snoc, u8s_append]; exact hown3
          · exact ((hbw.trans (hb2.mono hbw.size)).alloc (Nat.le_trans hbw.size hb2.size) _).grown hgr3 (by have h1 := hbw.size; have h2 := hb2.size; simp; omega) (fun j h => by cases h; exact Nat.le_refl _)
        case measure => simp [intOf]; omega
    · obtain rfl : k = xs.length := by omega
      clear hread
      go_wp2
      go_ret
      exact ⟨_, rfl, by rw [List.take_length] at hown; exact hown, hbw⟩

end Go.Proofs.YtjoapeeljigjcaaDoor.Bytes
