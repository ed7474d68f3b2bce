/-
  A Ram with a program: its bytes' capacity is their number.
-/
import Derived.Test.YtgnpbedhpkmkfaaDoorZAr
import Derived.Lib.AppendZerosOnto
namespace Go.Proofs.YtgnpbedhpkmkfaaDoor.By4
open Go Go.RowKit Kit Bk CoM CoR CoB CoC CoW CoE CoY Bytes3 IsaT IsaU IsaV Sm Ar
open IsaP (Ml)
set_option linter.unusedVariables false

set_option maxRecDepth 100000 in
set_option maxHeartbeats 4000000 in
theorem bytes_cap (v : Value) (xs : List Nat) (w : World) (hx : Slc .u32 w v xs) (hb : ∀ x ∈ xs, x < 4294967296) (hn : xs.length ≤ 1000) :
    Calls Tryd.prog 42 #[v] w fun e w' => ∃ g, e = .returned (.slice (some ⟨g, 0, none⟩) (4 * xs.length) (4 * xs.length)) ∧ w'.ownsRow w.heap.size 5 1 (.slice (some ⟨g, 0, none⟩) (4 * xs.length) (4 * xs.length)) (4 * xs.length) (u8s (allB xs)) ∧ Below w.heap.size w w' := by
  obtain ⟨a, cap, rfl, hcap, hmax, hread⟩ := hx
  unfold maxLen at hmax
  have hnb : ((xs.length : Nat) : Int) ≤ 1000 := by omega
  obtain ⟨i0, hi, hz0, hz1, hz2⟩ := info_parts info5
  go_enter Tryd.func42, Tryd.ntmps42
  go_wp2_with (at_make; go_must (refine wpList_make_own _ rfl _ _ 26 rfl w.heap.size 5 i0 (.int .u8 0) 1 Tryd.underlying26 hi hz0 hz1 .i64 .i64 _ (4 * xs.length) rfl rfl (by omega) (by rw [hz2]; omega) (by unfold maxLen; omega) (Nat.le_refl _) ?_); intro w1 hown hgr)
  have hown0 : w1.ownsRow w.heap.size 5 1 (.slice (some ⟨w.heap.size, 0, none⟩) (4 * 0) (4 * xs.length)) (4 * 0) (u8s (allB (xs.take 0))) := hown
  have hb1 : Below w.heap.size w w1 := (Below.refl _ w).grown hgr (Nat.le_refl _) (fun _ h => by cases h)
  clear hown hgr
  go_loopw [3, 12] (fun b i wr => ∃ k : Nat, k ≤ xs.length ∧ i = .int .i64 k ∧ b = .slice (some ⟨w.heap.size, 0, none⟩) (4 * k) (4 * xs.length) ∧ wr.ownsRow w.heap.size 5 1 (.slice (some ⟨w.heap.size, 0, none⟩) (4 * k) (4 * xs.length)) (4 * k) (u8s (allB (xs.take k))) ∧ Below w.heap.size w wr) (fun _ i _ => xs.length - (intOf i).toNat)
  case atStart => exact ⟨0, Nat.zero_le _, rfl, rfl, hown0, hb1⟩
  case round =>
    clear hown0 hb1
    obtain ⟨k, hk, rfl, rfl, hown, hbw⟩ := hrel
    by_cases hlt : k < xs.length
    · rcases hread with h0 | ⟨b, off, rfl, hblt, hcells⟩
      · subst h0; simp at hlt
      · have hc : wr.cell? ⟨b, off + k, none⟩ = some (.int .u32 ((xs[k]?.getD 0 : Nat) : Int)) := (hbw.cell (p := ⟨b, off + k, none⟩) hblt).trans (hcells k hlt)
        have hxk : xs[k]?.getD 0 < 4294967296 := by rw [List.getElem?_eq_getElem hlt]; exact hb _ (List.getElem_mem _)
        obtain ⟨x, hx⟩ : ∃ x, xs[k]?.getD 0 = x := ⟨_, rfl⟩
        rw [hx] at hc hxk
        have HX := Lib.hid hx
        have HB := Lib.hid hb
        clear hx hcells hb
        go_wp2_with (at_builtin; go_must (refine wpList_append_fits _ rfl _ _ 26 rfl w.heap.size 5 i0 1 Tryd.underlying26 hi hz1 w.heap.size (4 * k) (4 * xs.length) (u8s (allB (xs.take k))) rfl (hown.alloc _) ⟨wr.heap.size, 0, none⟩ 4 4 (u8s (bs x)) rfl rfl (quad_cells _ x _ _ _ _ _ (by unfold b0; omega) (by unfold b1; omega) (by unfold b2; omega) (by unfold b3; omega)) (u8s_one _) (by omega) ?_); intro w3 hown3 hgr3)
        go_roundw
        case rel =>
          have hts := take_snoc hlt HX.out
          refine ⟨k + 1, by omega, by go_num, rfl, ?_, ?_⟩
          · rw [hts, allB_snoc, u8s_append]; exact hown3
          · exact (hbw.alloc hbw.size _).grown hgr3 (by have h1 := hbw.size; simp; omega) (fun j h => by cases h; exact Nat.le_refl _)
        case measure => simp [intOf]; omega
    · obtain rfl : k = xs.length := by omega
      clear hread
      go_wp2
      go_ret
      exact ⟨_, rfl, by rw [List.take_length] at hown; exact hown, hbw⟩
set_option maxRecDepth 100000 in
set_option maxHeartbeats 2000000 in
theorem ram_cap (s : ByteArray) (hs : s.size ≤ 100000) (ws : List Nat) (ha : asm s.data.toList = .inr ws) (w : World) (hT : Tabs w) (hM : Ml w) :
    Calls Tryd.prog 20 #[.string s] w fun e w' => ∃ M B, e = .returned (pm M) ∧ RamR w (allB ws) M B (some ⟨B, 0, none⟩) (4 * ws.length) w' := by
  have HA := Lib.hid (asm_any s hs w hT hM)
  have HAM := Lib.hid ha
  clear ha hT hM
  go_enter Tryd.func20, Tryd.ntmps20
  go_wp2_with (first | (go_at_call 43; (with_reducible refine HA.out.mono ?_); rintro e w1 ⟨hb1, -, hok⟩; obtain ⟨r, rfl, hown, hlt, hlen⟩ := hok ws HAM.out; refine Hid.out ?_))
  refine Lib.hid ?_
  have HB := Lib.hid (bytes_cap r ws w1 (own_slc hown) hlt (by omega))
  have HL := Lib.hid hlen
  have HLT := Lib.hid hlt
  have HB1 := Lib.hid hb1
  clear hok hown hlt hb1 HA hlen
  go_wp2_with (first | (go_at_call 42; (with_reducible refine HB.out.mono ?_); rintro e w2 ⟨g, rfl, hown2, hb2⟩; refine Hid.out ?_))
  refine Lib.hid ?_
  obtain ⟨hn, hlies, hcp, hg, hg2⟩ := lies_own hown2 (by rw [allB_len]; have := HL.out; omega) (allB_lt ws HLT.out)
  have bb := (Below.refl w2.heap.size w2).alloc (Nat.le_refl _) (.cells #[.slice (some ⟨g, 0, none⟩) (4 * ws.length : Nat) (4 * ws.length)] 34)
  have HR : Hid (RamR w (allB ws) w2.heap.size g (some ⟨g, 0, none⟩) (4 * ws.length) (w2.alloc (.cells #[.slice (some ⟨g, 0, none⟩) (4 * ws.length : Nat) (4 * ws.length)] 34))) := Lib.hid ⟨by
    have := Blk.new w2 #[.slice (some ⟨g, 0, none⟩) (4 * ws.length : Nat) (4 * ws.length)] 34
    unfold RamAt sl
    rw [allB_len]
    exact this, Lies.below hlies bb, hcp, Nat.le_trans HB1.out.size hg, hg2, HB1.out.trans ((hb2.trans (bb.mono hb2.size)).mono HB1.out.size)⟩
  clear hown2 hb2 hn hlies hcp hg hg2 bb
  go_wp2
  go_ret
  exact ⟨_, _, rfl, HR.out⟩
end Go.Proofs.YtgnpbedhpkmkfaaDoor.By4
