/-
  The document's own Same and All: two slices that read alike are the same; words' bytes one behind another.
-/
import Derived.Test.YthacghmgkpbdoaaBytes
import Derived.Maps.AppendAt
namespace Go.Proofs.Ythacghmgkpbdoaa.Same
open Go Go.RowKit Nums Kit Leaf Bytes
set_option linter.unusedVariables false

theorem rbytes_any (v : Nat) (w : World) (hv : v < 4294967296) :
    Calls Try.prog 17 #[.int .u32 (v : Int)] w fun e w' => e = .returned (.slice (some ⟨w.heap.size, 0, none⟩) 4 4) ∧ w' = w.alloc (.cells (u8s (bs v)).toArray 5) := by
  go_enter Try.func17, Try.ntmps17
  go_wp2
  go_ret
  exact ⟨rfl, by simp [u8s, bs, b0, b1, b2, b3]⟩

theorem same_any (va vb : Value) (xs : List Nat) (w : World) (ha : Slc .u32 w va xs) (hb : Slc .u32 w vb xs) :
    Calls Try.prog 15 #[va, vb] w fun e w' => e = .returned (.bool true) ∧ ∃ k, w' = w.drewN k := by
  obtain ⟨a, capa, rfl, hcapa, hmaxa, hra⟩ := ha
  obtain ⟨b, capb, rfl, hcapb, hmaxb, hrb⟩ := hb
  unfold maxLen at hmaxa hmaxb
  go_enter Try.func15, Try.ntmps15
  go_wp2
  go_loopw [5] (fun i wr => ∃ k : Nat, k ≤ xs.length ∧ i = .int .i64 k ∧ ∃ d, wr = w.drewN d) (fun i _ => xs.length - (intOf i).toNat)
  case atStart => exact ⟨0, Nat.zero_le _, rfl, 0, rfl⟩
  case round =>
    obtain ⟨k, hk, rfl, d, hd⟩ := hrel
    by_cases hlt : k < xs.length
    · rcases hra with h0 | ⟨ba, oa, rfl, hla, hca⟩
      · subst h0; simp at hlt
      · rcases hrb with h0 | ⟨bb, ob, rfl, hlb, hcb⟩
        · subst h0; simp at hlt
        · have ca : wr.cell? ⟨ba, oa + k, none⟩ = some (.int .u32 ((xs[k]?.getD 0 : Nat) : Int)) := by rw [hd]; exact hca k hlt
          have cb : wr.cell? ⟨bb, ob + k, none⟩ = some (.int .u32 ((xs[k]?.getD 0 : Nat) : Int)) := by rw [hd]; exact hcb k hlt
          obtain ⟨x, hx⟩ : ∃ x, xs[k]?.getD 0 = x := ⟨_, rfl⟩
          rw [hx] at ca cb
          clear hca hcb hx
          have HD := Lib.hid hd
          clear hd
          go_wp2
          go_region
          go_wp2
          go_roundw
          case rel => exact ⟨k + 1, by omega, by go_num, d + 1, by rw [HD.out]; rfl⟩
          case measure => simp [intOf]; omega
    · obtain rfl : k = xs.length := by omega
      clear hra hrb
      go_wp2
      go_ret
      exact ⟨rfl, d, rfl⟩

theorem news_cells (w : World) (x t : Nat) : ∀ (j : Nat) (u : Value), (u8s (bs x))[j]? = some u →
    (w.alloc (.cells (u8s (bs x)).toArray t)).cell? ((⟨w.heap.size, 0, none⟩ : Addr).add j) = some u := by
  intro j u h
  rw [add_zero_off, World.cell?_alloc_at _ _ _ _ rfl]
  rw [← h]
  simp

theorem rall_any (v : Value) (xs : List Nat) (w : World) (hx : Slc .u32 w v xs) (hb : ∀ x ∈ xs, x < 4294967296) (hn : xs.length ≤ 1000) :
    Calls Try.prog 19 #[v] w (RowOf w (4 * xs.length) (allB xs)) := by
  obtain ⟨a, cap, rfl, hcap, hmax, hread⟩ := hx
  unfold maxLen at hmax
  have hnb : ((xs.length : Nat) : Int) ≤ 1000 := by omega
  obtain ⟨i0, hi, hz0, hz1, hz2⟩ := info_parts Try.info5
  go_enter Try.func19, Try.ntmps19
  go_wp2
  go_loopw [3, 4] (fun o i wr => ∃ k : Nat, k ≤ xs.length ∧ i = .int .i64 k ∧ wr.ownsRow w.heap.size 5 1 o (4 * k) (u8s (allB (xs.take k))) ∧ Below w.heap.size w wr) (fun _ i _ => xs.length - (intOf i).toNat)
  case atStart => exact ⟨0, Nat.zero_le _, rfl, World.ownsRow_nil _ _ _ _, Below.refl _ w⟩
  case round =>
    obtain ⟨k, hk, rfl, hown, hbw⟩ := hrel
    by_cases hlt : k < xs.length
    · rcases hread with h0 | ⟨b, off, rfl, hblt, hcells⟩
      · subst h0; simp at hlt
      · have hc : wr.cell? ⟨b, off + k, none⟩ = some (.int .u32 ((xs[k]?.getD 0 : Nat) : Int)) := (hbw.cell (p := ⟨b, off + k, none⟩) hblt).trans (hcells k hlt)
        have hxk : xs[k]?.getD 0 < 4294967296 := by rw [List.getElem?_eq_getElem hlt]; exact hb _ (List.getElem_mem _)
        obtain ⟨x, hx⟩ : ∃ x, xs[k]?.getD 0 = x := ⟨_, rfl⟩
        rw [hx] at hc hxk
        have HX := Lib.hid hx
        have HB := Lib.hid hb
        clear hx hcells hb
        go_wp2_with (first | (go_at_call 17; refine (rbytes_any _ _ hxk).mono ?_; rintro e w2 ⟨rfl, rfl⟩) | (at_builtin; go_must (refine wpList_append_own _ rfl _ _ 24 rfl w.heap.size 5 i0 (.int .u8 0) 1 1 Try.underlying24 hi hz0 hz1 hz2 rfl (by decide) _ (4 * k) (u8s (allB (xs.take k))) rfl (hown.alloc _) ⟨wr.heap.size, 0, none⟩ 4 4 (u8s (bs x)) rfl rfl (news_cells _ _ _) (u8s_one _) (by unfold maxLen; omega) (by omega) (by have := hbw.size; simp; omega) ?_); intro v3 w3 hown3 hgr3 _))
        go_roundw
        case rel =>
          have hts := take_snoc hlt HX.out
          refine ⟨k + 1, by omega, by go_num, ?_, ?_⟩
          · rw [hts, allB_snoc, u8s_append]; exact hown3
          · exact (hbw.alloc hbw.size _).grown hgr3 (by have h1 := hbw.size; simp; omega) (fun j h => (hown.lt j h).1)
        case measure => simp [intOf]; omega
    · obtain rfl : k = xs.length := by omega
      clear hread
      go_wp2
      go_ret
      exact ⟨_, rfl, by rw [List.take_length] at hown; exact hown, hbw⟩
end Go.Proofs.Ythacghmgkpbdoaa.Same
