/-
  ram: a Ram with a program.
-/
import Derived.Test.YtgnpbedhpkmkfaaDoorZIsaV
import Derived.Test.YtgnpbedhpkmkfaaDoorZRw
import Derived.Test.YtgnpbedhpkmkfaaDoorZSt
namespace Go.Proofs.YtgnpbedhpkmkfaaDoor.Ar
open Go Go.RowKit Kit Bk CoM CoR CoB CoC CoW CoE CoY Bytes3 IsaT IsaU IsaV Sm
open IsaP (Ml)
set_option linter.unusedVariables false

theorem lies_own {w : World} {base g cap n : Nat} {b : CoM.Bs} (h : w.ownsRow base 5 1 (.slice (some ⟨g, 0, none⟩) n cap) n (u8s b)) (hn : b.length ≤ 4000) (hs : ∀ x ∈ b, x < 256) :
    n = b.length ∧ Lies w g (some ⟨g, 0, none⟩) cap b ∧ (b.length ≤ cap ∧ cap ≤ maxLen) ∧ base ≤ g ∧ g < w.heap.size := by
  have hl : b.length = n := by have := h.1; simpa [u8s] using this
  subst hl
  have hsm : ∀ i, at_ b i < 256 := fun i => by
    unfold at_
    cases hh : b[i]? with
    | none => decide
    | some x => exact hs x (List.mem_of_getElem? hh)
  rcases h.2 with ⟨e, hz⟩ | ⟨g', cap', cur, e, hg, hh, h1, h2, h3, h4⟩
  · cases e
  · cases e
    refine ⟨rfl, ⟨hn, hsm, .inr ⟨rfl, h1, h2, cur, _, hh, fun i hil => ?_⟩⟩, ⟨h1, h2⟩, hg, (Array.getElem?_eq_some_iff.1 hh).1⟩
    have hcell := h.cells (g := g) rfl i (.int .u8 ((at_ b i : Nat) : Int)) (u8s_at b i hil)
    rw [add_zero_off] at hcell
    rw [← hcell]
    exact (Bk.Blk.cell (w := w) (b := g) (cs := cur) hh i).symm
theorem allB_len : ∀ l : List Nat, (allB l).length = 4 * l.length
  | [] => rfl
  | x :: l => by
    have := allB_len l
    unfold allB at this ⊢
    simp [bs] at this ⊢
    omega
theorem allB_lt (l : List Nat) (hl : ∀ x ∈ l, x < 4294967296) : ∀ y ∈ allB l, y < 256 := by
  intro y hy
  unfold allB at hy
  rw [List.mem_flatMap] at hy
  obtain ⟨x, hxl, hx⟩ := hy
  have := hl x hxl
  simp [bs, b0, b1, b2, b3] at hx
  omega

/-- What ram leaves. -/
structure RamR (w : World) (b : CoM.Bs) (M B : Nat) (ad : Option Addr) (cap : Nat) (w' : World) : Prop where
  m : RamAt w' M ad cap b
  l : Lies w' B ad cap b
  cp : b.length ≤ cap ∧ cap ≤ maxLen
  hB : w.heap.size ≤ B
  hM : B < M
  bel : Below w.heap.size w w'

set_option maxRecDepth 100000 in
set_option maxHeartbeats 2000000 in
theorem ram_any (s : ByteArray) (hs : s.size ≤ 100000) (ws : List Nat) (ha : asm s.data.toList = .inr ws) (w : World) (hT : Tabs w) (hM : Ml w) :
    Calls Tryd.prog 20 #[.string s] w fun e w' => ∃ M B ad cap, e = .returned (pm M) ∧ RamR w (allB ws) M B ad cap w' := by
  have HA := Lib.hid (asm_any s hs w hT hM)
  have HAM := Lib.hid ha
  clear ha hT hM
  go_enter Tryd.func20, Tryd.ntmps20
  go_wp2_with (first | (go_at_call 43; (with_reducible refine HA.out.mono ?_); rintro e w1 ⟨hb1, -, hok⟩; obtain ⟨r, rfl, hown, hlt, hlen⟩ := hok ws HAM.out; refine Hid.out ?_))
  refine Lib.hid ?_
  have HB := Lib.hid (bytes_any r ws w1 (own_slc hown) hlt (by omega))
  have HL := Lib.hid hlen
  have HLT := Lib.hid hlt
  have HB1 := Lib.hid hb1
  clear hok hown hlt hb1 HA hlen
  go_wp2_with (first | (go_at_call 42; (with_reducible refine HB.out.mono ?_); rintro e w2 ⟨g, cap, rfl, hown2, hb2⟩; refine Hid.out ?_))
  refine Lib.hid ?_
  obtain ⟨hn, hlies, hcp, hg, hg2⟩ := lies_own hown2 (by rw [allB_len]; have := HL.out; omega) (allB_lt ws HLT.out)
  have bb := (Below.refl w2.heap.size w2).alloc (Nat.le_refl _) (.cells #[.slice (some ⟨g, 0, none⟩) (4 * ws.length : Nat) cap] 34)
  have HR : Hid (RamR w (allB ws) w2.heap.size g (some ⟨g, 0, none⟩) cap (w2.alloc (.cells #[.slice (some ⟨g, 0, none⟩) (4 * ws.length : Nat) cap] 34))) := Lib.hid ⟨by
    have := Blk.new w2 #[.slice (some ⟨g, 0, none⟩) (4 * ws.length : Nat) cap] 34
    unfold RamAt sl
    rw [allB_len]
    exact this, Lies.below hlies bb, hcp, Nat.le_trans HB1.out.size hg, hg2, HB1.out.trans ((hb2.trans (bb.mono hb2.size)).mono HB1.out.size)⟩
  clear hown2 hb2 hn hlies hcp hg hg2 bb
  go_wp2
  go_ret
  exact ⟨_, _, _, _, rfl, HR.out⟩
end Go.Proofs.YtgnpbedhpkmkfaaDoor.Ar
