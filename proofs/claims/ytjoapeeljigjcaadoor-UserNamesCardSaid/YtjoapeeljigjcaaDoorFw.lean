/-
  Write, Double, New and Copy of a memory of frames.
-/
import Derived.Test.YtjoapeeljigjcaaDoorFr
namespace Go.Proofs.YtjoapeeljigjcaaDoor.Fw
open Go Go.RowKit Kit Bk Fm Fo Fr
set_option linter.unusedVariables false

attribute [local go_sem ↓] app_wrap cpy_wrap
attribute [local go_sem] eql_nil eql_some eqf_nil eqf_some

/-- Bytes written over others. -/
def wr (f : Nat → Nat) (off : Nat) (xs : List Nat) : Nat → Nat := fun i => if off ≤ i ∧ i < off + xs.length then xs[i - off]?.getD 0 else f i
def u8s (xs : List Nat) : List Value := xs.map fun (x : Nat) => Value.int .u8 (x : Int)
theorem u8s_at (xs : List Nat) (i : Nat) (h : i < xs.length) : (u8s xs)[i]? = some (.int .u8 ((xs[i]?.getD 0 : Nat) : Int)) := by simp [u8s, h]
theorem u8s_one (xs : List Nat) : ∀ u ∈ u8s xs, u.oneCell' = true := by
  intro u hu
  simp only [u8s, List.mem_map] at hu
  obtain ⟨i, _, rfl⟩ := hu
  rfl
theorem Mem.wrote {w : World} {p b n : Nat} {R : Nat → Nat} {B : Nat → Nat → Nat} (h : Mem w p b n R B) (k off : Nat) (xs : List Nat) (hk : k < n) (hf : off + xs.length ≤ 64) (hx : ∀ x ∈ xs, x < 256) :
    Mem (w.setCells b (k * 65 + 1 + off) (u8s xs)) p b n R (up B k (wr (B k) off xs)) := by
  have hne := h.ne
  obtain ⟨⟨cap, h1, h2⟩, ⟨cs, h3, h4, h5, h6⟩, h7, h8, h9⟩ := h
  obtain ⟨ds, hd1, hd2, hd3, hd4⟩ := h3.sets (u8s xs) (k * 65 + 1 + off)
  have hl : (u8s xs).length = xs.length := by simp [u8s]
  rw [hl] at hd3 hd4
  refine ⟨⟨cap, h1.kept (Kp.sets (S := fun j => j = b) b rfl _ _ _) hne, h2⟩, ⟨ds, hd1, by rw [hd2]; exact h4, fun j hj => ?_, fun j i hj hi => ?_⟩, h7, fun j i => ?_, h9⟩
  · rw [hd3 _ (by omega), h5 j hj]
  · by_cases e : j = k
    · subst e
      rw [up_same]
      unfold wr
      by_cases e2 : off ≤ i ∧ i < off + xs.length
      · rw [if_pos e2]
        have := hd4 (i - off) (by omega) (by omega)
        rw [show j * 65 + 1 + off + (i - off) = j * 65 + 1 + i by omega] at this
        rw [this, u8s_at xs _ (by omega)]
      · rw [if_neg e2, hd3 _ (by omega), h6 j i hj hi]
    · rw [hd3 _ (by omega), h6 j i hj hi, up_other _ _ _ _ e]
  · unfold up
    split
    · unfold wr
      split
      · rename_i hi
        rw [List.getElem?_eq_getElem (show i - off < xs.length by omega)]
        exact hx _ (List.getElem_mem _)
      · exact h8 k i
    · exact h8 j i

theorem write_no (w : World) (p b n : Nat) (R : Nat → Nat) (B : Nat → Nat → Nat) (h : Mem w p b n R B) (k off : Int) (a : Option Addr) (m c : Nat) (hk : rf n R k = 0) :
    Calls Tryd.prog 40 #[.pointer (some ⟨p, 0, none⟩), .int .i64 k, .int .i64 off, .slice a m c] w fun e w' => e = .returned (.int .i64 41) ∧ w = w' := by
  have HH := Lib.hid (part_no w p b n R B h k off m hk)
  have hc : (cpyO #[37, 37] 3 #[.slice none 0 0, .slice a m c]).run Tryd.prog w = .ok (goInt 0) w :=
    run_copy_none w _ _ _ 5 none a 0 0 m c Tryd.underlying37 (by kernel_rfl) (by simp)
  clear h hk
  go_enter Tryd.func40, Tryd.ntmps40
  go_wp2_with (first | (go_at_call 65; (with_reducible refine HH.out.mono ?_); rintro e w1 ⟨rfl, rfl⟩))
  go_ret
  exact ⟨rfl, rfl⟩
theorem write_arg (w : World) (p b n : Nat) (R : Nat → Nat) (B : Nat → Nat → Nat) (h : Mem w p b n R B) (k : Nat) (hk : k < n) (hr : R k ≠ 0) (off : Int) (ho : (Lit.int .i64 off).wf = true) (a : Option Addr) (m c : Nat) (hm : m ≤ 1000000) (hf : ¬ (0 ≤ off ∧ off + m ≤ 64)) :
    Calls Tryd.prog 40 #[.pointer (some ⟨p, 0, none⟩), .int .i64 (k : Int), .int .i64 off, .slice a m c] w fun e w' => e = .returned (.int .i64 2) ∧ w = w' := by
  have HH := Lib.hid (part_arg w p b n R B h k hk hr off m ho (by simp [Lit.wf, IntKind.min, IntKind.max, IntKind.signed, IntKind.bits]; omega) (by omega))
  have hc : (cpyO #[37, 37] 3 #[.slice none 0 0, .slice a m c]).run Tryd.prog w = .ok (goInt 0) w :=
    run_copy_none w _ _ _ 5 none a 0 0 m c Tryd.underlying37 (by kernel_rfl) (by simp)
  clear h hk hf hm ho
  go_enter Tryd.func40, Tryd.ntmps40
  go_wp2_with (first | (go_at_call 65; (with_reducible refine HH.out.mono ?_); rintro e w1 ⟨rfl, rfl⟩))
  go_ret
  exact ⟨rfl, rfl⟩
theorem write_ok (w : World) (p b n : Nat) (R : Nat → Nat) (B : Nat → Nat → Nat) (h : Mem w p b n R B) (k : Nat) (hk : k < n) (hr : R k ≠ 0) (off : Nat) (v : Value) (xs : List Nat) (hs : Slc .u8 w v xs) (hx : ∀ x ∈ xs, x < 256) (hf : off + xs.length ≤ 64) :
    Calls Tryd.prog 40 #[.pointer (some ⟨p, 0, none⟩), .int .i64 (k : Int), .int .i64 (off : Int), v] w fun e w' => e = .returned (.int .i64 0) ∧ Mem w' p b n R (up B k (wr (B k) off xs)) ∧ Kp (fun j => j = b) w w' := by
  have hh := part_ok w p b n R B h k hk hr off xs.length hf
  have HMm := Lib.hid (Mem.wrote h k off xs hk hf hx)
  have HKp := Lib.hid (Kp.sets (S := fun j => j = b) b rfl (u8s xs) (k * 65 + 1 + off) w)
  obtain ⟨a, cap, rfl, hcap, hmax, hread⟩ := hs
  obtain ⟨O, hO⟩ : ∃ O, (if off = 64 then k * 65 + 1 else k * 65 + 1 + off) = O := ⟨_, rfl⟩
  have hc : (cpyO #[37, 37] 3 #[.slice (some ⟨b, O, none⟩) xs.length (64 - off), .slice a xs.length cap]).run Tryd.prog w = .ok (goInt xs.length) (w.setCells b (k * 65 + 1 + off) (u8s xs)) := by
    rcases hread with rfl | ⟨g, o, rfl, hlt, hcell⟩
    · exact run_copy_none w _ _ _ 5 _ a 0 _ 0 cap Tryd.underlying37 (by kernel_rfl) (by simp)
    · by_cases h0 : xs.length = 0
      · obtain rfl : xs = [] := List.length_eq_zero_iff.1 h0
        exact run_copy_none w _ _ _ 5 _ _ 0 _ 0 cap Tryd.underlying37 (by kernel_rfl) (by simp)
      · have hO2 : O = k * 65 + 1 + off := by rw [← hO, if_neg (by omega)]
        rw [hO2]
        have hl : (u8s xs).length = xs.length := by simp [u8s]
        obtain ⟨_, ⟨cs, h3, h4, h5, h6⟩, _⟩ := h
        have hth := h3.there (k * 65 + 1 + off) xs.length (by omega)
        have := run_copy_cells (P := Tryd.prog) w 37 37 3 5 b (k * 65 + 1 + off) xs.length (64 - off) ⟨g, o, none⟩ xs.length cap (u8s xs) Tryd.underlying37 (by kernel_rfl) (by rw [hl]; exact (Nat.min_self _).symm)
          (fun j v hj => by
            have hjl : j < xs.length := by rw [← hl]; exact (List.getElem?_eq_some_iff.1 hj).1
            rw [u8s_at xs j hjl] at hj
            cases hj
            rw [Addr.add_mid]
            exact hcell j hjl)
          (fun j hj => (hth j (by rw [← hl]; exact hj)).1) (fun j hj => (hth j (by rw [← hl]; exact hj)).2) (u8s_one xs)
        rw [hl] at this
        exact this
  rw [hO] at hh
  have HH := Lib.hid hh
  generalize w.setCells b (k * 65 + 1 + off) (u8s xs) = W at *
  clear h hk hr hread hh hO hx hf
  go_enter Tryd.func40, Tryd.ntmps40
  go_wp2_with (first | (go_at_call 65; (with_reducible refine HH.out.mono ?_); rintro e w1 ⟨rfl, rfl⟩))
  go_ret
  exact ⟨rfl, HMm.out, HKp.out⟩

theorem double_no (w : World) (p b n : Nat) (R : Nat → Nat) (B : Nat → Nat → Nat) (h : Mem w p b n R B) (k : Int) (hk : rf n R k = 0) :
    Calls Tryd.prog 66 #[.pointer (some ⟨p, 0, none⟩), .int .i64 k] w fun e w' => e = .returned (.tuple #[.int .i64 0, .int .i64 41]) ∧ w = w' := by
  have HH := Lib.hid (held_no w p b n R B h k hk)
  clear h hk
  go_enter Tryd.func66, Tryd.ntmps66
  go_wp2_with (first | (go_at_call 76; (with_reducible refine HH.out.mono ?_); rintro e w1 ⟨rfl, rfl⟩))
  go_ret2
  exact ⟨rfl, rfl⟩
theorem double_full (w : World) (p b n : Nat) (R : Nat → Nat) (B : Nat → Nat → Nat) (h : Mem w p b n R B) (k : Nat) (hk : k < n) (hf : ∀ k, k < n → R k ≠ 0) :
    Calls Tryd.prog 66 #[.pointer (some ⟨p, 0, none⟩), .int .i64 (k : Int)] w fun e w' => e = .returned (.tuple #[.int .i64 0, .int .i64 40]) ∧ w = w' := by
  have HH := Lib.hid (held_ok w p b n R B h k hk (hf k hk))
  have HT := Lib.hid (take_full w p b n R B h hf)
  clear h hk hf
  go_enter Tryd.func66, Tryd.ntmps66
  go_wp2_with (first | (go_at_call 76; (with_reducible refine HH.out.mono ?_); rintro e w1 ⟨rfl, rfl⟩) | (go_at_call 34; (with_reducible refine HT.out.mono ?_); rintro e w1 ⟨rfl, rfl⟩))
  go_ret2
  exact ⟨rfl, rfl⟩
end Go.Proofs.YtjoapeeljigjcaaDoor.Fw
