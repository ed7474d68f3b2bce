/-
  Read and Write of a memory of frames.
-/
import Derived.Test.YtjoapeeljigjcaaDoorFo
namespace Go.Proofs.YtjoapeeljigjcaaDoor.Fr
open Go Go.RowKit Kit Bk Fm Fo
set_option linter.unusedVariables false

/-- An append, a copy, behind names that a walk does not open: their runs are given as equations. -/
def appO (ts : Array TypeId) (ty : TypeId) (vs : Array Value) : Sem Value := Builtin.append_ ts ty vs
theorem app_wrap (ts : Array TypeId) (ty : TypeId) (vs : Array Value) : Builtin.append_ ts ty vs = appO ts ty vs := rfl
def cpyO (ts : Array TypeId) (ty : TypeId) (vs : Array Value) : Sem Value := Builtin.copy_ ts ty vs
theorem cpy_wrap (ts : Array TypeId) (ty : TypeId) (vs : Array Value) : Builtin.copy_ ts ty vs = cpyO ts ty vs := rfl
attribute [local go_sem ↓] app_wrap cpy_wrap
/-- A slice held against nil. -/
theorem eql_nil (w : World) : (binOp .eql 37 (.slice none 0 0) (.slice none 0 0)).run Tryd.prog w = .ok (.bool true) w := by kernel_rfl
theorem eql_some (a : Addr) (m c : Nat) (w : World) : (binOp .eql 37 (.slice (some a) m c) (.slice none 0 0)).run Tryd.prog w = .ok (.bool false) w := by kernel_rfl
theorem eqf_nil (w : World) : (binOp .eql 69 (.slice none 0 0) (.slice none 0 0)).run Tryd.prog w = .ok (.bool true) w := by kernel_rfl
theorem eqf_some (a : Addr) (m c : Nat) (w : World) : (binOp .eql 69 (.slice (some a) m c) (.slice none 0 0)).run Tryd.prog w = .ok (.bool false) w := by kernel_rfl
attribute [local go_sem] eql_nil eql_some eqf_nil eqf_some

theorem part_no (w : World) (p b n : Nat) (R : Nat → Nat) (B : Nat → Nat → Nat) (h : Mem w p b n R B) (k off m : Int) (hk : rf n R k = 0) :
    Calls Tryd.prog 65 #[.pointer (some ⟨p, 0, none⟩), .int .i64 k, .int .i64 off, .int .i64 m] w fun e w' => e = .returned (.tuple #[.slice none 0 0, .int .i64 41]) ∧ w = w' := by
  have HH := Lib.hid (held_no w p b n R B h k hk)
  clear h hk
  go_enter Tryd.func65, Tryd.ntmps65
  go_wp2_with (first | (go_at_call 76; (with_reducible refine HH.out.mono ?_); rintro e w1 ⟨rfl, rfl⟩))
  go_ret2
  exact ⟨rfl, rfl⟩
theorem part_arg (w : World) (p b n : Nat) (R : Nat → Nat) (B : Nat → Nat → Nat) (h : Mem w p b n R B) (k : Nat) (hk : k < n) (hr : R k ≠ 0) (off m : Int) (ho : (Lit.int .i64 off).wf = true) (hm : (Lit.int .i64 m).wf = true) (hf : ¬ (0 ≤ off ∧ 0 ≤ m ∧ off + m ≤ 64)) :
    Calls Tryd.prog 65 #[.pointer (some ⟨p, 0, none⟩), .int .i64 (k : Int), .int .i64 off, .int .i64 m] w fun e w' => e = .returned (.tuple #[.slice none 0 0, .int .i64 2]) ∧ w = w' := by
  have HH := Lib.hid (held_ok w p b n R B h k hk hr)
  have b1 := i64_bd ho
  have b2 := i64_bd hm
  clear h hr hk ho hm
  by_cases h0 : off < 0
  · have d0 : decide (off < 0) = true := decide_eq_true h0
    clear hf h0 b1 b2
    go_enter Tryd.func65, Tryd.ntmps65
    go_wp2_with (first | (go_at_call 76; (with_reducible refine HH.out.mono ?_); rintro e w1 ⟨rfl, rfl⟩))
    go_ret2
    exact ⟨rfl, rfl⟩
  · have d0 : decide (off < 0) = false := decide_eq_false h0
    by_cases h1 : m < 0
    · have d1 : decide (m < 0) = true := decide_eq_true h1
      clear hf h0 b1 b2 h1
      go_enter Tryd.func65, Tryd.ntmps65
      go_wp2_with (first | (go_at_call 76; (with_reducible refine HH.out.mono ?_); rintro e w1 ⟨rfl, rfl⟩))
      go_ret2
      exact ⟨rfl, rfl⟩
    · have d1 : decide (m < 0) = false := decide_eq_false h1
      have d2 : decide (64 - off < m) = true := decide_eq_true (by omega)
      have d3 : IntKind.i64.wrap (64 - off) = 64 - off := by rw [IntKind.wrap_i64]; omega
      clear hf h0 b1 b2 h1
      go_enter Tryd.func65, Tryd.ntmps65
      go_wp2_with (first | (go_at_call 76; (with_reducible refine HH.out.mono ?_); rintro e w1 ⟨rfl, rfl⟩))
      go_ret2
      exact ⟨rfl, rfl⟩
theorem run_part (w : World) (b o : Nat) (off m : Nat) (hf : off + m ≤ 64) :
    (Instr.sliceAt 121 (.pointer (some ⟨b, o, none⟩)) (some (.int .i64 (off : Int))) (some (.int .i64 ((off : Int) + (m : Int)))) none).run Tryd.prog w = .ok (.slice (some ⟨b, if off = 64 then o else o + off, none⟩) m (64 - off)) w := by
  have hal : Tryd.prog.arrayLen 121 = 64 := by kernel_rfl
  rw [run_sliceAt_array_lh w 121 ⟨b, o, none⟩ (by kernel_rfl) .i64 .i64 (off : Int) ((off : Int) + (m : Int)) (by omega) (by omega) (by rw [hal]; omega)]
  have hsz : (sizeOf (Tryd.prog.elem 121)).run Tryd.prog w = .ok 1 w := by
    have he : Tryd.prog.elem 121 = 5 := by kernel_rfl
    rw [he]
    have hi : (Tryd.prog.info? 5).map (·.size) = some 1 := by kernel_rfl
    cases hq : Tryd.prog.info? 5 with
    | none => rw [hq] at hi; cases hi
    | some i => rw [hq] at hi; simp [sizeOf, typeInfo, hq]; simpa using hi
  rw [hsz, hal]
  simp only [Result.andThen_ok, slicedAt, Int.toNat_natCast]
  have h1 : ((off : Int) + (m : Int)).toNat = off + m := by omega
  rw [h1]
  by_cases e : off = 64
  · subst e
    rw [if_pos rfl, if_pos rfl, show 64 + m - 64 = m by omega]
  · rw [if_neg (by omega), if_neg e, show off + m - off = m by omega, Addr.add_mid, Nat.mul_one]
theorem part_ok (w : World) (p b n : Nat) (R : Nat → Nat) (B : Nat → Nat → Nat) (h : Mem w p b n R B) (k : Nat) (hk : k < n) (hr : R k ≠ 0) (off m : Nat) (hf : off + m ≤ 64) :
    Calls Tryd.prog 65 #[.pointer (some ⟨p, 0, none⟩), .int .i64 (k : Int), .int .i64 (off : Int), .int .i64 (m : Int)] w fun e w' => e = .returned (.tuple #[.slice (some ⟨b, if off = 64 then k * 65 + 1 else k * 65 + 1 + off, none⟩) m (64 - off), .int .i64 0]) ∧ w = w' := by
  have HH := Lib.hid (held_ok w p b n R B h k hk hr)
  obtain ⟨⟨cap, h1, h2⟩, ⟨cs, h3, h4, h5, _⟩, ⟨h6, h7⟩, _⟩ := h
  have c0 := h1.cell 0
  have hk2 : (k : Int) < (n : Int) := by omega
  have d0 : decide ((off : Int) < 0) = false := decide_eq_false (by omega)
  have d1 : decide ((m : Int) < 0) = false := decide_eq_false (by omega)
  have d2 : decide (64 - (off : Int) < (m : Int)) = false := decide_eq_false (by omega)
  have e1 : (off : Int) + (m : Int) ≤ 64 := by omega
  have hsl := fun wx => run_part wx b (k * 65 + 1) off m hf
  generalize (if off = 64 then k * 65 + 1 else k * 65 + 1 + off) = O at *
  clear h1 h3 h4 h5 hr
  go_enter Tryd.func65, Tryd.ntmps65
  go_wp2_with (first | (go_at_call 76; (with_reducible refine HH.out.mono ?_); rintro e w1 ⟨rfl, rfl⟩))
  go_ret2
  exact ⟨rfl, rfl⟩

/-- Numbers as bytes of a block. -/
def u8f (f : Nat → Nat) (m : Nat) : List Value := (List.range m).map fun i => Value.int .u8 (f i : Int)
theorem u8f_len (f : Nat → Nat) (m : Nat) : (u8f f m).length = m := by simp [u8f]
theorem u8f_at (f : Nat → Nat) (m i : Nat) (h : i < m) : (u8f f m)[i]? = some (.int .u8 (f i : Int)) := by simp [u8f, h]
theorem u8f_one (f : Nat → Nat) (m : Nat) : ∀ u ∈ u8f f m, u.oneCell' = true := by
  intro u hu
  simp only [u8f, List.mem_map] at hu
  obtain ⟨i, _, rfl⟩ := hu
  rfl
theorem info5 : (Tryd.prog.info? 5).map (fun i => (i.zero, i.size, i.bytes)) = some (some (.int .u8 0), 1, 1) := by kernel_rfl
theorem clone_nil (w : World) : Calls Tryd.prog 68 #[.slice none 0 0] w fun e w' => e = .returned (.slice none 0 0) ∧ w = w' := by
  go_enter Tryd.func68, Tryd.ntmps68
  go_wp2
  go_ret
  exact ⟨rfl, rfl⟩
/-- A copy of bytes, in a block of its own. -/
theorem clone_any (w : World) (g o m c : Nat) (f : Nat → Nat) (hm : m ≤ 1000000) (h : ∀ i, i < m → w.cell? ⟨g, o + i, none⟩ = some (.int .u8 (f i : Int))) :
    Calls Tryd.prog 68 #[.slice (some ⟨g, o, none⟩) m c] w fun e w' => Below w.heap.size w w' ∧ ∃ r, e = .returned r ∧ w'.ownsRow w.heap.size 5 1 r m (u8f f m) := by
  obtain ⟨i0, hi, hz0, hz1, hz2⟩ := info_parts info5
  have hnews : ∀ j u, (u8f f m)[j]? = some u → (w.alloc (.cells #[] 5)).cell? ((⟨g, o, none⟩ : Addr).add j) = some u := by
    intro j u hj
    have hjm : j < m := by rw [← u8f_len f m]; exact (List.getElem?_eq_some_iff.1 hj).1
    rw [u8f_at f m j hjm] at hj
    cases hj
    rw [Addr.add_mid, World.cell?_alloc_lt _ _ _ (World.block_lt_of_cell? w _ (h j hjm))]
    exact h j hjm
  obtain ⟨v', w1, hrun, hown, hgr, -⟩ := run_append_own_at (P := Tryd.prog) (w := w.alloc (.cells #[] 5)) w.heap.size 37 37 5 i0 (.int .u8 0) 1 1 Tryd.underlying37 hi hz0 hz1 hz2 rfl (by decide) _ 0 [] (World.ownsRow_lit w #[] 0 (Nat.le_refl _) (Nat.zero_le _) rfl) ⟨g, o, none⟩ m c (u8f f m) (by rw [u8f_len, Nat.mul_one])
    hnews (u8f_one f m) (by unfold maxLen; omega) (by omega) (by simp)
  have hrun' : (appO #[37, 37] 37 #[.slice (some ⟨w.heap.size, 0, none⟩) 0 0, .slice (some ⟨g, o, none⟩) m c]).run Tryd.prog (w.alloc (.cells #[] 5)) = .ok v' w1 := hrun
  rw [Nat.zero_add, List.nil_append] at hown
  have HO := Lib.hid hown
  have HB : Hid (Below w.heap.size w w1) := Lib.hid ((((Below.refl w.heap.size w).alloc (Nat.le_refl _) _)).grown hgr (by simp) (fun k e => by cases e; exact Nat.le_refl _))
  clear h hnews hrun hown hgr hz0 hz1 hz2 hi
  go_enter Tryd.func68, Tryd.ntmps68
  go_wp2
  go_ret
  exact ⟨HB.out, _, rfl, HO.out⟩
theorem read_no (w : World) (p b n : Nat) (R : Nat → Nat) (B : Nat → Nat → Nat) (h : Mem w p b n R B) (k off m : Int) (hk : rf n R k = 0) :
    Calls Tryd.prog 44 #[.pointer (some ⟨p, 0, none⟩), .int .i64 k, .int .i64 off, .int .i64 m] w fun e w' => e = .returned (.tuple #[.slice none 0 0, .int .i64 41]) ∧ w = w' := by
  have HH := Lib.hid (part_no w p b n R B h k off m hk)
  have HC := Lib.hid (clone_nil w)
  clear h hk
  go_enter Tryd.func44, Tryd.ntmps44
  go_wp2_with (first | (go_at_call 65; (with_reducible refine HH.out.mono ?_); rintro e w1 ⟨rfl, rfl⟩) | (go_at_call 68; (with_reducible refine HC.out.mono ?_); rintro e w1 ⟨rfl, rfl⟩))
  go_ret2
  exact ⟨rfl, rfl⟩
theorem read_arg (w : World) (p b n : Nat) (R : Nat → Nat) (B : Nat → Nat → Nat) (h : Mem w p b n R B) (k : Nat) (hk : k < n) (hr : R k ≠ 0) (off m : Int) (ho : (Lit.int .i64 off).wf = true) (hm : (Lit.int .i64 m).wf = true) (hf : ¬ (0 ≤ off ∧ 0 ≤ m ∧ off + m ≤ 64)) :
    Calls Tryd.prog 44 #[.pointer (some ⟨p, 0, none⟩), .int .i64 (k : Int), .int .i64 off, .int .i64 m] w fun e w' => e = .returned (.tuple #[.slice none 0 0, .int .i64 2]) ∧ w = w' := by
  have HH := Lib.hid (part_arg w p b n R B h k hk hr off m ho hm hf)
  have HC := Lib.hid (clone_nil w)
  clear h hk ho hm hf
  go_enter Tryd.func44, Tryd.ntmps44
  go_wp2_with (first | (go_at_call 65; (with_reducible refine HH.out.mono ?_); rintro e w1 ⟨rfl, rfl⟩) | (go_at_call 68; (with_reducible refine HC.out.mono ?_); rintro e w1 ⟨rfl, rfl⟩))
  go_ret2
  exact ⟨rfl, rfl⟩
theorem read_ok (w : World) (p b n : Nat) (R : Nat → Nat) (B : Nat → Nat → Nat) (h : Mem w p b n R B) (k : Nat) (hk : k < n) (hr : R k ≠ 0) (off m : Nat) (hf : off + m ≤ 64) :
    Calls Tryd.prog 44 #[.pointer (some ⟨p, 0, none⟩), .int .i64 (k : Int), .int .i64 (off : Int), .int .i64 (m : Int)] w fun e w' => Below w.heap.size w w' ∧ ∃ r, e = .returned (.tuple #[r, .int .i64 0]) ∧ w'.ownsRow w.heap.size 5 1 r m (u8f (fun i => B k (off + i)) m) := by
  have hh := part_ok w p b n R B h k hk hr off m hf
  have hcl := clone_any w b (if off = 64 then k * 65 + 1 else k * 65 + 1 + off) m (64 - off) (fun i => B k (off + i)) (by omega) (fun i hi => by
    obtain ⟨_, ⟨cs, h3, h4, h5, h6⟩, _⟩ := h
    rw [if_neg (by omega), h3.cell, show k * 65 + 1 + off + i = k * 65 + 1 + (off + i) by omega]
    exact h6 k (off + i) hk (by omega))
  obtain ⟨O, hO⟩ : ∃ O, (if off = 64 then k * 65 + 1 else k * 65 + 1 + off) = O := ⟨_, rfl⟩
  rw [hO] at hh hcl
  have HH := Lib.hid hh
  have HC := Lib.hid hcl
  clear h hk hcl hr hf hh hO
  go_enter Tryd.func44, Tryd.ntmps44
  go_wp2_with (first | (go_at_call 65; (with_reducible refine HH.out.mono ?_); rintro e w1 ⟨rfl, rfl⟩) | (go_at_call 68; (with_reducible refine HC.out.mono ?_); rintro e w1 ⟨hb, r, rfl, ho⟩))
  go_ret2
  exact ⟨hb, _, rfl, ho⟩
end Go.Proofs.YtjoapeeljigjcaaDoor.Fr
