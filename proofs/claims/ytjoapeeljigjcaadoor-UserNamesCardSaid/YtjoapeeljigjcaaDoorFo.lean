/-
  Share and Drop of a memory of frames.
-/
import Derived.Test.YtjoapeeljigjcaaDoorFm
namespace Go.Proofs.YtjoapeeljigjcaaDoor.Fo
open Go Go.RowKit Kit Bk Fm
set_option linter.unusedVariables false

/-- A frame that is free, as a value. -/
def zcs : Array Value := #[.int .i64 0] ++ Array.replicate 64 (.int .u8 0)
theorem info66 : (Tryd.prog.info? 123).map (fun i => (i.zero, i.size, i.bytes)) = some (some (.agg zcs), 65, 72) := by kernel_rfl
theorem run_zero (w : World) : (zeroValue 123).run Tryd.prog w = .ok (.agg zcs) w := by
  obtain ⟨i, hi, hz, _⟩ := info_parts info66
  simp [zeroValue, typeInfo, hi, hz]
/-- A store of a whole frame, behind a name that a walk does not open. -/
def stO (p v : Value) : Sem Unit := Instr.storeAt 123 p v
theorem st_wrap (p v : Value) : Instr.storeAt 123 p v = stO p v := rfl
theorem zcs_size : zcs.size = 65 := by kernel_rfl
theorem zcs_one : zcs.all (·.oneCell') = true := by kernel_rfl
theorem zcs_at (j : Nat) (h : j < 64) : zcs.toList[j + 1]? = some (.int .u8 0) := by
  have e : zcs.toList = Value.int .i64 0 :: List.replicate 64 (Value.int .u8 0) := by kernel_rfl
  rw [e, List.getElem?_cons_succ, List.getElem?_replicate, if_pos h]
theorem run_stO (w : World) (b o : Nat) (cs : Array Value) (T : TypeId) (h : Blk w b cs T) (hn : o + 65 ≤ cs.size) :
    (stO (.pointer (some ⟨b, o, none⟩)) (.agg zcs)).run Tryd.prog w = .ok () (w.setCells b o zcs.toList) := by
  obtain ⟨i, hi, hz, hs, _⟩ := info_parts info66
  unfold stO
  refine run_storeAt_mid w b o _ zcs (h.there _ _ (by rw [zcs_size]; exact hn)) ?_ zcs_one
  rw [hi, zcs_size, Option.map_some, hs]

attribute [local go_sem ↓] st_wrap

theorem drop_no (w : World) (p b n : Nat) (R : Nat → Nat) (B : Nat → Nat → Nat) (h : Mem w p b n R B) (k : Int) (hk : rf n R k = 0) :
    Calls Tryd.prog 67 #[.pointer (some ⟨p, 0, none⟩), .int .i64 k] w fun e w' => e = .returned (.tuple #[.int .i64 0, .int .i64 41]) ∧ w = w' := by
  have HH := Lib.hid (held_no w p b n R B h k hk)
  clear h hk
  go_enter Tryd.func67, Tryd.ntmps67
  go_wp2_with (first | (go_at_call 76; (with_reducible refine HH.out.mono ?_); rintro e w1 ⟨rfl, rfl⟩))
  go_ret2
  exact ⟨rfl, rfl⟩
theorem drop_many (w : World) (p b n : Nat) (R : Nat → Nat) (B : Nat → Nat → Nat) (h : Mem w p b n R B) (k : Nat) (hk : k < n) (r : Nat) (hr : R k = r + 2) :
    Calls Tryd.prog 67 #[.pointer (some ⟨p, 0, none⟩), .int .i64 (k : Int)] w fun e w' => e = .returned (.tuple #[.int .i64 ((r + 1 : Nat) : Int), .int .i64 0]) ∧ w' = w.setCell ⟨b, k * 65, none⟩ (.int .i64 ((r + 1 : Nat) : Int)) := by
  have HH := Lib.hid (held_ok w p b n R B h k hk (by omega))
  have hR := h.refs k
  obtain ⟨⟨cap, h1, h2⟩, ⟨cs, h3, h4, h5, _⟩, ⟨h6, h7⟩, _⟩ := h
  have c0 := h1.cell 0
  have c1 := (h3.cell _).trans (h5 k hk)
  have hfr := h3.free (k * 65)
  have hk2 : (k : Int) < (n : Int) := by omega
  obtain ⟨q, hq⟩ : ∃ q : Int, q = (r : Int) := ⟨_, rfl⟩
  have HQ := Lib.hid hq
  have hr3 : ((r + 1 : Nat) : Int) = q + 1 := by omega
  have hr4 : (R k : Int) = q + 2 := by omega
  rw [hr3]
  rw [hr4] at c1
  have hw : q + 2 - 1 = q + 1 := by omega
  have HW := Lib.hid hw
  have hd' : (q + 2 - 1 == 0) = false := by simp; omega
  have hb : q ≤ 1000000000 := by omega
  have hb0 : 0 ≤ q := by omega
  clear h1 h3 h4 h5 hr hR hr3 hr4 hq hw

  go_enter Tryd.func67, Tryd.ntmps67
  go_wp2_with (first | (go_at_call 76; (with_reducible refine HH.out.mono ?_); rintro e w1 ⟨rfl, rfl⟩))
  go_ret2
  rw [← HW.out]
  exact ⟨rfl, rfl⟩
theorem drop_last (w : World) (p b n : Nat) (R : Nat → Nat) (B : Nat → Nat → Nat) (h : Mem w p b n R B) (k : Nat) (hk : k < n) (hr : R k = 1) :
    Calls Tryd.prog 67 #[.pointer (some ⟨p, 0, none⟩), .int .i64 (k : Int)] w fun e w' => e = .returned (.tuple #[.int .i64 0, .int .i64 0]) ∧ w' = (w.setCell ⟨b, k * 65, none⟩ (.int .i64 0)).setCells b (k * 65) zcs.toList := by
  have HH := Lib.hid (held_ok w p b n R B h k hk (by omega))
  have hne := h.ne
  obtain ⟨⟨cap, h1, h2⟩, ⟨cs, h3, h4, h5, _⟩, ⟨h6, h7⟩, _⟩ := h
  have c0 := h1.cell 0
  have c1 := (h3.cell _).trans (h5 k hk)
  rw [hr, Int.natCast_one] at c1
  have hfr := h3.free (k * 65)
  have hk2 : (k : Int) < (n : Int) := by omega
  have hst := run_stO _ b (k * 65) _ _ (h3.set (k * 65) (.int .i64 0)) (by simp; omega)
  obtain ⟨ds, hd1, hd2, hd3, hd4⟩ := (h3.set (k * 65) (.int .i64 0)).sets zcs.toList (k * 65)
  have c2 := (hd1.cell (k * 65)).trans (hd4 0 (by rw [Array.length_toList, zcs_size]; decide) (by simp; omega))
  rw [show zcs.toList[0]? = some (.int .i64 0) from rfl] at c2
  have HD := Lib.hid hd1
  generalize hW : (w.setCell ⟨b, k * 65, none⟩ (.int .i64 0)).setCells b (k * 65) zcs.toList = W at *
  have HW := Lib.hid hW
  have hz := run_zero
  generalize hZ : zcs = Z at *
  clear h1 h3 h4 h5 hr hd1 hd2 hd3 hd4 hW hZ
  go_enter Tryd.func67, Tryd.ntmps67
  go_wp2_with (first | (go_at_call 76; (with_reducible refine HH.out.mono ?_); rintro e w1 ⟨rfl, rfl⟩))
  go_ret2
  exact ⟨rfl, rfl⟩
theorem Mem.dropped {w : World} {p b n : Nat} {R : Nat → Nat} {B : Nat → Nat → Nat} (h : Mem w p b n R B) (k : Nat) (hk : k < n) :
    Mem ((w.setCell ⟨b, k * 65, none⟩ (.int .i64 0)).setCells b (k * 65) zcs.toList) p b n (up R k 0) (up B k (fun _ => 0)) := by
  have h' := h.setRef k 0 hk (by omega)
  have hne := h'.ne
  obtain ⟨⟨cap, h1, h2⟩, ⟨cs, h3, h4, h5, h6⟩, h7, h8, h9⟩ := h'
  obtain ⟨ds, hd1, hd2, hd3, hd4⟩ := h3.sets zcs.toList (k * 65)
  have hl : zcs.toList.length = 65 := by rw [Array.length_toList, zcs_size]
  rw [hl] at hd3 hd4
  refine ⟨⟨cap, h1.kept (Kp.sets (S := fun j => j = b) b rfl _ _ _) hne, h2⟩, ⟨ds, hd1, by rw [hd2]; exact h4, fun j hj => ?_, fun j i hj hi => ?_⟩, h7, fun j i => ?_, h9⟩
  · by_cases e : j = k
    · subst e
      have := hd4 0 (by omega) (by omega)
      rw [Nat.add_zero] at this
      rw [this, up_same]
      rfl
    · rw [hd3 _ (by omega), h5 j hj]
  · by_cases e : j = k
    · subst e
      have := hd4 (i + 1) (by omega) (by omega)
      rw [show j * 65 + 1 + i = j * 65 + (i + 1) by omega, this, up_same, zcs_at i hi]
      rfl
    · rw [hd3 _ (by omega), h6 j i hj hi, up_other _ _ _ _ e]
  · unfold up
    split
    · exact (by decide : 0 < 256)
    · exact h8 j i
end Go.Proofs.YtjoapeeljigjcaaDoor.Fo
