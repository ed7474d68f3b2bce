/-
  Double, New and Copy of a memory of frames.
-/
import Derived.Test.YtjoapeeljigjcaaDoorFw
namespace Go.Proofs.YtjoapeeljigjcaaDoor.Fx
open Go Go.RowKit Kit Bk Fm Fo Fr Fw
set_option linter.unusedVariables false

attribute [local go_sem ↓] app_wrap cpy_wrap
attribute [local go_sem] eql_nil eql_some eqf_nil eqf_some

/-- A load, a store of a frame's bytes, behind names that a walk does not open. -/
def ldA (p : Value) : Sem Value := Instr.loadAt 121 p
theorem ld_wrap (p : Value) : Instr.loadAt 121 p = ldA p := rfl
def stA (p v : Value) : Sem Unit := Instr.storeAt 121 p v
theorem sta_wrap (p v : Value) : Instr.storeAt 121 p v = stA p v := rfl
attribute [local go_sem ↓] ld_wrap sta_wrap
theorem info64 : (Tryd.prog.info? 121).map (·.size) = some 64 := by kernel_rfl
theorem run_ldA (w : World) (b o : Nat) (f : Nat → Nat) (h : ∀ i, i < 64 → w.cell? ⟨b, o + i, none⟩ = some (.int .u8 (f i : Int))) :
    (ldA (.pointer (some ⟨b, o, none⟩))).run Tryd.prog w = .ok (.agg (u8f f 64).toArray) w := by
  refine run_loadAt_mid w b o _ (u8f f 64) _ (fun j v hj => ?_) Tryd.underlying121 rfl (by rw [info64, u8f_len])
  have hjm : j < 64 := by rw [← u8f_len f 64]; exact (List.getElem?_eq_some_iff.1 hj).1
  rw [u8f_at f 64 j hjm] at hj
  cases hj
  exact h j hjm
theorem run_stA (w : World) (b o : Nat) (cs : Array Value) (T : TypeId) (h : Blk w b cs T) (hn : o + 64 ≤ cs.size) (f : Nat → Nat) :
    (stA (.pointer (some ⟨b, o, none⟩)) (.agg (u8f f 64).toArray)).run Tryd.prog w = .ok () (w.setCells b o (u8f f 64)) := by
  have hl : (u8f f 64).toArray.size = 64 := by rw [List.size_toArray, u8f_len]
  unfold stA
  have := run_storeAt_mid (P := Tryd.prog) w b o 121 (u8f f 64).toArray (h.there _ _ (by rw [hl]; exact hn)) (by rw [info64, hl]) (all_oneCell_toArray (u8f_one f 64))
  rw [this, List.toList_toArray]
/-- A frame's bytes laid over another's. -/
theorem Mem.laid {w : World} {p b n : Nat} {R : Nat → Nat} {B : Nat → Nat → Nat} (h : Mem w p b n R B) (k : Nat) (f : Nat → Nat) (hk : k < n) (hx : ∀ i, f i < 256) :
    Mem (w.setCells b (k * 65 + 1) (u8f f 64)) p b n R (up B k f) := by
  have hne := h.ne
  obtain ⟨⟨cap, h1, h2⟩, ⟨cs, h3, h4, h5, h6⟩, h7, h8, h9⟩ := h
  obtain ⟨ds, hd1, hd2, hd3, hd4⟩ := h3.sets (u8f f 64) (k * 65 + 1)
  rw [u8f_len] at hd3 hd4
  refine ⟨⟨cap, h1.kept (Kp.sets (S := fun j => j = b) b rfl _ _ _) hne, h2⟩, ⟨ds, hd1, by rw [hd2]; exact h4, fun j hj => ?_, fun j i hj hi => ?_⟩, h7, fun j i => ?_, h9⟩
  · rw [hd3 _ (by omega), h5 j hj]
  · by_cases e : j = k
    · subst e
      rw [up_same, hd4 i hi (by omega), u8f_at f 64 i hi]
    · rw [hd3 _ (by omega), h6 j i hj hi, up_other _ _ _ _ e]
  · unfold up
    split
    · exact hx i
    · exact h8 j i
theorem Mem.drew {w : World} {p b n : Nat} {R : Nat → Nat} {B : Nat → Nat → Nat} (h : Mem w p b n R B) : Mem w.drew p b n R B := h.below ((Below.refl _ _).drew)

set_option maxHeartbeats 1000000 in
theorem double_ok (w : World) (p b n : Nat) (R : Nat → Nat) (B : Nat → Nat → Nat) (h : Mem w p b n R B) (k : Nat) (hk : k < n) (hr : R k ≠ 0) (m : Nat) (hm : m < n) (hz : R m = 0) (hf : ∀ k, k < m → R k ≠ 0) :
    Calls Tryd.prog 66 #[.pointer (some ⟨p, 0, none⟩), .int .i64 (k : Int)] w fun e w' => e = .returned (.tuple #[.int .i64 (m : Int), .int .i64 0]) ∧ Mem w' p b n (up R m 1) (up B m (B k)) ∧ Kp (fun j => j = b) w w' := by
  have HH := Lib.hid (held_ok w p b n R B h k hk hr)
  have HT := take_ok w p b n R B h m hm hz hf
  have h1 := h.setRef m 1 hm (by omega)
  have hk1 : Kp (fun j => j = b) w (w.setCell ⟨b, m * 65, none⟩ (.int .i64 1)) := Kp.set w b _ _ rfl
  obtain ⟨W, hW⟩ : ∃ W, w.setCell ⟨b, m * 65, none⟩ (.int .i64 1) = W := ⟨_, rfl⟩
  rw [hW] at HT hk1
  rw [show ((1 : Nat) : Int) = 1 from rfl, hW] at h1
  have h2 := Mem.drew h1
  have hld : (ldA (.pointer (some ⟨b, k * 65 + 1, none⟩))).run Tryd.prog W.drew = .ok (.agg (u8f (B k) 64).toArray) W.drew := run_ldA _ b _ (B k) (fun i hi => by
    obtain ⟨_, ⟨cs, h3, h4, h5, h6⟩, _⟩ := h2
    rw [h3.cell]
    exact h6 k i hk hi)
  have hst : (stA (.pointer (some ⟨b, m * 65 + 1, none⟩)) (.agg (u8f (B k) 64).toArray)).run Tryd.prog W.drew = .ok () (W.drew.setCells b (m * 65 + 1) (u8f (B k) 64)) := by
    obtain ⟨_, ⟨cs, h3, h4, h5, h6⟩, _⟩ := h2
    exact run_stA _ b _ cs _ h3 (by omega) _
  have HMm := Lib.hid (Mem.laid h2 m (B k) hm (fun i => h.u8 k i))
  have HKp := Lib.hid (hk1.drew.trans (Kp.sets (S := fun j => j = b) b rfl (u8f (B k) 64) (m * 65 + 1) W.drew) (fun _ h => .inl h))
  obtain ⟨⟨cap, h3, h4⟩, _⟩ := h1
  have c0 := h3.cell 0
  have HTT := Lib.hid HT
  generalize W.drew.setCells b (m * 65 + 1) (u8f (B k) 64) = W2 at *
  generalize (u8f (B k) 64).toArray = U at *
  have hk2 : (k : Int) < (n : Int) := by omega
  have hm2 : (m : Int) < (n : Int) := by omega
  clear h h2 h3 h4 hk1 hW hf hr hz HT
  go_enter Tryd.func66, Tryd.ntmps66
  go_wp2_with (first | (go_at_call 76; (with_reducible refine HH.out.mono ?_); rintro e w1 ⟨rfl, rfl⟩) | (go_at_call 34; (with_reducible refine HTT.out.mono ?_); rintro e w1 ⟨rfl, rfl⟩))
  go_region
  go_wp2
  go_ret2
  exact ⟨rfl, HMm.out, HKp.out⟩

/-- A slice made, behind a name that a walk does not open. -/
def mkO (t : TypeId) (a b : Value) : Sem Value := Instr.makeSlice t a b
theorem mk_wrap (t : TypeId) (a b : Value) : Instr.makeSlice t a b = mkO t a b := rfl
attribute [local go_sem ↓] mk_wrap
theorem made_at (n k : Nat) (hk : k < n) : (madeCells zcs (n * 65))[k * 65]? = some (.int .i64 0) := by
  have hs : k * 65 < n * 65 := by omega
  simp only [madeCells, Array.getElem?_map, Array.getElem?_range, hs, if_true, Option.map_some, zcs_size, Nat.mul_mod_left]
  rfl
theorem made_byte (n k i : Nat) (hk : k < n) (hi : i < 64) : (madeCells zcs (n * 65))[k * 65 + 1 + i]? = some (.int .u8 0) := by
  have hs : k * 65 + 1 + i < n * 65 := by omega
  have hmod : (k * 65 + 1 + i) % 65 = i + 1 := by omega
  simp only [madeCells, Array.getElem?_map, Array.getElem?_range, hs, if_true, Option.map_some, zcs_size, hmod]
  have := zcs_at i hi
  rw [Array.getElem?_toList] at this
  rw [getElem!_def, this]
theorem new_arg (w : World) (n : Int) (hn : ¬ (1 ≤ n ∧ n ≤ 256)) :
    Calls Tryd.prog 15 #[.int .i64 n] w fun e w' => e = .returned (.tuple #[.pointer none, .int .i64 2]) ∧ w = w' := by
  by_cases h1 : n < 1
  · have d : decide (n < 1) = true := decide_eq_true h1
    clear hn h1
    go_enter Tryd.func15, Tryd.ntmps15
    go_wp2
    go_ret2
    exact ⟨rfl, rfl⟩
  · have d : decide (n < 1) = false := decide_eq_false h1
    have d2 : decide (256 < n) = true := decide_eq_true (by omega)
    clear hn h1
    go_enter Tryd.func15, Tryd.ntmps15
    go_wp2
    go_ret2
    exact ⟨rfl, rfl⟩
theorem new_ok (w : World) (n : Nat) (hn : 1 ≤ n ∧ n ≤ 256) :
    Calls Tryd.prog 15 #[.int .i64 (n : Int)] w fun e w' => Below w.heap.size w w' ∧ ∃ p b, e = .returned (.tuple #[.pointer (some ⟨p, 0, none⟩), .int .i64 0]) ∧ w.heap.size ≤ p ∧ w.heap.size ≤ b ∧ Mem w' p b n (fun _ => 0) (fun _ _ => 0) := by
  obtain ⟨i0, hi, hz0, hz1, hz2⟩ := info_parts info66
  have hr := run_make (P := Tryd.prog) w 69 123 i0 (.agg zcs) Tryd.underlying69 hi hz0 .i64 .i64 (n : Int) (n : Int) (by omega) (Int.le_refl _) (by rw [hz2]; omega) (by omega)
  rw [Int.toNat_natCast, hz1] at hr
  have hr2 : (mkO 69 (.int .i64 (n : Int)) (.int .i64 (n : Int))).run Tryd.prog w = .ok (.slice (some ⟨w.heap.size, 0, none⟩) n n) (w.alloc (.cells (madeCells zcs (n * 65)) 123)) := hr
  have hb := Blk.new w (madeCells zcs (n * 65)) 123
  have hb1 : Below w.heap.size w (w.alloc (.cells (madeCells zcs (n * 65)) 123)) := (Below.refl _ _).alloc (Nat.le_refl _) _
  have hsz : (w.alloc (.cells (madeCells zcs (n * 65)) 123)).heap.size = w.heap.size + 1 := by simp
  have hms := size_madeCells zcs (n * 65)
  have ha1 := fun k hk => made_at n k hk
  have ha2 := fun k i hk hi => made_byte n k i hk hi
  have HA1 := Lib.hid ha1
  have HA2 := Lib.hid ha2
  have HMS := Lib.hid hms
  generalize hZ : madeCells zcs (n * 65) = Z at *
  generalize hW : w.alloc (.cells Z 123) = W at *
  have HBk := Lib.hid hb
  have HB1 := Lib.hid hb1
  have HSz := Lib.hid hsz
  have d : decide ((n : Int) < 1) = false := decide_eq_false (by omega)
  have d2 : decide (256 < (n : Int)) = false := decide_eq_false (by omega)
  clear hr hb hb1 ha1 ha2 hms hZ hW hsz hi hz0 hz1 hz2
  go_enter Tryd.func15, Tryd.ntmps15
  go_wp2
  go_ret2
  refine ⟨HB1.out.alloc (by rw [HSz.out]; omega) _, W.heap.size, w.heap.size, rfl, by rw [HSz.out]; omega, Nat.le_refl _, ?_⟩
  have hbk : Blk (W.alloc (.cells #[.slice (some ⟨w.heap.size, 0, none⟩) n n] 71)) w.heap.size Z 123 := HBk.out.below ((Below.refl _ _).alloc (Nat.le_refl _) _)
  exact ⟨⟨n, Blk.new _ _ _, Nat.le_refl _, by unfold maxLen; omega⟩, ⟨Z, hbk, by rw [HMS.out]; omega, fun k hk => HA1.out k hk, fun k i hk hi => HA2.out k i hk hi⟩, hn, fun _ _ => by omega, fun _ => by omega⟩
end Go.Proofs.YtjoapeeljigjcaaDoor.Fx
