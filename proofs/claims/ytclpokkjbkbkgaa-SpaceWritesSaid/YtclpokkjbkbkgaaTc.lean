/-
  Clear, Copy of a table of pages; a table that nobody made.
-/
import Derived.Test.YtclpokkjbkbkgaaTs
import Derived.Laws.MakeOwn
namespace Go.Proofs.Ytclpokkjbkbkgaa.Tc
open Go Go.RowKit Kit Bk Tm Ts
set_option linter.unusedVariables false

attribute [local go_sem ↓] sts_wrap

theorem set5 {w : World} {b : Nat} {T : TypeId} {a0 a1 a2 a3 a4 : Value} (h : Blk w b #[a0, a1, a2, a3, a4] T) (v0 v1 v2 v3 v4 : Value) :
    Blk (((((w.setCell ⟨b, 0, none⟩ v0).setCell ⟨b, 1, none⟩ v1).setCell ⟨b, 2, none⟩ v2).setCell ⟨b, 3, none⟩ v3).setCell ⟨b, 4, none⟩ v4) b #[v0, v1, v2, v3, v4] T := by
  have := (((((h.set 0 v0).set 1 v1).set 2 v2).set 3 v3).set 4 v4)
  simpa using this
theorem set5_kp (w : World) (b : Nat) (v0 v1 v2 v3 v4 : Value) :
    Kp (fun j => j = b) w (((((w.setCell ⟨b, 0, none⟩ v0).setCell ⟨b, 1, none⟩ v1).setCell ⟨b, 2, none⟩ v2).setCell ⟨b, 3, none⟩ v3).setCell ⟨b, 4, none⟩ v4) :=
  (((((Kp.set (S := fun j => j = b) w b 0 v0 rfl).trans (Kp.set (S := fun j => j = b) _ b 1 v1 rfl) (fun _ h => .inl h)).trans (Kp.set (S := fun j => j = b) _ b 2 v2 rfl) (fun _ h => .inl h)).trans (Kp.set (S := fun j => j = b) _ b 3 v3 rfl) (fun _ h => .inl h)).trans (Kp.set (S := fun j => j = b) _ b 4 v4 rfl) (fun _ h => .inl h))
theorem putI_none {T : Nat → Option En} {i : Int} (h : atI T i = none) : putI T i none = T := by
  unfold putI
  split
  · rename_i hi
    funext j
    unfold up
    split
    · rename_i e
      subst e
      unfold atI at h
      rw [if_pos hi] at h
      exact h.symm
    · rfl
  · rfl
set_option maxHeartbeats 1000000 in
/-- Nothing to clear: of none, or a page without an entry. -/
theorem clear_non (w : World) (pv : Value) (i : Int) (HG : Hid (∀ w', Below w.heap.size w w' → Calls Try.prog 28 #[pv, .int .i64 i] w' fun e w2 => e = .returned (.tuple #[.agg #[.int .i64 0, .bool false, .bool false, .bool false, .bool false], .bool false]) ∧ Below w'.heap.size w' w2)) :
    Calls Try.prog 51 #[pv, .int .i64 i] w fun e w' => e = .returned (.tuple #[.agg #[.int .i64 0, .bool false, .bool false, .bool false, .bool false], .bool false]) ∧ Below w.heap.size w w' := by
  have hb0 : Below w.heap.size w (w.alloc (.cells #[.int .i64 0, .bool false, .bool false, .bool false, .bool false] 47)) := (Below.refl _ _).alloc (Nat.le_refl _) _
  have HG2 := Lib.hid (HG.out _ hb0)
  have HR : Hid (∀ w1 o, Below (w.alloc (.cells #[.int .i64 0, .bool false, .bool false, .bool false, .bool false] 47)).heap.size (w.alloc (.cells #[.int .i64 0, .bool false, .bool false, .bool false, .bool false] 47)) w1 → Blk (w1.alloc o) w.heap.size #[.int .i64 0, .bool false, .bool false, .bool false, .bool false] 47) := Lib.hid (fun w1 o h => ((Blk.new w _ _).below h).below ((Below.refl _ _).alloc (Nat.le_refl _) _))
  have HB0 := Lib.hid hb0
  clear HG hb0
  go_enter Try.func51, Try.ntmps51
  go_wp2_with (first | (go_at_call 28; (with_reducible refine HG2.out.mono ?_); rintro e w1 ⟨rfl, hb⟩; have hA := HR.out w1 (.cells #[.int .i64 0, .bool false, .bool false, .bool false, .bool false] 47) hb; have a0 := hA.cell 0; have a1 := hA.cell 1; have a2 := hA.cell 2; have a3 := hA.cell 3; have a4 := hA.cell 4; have f0 := hA.free 0; have f1 := hA.free 1; have f2 := hA.free 2; have f3 := hA.free 3; have f4 := hA.free 4; replace hA := Lib.hid hA; replace hb := Lib.hid hb))
  have hF := set5 hA.out (.int .i64 0) (.bool false) (.bool false) (.bool false) (.bool false)
  have g0 := hF.cell 0
  have g1 := hF.cell 1
  have g2 := hF.cell 2
  have g3 := hF.cell 3
  have g4 := hF.cell 4
  exact bodyPost_ret (v := .tuple #[.agg #[.int .i64 0, .bool false, .bool false, .bool false, .bool false], .bool false]) (by simp [results, Try.results51, go_sem, g0, g1, g2, g3, g4]) rfl ⟨rfl, (((HB0.out.trans (hb.out.mono HB0.out.size)).alloc (Nat.le_trans HB0.out.size hb.out.size) _).trans ((set5_kp _ _ _ _ _ _ _).below (n := w.heap.size) (by have := HB0.out.size; have := hb.out.size; simp only [World.size_alloc]; omega) (fun j e => by omega)))⟩
theorem clear_nil (w : World) (i : Int) :
    Calls Try.prog 51 #[.pointer none, .int .i64 i] w fun e w' => e = .returned (.tuple #[.agg #[.int .i64 0, .bool false, .bool false, .bool false, .bool false], .bool false]) ∧ Below w.heap.size w w' := clear_non w _ i (Lib.hid fun w' _ => get_nil w' i)
theorem clear_none (w : World) (p : Nat) (T : Nat → Option En) (hM : Mem w p T) (i : Int) (h : atI T i = none) :
    Calls Try.prog 51 #[.pointer (some ⟨p, 0, none⟩), .int .i64 i] w fun e w' => e = .returned (.tuple #[.agg #[.int .i64 0, .bool false, .bool false, .bool false, .bool false], .bool false]) ∧ Below w.heap.size w w' :=
  clear_non w _ i (Lib.hid fun w' hb => by
    have := get_any w' p T (hM.below hb) i
    rw [h] at this
    exact this)
set_option maxHeartbeats 1000000 in
theorem clear_some (w : World) (p : Nat) (T : Nat → Option En) (hM : Mem w p T) (k : Nat) (hk : k < 64) (x : En) (hx : T k = some x) :
    Calls Try.prog 51 #[.pointer (some ⟨p, 0, none⟩), .int .i64 (k : Int)] w fun e w' => e = .returned (.tuple #[ev x, .bool true]) ∧ Kp (fun j => j = p) w w' ∧ Mem w' p (up T k none) := by
  have hb0 : Below w.heap.size w (w.alloc (.cells #[.int .i64 0, .bool false, .bool false, .bool false, .bool false] 47)) := (Below.refl _ _).alloc (Nat.le_refl _) _
  have hM0 := hM.below hb0
  have hplt := hM.lt
  have hg := get_in _ p T hM0 k hk
  rw [hx] at hg
  have HG := Lib.hid hg
  have HS := Lib.hid (fun w => slot_in w p k hk)
  have HX : Hid (∀ w1, Below (w.alloc (.cells #[.int .i64 0, .bool false, .bool false, .bool false, .bool false] 47)).heap.size (w.alloc (.cells #[.int .i64 0, .bool false, .bool false, .bool false, .bool false] 47)) w1 → ∃ W2, (stS (.pointer (some ⟨p, k * 6, none⟩)) (.agg #[.bool false, .int .i64 0, .bool false, .bool false, .bool false, .bool false])).run Try.prog (w1.alloc (.cells #[.int .i64 x.f, .bool x.w, .bool x.s, .bool x.c, .bool x.d] 47)) = .ok () W2 ∧ Kp (fun j => j = p) w W2 ∧ Mem W2 p (up T k none) ∧ Blk W2 w.heap.size #[.int .i64 0, .bool false, .bool false, .bool false, .bool false] 47 ∧ Blk W2 w1.heap.size #[.int .i64 x.f, .bool x.w, .bool x.s, .bool x.c, .bool x.d] 47) := Lib.hid (fun w1 h => by
    have hb1 : Below w1.heap.size w1 (w1.alloc (.cells #[.int .i64 x.f, .bool x.w, .bool x.s, .bool x.c, .bool x.d] 47)) := (Below.refl _ _).alloc (Nat.le_refl _) _
    have hM2 := (hM0.below h).below hb1
    have hsz := h.size
    simp only [World.size_alloc] at hsz
    have hkp := Mem.kps hM2 k none
    refine ⟨_, Mem.run hM2 k hk none, ?_, Mem.put hM2 k hk none, (((Blk.new w _ _).below h).below hb1).kept hkp (by omega), (Blk.new w1 _ _).kept hkp (by omega)⟩
    exact (Kp.of_below ((hb0.trans (h.mono (by simp))).trans (hb1.mono (by omega)))).trans hkp (fun j e => .inl e))
  clear hM hM0 hg hx
  go_enter Try.func51, Try.ntmps51
  go_wp2_with (first | (go_at_call 48; (with_reducible refine (HS.out _).mono ?_); rintro e w1 ⟨rfl, rfl⟩) | (go_at_call 28; (with_reducible refine HG.out.mono ?_); rintro e w1 ⟨rfl, hb⟩; obtain ⟨W2, hst, hkp, hpu, hA, hC⟩ := HX.out w1 hb; have c0 := hC.cell 0; have c1 := hC.cell 1; have c2 := hC.cell 2; have c3 := hC.cell 3; have c4 := hC.cell 4; have a0 := hA.cell 0; have a1 := hA.cell 1; have a2 := hA.cell 2; have a3 := hA.cell 3; have a4 := hA.cell 4; have f0 := hA.free 0; have f1 := hA.free 1; have f2 := hA.free 2; have f3 := hA.free 3; have f4 := hA.free 4; replace hkp := Lib.hid hkp; replace hpu := Lib.hid hpu; replace hA := Lib.hid hA; clear hC; replace hb := Lib.hid hb))
  have hF := set5 hA.out (.int .i64 x.f) (.bool x.w) (.bool x.s) (.bool x.c) (.bool x.d)
  have g0 := hF.cell 0
  have g1 := hF.cell 1
  have g2 := hF.cell 2
  have g3 := hF.cell 3
  have g4 := hF.cell 4
  exact bodyPost_ret (v := .tuple #[ev x, .bool true]) (by simp [results, Try.results51, go_sem, g0, g1, g2, g3, g4]) rfl ⟨rfl, hkp.out.trans (set5_kp _ _ _ _ _ _ _) (fun j e => .inr (by omega)), hpu.out.kept (set5_kp _ _ _ _ _ _ _) (by omega)⟩
theorem clear_any (w : World) (p : Nat) (T : Nat → Option En) (hM : Mem w p T) (i : Int) :
    Calls Try.prog 51 #[.pointer (some ⟨p, 0, none⟩), .int .i64 i] w fun e w' => e = .returned (.tuple #[ev ((atI T i).getD z0), .bool (atI T i).isSome]) ∧ Kp (fun j => j = p) w w' ∧ Mem w' p (putI T i none) := by
  cases h : atI T i with
  | none =>
    rw [putI_none h]
    exact (clear_none w p T hM i h).mono fun e w' ⟨h1, h2⟩ => ⟨h1, .of_below h2, hM.below h2⟩
  | some x =>
    by_cases hi : 0 ≤ i ∧ i < 64
    · obtain ⟨k, rfl⟩ := Int.eq_ofNat_of_zero_le hi.1
      rw [atI_nat (by omega)] at h
      unfold putI
      rw [if_pos hi]
      exact clear_some w p T hM k (by omega) x h
    · rw [atI_out hi] at h
      cases h

/-- A table without entries, as a value. -/
def zT : Array Value := madeCells (sc none) 384
theorem infoT : (Try.prog.info? 95).map (fun i => (i.zero, i.size, i.bytes)) = some (some (.agg zT), 384, 1536) := by kernel_rfl
theorem run_zeroT (w : World) : (zeroValue 95).run Try.prog w = .ok (.agg zT) w := by
  obtain ⟨i, hi, hz, _⟩ := info_parts infoT
  simp [zeroValue, typeInfo, hi, hz]
theorem zT_size : zT.size = 384 := size_madeCells _ _
theorem zT_slot (k : Nat) (hk : k < 64) : Slot zT (k * 6) none := by
  have h : ∀ r, r < 6 → zT[k * 6 + r]? = (sc none)[r]? := fun r hr => by
    have hs : k * 6 + r < 384 := by omega
    have hmod : (k * 6 + r) % 6 = r := by omega
    unfold zT
    simp only [madeCells, Array.getElem?_map, Array.getElem?_range, hs, if_true, Option.map_some]
    rw [show (sc none).size = 6 from rfl, hmod, getElem!_def]
    have : r < (sc none).size := hr
    rw [Array.getElem?_eq_getElem this]
  exact ⟨h 0 (by omega), h 1 (by omega), h 2 (by omega), h 3 (by omega), h 4 (by omega), h 5 (by omega)⟩
theorem Mem.zero (w : World) : Mem (w.alloc (.cells zT 95)) w.heap.size (fun _ => none) := ⟨⟨zT, Blk.new _ _ _, zT_size, zT_slot⟩, fun _ _ => rfl⟩

def ldT (p : Value) : Sem Value := Instr.loadAt 95 p
theorem ldt_wrap (p : Value) : Instr.loadAt 95 p = ldT p := rfl
def stT (p v : Value) : Sem Unit := Instr.storeAt 95 p v
theorem stt_wrap (p v : Value) : Instr.storeAt 95 p v = stT p v := rfl
attribute [local go_sem ↓] ldt_wrap stt_wrap
theorem slots_one {cs : Array Value} (hs : cs.size = 384) {T : Nat → Option En} (h : ∀ k, k < 64 → Slot cs (k * 6) (T k)) : cs.all (·.oneCell') = true := by
  rw [Array.all_eq_true]
  intro j hj
  have hk : j / 6 < 64 := by omega
  obtain ⟨e0, e1, e2, e3, e4, e5⟩ := h (j / 6) hk
  have hc : j = j / 6 * 6 ∨ j = j / 6 * 6 + 1 ∨ j = j / 6 * 6 + 1 + 1 ∨ j = j / 6 * 6 + 1 + 2 ∨ j = j / 6 * 6 + 1 + 3 ∨ j = j / 6 * 6 + 1 + 4 := by omega
  have hg : ∀ v, cs[j]? = some v → cs[j] = v := fun v hv => by
    rw [Array.getElem?_eq_getElem hj] at hv
    exact Option.some.inj hv
  rcases hc with h | h | h | h | h | h
  · rw [hg _ (by rw [h]; exact e0)]; rfl
  · rw [hg _ (by rw [h]; exact e1)]; rfl
  · rw [hg _ (by rw [h]; exact e2)]; rfl
  · rw [hg _ (by rw [h]; exact e3)]; rfl
  · rw [hg _ (by rw [h]; exact e4)]; rfl
  · rw [hg _ (by rw [h]; exact e5)]; rfl
theorem Blk.setAll {w : World} {b : Nat} {T : TypeId} {cs ds : Array Value} (h : Blk w b cs T) (hs : ds.size = cs.size) : Blk (w.setCells b 0 ds.toList) b ds T := by
  obtain ⟨es, h1, h2, h3, h4⟩ := h.sets ds.toList 0
  have : es = ds := by
    apply Array.ext_getElem?
    intro j
    by_cases hj : j < ds.size
    · have := h4 j (by simpa using hj) (by omega)
      rw [Nat.zero_add] at this
      rw [this, Array.getElem?_toList]
    · rw [Array.getElem?_eq_none (by omega), Array.getElem?_eq_none (by omega)]
  rw [← this]
  exact this ▸ h1
theorem copy_nil (w : World) :
    Calls Try.prog 43 #[.pointer none] w fun e w' => e = .returned (.pointer none) ∧ w = w' := by
  go_enter Try.func43, Try.ntmps43
  go_wp2
  go_ret
  exact ⟨rfl, rfl⟩
theorem copy_any (w : World) (p : Nat) (T : Nat → Option En) (hM : Mem w p T) :
    Calls Try.prog 43 #[.pointer (some ⟨p, 0, none⟩)] w fun e w' => e = .returned (.pointer (some ⟨w.heap.size, 0, none⟩)) ∧ Below w.heap.size w w' ∧ Mem w' w.heap.size T := by
  obtain ⟨⟨cs, h1, h2, h3⟩, h4⟩ := hM
  have hone := slots_one h2 h3
  have hld : (ldT (.pointer (some ⟨p, 0, none⟩))).run Try.prog w = .ok (.agg cs) w := by
    have := run_loadAt_mid (P := Try.prog) w p 0 95 cs.toList _ (fun j v hj => by
      rw [Nat.zero_add, h1.cell, ← hj, Array.getElem?_toList]) Try.underlying95 rfl (by
      obtain ⟨i, hi, _, hz, _⟩ := info_parts infoT
      rw [hi, Option.map_some, hz, Array.length_toList, h2])
    rw [Array.toArray_toList] at this
    exact this
  have hst : (stT (.pointer (some ⟨w.heap.size, 0, none⟩)) (.agg cs)).run Try.prog (w.alloc (.cells zT 95)) = .ok () ((w.alloc (.cells zT 95)).setCells w.heap.size 0 cs.toList) := by
    unfold stT
    refine run_storeAt_mid _ _ 0 _ cs ((Blk.new w zT 95).there _ _ (by rw [zT_size]; omega)) ?_ hone
    obtain ⟨i, hi, _, hz, _⟩ := info_parts infoT
    rw [hi, Option.map_some, hz, h2]
  have hB : Below w.heap.size w ((w.alloc (.cells zT 95)).setCells w.heap.size 0 cs.toList) := ((Below.refl _ _).alloc (Nat.le_refl _) _).trans ((Kp.sets (S := fun j => j = w.heap.size) w.heap.size rfl cs.toList 0 _).below (by simp) (fun j e => by omega))
  have hMm : Mem ((w.alloc (.cells zT 95)).setCells w.heap.size 0 cs.toList) w.heap.size T := ⟨⟨cs, Blk.setAll (Blk.new w zT 95) (by rw [h2, zT_size]), h2, h3⟩, h4⟩
  have hz := run_zeroT
  generalize (w.alloc (.cells zT 95)).setCells w.heap.size 0 cs.toList = W2 at *
  generalize zT = Z at *
  have HB := Lib.hid hB
  have HM := Lib.hid hMm
  clear h1 h2 h3 h4 hone hB hMm
  go_enter Try.func43, Try.ntmps43
  go_wp2
  go_ret
  exact ⟨rfl, HB.out, HM.out⟩
end Go.Proofs.Ytclpokkjbkbkgaa.Tc
