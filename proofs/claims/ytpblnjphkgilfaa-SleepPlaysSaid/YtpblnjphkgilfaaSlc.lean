/-
  asleep, Left, Drop, Add, Copy.
-/
import Derived.Test.YtpblnjphkgilfaaSlb
import Derived.Test.YtpblnjphkgilfaaShelfS
namespace Go.Proofs.Ytpblnjphkgilfaa.Slc
open Go Go.RowKit Go.Shelf Kit Bk Sla Slb
set_option linter.unusedVariables false

abbrev pv (q : Nat) : Value := .pointer (some ⟨q, 0, none⟩)
abbrev uv (m : Nat) : Value := .int .u32 (m : Int)
theorem run_eql_map (p : Option Nat) (w : World) : (binOp .eql 24 (.map p) (.map none)).run Try.prog w = .ok (.bool p.isNone) w := run_eql_map_nil_sl w 24 _ _ p Try.underlying24

theorem asleep_nil (w : World) : Calls Try.prog 25 #[.pointer none] w fun e w' => e = .returned (.map none) ∧ w = w' := by
  go_enter Try.func25, Try.ntmps25
  go_wp2
  go_ret
  exact ⟨rfl, rfl⟩
theorem asleep_any (w : World) (q : Nat) (m : Option Nat) (h : w.cell? ⟨q, 0, none⟩ = some (.map m)) : Calls Try.prog 25 #[pv q] w fun e w' => e = .returned (.map m) ∧ w = w' := by
  go_enter Try.func25, Try.ntmps25
  go_wp2
  go_ret
  exact ⟨rfl, rfl⟩
theorem Sv.cell {w : World} {q : Nat} {m : Option Nat} {L : St} (h : Sv w q m L) : w.cell? ⟨q, 0, none⟩ = some (.map m) := h.blk.cell 0
theorem left_nil (w : World) (p : Int) (hp : (Lit.int .i64 p).wf = true) : Calls Try.prog 16 #[.pointer none, .int .i64 p] w fun e w' => e = .returned (.tuple #[.int .u32 0, .bool false]) ∧ w = w' := by
  have HA := Lib.hid (asleep_nil w)
  have hl := look_none w hp
  go_enter Try.func16, Try.ntmps16
  go_wp2_with (go_at_call 25; (with_reducible refine HA.out.mono ?_); rintro e w1 ⟨rfl, rfl⟩)
  go_ret2
  exact ⟨rfl, rfl⟩
theorem left_any {w : World} {q : Nat} {m : Option Nat} {L : St} (h : Sv w q m L) (p : Int) (hp : (Lit.int .i64 p).wf = true) : Calls Try.prog 16 #[pv q, .int .i64 p] w fun e w' => e = .returned (.tuple #[uv (lft L p), .bool (slp L p)]) ∧ w = w' := by
  have HA := Lib.hid (asleep_any w q m (Sv.cell h))
  have hl := h.map.look hp
  generalize lft L p = n at *
  generalize slp L p = b at *
  clear h
  go_enter Try.func16, Try.ntmps16
  go_wp2_with (go_at_call 25; (with_reducible refine HA.out.mono ?_); rintro e w1 ⟨rfl, rfl⟩)
  go_ret2
  exact ⟨rfl, rfl⟩
theorem drop_nil (w : World) (p : Int) (hp : (Lit.int .i64 p).wf = true) : Calls Try.prog 13 #[.pointer none, .int .i64 p] w fun e w' => e = .returned (.tuple #[.int .u32 0, .bool false]) ∧ w = w' := by
  have HA := Lib.hid (asleep_nil w)
  have HL := Lib.hid (left_nil w p hp)
  have hl := fun ty => del_none w hp ty
  go_enter Try.func13, Try.ntmps13
  go_wp2_with (first | (go_at_call 25; (with_reducible refine HA.out.mono ?_); rintro e w1 ⟨rfl, rfl⟩) | (go_at_call 16; (with_reducible refine HL.out.mono ?_); rintro e w1 ⟨rfl, rfl⟩))
  go_ret2
  exact ⟨rfl, rfl⟩
/-- Some run of a delete. -/
theorem Ml.del {w : World} {m : Option Nat} {L : St} (h : Ml w m L) (ho : Ok L) (p : Int) (hp : (Lit.int .i64 p).wf = true) (ty : TypeId) :
    ∃ w', (Builtin.delete_ #[24, 3] ty #[.map m, .int .i64 p]).run Try.prog w = .ok (.tuple #[]) w' ∧ Ml w' m (drL L p) ∧ Kp (fun j => some j = m) w w' := by
  cases m with
  | none => cases h; exact ⟨w, del_none w hp ty, rfl, Kp.refl _ _⟩
  | some b =>
    obtain ⟨w', h1, h2, h3⟩ := Mp.del h hp (ho.drL p).nodup (slp_drL L p) (lft_drL L p) ty
    exact ⟨w', h1, h2, h3.mono (fun j _ e => by rw [e])⟩
theorem drop_any {w : World} {q : Nat} {m : Option Nat} {L : St} (h : Sv w q m L) (ho : Ok L) (p : Int) (hp : (Lit.int .i64 p).wf = true) : Calls Try.prog 13 #[pv q, .int .i64 p] w fun e w' => e = .returned (.tuple #[uv (lft L p), .bool (slp L p)]) ∧ Sv w' q m (drL L p) ∧ Kp (fr q m) w w' := by
  have HA := Lib.hid (asleep_any w q m (Sv.cell h))
  have HL := Lib.hid (left_any h p hp)
  obtain ⟨w2, d1, d2, d3⟩ := Ml.del h.map ho p hp 0
  have HE : Hid (Sv w2 q m (drL L p) ∧ Kp (fr q m) w w2) := Lib.hid ⟨⟨h.blk.kept d3 (fun e => by subst e; exact Mp.ne (show Mp w q L from h.map) h.blk rfl), d2⟩, d3.mono (fun j _ e => .inr e)⟩
  clear d2 d3
  generalize drL L p = M at *
  generalize lft L p = n at *
  generalize slp L p = b at *
  clear h ho
  go_enter Try.func13, Try.ntmps13
  go_wp2_with (first | (go_at_call 25; (with_reducible refine HA.out.mono ?_); rintro e w1 ⟨rfl, rfl⟩) | (go_at_call 16; (with_reducible refine HL.out.mono ?_); rintro e w1 ⟨rfl, rfl⟩))
  go_ret2
  exact ⟨rfl, HE.out⟩

theorem add_nil (w : World) (p : Int) (n : Nat) (hp : (Lit.int .i64 p).wf = true) : Calls Try.prog 8 #[.pointer none, .int .i64 p, uv n] w fun e w' => e = .returned (.int .i64 1) ∧ w = w' := by
  have HL := Lib.hid (left_nil w p hp)
  go_enter Try.func8, Try.ntmps8
  go_wp2_with (go_at_call 16; (with_reducible refine HL.out.mono ?_); rintro e w1 ⟨rfl, rfl⟩)
  go_ret
  exact ⟨rfl, rfl⟩
theorem add_pid {w : World} {q : Nat} {m : Option Nat} {L : St} (h : Sv w q m L) (p : Int) (n : Nat) (hp : (Lit.int .i64 p).wf = true) (h1 : p < 1) : Calls Try.prog 8 #[pv q, .int .i64 p, uv n] w fun e w' => e = .returned (.int .i64 2) ∧ w = w' := by
  have HL := Lib.hid (left_any h p hp)
  have d1 : decide (p < 1) = true := decide_eq_true h1
  clear h h1
  go_enter Try.func8, Try.ntmps8
  go_wp2_with (go_at_call 16; (with_reducible refine HL.out.mono ?_); rintro e w1 ⟨rfl, rfl⟩)
  go_ret
  exact ⟨rfl, rfl⟩
theorem add_none {w : World} {q : Nat} {m : Option Nat} {L : St} (h : Sv w q m L) (p : Int) (hp : (Lit.int .i64 p).wf = true) (h1 : 1 ≤ p) : Calls Try.prog 8 #[pv q, .int .i64 p, .int .u32 0] w fun e w' => e = .returned (.int .i64 2) ∧ w = w' := by
  have HL := Lib.hid (left_any h p hp)
  have d1 : decide (p < 1) = false := decide_eq_false (by omega)
  clear h h1
  go_enter Try.func8, Try.ntmps8
  go_wp2_with (go_at_call 16; (with_reducible refine HL.out.mono ?_); rintro e w1 ⟨rfl, rfl⟩)
  go_ret
  exact ⟨rfl, rfl⟩
theorem add_there {w : World} {q : Nat} {m : Option Nat} {L : St} (h : Sv w q m L) (p : Int) (n : Nat) (hp : (Lit.int .i64 p).wf = true) (h1 : 1 ≤ p) (h2 : 1 ≤ n) (h3 : slp L p = true) : Calls Try.prog 8 #[pv q, .int .i64 p, uv n] w fun e w' => e = .returned (.int .i64 140) ∧ w = w' := by
  have HL := left_any h p hp
  rw [h3] at HL
  replace HL := Lib.hid HL
  have d1 : decide (p < 1) = false := decide_eq_false (by omega)
  have d2 : decide ((n : Int) < 1) = false := decide_eq_false (by omega)
  have d3 : decide (n < 1) = false := decide_eq_false (by omega)
  have d4 : (n == 0) = false := beq_eq_false_iff_ne.2 (by omega)
  clear h h1 h2 h3
  go_enter Try.func8, Try.ntmps8
  go_wp2_with (go_at_call 16; (with_reducible refine HL.out.mono ?_); rintro e w1 ⟨rfl, rfl⟩)
  go_ret
  exact ⟨rfl, rfl⟩
theorem Mp.ins {w : World} {b : Nat} {L : St} (h : Mp w b L) (ho : Ok L) (hl : L.length < 90000) (p : Int) (n : Nat) (hp : (Lit.int .i64 p).wf = true) (h1 : 1 ≤ p) (h2 : 1 ≤ n) (h3 : n < 4294967296) :
    ∃ w', (Instr.mapUpdate 24 (.map (some b)) (.int .i64 p) (uv n)).run Try.prog w = .ok () w' ∧ Mp w' b (ins L p n) ∧ Kp (fun j => j = b) w w' :=
  Mp.put h hl hp h3 (ho.ins ⟨h1, by have := i64_bd hp; omega⟩ ⟨h2, h3⟩).nodup (slp_ins L p n) (lft_ins L p n)
theorem add_some {w : World} {q b : Nat} {L : St} (h : Sv w q (some b) L) (ho : Ok L) (hl : L.length < 90000) (p : Int) (n : Nat) (hp : (Lit.int .i64 p).wf = true) (h1 : 1 ≤ p) (h2 : 1 ≤ n) (h3 : n < 4294967296) (h4 : slp L p = false) :
    Calls Try.prog 8 #[pv q, .int .i64 p, uv n] w fun e w' => e = .returned (.int .i64 0) ∧ Sv w' q (some b) (ins L p n) ∧ Kp (fr q (some b)) w w' := by
  have HL := left_any h p hp
  rw [h4] at HL
  replace HL := Lib.hid HL
  obtain ⟨w2, q1, q2, q3⟩ := Mp.ins (show Mp w b L from h.map) ho hl p n hp h1 h2 h3
  have HE : Hid (Sv w2 q (some b) (ins L p n) ∧ Kp (fr q (some b)) w w2) := Lib.hid ⟨⟨h.blk.kept q3 (Mp.ne (show Mp w b L from h.map) h.blk), q2⟩, q3.mono (fun j _ e => .inr (by rw [e]))⟩
  have hc := Sv.cell h
  have hn := fun w => run_eql_map (some b) w
  have d1 : decide (p < 1) = false := decide_eq_false (by omega)
  have d2 : decide ((n : Int) < 1) = false := decide_eq_false (by omega)
  have d3 : decide (n < 1) = false := decide_eq_false (by omega)
  have d4 : (n == 0) = false := beq_eq_false_iff_ne.2 (by omega)
  clear q2 q3 h ho h1 h2 h4 hl
  generalize ins L p n = M at *
  go_enter Try.func8, Try.ntmps8
  go_wp2_with (go_at_call 16; (with_reducible refine HL.out.mono ?_); rintro e w1 ⟨rfl, rfl⟩)
  go_ret
  exact ⟨rfl, HE.out⟩
theorem add_first {w : World} {q : Nat} {L : St} (h : Sv w q none L) (p : Int) (n : Nat) (hp : (Lit.int .i64 p).wf = true) (h1 : 1 ≤ p) (h2 : 1 ≤ n) (h3 : n < 4294967296) :
    Calls Try.prog 8 #[pv q, .int .i64 p, uv n] w fun e w' => e = .returned (.int .i64 0) ∧ Sv w' q (some w.heap.size) (ins L p n) ∧ Kp (fr q none) w w' := by
  have HL := left_any h p hp
  obtain rfl : L = [] := h.map
  replace HL := Lib.hid HL
  have hc := Sv.cell h
  have hq := h.blk.lt
  have hsz : (w.setCell ⟨q, 0, none⟩ (.map (some w.heap.size))).heap.size = w.heap.size := by simp [World.setCell]
  have k0 : Kp (fr q none) w (w.setCell ⟨q, 0, none⟩ (.map (some w.heap.size))) := Kp.set _ _ _ _ (.inl rfl)
  have b1 : Blk (w.setCell ⟨q, 0, none⟩ (.map (some w.heap.size))) q #[.map (some w.heap.size)] 26 := h.blk.set 0 _
  have b2 : Blk ((w.setCell ⟨q, 0, none⟩ (.map (some w.heap.size))).alloc (.map #[] 0)) q #[.map (some w.heap.size)] 26 := b1.below ((Below.refl _ _).alloc (Nat.le_refl _) _)
  have k1 : Kp (fr q none) (w.setCell ⟨q, 0, none⟩ (.map (some w.heap.size))) ((w.setCell ⟨q, 0, none⟩ (.map (some w.heap.size))).alloc (.map #[] 0)) := Kp.alloc _ _ _
  have m1 := Mp.made (w.setCell ⟨q, 0, none⟩ (.map (some w.heap.size)))
  rw [hsz] at m1
  obtain ⟨w2, q1, q2, q3⟩ := Mp.ins m1 ok_nil (by decide) p n hp h1 h2 h3
  have HE : Hid (Sv w2 q (some w.heap.size) (ins [] p n) ∧ Kp (fr q none) w w2) := Lib.hid ⟨⟨b2.kept q3 (by omega), q2⟩, (k0.trans k1 (fun _ e => .inl e)).trans q3 (fun j e => .inr (by omega))⟩
  have hf0 := h.blk.free 0
  have hc2 := b2.cell 0
  simp only [List.getElem?_toArray, List.getElem?_cons_zero] at hc2
  have hn := fun w => run_eql_map none w
  have hmk := run_makeMap (P := Try.prog) 24 w
  have d1 : decide (p < 1) = false := decide_eq_false (by omega)
  have d2 : decide ((n : Int) < 1) = false := decide_eq_false (by omega)
  have d3 : decide (n < 1) = false := decide_eq_false (by omega)
  have d4 : (n == 0) = false := beq_eq_false_iff_ne.2 (by omega)
  clear q2 q3 h h1 h2 m1 k0 k1 b1 b2 hsz
  generalize ins [] p n = M at *
  go_enter Try.func8, Try.ntmps8
  go_wp2_with (go_at_call 16; (with_reducible refine HL.out.mono ?_); rintro e w1 ⟨rfl, rfl⟩)
  go_ret
  exact ⟨rfl, HE.out⟩
theorem adE_pid {L : St} {p : Int} {n : Nat} (h : p < 1 ∨ n < 1) : adE L p n = 2 ∧ adL L p n = L := ⟨if_pos h, if_pos h⟩
theorem adE_in {L : St} {p : Int} {n : Nat} (h : ¬ (p < 1 ∨ n < 1)) (h2 : slp L p = true) : adE L p n = 140 ∧ adL L p n = L := ⟨(if_neg h).trans (if_pos h2), (if_neg h).trans (if_pos h2)⟩
theorem adE_new {L : St} {p : Int} {n : Nat} (h : ¬ (p < 1 ∨ n < 1)) (h2 : slp L p = false) : adE L p n = 0 ∧ adL L p n = ins L p n := ⟨(if_neg h).trans (if_neg (by rw [h2]; decide)), (if_neg h).trans (if_neg (by rw [h2]; decide))⟩
/-- Add. -/
theorem add_any {w : World} {q : Nat} {m : Option Nat} {L : St} (h : Sv w q m L) (ho : Ok L) (hl : L.length < 90000) (p : Int) (n : Nat) (hp : (Lit.int .i64 p).wf = true) (h3 : n < 4294967296) :
    Calls Try.prog 8 #[pv q, .int .i64 p, uv n] w fun e w' => e = .returned (.int .i64 ((adE L p n : Nat) : Int)) ∧ ∃ m', Sv w' q m' (adL L p n) ∧ Kp (fr q m) w w' ∧ (m' = m ∨ ∃ b, m' = some b ∧ w.heap.size ≤ b) := by
  by_cases h1 : p < 1 ∨ n < 1
  · rw [(adE_pid h1).1, (adE_pid h1).2]
    have hend : Calls Try.prog 8 #[pv q, .int .i64 p, uv n] w fun e w' => e = .returned (.int .i64 2) ∧ w = w' := by
      by_cases h2 : p < 1
      · exact add_pid h p n hp h2
      · obtain rfl : n = 0 := by omega
        exact add_none h p hp (by omega)
    refine hend.mono ?_
    rintro e w' ⟨rfl, rfl⟩
    exact ⟨rfl, m, h, Kp.refl _ _, .inl rfl⟩
  · cases h2 : slp L p
    · rw [(adE_new h1 h2).1, (adE_new h1 h2).2]
      cases m with
      | none =>
        refine (add_first h p n hp (by omega) (by omega) h3).mono ?_
        rintro e w' ⟨rfl, h4, h5⟩
        exact ⟨rfl, _, h4, h5, .inr ⟨_, rfl, Nat.le_refl _⟩⟩
      | some b =>
        refine (add_some h ho hl p n hp (by omega) (by omega) h3 h2).mono ?_
        rintro e w' ⟨rfl, h4, h5⟩
        exact ⟨rfl, _, h4, h5, .inl rfl⟩
    · rw [(adE_in h1 h2).1, (adE_in h1 h2).2]
      refine (add_there h p n hp (by omega) (by omega) h2).mono ?_
      rintro e w' ⟨rfl, rfl⟩
      exact ⟨rfl, m, h, Kp.refl _ _, .inl rfl⟩

theorem clone_any {w : World} {m : Option Nat} {L : St} (h : Ml w m L) : Calls Try.prog 26 #[.map m] w fun e w' => ∃ m', e = .returned (.map m') ∧ Ml w' m' L ∧ Below w.heap.size w w' ∧ ∀ b, m' = some b → w.heap.size ≤ b := by
  cases m with
  | none =>
    cases h
    refine (Shl.clone_nil w).mono ?_
    rintro e w' ⟨rfl, rfl⟩
    exact ⟨none, rfl, rfl, Below.refl _ _, fun b e => by cases e⟩
  | some b =>
    obtain ⟨D, h1, h2⟩ := show Mp w b L from h
    refine (Shl.clone_owns _ _ _ _ _ w h1).mono ?_
    rintro e w' ⟨rfl, h3, h4, h5⟩
    exact ⟨some w.heap.size, rfl, ⟨D, h3, h2⟩, h5, fun b e => by cases e; exact Nat.le_refl _⟩
theorem copy_nil (w : World) : Calls Try.prog 15 #[.pointer none] w fun e w' => e = .returned (.pointer none) ∧ w = w' := by
  go_enter Try.func15, Try.ntmps15
  go_wp2
  go_ret
  exact ⟨rfl, rfl⟩
theorem copy_any {w : World} {q : Nat} {m : Option Nat} {L : St} (h : Sv w q m L) : Calls Try.prog 15 #[pv q] w fun e w' => ∃ q' m', e = .returned (pv q') ∧ Sv w' q' m' L ∧ Below w.heap.size w w' ∧ w.heap.size ≤ q' ∧ ∀ b, m' = some b → w.heap.size ≤ b := by
  have HC := Lib.hid (clone_any h.map)
  have hc := Sv.cell h
  clear h
  go_enter Try.func15, Try.ntmps15
  go_wp2_with (go_at_call 26; (with_reducible refine HC.out.mono ?_); rintro e w1 ⟨m', rfl, h1, h2, h3⟩; replace h1 := Lib.hid h1)
  go_ret
  refine ⟨_, m', rfl, ⟨Blk.new _ _ _, h1.out.kept (Kp.alloc (fun _ => False) _ _) (fun _ _ e => e)⟩, h2.alloc h2.size _, h2.size, h3⟩
end Go.Proofs.Ytpblnjphkgilfaa.Slc
