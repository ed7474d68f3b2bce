/-
  How a run begins: the argument Start, and what Cpu makes of it.
-/
import Derived.Test.YtgnpbedhpkmkfaaDoorZCx
import Derived.ProofKit
import Derived.OpenShut
import Derived.Deep.Slices
import Derived.Lib.SmallJoins
import Derived.Lib.LaidU8
import Derived.Deep.AppendSrc
import Derived.Deep.Upon
import Derived.DeepKeys
import Derived.Laws.Cover3
namespace Go.Proofs.YtgnpbedhpkmkfaaDoor.Sta
open Go Go.RowKit Kit Fl Bk CoM CoR CoC
open Go.ChangeShapes Go.WideShapes
set_option linter.unusedVariables false

structure Sta where
  r : Nat → Int
  a : Int
  b : Int
  c : Int
  d : Int
  pc : Int
def svs (x : Sta) : List Value := [uv (x.r 0), uv (x.r 1), uv (x.r 2), uv (x.r 3), uv (x.r 4), uv (x.r 5), uv (x.r 6), uv (x.r 7), .int .i32 x.a, .int .i32 x.b, .int .i32 x.c, .int .i32 x.d, uv x.pc]
abbrev sv (x : Sta) : Value := .agg (svs x).toArray
structure Sta.Ok (x : Sta) : Prop where
  r0 : ∀ j, 0 ≤ x.r j
  r1 : ∀ j, x.r j < 4294967296
  p0 : 0 ≤ x.pc
  p1 : x.pc < 4294967296
  a0 : -2147483648 ≤ x.a ∧ x.a ≤ 2147483647
  b0 : -2147483648 ≤ x.b ∧ x.b ≤ 2147483647
  c0 : -2147483648 ≤ x.c ∧ x.c ≤ 2147483647
  d0 : -2147483648 ≤ x.d ∧ x.d ≤ 2147483647
section
variable {H : Type} {enc : TypeId × Value → H} {W : World}
theorem u32_read {fuel : Nat} {c : Value} {y : DataW H × List MemPlace} (h : DataW.trod enc Tryd.prog W 0 (fun _ => true) true fuel 22 [c] = some y) : ∃ n : Int, c = .int .u32 n ∧ 0 ≤ n ∧ n < 4294967296 := by
  obtain ⟨a, e0, _, wa⟩ := DataW.trod_int Tryd.underlying22 h
  injection e0 with e0 _
  obtain ⟨m, rfl, hm⟩ := u32_nat wa
  exact ⟨_, e0, by omega, by omega⟩
theorem i32_read {fuel : Nat} {c : Value} {y : DataW H × List MemPlace} (h : DataW.trod enc Tryd.prog W 0 (fun _ => true) true fuel 21 [c] = some y) : ∃ n : Int, c = .int .i32 n ∧ -2147483648 ≤ n ∧ n ≤ 2147483647 := by
  obtain ⟨a, e0, _, wa⟩ := DataW.trod_int Tryd.underlying21 h
  injection e0 with e0 _
  have : -2147483648 ≤ a ∧ a ≤ 2147483647 := by simpa [Lit.wf, IntKind.min, IntKind.max, IntKind.signed, IntKind.bits] using wa
  exact ⟨_, e0, this.1, this.2⟩
theorem list13 {α : Type} {cs : List α} (h : cs.length = 13) : ∃ c0 c1 c2 c3 c4 c5 c6 c7 c8 c9 c10 c11 c12, cs = [c0, c1, c2, c3, c4, c5, c6, c7, c8, c9, c10, c11, c12] := by
  match cs, h with
  | [c0, c1, c2, c3, c4, c5, c6, c7, c8, c9, c10, c11, c12], _ => exact ⟨c0, c1, c2, c3, c4, c5, c6, c7, c8, c9, c10, c11, c12, rfl⟩
theorem cellsSt : Tryd.prog.cellsOf 25 = 13 := by kernel_rfl
theorem cellsR : Tryd.prog.cellsOf 23 = 8 := by kernel_rfl
theorem cu : Tryd.prog.cellsOf 22 = 1 := by kernel_rfl
theorem ci : Tryd.prog.cellsOf 21 = 1 := by kernel_rfl
theorem lst_bd (l : List Int) (h : ∀ v ∈ l, 0 ≤ v ∧ v < 4294967296) (j : Nat) : 0 ≤ l[j]?.getD 0 ∧ l[j]?.getD 0 < 4294967296 := by
  cases hj : l[j]? with
  | none => exact ⟨by decide, by decide⟩
  | some v => exact h v (List.mem_of_getElem? hj)
theorem start_read {fuel : Nat} {cs : List Value} {y : DataW H × List MemPlace} (h : DataW.trod enc Tryd.prog W 0 (fun _ => true) true fuel 25 cs = some y) : ∃ x : Sta, cs = svs x ∧ x.Ok := by
  obtain ⟨xs, n, _, _, hl, hlen, hf⟩ := DataW.trod_struct Tryd.underlying25 h
  rw [cellsSt] at hl
  obtain ⟨c0, c1, c2, c3, c4, c5, c6, c7, c8, c9, c10, c11, c12, rfl⟩ := list13 hl
  have hx : ∀ i, i < 6 → ∃ y, xs[i]? = some y := fun i hi => ⟨_, List.getElem?_eq_getElem (by rw [hlen]; exact hi)⟩
  obtain ⟨y0, e0⟩ := hx 0 (by omega)
  obtain ⟨y1, e1⟩ := hx 1 (by omega)
  obtain ⟨y2, e2⟩ := hx 2 (by omega)
  obtain ⟨y3, e3⟩ := hx 3 (by omega)
  obtain ⟨y4, e4⟩ := hx 4 (by omega)
  obtain ⟨y5, e5⟩ := hx 5 (by omega)
  have f0 : DataW.trod enc Tryd.prog W 0 (fun _ => true) true n 23 ((([c0, c1, c2, c3, c4, c5, c6, c7, c8, c9, c10, c11, c12] : List Value).drop 0).take (Tryd.prog.cellsOf 23)) = some y0 := (hf 0 _ rfl).trans e0
  have f1 : DataW.trod enc Tryd.prog W 0 (fun _ => true) true n 21 ((([c0, c1, c2, c3, c4, c5, c6, c7, c8, c9, c10, c11, c12] : List Value).drop 8).take (Tryd.prog.cellsOf 21)) = some y1 := (hf 1 _ rfl).trans e1
  have f2 : DataW.trod enc Tryd.prog W 0 (fun _ => true) true n 21 ((([c0, c1, c2, c3, c4, c5, c6, c7, c8, c9, c10, c11, c12] : List Value).drop 9).take (Tryd.prog.cellsOf 21)) = some y2 := (hf 2 _ rfl).trans e2
  have f3 : DataW.trod enc Tryd.prog W 0 (fun _ => true) true n 21 ((([c0, c1, c2, c3, c4, c5, c6, c7, c8, c9, c10, c11, c12] : List Value).drop 10).take (Tryd.prog.cellsOf 21)) = some y3 := (hf 3 _ rfl).trans e3
  have f4 : DataW.trod enc Tryd.prog W 0 (fun _ => true) true n 21 ((([c0, c1, c2, c3, c4, c5, c6, c7, c8, c9, c10, c11, c12] : List Value).drop 11).take (Tryd.prog.cellsOf 21)) = some y4 := (hf 4 _ rfl).trans e4
  have f5 : DataW.trod enc Tryd.prog W 0 (fun _ => true) true n 22 ((([c0, c1, c2, c3, c4, c5, c6, c7, c8, c9, c10, c11, c12] : List Value).drop 12).take (Tryd.prog.cellsOf 22)) = some y5 := (hf 5 _ rfl).trans e5
  simp only [cu, ci, cellsR, List.drop_zero, List.drop_succ_cons, List.take_succ_cons, List.take_zero] at f0 f1 f2 f3 f4 f5
  obtain ⟨zs, m, _, _, _, hzl, hz⟩ := DataW.trod_array Tryd.underlying23 f0
  have hzx : ∀ i, i < 8 → ∃ y, zs[i]? = some y := fun i hi => ⟨_, List.getElem?_eq_getElem (by rw [hzl]; exact hi)⟩
  obtain ⟨q0, j0⟩ := hzx 0 (by omega)
  obtain ⟨q1, j1⟩ := hzx 1 (by omega)
  obtain ⟨q2, j2⟩ := hzx 2 (by omega)
  obtain ⟨q3, j3⟩ := hzx 3 (by omega)
  obtain ⟨q4, j4⟩ := hzx 4 (by omega)
  obtain ⟨q5, j5⟩ := hzx 5 (by omega)
  obtain ⟨q6, j6⟩ := hzx 6 (by omega)
  obtain ⟨q7, j7⟩ := hzx 7 (by omega)
  have g0 := (hz 0 (by omega)).trans j0
  have g1 := (hz 1 (by omega)).trans j1
  have g2 := (hz 2 (by omega)).trans j2
  have g3 := (hz 3 (by omega)).trans j3
  have g4 := (hz 4 (by omega)).trans j4
  have g5 := (hz 5 (by omega)).trans j5
  have g6 := (hz 6 (by omega)).trans j6
  have g7 := (hz 7 (by omega)).trans j7
  simp only [cu, Nat.mul_one, List.drop_zero, List.drop_succ_cons, List.take_succ_cons, List.take_zero] at g0 g1 g2 g3 g4 g5 g6 g7
  obtain ⟨a0, rfl, b0⟩ := u32_read g0
  obtain ⟨a1, rfl, b1⟩ := u32_read g1
  obtain ⟨a2, rfl, b2⟩ := u32_read g2
  obtain ⟨a3, rfl, b3⟩ := u32_read g3
  obtain ⟨a4, rfl, b4⟩ := u32_read g4
  obtain ⟨a5, rfl, b5⟩ := u32_read g5
  obtain ⟨a6, rfl, b6⟩ := u32_read g6
  obtain ⟨a7, rfl, b7⟩ := u32_read g7
  obtain ⟨p1, rfl, w1⟩ := i32_read f1
  obtain ⟨p2, rfl, w2⟩ := i32_read f2
  obtain ⟨p3, rfl, w3⟩ := i32_read f3
  obtain ⟨p4, rfl, w4⟩ := i32_read f4
  obtain ⟨p5, rfl, w5⟩ := u32_read f5
  have hb := lst_bd [a0, a1, a2, a3, a4, a5, a6, a7] (by
    intro v hv
    simp only [List.mem_cons, List.not_mem_nil, or_false] at hv
    rcases hv with rfl | rfl | rfl | rfl | rfl | rfl | rfl | rfl <;> assumption)
  exact ⟨⟨fun j => [a0, a1, a2, a3, a4, a5, a6, a7][j]?.getD 0, p1, p2, p3, p4, p5⟩, rfl, ⟨fun j => (hb j).1, fun j => (hb j).2, w5.1, w5.2, w1, w2, w3, w4⟩⟩
theorem start_arg {cs : Array Value} {d : DataW H} {p : List MemPlace} (h : DataW.Trod enc Tryd.prog W 0 (fun _ => true) true 25 (.agg cs) d p) : ∃ x : Sta, (.agg cs : Value) = sv x ∧ x.Ok := by
  obtain ⟨fuel, hf⟩ := h
  obtain ⟨x, hx, hk⟩ := start_read (cs := cs.toList) hf
  exact ⟨x, by unfold sv; rw [← hx], hk⟩
end

/-- The Cpu of a start. -/
def stOf (x : Sta) : St := ⟨x.r, fun j => if j = 0 then (floatOfInt .f64 x.a, floatOfInt .f64 x.b) else (floatOfInt .f64 x.c, floatOfInt .f64 x.d), x.pc⟩
theorem stOf_ok {x : Sta} (h : x.Ok) : (stOf x).Ok := ⟨h.r0, h.r1, h.p0, h.p1⟩
attribute [local go_sem ↓] ldc_wrap stc_wrap
set_option maxRecDepth 100000 in
set_option maxHeartbeats 1000000 in
theorem cpu_any (x : Sta) (w : World) :
    Calls Tryd.prog 9 #[sv x] w fun e w' => e = .returned (cv (stOf x)) ∧ Below w.heap.size w w' := by
  unfold sv svs
  have B1 := ((Below.refl w.heap.size w).alloc (Nat.le_refl _) (.cells #[uv (x.r 0), uv (x.r 1), uv (x.r 2), uv (x.r 3), uv (x.r 4), uv (x.r 5), uv (x.r 6), uv (x.r 7), .int .i32 x.a, .int .i32 x.b, .int .i32 x.c, .int .i32 x.d, uv x.pc] 25)).alloc (by simp) (.cells zcs 30)
  have R1 := Blk.new (w.alloc (.cells #[uv (x.r 0), uv (x.r 1), uv (x.r 2), uv (x.r 3), uv (x.r 4), uv (x.r 5), uv (x.r 6), uv (x.r 7), .int .i32 x.a, .int .i32 x.b, .int .i32 x.c, .int .i32 x.d, uv x.pc] 25)) zcs 30
  rw [World.size_alloc] at R1
  have h1 := run_stC R1 rfl (cs_size (stOf x)) (cs_one _)
  have HR := Lib.hid (Blk.setAll R1 (ds := cs (stOf x)) rfl)
  have HD := Lib.hid (below_all (w.heap.size + 1) (by omega) (cs (stOf x)).toList 0 B1)
  have h2 : (stC (.pointer (some ⟨w.heap.size + 1, 0, none⟩)) (.agg #[uv (x.r 0), uv (x.r 1), uv (x.r 2), uv (x.r 3), uv (x.r 4), uv (x.r 5), uv (x.r 6), uv (x.r 7), .complex .f64 (floatOfInt .f64 x.a) (floatOfInt .f64 x.b), .complex .f64 (floatOfInt .f64 x.c) (floatOfInt .f64 x.d), uv x.pc])).run Tryd.prog _ = .ok () _ := h1
  clear h1 R1 B1
  generalize World.setCells _ (w.heap.size + 1) 0 (cs (stOf x)).toList = w2 at *
  go_enter Tryd.func9, Tryd.ntmps9
  go_wp2
  refine bodyPost_ret (v := .agg (cs (stOf x))) ?_ rfl ⟨rfl, HD.out⟩
  exact results_cell_row rfl _ _ (w.heap.size + 1) 30 (cs (stOf x)) (0, 0) _ rfl HR.out Tryd.underlying30 rfl (by rw [infoC, cs_size])
end Go.Proofs.YtgnpbedhpkmkfaaDoor.Sta

/-
  What laws do: a copy of bytes that came in; Same of a Cpu with itself; texts of bytes held against each other.
-/
namespace Go.Proofs.YtgnpbedhpkmkfaaDoor.Sm
open Go Go.RowKit Kit Bk CoM CoR CoB CoC CoW Bytes3
set_option linter.unusedVariables false

def appO (ts : Array TypeId) (ty : TypeId) (vs : Array Value) : Sem Value := Builtin.append_ ts ty vs
theorem app_wrap (ts : Array TypeId) (ty : TypeId) (vs : Array Value) : Builtin.append_ ts ty vs = appO ts ty vs := rfl

/-- append([]byte{}, b...). -/
theorem copy_in (w : World) (v : Value) (xs : List Nat) (hs : Slc .u8 w v xs) (hx : ∀ x ∈ xs, x < 256) (hn : xs.length ≤ 4000) :
    ∃ w1 B ad cap, (appO #[26, 26] 26 #[.slice (some ⟨w.heap.size, 0, none⟩) 0 0, v]).run Tryd.prog (w.alloc (.cells #[] 5)) = .ok (sl ad xs cap) w1 ∧ Lies w1 B ad cap xs ∧ (xs.length ≤ cap ∧ cap ≤ maxLen) ∧ w.heap.size ≤ B ∧ B < w1.heap.size ∧ Below w.heap.size w w1 := by
  obtain ⟨i0, hi, hz0, hz1, hz2⟩ := info_parts info5
  have hsm : ∀ i, at_ xs i < 256 := fun i => by
    unfold at_
    cases h : xs[i]? with
    | none => decide
    | some x => exact hx x (List.mem_of_getElem? h)
  obtain ⟨a, cap, rfl, hcap, hmax, hread⟩ := hs
  have B0 := (Below.refl w.heap.size w).alloc (Nat.le_refl _) (.cells #[] 5)
  by_cases h0 : xs = []
  · subst h0
    refine ⟨w.alloc (.cells #[] 5), w.heap.size, some ⟨w.heap.size, 0, none⟩, 0, ?_, ⟨by simp, hsm, .inl rfl⟩, ⟨Nat.le_refl _, by unfold maxLen; omega⟩, Nat.le_refl _, by simp, B0⟩
    have hsrc : Src Tryd.prog i0.size 26 (.slice a ([] : List Nat).length cap) 0 [] (w.alloc (.cells #[] 5)) := by
      cases a with
      | none => exact Src.ofNil _ Tryd.underlying26 cap
      | some p => exact Src.ofSlice _ Tryd.underlying26 p 0 cap [] (by simp) (by simp) (by simp)
    exact run_append_nothing _ 26 26 26 5 i0 Tryd.underlying26 hi _ 0 0 (Nat.le_refl _) _ hsrc
  · rcases hread with h | ⟨g, o, rfl, hlt, hc⟩
    · exact absurd h h0
    · have hul : (u8s xs).length = xs.length := by simp [u8s]
      have hnews : ∀ j u, (u8s xs)[j]? = some u → (w.alloc (.cells #[] 5)).cell? ((⟨g, o, none⟩ : Addr).add j) = some u := by
        intro j u hj
        have hjm : j < xs.length := by rw [← hul]; exact (List.getElem?_eq_some_iff.1 hj).1
        rw [u8s_at xs j hjm] at hj
        cases hj
        rw [Addr.add_mid, World.cell?_alloc_lt _ _ _ hlt]
        exact hc j hjm
      obtain ⟨v', w1, hrun, hown, hgr, -⟩ := run_append_own_at (P := Tryd.prog) (w := w.alloc (.cells #[] 5)) w.heap.size 26 26 5 i0 (.int .u8 0) 1 1 Tryd.underlying26 hi hz0 hz1 hz2 rfl (by decide) _ 0 [] (World.ownsRow_lit w #[] 0 (Nat.le_refl _) (Nat.zero_le _) rfl) ⟨g, o, none⟩ xs.length cap (u8s xs) (by rw [hul, Nat.mul_one])
        hnews (u8s_one xs) (by unfold maxLen; omega) (by omega) (by simp)
      rw [Nat.zero_add, List.nil_append] at hown
      have HB : Below w.heap.size w w1 := B0.grown hgr (by simp) (fun k e => by cases e; exact Nat.le_refl _)
      rcases hown.2 with ⟨rfl, hz⟩ | ⟨g', cap', cur, rfl, hg, hh, h1, h2, h3, h4⟩
      · exact absurd (List.eq_nil_of_length_eq_zero hz) h0
      · refine ⟨w1, g', some ⟨g', 0, none⟩, cap', hrun, ⟨hn, hsm, .inr ⟨rfl, h1, h2, cur, _, hh, fun i hil => ?_⟩⟩, ⟨h1, h2⟩, hg, (Array.getElem?_eq_some_iff.1 hh).1, HB⟩
        have hcell := hown.cells (g := g') rfl i (.int .u8 ((at_ xs i : Nat) : Int)) (u8s_at xs i hil)
        rw [add_zero_off] at hcell
        rw [← hcell]
        exact (Bk.Blk.cell (w := w1) (b := g') (cs := cur) hh i).symm

def ldR (p : Value) : Sem Value := Instr.loadAt 23 p
theorem ldr_wrap (p : Value) : Instr.loadAt 23 p = ldR p := rfl
def neR (a b : Value) : Sem Value := binOp .neq 23 a b
theorem ner_wrap (a b : Value) : binOp .neq 23 a b = neR a b := rfl
def rs (s : St) : Array Value := #[uv (s.r 0), uv (s.r 1), uv (s.r 2), uv (s.r 3), uv (s.r 4), uv (s.r 5), uv (s.r 6), uv (s.r 7)]
theorem infoR : (Tryd.prog.info? 23).map (·.size) = some 8 := by kernel_rfl
theorem run_ldR {w : World} {g : Nat} {s : St} {T : TypeId} (h : Blk w g (cs s) T) : (ldR (.pointer (some ⟨g, 0, none⟩))).run Tryd.prog w = .ok (.agg (rs s)) w :=
  run_loadAt_mid (P := Tryd.prog) w g 0 23 (rs s).toList _ (fun j v hj => by
    have hl : j < 8 := (List.getElem?_eq_some_iff.1 hj).1
    rw [Nat.zero_add, h.cell, cs_r s hl, ← hj]
    have : j = 0 ∨ j = 1 ∨ j = 2 ∨ j = 3 ∨ j = 4 ∨ j = 5 ∨ j = 6 ∨ j = 7 := by omega
    rcases this with rfl | rfl | rfl | rfl | rfl | rfl | rfl | rfl <;> rfl) Tryd.underlying23 rfl infoR
theorem rs_lits (s : St) (hs : s.Ok) : ∃ la, Tryd.prog.keyLits 2 23 (rs s).toList = some la := by
  have hw : ∀ j, (Lit.int .u32 (s.r j)).wf = true := fun j => by
    have := hs.r0 j
    have := hs.r1 j
    simp [Lit.wf, IntKind.min, IntKind.max, IntKind.signed, IntKind.bits]
    omega
  have hc : Tryd.prog.cellsOf 23 = 8 := by kernel_rfl
  have hc1 : Tryd.prog.cellsOf 22 = 1 := by kernel_rfl
  have h1 : ∀ j, Tryd.prog.keyLits 1 22 [uv (s.r j)] = some [.int .u32 (s.r j)] := fun j => by
    rw [Program.keyLits.eq_def]
    simp only [Tryd.underlying22]
    simp [hw j]
  refine ⟨[.int .u32 (s.r 0), .int .u32 (s.r 1), .int .u32 (s.r 2), .int .u32 (s.r 3), .int .u32 (s.r 4), .int .u32 (s.r 5), .int .u32 (s.r 6), .int .u32 (s.r 7)], ?_⟩
  rw [Program.keyLits.eq_def]
  simp only [Tryd.underlying23]
  rw [if_pos (by rw [hc]; rfl)]
  simp [rs, hc1, List.range, List.range.loop, h1]
theorem run_neR (s : St) (hs : s.Ok) (w : World) : (neR (.agg (rs s)) (.agg (rs s))).run Tryd.prog w = .ok (.bool false) w := by
  obtain ⟨la, hla⟩ := rs_lits s hs
  have hf : (Value.agg (rs s)).formed Tryd.prog 23 = true := by
    unfold Value.formed
    rw [Tryd.underlying23]
    kernel_rfl
  obtain ⟨r, h1, h2⟩ := run_equalIn_deep (P := Tryd.prog) 9998 2 23 (by kernel_rfl) w 2 2 (.agg (rs s)) (.agg (rs s)) la la hf hf hla hla
  unfold neR
  rw [run_neq_struct]
  rw [show (Op.equalIn 10000 23 (.agg (rs s)) (.agg (rs s))).run Tryd.prog w = .ok true w by rw [h1, h2.2 rfl]]
  rfl

def eqZ (a b : Value) : Sem Value := binOp .eql 27 a b
theorem eqz_wrap (a b : Value) : binOp .eql 27 a b = eqZ a b := rfl
def neZ (a b : Value) : Sem Value := binOp .neq 27 a b
theorem nez_wrap (a b : Value) : binOp .neq 27 a b = neZ a b := rfl
/-- Is a number itself (no, if a part is none)? -/
def own (x : Nat × Nat) : Bool := (FloatKind.f64.format.order x.1 x.1 == some .eq) && (FloatKind.f64.format.order x.2 x.2 == some .eq)
theorem run_eqZ (x : Nat × Nat) (w : World) : (eqZ (zc x) (zc x)).run Tryd.prog w = .ok (.bool (own x)) w := run_eql_complex _ _ _ _ _ _ _
theorem run_neZ (x : Nat × Nat) (w : World) : (neZ (zc x) (zc x)).run Tryd.prog w = .ok (.bool (!own x)) w := by
  have := run_neq_complex (P := Tryd.prog) (w := w) 27 .f64 x.1 x.2 x.1 x.2
  unfold neZ zc
  rw [this]
  unfold own
  rfl
attribute [local go_sem ↓] ldr_wrap ner_wrap eqz_wrap nez_wrap
set_option maxRecDepth 100000 in
set_option maxHeartbeats 1000000 in
theorem same_walk (s : St) (hs : s.Ok) (w : World) (q0 q1 : Bool) (h0 : own (s.z 0) = q0) (h1 : own (s.z 1) = q1) :
    Calls Tryd.prog 14 #[cv s, cv s] w fun e w' => e = .returned (.bool true) ∧ Below w.heap.size w w' := by
  have C1 := (Blk.new w (cs s) 30).below ((Below.refl _ _).alloc (Nat.le_refl _) (.cells (cs s) 30))
  have C2 := Blk.new (w.alloc (.cells (cs s) 30)) (cs s) 30
  rw [World.size_alloc] at C2
  have B2 := ((Below.refl w.heap.size w).alloc (Nat.le_refl _) (.cells (cs s) 30)).alloc (by simp) (.cells (cs s) 30)
  have l1 := run_ldR C1
  have l2 := run_ldR C2
  have hn := run_neR s hs
  have hp := cs_pc s
  have z0 := cs_z s (j := 0) (by omega)
  have z1 := cs_z s (j := 1) (by omega)
  have e0 := fun w => run_eqZ (s.z 0) w
  have n0 := fun w => run_neZ (s.z 0) w
  have e1 := fun w => run_eqZ (s.z 1) w
  have n1 := fun w => run_neZ (s.z 1) w
  have k0 := hs.p0
  rw [h0] at e0 n0
  rw [h1] at e1 n1
  simp only [Nat.add_zero, Nat.reduceAdd] at z0 z1
  generalize s.z 0 = x0 at *
  generalize s.z 1 = x1 at *
  clear C1 C2 h0 h1
  cases q0 <;> cases q1
  all_goals
    simp only [Bool.not_true, Bool.not_false] at n0 n1
    go_enter Tryd.func14, Tryd.ntmps14
    go_wp2
    refine wp_loop_rounds 3 ?_
    rw [rounds_succ]
    go_wp2
    go_quiet (fail)
    go_wp2
    rw [rounds_succ]
    go_wp2
    go_quiet (fail)
    go_wp2
    rw [rounds_succ]
    go_wp2
    go_ret
    exact ⟨rfl, B2.trans (IsaC.drew_below _ _ _)⟩
theorem same_any (s : St) (hs : s.Ok) (w : World) :
    Calls Tryd.prog 14 #[cv s, cv s] w fun e w' => e = .returned (.bool true) ∧ Below w.heap.size w w' := same_walk s hs w _ _ rfl rfl
end Go.Proofs.YtgnpbedhpkmkfaaDoor.Sm

/-
  A slice of bytes that came in, read.
-/
namespace Go.Proofs.YtgnpbedhpkmkfaaDoor.Oq7
open Go Go.RowKit Kit
open Go.ChangeShapes Go.WideShapes
set_option linter.unusedVariables false
theorem nn_u8 (n : Int) (h : (Lit.int .u8 n).wf = true) : 0 ≤ n := by
  obtain ⟨m, rfl, _⟩ := u8_nat h
  omega
theorem slc_read {H : Type} {enc : TypeId × Value → H} {W : World} {fuel : Nat} {c : Value} {y : DataW H × List MemPlace} (h : DataW.trod enc Tryd.prog W 0 (fun _ => true) true fuel 26 [c] = some y) : ∃ xs : List Nat, Slc .u8 W c xs ∧ ∀ x ∈ xs, x < 256 := by
  rcases open_ints Tryd.underlying26 Tryd.underlying5 (by kernel_rfl) h with ⟨hcs, _⟩ | ⟨x, l, cp, zs, hcs, _, hl, hm, hz, _, hcell, hwz⟩
  · injection hcs with e _
    exact ⟨[], ⟨none, 0, e, Nat.le_refl _, Nat.zero_le _, .inl rfl⟩, by simp⟩
  · injection hcs with e _
    have hrow : IsRow .u8 W (some x) l cp zs := .inr ⟨x, rfl, hl, hm, by simpa using hz, hcell, hwz⟩
    obtain ⟨xs, h1, h2, h3⟩ := hrow.slc nn_u8
    refine ⟨xs, by rw [e]; exact h2, fun y hy => ?_⟩
    have := h3 y hy
    have hx : 0 ≤ (y : Int) ∧ (y : Int) ≤ 255 := by simpa [Lit.wf, IntKind.min, IntKind.max, IntKind.signed, IntKind.bits] using this
    omega
end Go.Proofs.YtgnpbedhpkmkfaaDoor.Oq7
