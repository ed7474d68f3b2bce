/-
  What a law's arguments read as: a list of calls; Great.
-/
import Derived.Test.YtclpokkjbkbkgaaAl
import Derived.ProofKit
import Derived.OpenShut
import Derived.Deep.Slices
import Derived.Lib.SmallJoins
namespace Go.Proofs.Ytclpokkjbkbkgaa.Oq
open Go Go.RowKit Kit Bk
open Tm hiding Mem
open Go.ChangeShapes Go.WideShapes
set_option linter.unusedVariables false

structure Opr where
  kind : Int
  who : Int
  page : Int
  n : Int
  wb : Bool
  sh : Bool
  addr : Nat
  word : Int
  xs : List Nat
  x : En
instance : Inhabited Opr := ⟨⟨0, 0, 0, 0, false, false, 0, 0, [], z0⟩⟩
/-- What its numbers are. -/
def OpWf (p : Opr) : Prop := (Lit.int .i64 p.who).wf = true ∧ (Lit.int .i64 p.page).wf = true ∧ (Lit.int .i64 p.n).wf = true ∧ p.addr < 4294967296 ∧ ∀ x ∈ p.xs, x < 256
/-- A call lies there. -/
def OpAt (w : World) (b o : Nat) (p : Opr) : Prop :=
  (∃ bv, w.cell? ⟨b, o, none⟩ = some (.int .i64 p.kind) ∧ w.cell? ⟨b, o + 1, none⟩ = some (.int .i64 p.who) ∧ w.cell? ⟨b, o + 2, none⟩ = some (.int .i64 p.page) ∧ w.cell? ⟨b, o + 3, none⟩ = some (.int .i64 p.n) ∧ w.cell? ⟨b, o + 4, none⟩ = some (.bool p.wb) ∧ w.cell? ⟨b, o + 5, none⟩ = some (.bool p.sh) ∧ w.cell? ⟨b, o + 6, none⟩ = some (.int .u32 (p.addr : Int)) ∧ w.cell? ⟨b, o + 7, none⟩ = some (.int .u32 p.word) ∧ w.cell? ⟨b, o + 8, none⟩ = some (bv) ∧ w.cell? ⟨b, o + 9, none⟩ = some (.int .i64 p.x.f) ∧ w.cell? ⟨b, o + 10, none⟩ = some (.bool p.x.w) ∧ w.cell? ⟨b, o + 11, none⟩ = some (.bool p.x.s) ∧ w.cell? ⟨b, o + 12, none⟩ = some (.bool p.x.c) ∧ w.cell? ⟨b, o + 13, none⟩ = some (.bool p.x.d) ∧ Slc .u8 w bv p.xs) ∧ OpWf p
def OpsAt (w : World) (v : Value) (ops : List Opr) : Prop :=
  ∃ a cap, v = .slice a ops.length cap ∧ ops.length ≤ cap ∧ cap ≤ maxLen ∧ (ops = [] ∨ ∃ b off, a = some ⟨b, off, none⟩ ∧ b < w.heap.size ∧ ∀ i (h : i < ops.length), OpAt w b (off + i * 14) ops[i])
theorem OpAt.below {w w' : World} {b o : Nat} {p : Opr} (h : OpAt w b o p) (hlt : b < w.heap.size) (hb : Below w.heap.size w w') : OpAt w' b o p := by
  obtain ⟨⟨bv, k0, k1, k2, k3, k4, k5, k6, k7, k8, k9, k10, k11, k12, k13, hs⟩, hw⟩ := h
  exact ⟨⟨bv, (hb.cell (p := ⟨b, o, none⟩) hlt).trans k0, (hb.cell (p := ⟨b, o + 1, none⟩) hlt).trans k1, (hb.cell (p := ⟨b, o + 2, none⟩) hlt).trans k2, (hb.cell (p := ⟨b, o + 3, none⟩) hlt).trans k3, (hb.cell (p := ⟨b, o + 4, none⟩) hlt).trans k4, (hb.cell (p := ⟨b, o + 5, none⟩) hlt).trans k5, (hb.cell (p := ⟨b, o + 6, none⟩) hlt).trans k6, (hb.cell (p := ⟨b, o + 7, none⟩) hlt).trans k7, (hb.cell (p := ⟨b, o + 8, none⟩) hlt).trans k8, (hb.cell (p := ⟨b, o + 9, none⟩) hlt).trans k9, (hb.cell (p := ⟨b, o + 10, none⟩) hlt).trans k10, (hb.cell (p := ⟨b, o + 11, none⟩) hlt).trans k11, (hb.cell (p := ⟨b, o + 12, none⟩) hlt).trans k12, (hb.cell (p := ⟨b, o + 13, none⟩) hlt).trans k13, hs.below hb⟩, hw⟩
theorem OpsAt.below {w w' : World} {v : Value} {ops : List Opr} (h : OpsAt w v ops) (hb : Below w.heap.size w w') : OpsAt w' v ops := by
  obtain ⟨a, cap, h1, h2, h3, h4⟩ := h
  refine ⟨a, cap, h1, h2, h3, ?_⟩
  rcases h4 with h4 | ⟨b, off, e, hlt, h5⟩
  · exact .inl h4
  · exact .inr ⟨b, off, e, Nat.lt_of_lt_of_le hlt hb.size, fun i hi => (h5 i hi).below hlt hb⟩
section
variable {H : Type} {enc : TypeId × Value → H} {W : World}

theorem int_read {fuel : Nat} {c : Value} {y : DataW H × List MemPlace} (h : DataW.trod enc Try.prog W 0 (fun _ => true) true fuel 3 [c] = some y) : ∃ n : Int, c = .int .i64 n ∧ (Lit.int .i64 n).wf = true := by
  obtain ⟨a, e0, _, wa⟩ := DataW.trod_int Try.underlying3 h
  injection e0 with e0 _
  exact ⟨a, e0, wa⟩
theorem u32_read {fuel : Nat} {c : Value} {y : DataW H × List MemPlace} (h : DataW.trod enc Try.prog W 0 (fun _ => true) true fuel 29 [c] = some y) : ∃ n : Int, c = .int .u32 n ∧ (Lit.int .u32 n).wf = true := by
  obtain ⟨a, e0, _, wa⟩ := DataW.trod_int Try.underlying29 h
  injection e0 with e0 _
  exact ⟨a, e0, wa⟩
theorem bool_read {fuel : Nat} {c : Value} {y : DataW H × List MemPlace} (h : DataW.trod enc Try.prog W 0 (fun _ => true) true fuel 4 [c] = some y) : ∃ b : Bool, c = .bool b := by
  obtain ⟨a, e0, _⟩ := DataW.trod_bool Try.underlying4 h
  injection e0 with e0 _
  exact ⟨a, e0⟩
theorem slc_read {fuel : Nat} {c : Value} {y : DataW H × List MemPlace} (h : DataW.trod enc Try.prog W 0 (fun _ => true) true fuel 26 [c] = some y) : ∃ xs : List Nat, Slc .u8 W c xs ∧ ∀ x ∈ xs, x < 256 := by
  rcases open_ints Try.underlying26 Try.underlying5 (by kernel_rfl) h with ⟨hcs, _⟩ | ⟨x, l, cp, zs, hcs, _, hl, hm, hz, _, hcell, hwz⟩
  · injection hcs with e _
    exact ⟨[], ⟨none, 0, e, Nat.le_refl _, Nat.zero_le _, .inl rfl⟩, by simp⟩
  · injection hcs with e _
    have hrow : IsRow .u8 W (some x) l cp zs := .inr ⟨x, rfl, hl, hm, by simpa using hz, hcell, hwz⟩
    obtain ⟨xs, h1, h2, h3⟩ := hrow.slc nn_u8
    refine ⟨xs, by rw [e]; exact h2, fun y hy => ?_⟩
    have := h3 y hy
    have hx : 0 ≤ (y : Int) ∧ (y : Int) ≤ 255 := by simpa [Lit.wf, IntKind.min, IntKind.max, IntKind.signed, IntKind.bits] using this
    omega
theorem list5 {α : Type} {cs : List α} (h : cs.length = 5) : ∃ c0 c1 c2 c3 c4, cs = [c0, c1, c2, c3, c4] := by
  match cs, h with
  | [c0, c1, c2, c3, c4], _ => exact ⟨c0, c1, c2, c3, c4, rfl⟩
theorem list14 {α : Type} {cs : List α} (h : cs.length = 14) : ∃ c0 c1 c2 c3 c4 c5 c6 c7 c8 c9 c10 c11 c12 c13, cs = [c0, c1, c2, c3, c4, c5, c6, c7, c8, c9, c10, c11, c12, c13] := by
  match cs, h with
  | [c0, c1, c2, c3, c4, c5, c6, c7, c8, c9, c10, c11, c12, c13], _ => exact ⟨c0, c1, c2, c3, c4, c5, c6, c7, c8, c9, c10, c11, c12, c13, rfl⟩
theorem cellsEn : Try.prog.cellsOf 47 = 5 := by kernel_rfl
theorem cellsOp : Try.prog.cellsOf 49 = 14 := by kernel_rfl
theorem ci : Try.prog.cellsOf 3 = 1 := by kernel_rfl
theorem cu : Try.prog.cellsOf 29 = 1 := by kernel_rfl
theorem cb : Try.prog.cellsOf 4 = 1 := by kernel_rfl
theorem cs8 : Try.prog.cellsOf 26 = 1 := by kernel_rfl
theorem en_read {fuel : Nat} {cs : List Value} {y : DataW H × List MemPlace} (h : DataW.trod enc Try.prog W 0 (fun _ => true) true fuel 47 cs = some y) : ∃ x : En, cs = [.int .i64 x.f, .bool x.w, .bool x.s, .bool x.c, .bool x.d] := by
  obtain ⟨xs, n, _, _, hl, hlen, hf⟩ := DataW.trod_struct Try.underlying47 h
  rw [cellsEn] at hl
  obtain ⟨c0, c1, c2, c3, c4, rfl⟩ := list5 hl
  have hx : ∀ i, i < 5 → ∃ y, xs[i]? = some y := fun i hi => ⟨_, List.getElem?_eq_getElem (by rw [hlen]; exact hi)⟩
  obtain ⟨y0, e0⟩ := hx 0 (by omega)
  obtain ⟨y1, e1⟩ := hx 1 (by omega)
  obtain ⟨y2, e2⟩ := hx 2 (by omega)
  obtain ⟨y3, e3⟩ := hx 3 (by omega)
  obtain ⟨y4, e4⟩ := hx 4 (by omega)
  have f0 : DataW.trod enc Try.prog W 0 (fun _ => true) true n 3 ((([c0, c1, c2, c3, c4] : List Value).drop 0).take (Try.prog.cellsOf 3)) = some y0 := (hf 0 _ rfl).trans e0
  have f1 : DataW.trod enc Try.prog W 0 (fun _ => true) true n 4 ((([c0, c1, c2, c3, c4] : List Value).drop 1).take (Try.prog.cellsOf 4)) = some y1 := (hf 1 _ rfl).trans e1
  have f2 : DataW.trod enc Try.prog W 0 (fun _ => true) true n 4 ((([c0, c1, c2, c3, c4] : List Value).drop 2).take (Try.prog.cellsOf 4)) = some y2 := (hf 2 _ rfl).trans e2
  have f3 : DataW.trod enc Try.prog W 0 (fun _ => true) true n 4 ((([c0, c1, c2, c3, c4] : List Value).drop 3).take (Try.prog.cellsOf 4)) = some y3 := (hf 3 _ rfl).trans e3
  have f4 : DataW.trod enc Try.prog W 0 (fun _ => true) true n 4 ((([c0, c1, c2, c3, c4] : List Value).drop 4).take (Try.prog.cellsOf 4)) = some y4 := (hf 4 _ rfl).trans e4
  simp only [ci, cb, List.drop_zero, List.drop_succ_cons, List.take_succ_cons, List.take_zero] at f0 f1 f2 f3 f4
  obtain ⟨a0, rfl, _⟩ := int_read f0
  obtain ⟨a1, rfl⟩ := bool_read f1
  obtain ⟨a2, rfl⟩ := bool_read f2
  obtain ⟨a3, rfl⟩ := bool_read f3
  obtain ⟨a4, rfl⟩ := bool_read f4
  exact ⟨⟨a0, a1, a2, a3, a4⟩, rfl⟩
def OpCs (W : World) (cs : List Value) (p : Opr) : Prop := ∃ bv, cs = [.int .i64 p.kind, .int .i64 p.who, .int .i64 p.page, .int .i64 p.n, .bool p.wb, .bool p.sh, .int .u32 (p.addr : Int), .int .u32 p.word, bv, .int .i64 p.x.f, .bool p.x.w, .bool p.x.s, .bool p.x.c, .bool p.x.d] ∧ Slc .u8 W bv p.xs ∧ OpWf p
theorem op_read {fuel : Nat} {cs : List Value} {y : DataW H × List MemPlace} (h : DataW.trod enc Try.prog W 0 (fun _ => true) true fuel 49 cs = some y) : ∃ p : Opr, OpCs W cs p := by
  obtain ⟨xs, n, _, _, hl, hlen, hf⟩ := DataW.trod_struct Try.underlying49 h
  rw [cellsOp] at hl
  obtain ⟨c0, c1, c2, c3, c4, c5, c6, c7, c8, c9, c10, c11, c12, c13, rfl⟩ := list14 hl
  have hx : ∀ i, i < 10 → ∃ y, xs[i]? = some y := fun i hi => ⟨_, List.getElem?_eq_getElem (by rw [hlen]; exact hi)⟩
  obtain ⟨y0, e0⟩ := hx 0 (by omega)
  obtain ⟨y1, e1⟩ := hx 1 (by omega)
  obtain ⟨y2, e2⟩ := hx 2 (by omega)
  obtain ⟨y3, e3⟩ := hx 3 (by omega)
  obtain ⟨y4, e4⟩ := hx 4 (by omega)
  obtain ⟨y5, e5⟩ := hx 5 (by omega)
  obtain ⟨y6, e6⟩ := hx 6 (by omega)
  obtain ⟨y7, e7⟩ := hx 7 (by omega)
  obtain ⟨y8, e8⟩ := hx 8 (by omega)
  obtain ⟨y9, e9⟩ := hx 9 (by omega)
  have f0 : DataW.trod enc Try.prog W 0 (fun _ => true) true n 3 ((([c0, c1, c2, c3, c4, c5, c6, c7, c8, c9, c10, c11, c12, c13] : List Value).drop 0).take (Try.prog.cellsOf 3)) = some y0 := (hf 0 _ rfl).trans e0
  have f1 : DataW.trod enc Try.prog W 0 (fun _ => true) true n 3 ((([c0, c1, c2, c3, c4, c5, c6, c7, c8, c9, c10, c11, c12, c13] : List Value).drop 1).take (Try.prog.cellsOf 3)) = some y1 := (hf 1 _ rfl).trans e1
  have f2 : DataW.trod enc Try.prog W 0 (fun _ => true) true n 3 ((([c0, c1, c2, c3, c4, c5, c6, c7, c8, c9, c10, c11, c12, c13] : List Value).drop 2).take (Try.prog.cellsOf 3)) = some y2 := (hf 2 _ rfl).trans e2
  have f3 : DataW.trod enc Try.prog W 0 (fun _ => true) true n 3 ((([c0, c1, c2, c3, c4, c5, c6, c7, c8, c9, c10, c11, c12, c13] : List Value).drop 3).take (Try.prog.cellsOf 3)) = some y3 := (hf 3 _ rfl).trans e3
  have f4 : DataW.trod enc Try.prog W 0 (fun _ => true) true n 4 ((([c0, c1, c2, c3, c4, c5, c6, c7, c8, c9, c10, c11, c12, c13] : List Value).drop 4).take (Try.prog.cellsOf 4)) = some y4 := (hf 4 _ rfl).trans e4
  have f5 : DataW.trod enc Try.prog W 0 (fun _ => true) true n 4 ((([c0, c1, c2, c3, c4, c5, c6, c7, c8, c9, c10, c11, c12, c13] : List Value).drop 5).take (Try.prog.cellsOf 4)) = some y5 := (hf 5 _ rfl).trans e5
  have f6 : DataW.trod enc Try.prog W 0 (fun _ => true) true n 29 ((([c0, c1, c2, c3, c4, c5, c6, c7, c8, c9, c10, c11, c12, c13] : List Value).drop 6).take (Try.prog.cellsOf 29)) = some y6 := (hf 6 _ rfl).trans e6
  have f7 : DataW.trod enc Try.prog W 0 (fun _ => true) true n 29 ((([c0, c1, c2, c3, c4, c5, c6, c7, c8, c9, c10, c11, c12, c13] : List Value).drop 7).take (Try.prog.cellsOf 29)) = some y7 := (hf 7 _ rfl).trans e7
  have f8 : DataW.trod enc Try.prog W 0 (fun _ => true) true n 26 ((([c0, c1, c2, c3, c4, c5, c6, c7, c8, c9, c10, c11, c12, c13] : List Value).drop 8).take (Try.prog.cellsOf 26)) = some y8 := (hf 8 _ rfl).trans e8
  have f9 : DataW.trod enc Try.prog W 0 (fun _ => true) true n 47 ((([c0, c1, c2, c3, c4, c5, c6, c7, c8, c9, c10, c11, c12, c13] : List Value).drop 9).take (Try.prog.cellsOf 47)) = some y9 := (hf 9 _ rfl).trans e9
  simp only [ci, cb, cu, cs8, cellsEn, List.drop_zero, List.drop_succ_cons, List.take_succ_cons, List.take_zero] at f0 f1 f2 f3 f4 f5 f6 f7 f8 f9
  obtain ⟨a0, rfl, _⟩ := int_read f0
  obtain ⟨a1, rfl, w1⟩ := int_read f1
  obtain ⟨a2, rfl, w2⟩ := int_read f2
  obtain ⟨a3, rfl, w3⟩ := int_read f3
  obtain ⟨a4, rfl⟩ := bool_read f4
  obtain ⟨a5, rfl⟩ := bool_read f5
  obtain ⟨a6, rfl, w6⟩ := u32_read f6
  obtain ⟨z6, rfl, v6⟩ := u32_nat w6
  obtain ⟨a7, rfl, _⟩ := u32_read f7
  obtain ⟨l, hs, hb⟩ := slc_read f8
  obtain ⟨x, hx2⟩ := en_read f9
  injection hx2 with h2 hx2
  injection hx2 with h3 hx2
  injection hx2 with h4 hx2
  injection hx2 with h5 hx2
  injection hx2 with h6 hx2
  subst h2 h3 h4 h5 h6
  exact ⟨⟨a0, a1, a2, a3, a4, a5, z6, a7, l, x⟩, c8, rfl, hs, w1, w2, w3, v6, hb⟩
theorem opAt_of (b o : Nat) (cs : List Value) (p : Opr) (h : W.cells? 0 ⟨b, o, none⟩ 14 = some cs) (hp : OpCs W cs p) : OpAt W b o p := by
  obtain ⟨bv, rfl, hs, hw⟩ := hp
  have hg : ∀ i v, i < 14 → [Value.int .i64 p.kind, .int .i64 p.who, .int .i64 p.page, .int .i64 p.n, .bool p.wb, .bool p.sh, .int .u32 (p.addr : Int), .int .u32 p.word, bv, .int .i64 p.x.f, .bool p.x.w, .bool p.x.s, .bool p.x.c, .bool p.x.d][i]? = some v → W.cell? ⟨b, o + i, none⟩ = some v := fun i v hi hv => by
    unfold World.cells? at h
    rw [if_pos (Nat.zero_le _)] at h
    have := mapM_some_get h i i (by simp [hi])
    rw [← hv, ← this, Addr.add_mid]
  exact ⟨⟨bv, hg 0 _ (by omega) rfl, hg 1 _ (by omega) rfl, hg 2 _ (by omega) rfl, hg 3 _ (by omega) rfl, hg 4 _ (by omega) rfl, hg 5 _ (by omega) rfl, hg 6 _ (by omega) rfl, hg 7 _ (by omega) rfl, hg 8 _ (by omega) rfl, hg 9 _ (by omega) rfl, hg 10 _ (by omega) rfl, hg 11 _ (by omega) rfl, hg 12 _ (by omega) rfl, hg 13 _ (by omega) rfl, hs⟩, hw⟩
theorem ops_read {v : Value} {d : DataW H} {ps : List MemPlace} (hv : ∃ a len cap, v = .slice a len cap) (h : DataW.Trod enc Try.prog W 0 (fun _ => true) true 40 v d ps) : ∃ ops, OpsAt W v ops := by
  obtain ⟨a, len, cap, rfl⟩ := hv
  obtain ⟨fuel, hf⟩ := h
  rcases Deep.open_slice Try.underlying40 hf with ⟨hcs, _⟩ | ⟨x, l, c, m, n, D, Pl, hcs, hb, hl, hm, hmm, _, hel⟩
  · simp [Value.cells] at hcs
    obtain ⟨rfl, rfl, rfl⟩ := hcs
    exact ⟨[], none, 0, rfl, Nat.le_refl _, Nat.zero_le _, .inl rfl⟩
  · simp [Value.cells] at hcs
    obtain ⟨rfl, rfl, rfl⟩ := hcs
    have hlm : len ≤ m := by rw [hmm]; simpa using hl
    have hel2 : ∀ i, i < len → ∃ p cs, W.cells? 0 (x.add (i * 14)) 14 = some cs ∧ OpCs W cs p := fun i hi => by
      obtain ⟨cs, h1, h2⟩ := hel i (by omega)
      rw [cellsOp] at h1
      obtain ⟨p, hp⟩ := op_read h2
      exact ⟨p, cs, h1, hp⟩
    obtain ⟨f, hfx⟩ := Deep.choose_lt (α := Opr) (p := fun i p => ∃ cs, W.cells? 0 (x.add (i * 14)) 14 = some cs ∧ OpCs W cs p) hel2
    refine ⟨(List.range len).map f, some x, cap, by simp, by simpa using hl, hm, ?_⟩
    by_cases h0 : len = 0
    · left; subst h0; rfl
    · right
      obtain ⟨b, off, spot⟩ := x
      obtain ⟨cs, h1, h2⟩ := hfx 0 (by omega)
      obtain ⟨bv, rfl, _⟩ := h2
      have hc0 : W.cell? ((⟨b, off, spot⟩ : Addr)) = some (.int .i64 (f 0).kind) := by
        unfold World.cells? at h1
        rw [if_pos (Nat.zero_le _)] at h1
        have := mapM_some_get h1 0 0 rfl
        simpa [Addr.add] using this
      have hspot : spot = none := by simpa using World.cell?_spot hc0
      subst hspot
      refine ⟨b, off, rfl, World.block_lt_of_cell? _ _ hc0, fun i hi => ?_⟩
      have hi' : i < len := by simpa using hi
      obtain ⟨cs, h3, h4⟩ := hfx i hi'
      rw [Addr.add_mid] at h3
      have : ((List.range len).map f)[i]'hi = f i := by simp
      rw [this]
      exact opAt_of b _ cs _ h3 h4
end
/-- Calls that a law goes through. -/
def Fine (M : Nat) (ops : List Opr) : Prop := ops.length ≤ M ∧ ∀ o ∈ ops, o.xs.length ≤ 300
theorem great_long (v : Value) (ops : List Opr) (w : World) (M : Nat) (hM : M ≤ 3000) (h : OpsAt w v ops) (hf : M < ops.length) :
    Calls Try.prog 18 #[v, .int .i64 (M : Int)] w fun e w' => e = .returned (.int .i64 1) ∧ w = w' := by
  obtain ⟨a, cap, rfl, h1, h2, h3⟩ := h
  have d : decide ((M : Int) < (ops.length : Int)) = true := decide_eq_true (by omega)
  have d2 : decide (M < ops.length) = true := decide_eq_true (by omega)
  clear h3 hf
  go_enter Try.func18, Try.ntmps18
  go_wp2
  go_ret
  exact ⟨rfl, rfl⟩
theorem great_fine (v : Value) (ops : List Opr) (w : World) (M : Nat) (hM : M ≤ 3000) (h : OpsAt w v ops) (hf : Fine M ops) :
    Calls Try.prog 18 #[v, .int .i64 (M : Int)] w fun e w' => e = .returned (.int .i64 0) ∧ w = w' := by
  obtain ⟨hf1, hf2⟩ := hf
  obtain ⟨a, cap, rfl, h1, h2, h3⟩ := h
  have d : decide ((M : Int) < (ops.length : Int)) = false := decide_eq_false (by omega)
  have dd : decide (M < ops.length) = false := decide_eq_false (by omega)
  have hl : (ops.length : Int) ≤ (M : Int) := by omega
  go_enter Try.func18, Try.ntmps18
  go_wp2
  go_loop [5] (fun i => ∃ k : Nat, k ≤ ops.length ∧ i = .int .i64 (k : Int)) (fun i => ops.length - (intOf i).toNat)
  case atStart => exact ⟨0, Nat.zero_le _, rfl⟩
  case round =>
    obtain ⟨k, hk, rfl⟩ := hrel
    by_cases hlt : k < ops.length
    · rcases h3 with h0 | ⟨b, off, rfl, hb, h4⟩
      · subst h0; simp at hlt
      · obtain ⟨⟨bv, _, _, _, _, _, _, _, _, c4, _, _, _, _, _, a2, cap2, rfl, _⟩, _⟩ := h4 k hlt
        have hx := hf2 _ (List.getElem_mem hlt)
        generalize ops[k].xs.length = L at *
        have d2 : decide ((300 : Int) < (L : Int)) = false := decide_eq_false (by omega)
        clear h4 hf2 hx
        go_wp2
        go_round
        case rel => exact ⟨k + 1, by omega, by go_num⟩
        case measure => simp [intOf]; omega
    · obtain rfl : k = ops.length := by omega
      clear h3 hf2
      go_wp2
      go_ret
      exact ⟨rfl, rfl⟩
theorem great_wide (v : Value) (ops : List Opr) (w : World) (M : Nat) (hM : M ≤ 3000) (h : OpsAt w v ops) (hf : ops.length ≤ M) (m : Nat) (hm : m < ops.length) (hw : 300 < ops[m].xs.length) (hf2 : ∀ j (h : j < m), (ops[j]'(by omega)).xs.length ≤ 300) :
    Calls Try.prog 18 #[v, .int .i64 (M : Int)] w fun e w' => e = .returned (.int .i64 1) ∧ w = w' := by
  obtain ⟨a, cap, rfl, h1, h2, h3⟩ := h
  have d : decide ((M : Int) < (ops.length : Int)) = false := decide_eq_false (by omega)
  have dd : decide (M < ops.length) = false := decide_eq_false (by omega)
  have hl : (ops.length : Int) ≤ (M : Int) := by omega
  go_enter Try.func18, Try.ntmps18
  go_wp2
  go_loop [5] (fun i => ∃ k : Nat, k ≤ m ∧ i = .int .i64 (k : Int)) (fun i => m - (intOf i).toNat)
  case atStart => exact ⟨0, Nat.zero_le _, rfl⟩
  case round =>
    obtain ⟨k, hk, rfl⟩ := hrel
    rcases h3 with h0 | ⟨b, off, rfl, hb, h4⟩
    · subst h0; simp at hm
    · by_cases hlt : k < m
      · obtain ⟨⟨bv, _, _, _, _, _, _, _, _, c4, _, _, _, _, _, a2, cap2, rfl, _⟩, _⟩ := h4 k (by omega)
        have hx := hf2 k hlt
        generalize (ops[k]'(by omega)).xs.length = L at *
        have d2 : decide ((300 : Int) < (L : Int)) = false := decide_eq_false (by omega)
        have hkl : (k : Int) < (ops.length : Int) := by omega
        clear h4 hf2 hx hw
        go_wp2
        go_round
        case rel => exact ⟨k + 1, by omega, by go_num⟩
        case measure => simp [intOf]; omega
      · obtain rfl : k = m := by omega
        obtain ⟨⟨bv, _, _, _, _, _, _, _, _, c4, _, _, _, _, _, a2, cap2, rfl, _⟩, _⟩ := h4 k (by omega)
        generalize (ops[k]'(by omega)).xs.length = L at *
        have d2 : decide ((300 : Int) < (L : Int)) = true := decide_eq_true (by omega)
        have hkl : (k : Int) < (ops.length : Int) := by omega
        clear h4 hf2 hw
        go_wp2
        go_ret
        exact ⟨rfl, rfl⟩
theorem least_at (p : Nat → Prop) [∀ k, Decidable (p k)] (n : Nat) : (∀ k, k < n → ¬ p k) ∨ ∃ m, m < n ∧ p m ∧ ∀ k, k < m → ¬ p k := by
  induction n with
  | zero => exact .inl fun k hk => absurd hk (Nat.not_lt_zero _)
  | succ n ih =>
    rcases ih with h | ⟨m, h1, h2, h3⟩
    · by_cases hz : p n
      · exact .inr ⟨n, by omega, hz, h⟩
      · refine .inl fun k hk => ?_
        by_cases e : k = n
        · subst e; exact hz
        · exact h k (by omega)
    · exact .inr ⟨m, by omega, h2, h3⟩
theorem great_any (v : Value) (ops : List Opr) (w : World) (M : Nat) (hM : M ≤ 3000) (h : OpsAt w v ops) (hf : ¬ Fine M ops) :
    Calls Try.prog 18 #[v, .int .i64 (M : Int)] w fun e w' => e = .returned (.int .i64 1) ∧ w = w' := by
  by_cases hl : ops.length ≤ M
  · rcases least_at (fun j => ∃ h : j < ops.length, 300 < ops[j].xs.length) ops.length with h1 | ⟨m, h1, ⟨_, h2⟩, h3⟩
    · refine absurd ⟨hl, fun o ho => ?_⟩ hf
      obtain ⟨j, hj, rfl⟩ := List.getElem_of_mem ho
      have := h1 j hj
      rcases Nat.lt_or_ge 300 ops[j].xs.length with h4 | h4
      · exact absurd ⟨hj, h4⟩ this
      · exact h4
    · refine great_wide v ops w M hM h hl m h1 h2 (fun j hj => ?_)
      have := h3 j hj
      rcases Nat.lt_or_ge 300 (ops[j]'(by omega)).xs.length with h4 | h4
      · exact absurd ⟨by omega, h4⟩ this
      · exact h4
  · exact great_long v ops w M hM h (by omega)

end Go.Proofs.Ytclpokkjbkbkgaa.Oq
