/-
  What a law's arguments read as: signals; a list of calls.
-/
import Derived.Test.YtlhhgapimhpgnaaSgh
import Derived.ProofKit
import Derived.OpenShut
import Derived.Deep.Slices
import Derived.Lib.SmallJoins
import Derived.Lib.LaidU8
namespace Go.Proofs.Ytlhhgapimhpgnaa.Sgi
open Go Go.RowKit Kit Bk Sga Sgb
open Go.ChangeShapes Go.WideShapes
set_option linter.unusedVariables false

/-- A call: its kind, a number, a word. -/
structure Opr where
  kind : Int
  n : Int
  at0 : Nat
instance : Inhabited Opr := ⟨⟨0, 0, 0⟩⟩
def OpOk (x : Opr) : Prop := (Lit.int .i64 x.n).wf = true ∧ x.at0 < 4294967296
def OpAt (w : World) (b o : Nat) (x : Opr) : Prop := (w.cell? ⟨b, o, none⟩ = some (.int .i64 x.kind) ∧ w.cell? ⟨b, o + 1, none⟩ = some (.int .i64 x.n) ∧ w.cell? ⟨b, o + 2, none⟩ = some (.int .u32 (x.at0 : Int))) ∧ OpOk x
def OpsAt (w : World) (v : Value) (ops : List Opr) : Prop :=
  ∃ a cap, v = .slice a ops.length cap ∧ ops.length ≤ cap ∧ cap ≤ maxLen ∧ (ops = [] ∨ ∃ b off, a = some ⟨b, off, none⟩ ∧ b < w.heap.size ∧ ∀ i (h : i < ops.length), OpAt w b (off + i * 3) ops[i])
theorem OpAt.below {w w' : World} {b o : Nat} {x : Opr} (h : OpAt w b o x) (hlt : b < w.heap.size) (hb : Below w.heap.size w w') : OpAt w' b o x :=
  ⟨⟨(hb.cell (p := ⟨b, o, none⟩) hlt).trans h.1.1, (hb.cell (p := ⟨b, o + 1, none⟩) hlt).trans h.1.2.1, (hb.cell (p := ⟨b, o + 2, none⟩) hlt).trans h.1.2.2⟩, h.2⟩
theorem OpsAt.below {w w' : World} {v : Value} {ops : List Opr} (h : OpsAt w v ops) (hb : Below w.heap.size w w') : OpsAt w' v ops := by
  obtain ⟨a, cap, h1, h2, h3, h4⟩ := h
  refine ⟨a, cap, h1, h2, h3, ?_⟩
  rcases h4 with h4 | ⟨b, off, e, hlt, h5⟩
  · exact .inl h4
  · exact .inr ⟨b, off, e, Nat.lt_of_lt_of_le hlt hb.size, fun i hi => (h5 i hi).below hlt hb⟩
section
variable {H : Type} {enc : TypeId × Value → H} {W : World}
theorem u32_read {fuel : Nat} {c : Value} {y : DataW H × List MemPlace} (h : DataW.trod enc Try.prog W 0 (fun _ => true) true fuel 22 [c] = some y) : ∃ n : Nat, c = uv n ∧ n < 4294967296 := by
  obtain ⟨a, e0, _, wa⟩ := DataW.trod_int Try.underlying22 h
  injection e0 with e0 _
  obtain ⟨m, rfl, hm⟩ := u32_nat wa
  exact ⟨m, e0, hm⟩
theorem int_read {fuel : Nat} {c : Value} {y : DataW H × List MemPlace} (h : DataW.trod enc Try.prog W 0 (fun _ => true) true fuel 3 [c] = some y) : ∃ n : Int, c = .int .i64 n ∧ (Lit.int .i64 n).wf = true := by
  obtain ⟨a, e0, _, wa⟩ := DataW.trod_int Try.underlying3 h
  injection e0 with e0 _
  exact ⟨a, e0, wa⟩
theorem bool_read {fuel : Nat} {c : Value} {y : DataW H × List MemPlace} (h : DataW.trod enc Try.prog W 0 (fun _ => true) true fuel 4 [c] = some y) : ∃ b : Bool, c = .bool b := by
  obtain ⟨a, e0, _⟩ := DataW.trod_bool Try.underlying4 h
  injection e0 with e0 _
  exact ⟨a, e0⟩
theorem list19 {α : Type} {cs : List α} (h : cs.length = 19) : ∃ c0 c1 c2 c3 c4 c5 c6 c7 c8 c9 c10 c11 c12 c13 c14 c15 c16 c17 c18, cs = [c0, c1, c2, c3, c4, c5, c6, c7, c8, c9, c10, c11, c12, c13, c14, c15, c16, c17, c18] := by
  match cs, h with
  | [c0, c1, c2, c3, c4, c5, c6, c7, c8, c9, c10, c11, c12, c13, c14, c15, c16, c17, c18], _ => exact ⟨c0, c1, c2, c3, c4, c5, c6, c7, c8, c9, c10, c11, c12, c13, c14, c15, c16, c17, c18, rfl⟩
theorem list3 {α : Type} {cs : List α} (h : cs.length = 3) : ∃ c0 c1 c2, cs = [c0, c1, c2] := by
  match cs, h with
  | [c0, c1, c2], _ => exact ⟨c0, c1, c2, rfl⟩
theorem cellsSg : Try.prog.cellsOf 25 = 19 := by kernel_rfl
theorem cellsR : Try.prog.cellsOf 23 = 16 := by kernel_rfl
theorem cellsOp : Try.prog.cellsOf 30 = 3 := by kernel_rfl
theorem cu : Try.prog.cellsOf 22 = 1 := by kernel_rfl
theorem ci : Try.prog.cellsOf 3 = 1 := by kernel_rfl
theorem cb : Try.prog.cellsOf 4 = 1 := by kernel_rfl
theorem lst_bd (l : List Nat) (h : ∀ v ∈ l, v < 4294967296) (j : Nat) : l[j]?.getD 0 < 4294967296 := by
  cases hj : l[j]? with
  | none => exact Nat.zero_lt_succ _
  | some v => exact h v (List.mem_of_getElem? hj)
theorem sig_read {fuel : Nat} {cs : List Value} {y : DataW H × List MemPlace} (h : DataW.trod enc Try.prog W 0 (fun _ => true) true fuel 25 cs = some y) : ∃ s : Sg, cs = (Sga.cs s).toList ∧ s.Ok := by
  obtain ⟨xs, n, _, _, hl, hlen, hf⟩ := DataW.trod_struct Try.underlying25 h
  rw [cellsSg] at hl
  obtain ⟨c0, c1, c2, c3, c4, c5, c6, c7, c8, c9, c10, c11, c12, c13, c14, c15, c16, c17, c18, rfl⟩ := list19 hl
  have hx : ∀ i, i < 4 → ∃ y, xs[i]? = some y := fun i hi => ⟨_, List.getElem?_eq_getElem (by rw [hlen]; exact hi)⟩
  obtain ⟨y0, e0⟩ := hx 0 (by omega)
  obtain ⟨y1, e1⟩ := hx 1 (by omega)
  obtain ⟨y2, e2⟩ := hx 2 (by omega)
  obtain ⟨y3, e3⟩ := hx 3 (by omega)
  have f0 : DataW.trod enc Try.prog W 0 (fun _ => true) true n 22 ((([c0, c1, c2, c3, c4, c5, c6, c7, c8, c9, c10, c11, c12, c13, c14, c15, c16, c17, c18] : List Value).drop 0).take (Try.prog.cellsOf 22)) = some y0 := (hf 0 _ rfl).trans e0
  have f1 : DataW.trod enc Try.prog W 0 (fun _ => true) true n 22 ((([c0, c1, c2, c3, c4, c5, c6, c7, c8, c9, c10, c11, c12, c13, c14, c15, c16, c17, c18] : List Value).drop 1).take (Try.prog.cellsOf 22)) = some y1 := (hf 1 _ rfl).trans e1
  have f2 : DataW.trod enc Try.prog W 0 (fun _ => true) true n 23 ((([c0, c1, c2, c3, c4, c5, c6, c7, c8, c9, c10, c11, c12, c13, c14, c15, c16, c17, c18] : List Value).drop 2).take (Try.prog.cellsOf 23)) = some y2 := (hf 2 _ rfl).trans e2
  have f3 : DataW.trod enc Try.prog W 0 (fun _ => true) true n 4 ((([c0, c1, c2, c3, c4, c5, c6, c7, c8, c9, c10, c11, c12, c13, c14, c15, c16, c17, c18] : List Value).drop 18).take (Try.prog.cellsOf 4)) = some y3 := (hf 3 _ rfl).trans e3
  simp only [cu, cb, cellsR, List.drop_zero, List.drop_succ_cons, List.take_succ_cons, List.take_zero] at f0 f1 f2 f3
  obtain ⟨zs, m, _, _, _, hzl, hz⟩ := DataW.trod_array Try.underlying23 f2
  have hzx : ∀ i, i < 16 → ∃ y, zs[i]? = some y := fun i hi => ⟨_, List.getElem?_eq_getElem (by rw [hzl]; exact hi)⟩
  obtain ⟨q0, j0⟩ := hzx 0 (by omega)
  obtain ⟨q1, j1⟩ := hzx 1 (by omega)
  obtain ⟨q2, j2⟩ := hzx 2 (by omega)
  obtain ⟨q3, j3⟩ := hzx 3 (by omega)
  obtain ⟨q4, j4⟩ := hzx 4 (by omega)
  obtain ⟨q5, j5⟩ := hzx 5 (by omega)
  obtain ⟨q6, j6⟩ := hzx 6 (by omega)
  obtain ⟨q7, j7⟩ := hzx 7 (by omega)
  obtain ⟨q8, j8⟩ := hzx 8 (by omega)
  obtain ⟨q9, j9⟩ := hzx 9 (by omega)
  obtain ⟨q10, j10⟩ := hzx 10 (by omega)
  obtain ⟨q11, j11⟩ := hzx 11 (by omega)
  obtain ⟨q12, j12⟩ := hzx 12 (by omega)
  obtain ⟨q13, j13⟩ := hzx 13 (by omega)
  obtain ⟨q14, j14⟩ := hzx 14 (by omega)
  obtain ⟨q15, j15⟩ := hzx 15 (by omega)
  have g0 := (hz 0 (by omega)).trans j0
  have g1 := (hz 1 (by omega)).trans j1
  have g2 := (hz 2 (by omega)).trans j2
  have g3 := (hz 3 (by omega)).trans j3
  have g4 := (hz 4 (by omega)).trans j4
  have g5 := (hz 5 (by omega)).trans j5
  have g6 := (hz 6 (by omega)).trans j6
  have g7 := (hz 7 (by omega)).trans j7
  have g8 := (hz 8 (by omega)).trans j8
  have g9 := (hz 9 (by omega)).trans j9
  have g10 := (hz 10 (by omega)).trans j10
  have g11 := (hz 11 (by omega)).trans j11
  have g12 := (hz 12 (by omega)).trans j12
  have g13 := (hz 13 (by omega)).trans j13
  have g14 := (hz 14 (by omega)).trans j14
  have g15 := (hz 15 (by omega)).trans j15
  simp only [cu, Nat.mul_one, List.drop_zero, List.drop_succ_cons, List.take_succ_cons, List.take_zero] at g0 g1 g2 g3 g4 g5 g6 g7 g8 g9 g10 g11 g12 g13 g14 g15
  obtain ⟨a0, rfl, b0⟩ := u32_read g0
  obtain ⟨a1, rfl, b1⟩ := u32_read g1
  obtain ⟨a2, rfl, b2⟩ := u32_read g2
  obtain ⟨a3, rfl, b3⟩ := u32_read g3
  obtain ⟨a4, rfl, b4⟩ := u32_read g4
  obtain ⟨a5, rfl, b5⟩ := u32_read g5
  obtain ⟨a6, rfl, b6⟩ := u32_read g6
  obtain ⟨a7, rfl, b7⟩ := u32_read g7
  obtain ⟨a8, rfl, b8⟩ := u32_read g8
  obtain ⟨a9, rfl, b9⟩ := u32_read g9
  obtain ⟨a10, rfl, b10⟩ := u32_read g10
  obtain ⟨a11, rfl, b11⟩ := u32_read g11
  obtain ⟨a12, rfl, b12⟩ := u32_read g12
  obtain ⟨a13, rfl, b13⟩ := u32_read g13
  obtain ⟨a14, rfl, b14⟩ := u32_read g14
  obtain ⟨a15, rfl, b15⟩ := u32_read g15
  obtain ⟨p0, rfl, w0⟩ := u32_read f0
  obtain ⟨p1, rfl, w1⟩ := u32_read f1
  obtain ⟨p3, rfl⟩ := bool_read f3
  have hb := lst_bd [a0, a1, a2, a3, a4, a5, a6, a7, a8, a9, a10, a11, a12, a13, a14, a15] (by
    intro v hv
    simp only [List.mem_cons, List.not_mem_nil, or_false] at hv
    rcases hv with rfl | rfl | rfl | rfl | rfl | rfl | rfl | rfl | rfl | rfl | rfl | rfl | rfl | rfl | rfl | rfl <;> assumption)
  exact ⟨⟨p0, p1, fun j => [a0, a1, a2, a3, a4, a5, a6, a7, a8, a9, a10, a11, a12, a13, a14, a15][j]?.getD 0, p3⟩, rfl, ⟨w0, w1, hb, fun j hj => by
    show [a0, a1, a2, a3, a4, a5, a6, a7, a8, a9, a10, a11, a12, a13, a14, a15][j]?.getD 0 = 0
    rw [List.getElem?_eq_none (by simpa using hj)]; rfl⟩⟩
theorem sig_arg {v : Value} {d : DataW H} {ps : List MemPlace} (hv : ∃ cs, v = .agg cs ∧ cs.size = Try.prog.cellsOf 25) (h : DataW.Trod enc Try.prog W 0 (fun _ => true) true 25 v d ps) :
    ∃ s : Sg, v = cv s ∧ s.Ok := by
  obtain ⟨cs, rfl, _⟩ := hv
  obtain ⟨fuel, hf⟩ := h
  obtain ⟨s, hcs, r⟩ := sig_read hf
  refine ⟨s, ?_, r⟩
  congr 1
  apply Array.ext'
  exact hcs
theorem op_read {fuel : Nat} {cs : List Value} {y : DataW H × List MemPlace} (h : DataW.trod enc Try.prog W 0 (fun _ => true) true fuel 30 cs = some y) : ∃ x : Opr, cs = [.int .i64 x.kind, .int .i64 x.n, uv x.at0] ∧ OpOk x := by
  obtain ⟨xs, n, _, _, hl, hlen, hf⟩ := DataW.trod_struct Try.underlying30 h
  rw [cellsOp] at hl
  obtain ⟨c0, c1, c2, rfl⟩ := list3 hl
  have hx : ∀ i, i < 3 → ∃ y, xs[i]? = some y := fun i hi => ⟨_, List.getElem?_eq_getElem (by rw [hlen]; exact hi)⟩
  obtain ⟨y0, e0⟩ := hx 0 (by omega)
  obtain ⟨y1, e1⟩ := hx 1 (by omega)
  obtain ⟨y2, e2⟩ := hx 2 (by omega)
  have f0 : DataW.trod enc Try.prog W 0 (fun _ => true) true n 3 ((([c0, c1, c2] : List Value).drop 0).take (Try.prog.cellsOf 3)) = some y0 := (hf 0 _ rfl).trans e0
  have f1 : DataW.trod enc Try.prog W 0 (fun _ => true) true n 3 ((([c0, c1, c2] : List Value).drop 1).take (Try.prog.cellsOf 3)) = some y1 := (hf 1 _ rfl).trans e1
  have f2 : DataW.trod enc Try.prog W 0 (fun _ => true) true n 22 ((([c0, c1, c2] : List Value).drop 2).take (Try.prog.cellsOf 22)) = some y2 := (hf 2 _ rfl).trans e2
  simp only [ci, cu, List.drop_zero, List.drop_succ_cons, List.take_succ_cons, List.take_zero] at f0 f1 f2
  obtain ⟨a0, rfl, _⟩ := int_read f0
  obtain ⟨a1, rfl, w1⟩ := int_read f1
  obtain ⟨a2, rfl, w2⟩ := u32_read f2
  exact ⟨⟨a0, a1, a2⟩, rfl, w1, w2⟩
def OpCs (cs : List Value) (x : Opr) : Prop := cs = [.int .i64 x.kind, .int .i64 x.n, uv x.at0] ∧ OpOk x
theorem opAt_of (b o : Nat) (cs : List Value) (p : Opr) (h : W.cells? 0 ⟨b, o, none⟩ 3 = some cs) (hp : OpCs cs p) : OpAt W b o p := by
  obtain ⟨rfl, hk⟩ := hp
  have hg : ∀ i v, i < 3 → [Value.int .i64 p.kind, .int .i64 p.n, uv p.at0][i]? = some v → W.cell? ⟨b, o + i, none⟩ = some v := fun i v hi hv => by
    unfold World.cells? at h
    rw [if_pos (Nat.zero_le _)] at h
    have := mapM_some_get h i i (by simp [hi])
    rw [← hv, ← this, Addr.add_mid]
  exact ⟨⟨hg 0 _ (by omega) rfl, hg 1 _ (by omega) rfl, hg 2 _ (by omega) rfl⟩, hk⟩
theorem ops_read {v : Value} {d : DataW H} {ps : List MemPlace} (hv : ∃ a len cap, v = .slice a len cap) (h : DataW.Trod enc Try.prog W 0 (fun _ => true) true 26 v d ps) : ∃ ops, OpsAt W v ops := by
  obtain ⟨a, len, cap, rfl⟩ := hv
  obtain ⟨fuel, hf⟩ := h
  rcases Deep.open_slice Try.underlying26 hf with ⟨hcs, _⟩ | ⟨x, l, c, m, n, D, Pl, hcs, hb, hl, hm, hmm, _, hel⟩
  · simp [Value.cells] at hcs
    obtain ⟨rfl, rfl, rfl⟩ := hcs
    exact ⟨[], none, 0, rfl, Nat.le_refl _, Nat.zero_le _, .inl rfl⟩
  · simp [Value.cells] at hcs
    obtain ⟨rfl, rfl, rfl⟩ := hcs
    have hlm : len ≤ m := by rw [hmm]; simpa using hl
    have hel2 : ∀ i, i < len → ∃ p cs, W.cells? 0 (x.add (i * 3)) 3 = some cs ∧ OpCs cs p := fun i hi => by
      obtain ⟨cs, h1, h2⟩ := hel i (by omega)
      rw [cellsOp] at h1
      obtain ⟨p, hp⟩ := op_read h2
      exact ⟨p, cs, h1, hp⟩
    obtain ⟨f, hfx⟩ := Deep.choose_lt (α := Opr) (p := fun i p => ∃ cs, W.cells? 0 (x.add (i * 3)) 3 = some cs ∧ OpCs cs p) hel2
    refine ⟨(List.range len).map f, some x, cap, by simp, by simpa using hl, hm, ?_⟩
    by_cases h0 : len = 0
    · left; subst h0; rfl
    · right
      obtain ⟨b, off, spot⟩ := x
      obtain ⟨cs, h1, h2, _⟩ := hfx 0 (by omega)
      subst h2
      have hc0 : W.cell? ((⟨b, off, spot⟩ : Addr)) = some (.int .i64 (f 0).kind) := by
        unfold World.cells? at h1
        rw [if_pos (Nat.zero_le _)] at h1
        have := mapM_some_get h1 0 0 rfl
        simpa [Addr.add] using this
      have hspot : spot = none := by simpa using World.cell?_spot hc0
      subst hspot
      refine ⟨b, off, rfl, World.block_lt_of_cell? _ _ hc0, fun i hi => ?_⟩
      have hi' : i < len := by simpa using hi
      obtain ⟨cs, h3, h4⟩ := hfx i hi'
      rw [Addr.add_mid] at h3
      have : ((List.range len).map f)[i]'hi = f i := by simp
      rw [this]
      exact opAt_of b _ cs _ h3 h4
end
end Go.Proofs.Ytlhhgapimhpgnaa.Sgi
