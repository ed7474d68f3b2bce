/-
  What a law's arguments read as: a list of calls.
-/
import Derived.Test.YtkjcjodhpcfjiaaTer
import Derived.ProofKit
import Derived.OpenShut
import Derived.Deep.Slices
import Derived.Lib.SmallJoins
namespace Go.Proofs.Ytkjcjodhpcfjiaa.Teu
open Go Go.RowKit Kit Bk Tea Teb
open Go.ChangeShapes Go.WideShapes
set_option linter.unusedVariables false

/-- A call: its kind, a pid, a parent, a state, a status. -/
structure Opr where
  kind : Int
  p : Int
  r : Int
  st : Int
  su : Nat
instance : Inhabited Opr := ⟨⟨0, 0, 0, 0, 0⟩⟩
def OpOk (x : Opr) : Prop := (Lit.int .i64 x.p).wf = true ∧ (Lit.int .i64 x.r).wf = true ∧ x.su < 4294967296
def OpAt (w : World) (b o : Nat) (x : Opr) : Prop := (w.cell? ⟨b, o, none⟩ = some (.int .i64 x.kind) ∧ w.cell? ⟨b, o + 1, none⟩ = some (.int .i64 x.p) ∧ w.cell? ⟨b, o + 2, none⟩ = some (.int .i64 x.r) ∧ w.cell? ⟨b, o + 3, none⟩ = some (.int .i64 x.st) ∧ w.cell? ⟨b, o + 4, none⟩ = some (uv x.su)) ∧ OpOk x
def OpsAt (w : World) (v : Value) (ops : List Opr) : Prop :=
  ∃ a cap, v = .slice a ops.length cap ∧ ops.length ≤ cap ∧ cap ≤ maxLen ∧ (ops = [] ∨ ∃ b off, a = some ⟨b, off, none⟩ ∧ b < w.heap.size ∧ ∀ i (h : i < ops.length), OpAt w b (off + i * 5) ops[i])
theorem OpAt.below {w w' : World} {b o : Nat} {x : Opr} (h : OpAt w b o x) (hlt : b < w.heap.size) (hb : Below w.heap.size w w') : OpAt w' b o x :=
  ⟨⟨(hb.cell (p := ⟨b, o, none⟩) hlt).trans h.1.1, (hb.cell (p := ⟨b, o + 1, none⟩) hlt).trans h.1.2.1, (hb.cell (p := ⟨b, o + 2, none⟩) hlt).trans h.1.2.2.1, (hb.cell (p := ⟨b, o + 3, none⟩) hlt).trans h.1.2.2.2.1, (hb.cell (p := ⟨b, o + 4, none⟩) hlt).trans h.1.2.2.2.2⟩, h.2⟩
theorem OpsAt.below {w w' : World} {v : Value} {ops : List Opr} (h : OpsAt w v ops) (hb : Below w.heap.size w w') : OpsAt w' v ops := by
  obtain ⟨a, cap, h1, h2, h3, h4⟩ := h
  refine ⟨a, cap, h1, h2, h3, ?_⟩
  rcases h4 with h4 | ⟨b, off, e, hlt, h5⟩
  · exact .inl h4
  · exact .inr ⟨b, off, e, Nat.lt_of_lt_of_le hlt hb.size, fun i hi => (h5 i hi).below hlt hb⟩
section
variable {H : Type} {enc : TypeId × Value → H} {W : World}
theorem u32_read {fuel : Nat} {c : Value} {y : DataW H × List MemPlace} (h : DataW.trod enc Try.prog W 0 (fun _ => true) true fuel 28 [c] = some y) : ∃ n : Nat, c = uv n ∧ n < 4294967296 := by
  obtain ⟨a, e0, _, wa⟩ := DataW.trod_int Try.underlying28 h
  injection e0 with e0 _
  obtain ⟨m, rfl, hm⟩ := u32_nat wa
  exact ⟨m, e0, hm⟩
theorem int_read {fuel : Nat} {c : Value} {y : DataW H × List MemPlace} (h : DataW.trod enc Try.prog W 0 (fun _ => true) true fuel 3 [c] = some y) : ∃ n : Int, c = .int .i64 n ∧ (Lit.int .i64 n).wf = true := by
  obtain ⟨a, e0, _, wa⟩ := DataW.trod_int Try.underlying3 h
  injection e0 with e0 _
  exact ⟨a, e0, wa⟩
theorem list5 {α : Type} {cs : List α} (h : cs.length = 5) : ∃ c0 c1 c2 c3 c4, cs = [c0, c1, c2, c3, c4] := by
  match cs, h with
  | [c0, c1, c2, c3, c4], _ => exact ⟨c0, c1, c2, c3, c4, rfl⟩
theorem cellsOp : Try.prog.cellsOf 45 = 5 := by kernel_rfl
theorem cu : Try.prog.cellsOf 28 = 1 := by kernel_rfl
theorem ci : Try.prog.cellsOf 3 = 1 := by kernel_rfl
theorem op_read {fuel : Nat} {cs : List Value} {y : DataW H × List MemPlace} (h : DataW.trod enc Try.prog W 0 (fun _ => true) true fuel 45 cs = some y) : ∃ x : Opr, cs = [.int .i64 x.kind, .int .i64 x.p, .int .i64 x.r, .int .i64 x.st, uv x.su] ∧ OpOk x := by
  obtain ⟨xs, n, _, _, hl, hlen, hf⟩ := DataW.trod_struct Try.underlying45 h
  rw [cellsOp] at hl
  obtain ⟨c0, c1, c2, c3, c4, rfl⟩ := list5 hl
  have hx : ∀ i, i < 5 → ∃ y, xs[i]? = some y := fun i hi => ⟨_, List.getElem?_eq_getElem (by rw [hlen]; exact hi)⟩
  obtain ⟨y0, e0⟩ := hx 0 (by omega)
  obtain ⟨y1, e1⟩ := hx 1 (by omega)
  obtain ⟨y2, e2⟩ := hx 2 (by omega)
  obtain ⟨y3, e3⟩ := hx 3 (by omega)
  obtain ⟨y4, e4⟩ := hx 4 (by omega)
  have f0 : DataW.trod enc Try.prog W 0 (fun _ => true) true n 3 ((([c0, c1, c2, c3, c4] : List Value).drop 0).take (Try.prog.cellsOf 3)) = some y0 := (hf 0 _ rfl).trans e0
  have f1 : DataW.trod enc Try.prog W 0 (fun _ => true) true n 3 ((([c0, c1, c2, c3, c4] : List Value).drop 1).take (Try.prog.cellsOf 3)) = some y1 := (hf 1 _ rfl).trans e1
  have f2 : DataW.trod enc Try.prog W 0 (fun _ => true) true n 3 ((([c0, c1, c2, c3, c4] : List Value).drop 2).take (Try.prog.cellsOf 3)) = some y2 := (hf 2 _ rfl).trans e2
  have f3 : DataW.trod enc Try.prog W 0 (fun _ => true) true n 3 ((([c0, c1, c2, c3, c4] : List Value).drop 3).take (Try.prog.cellsOf 3)) = some y3 := (hf 3 _ rfl).trans e3
  have f4 : DataW.trod enc Try.prog W 0 (fun _ => true) true n 28 ((([c0, c1, c2, c3, c4] : List Value).drop 4).take (Try.prog.cellsOf 28)) = some y4 := (hf 4 _ rfl).trans e4
  simp only [ci, cu, List.drop_zero, List.drop_succ_cons, List.take_succ_cons, List.take_zero] at f0 f1 f2 f3 f4
  obtain ⟨a0, rfl, _⟩ := int_read f0
  obtain ⟨a1, rfl, w1⟩ := int_read f1
  obtain ⟨a2, rfl, w2⟩ := int_read f2
  obtain ⟨a3, rfl, _⟩ := int_read f3
  obtain ⟨a4, rfl, w4⟩ := u32_read f4
  exact ⟨⟨a0, a1, a2, a3, a4⟩, rfl, w1, w2, w4⟩
def OpCs (cs : List Value) (x : Opr) : Prop := cs = [.int .i64 x.kind, .int .i64 x.p, .int .i64 x.r, .int .i64 x.st, uv x.su] ∧ OpOk x
theorem opAt_of (b o : Nat) (cs : List Value) (x : Opr) (h : W.cells? 0 ⟨b, o, none⟩ 5 = some cs) (hp : OpCs cs x) : OpAt W b o x := by
  obtain ⟨rfl, hk⟩ := hp
  have hg : ∀ i v, i < 5 → [Value.int .i64 x.kind, .int .i64 x.p, .int .i64 x.r, .int .i64 x.st, uv x.su][i]? = some v → W.cell? ⟨b, o + i, none⟩ = some v := fun i v hi hv => by
    unfold World.cells? at h
    rw [if_pos (Nat.zero_le _)] at h
    have := mapM_some_get h i i (by simp [hi])
    rw [← hv, ← this, Addr.add_mid]
  exact ⟨⟨hg 0 _ (by omega) rfl, hg 1 _ (by omega) rfl, hg 2 _ (by omega) rfl, hg 3 _ (by omega) rfl, hg 4 _ (by omega) rfl⟩, hk⟩
theorem ops_read {v : Value} {d : DataW H} {ps : List MemPlace} (hv : ∃ a len cap, v = .slice a len cap) (h : DataW.Trod enc Try.prog W 0 (fun _ => true) true 43 v d ps) : ∃ ops, OpsAt W v ops := by
  obtain ⟨a, len, cap, rfl⟩ := hv
  obtain ⟨fuel, hf⟩ := h
  rcases Deep.open_slice Try.underlying43 hf with ⟨hcs, _⟩ | ⟨x, l, c, m, n, D, Pl, hcs, hb, hl, hm, hmm, _, hel⟩
  · simp [Value.cells] at hcs
    obtain ⟨rfl, rfl, rfl⟩ := hcs
    exact ⟨[], none, 0, rfl, Nat.le_refl _, Nat.zero_le _, .inl rfl⟩
  · simp [Value.cells] at hcs
    obtain ⟨rfl, rfl, rfl⟩ := hcs
    have hlm : len ≤ m := by rw [hmm]; simpa using hl
    have hel2 : ∀ i, i < len → ∃ p cs, W.cells? 0 (x.add (i * 5)) 5 = some cs ∧ OpCs cs p := fun i hi => by
      obtain ⟨cs, h1, h2⟩ := hel i (by omega)
      rw [cellsOp] at h1
      obtain ⟨p, hp⟩ := op_read h2
      exact ⟨p, cs, h1, hp⟩
    obtain ⟨f, hfx⟩ := Deep.choose_lt (α := Opr) (p := fun i p => ∃ cs, W.cells? 0 (x.add (i * 5)) 5 = some cs ∧ OpCs cs p) hel2
    refine ⟨(List.range len).map f, some x, cap, by simp, by simpa using hl, hm, ?_⟩
    by_cases h0 : len = 0
    · left; subst h0; rfl
    · right
      obtain ⟨b, off, spot⟩ := x
      obtain ⟨cs, h1, h2, _⟩ := hfx 0 (by omega)
      subst h2
      have hc0 : W.cell? ((⟨b, off, spot⟩ : Addr)) = some (.int .i64 (f 0).kind) := by
        unfold World.cells? at h1
        rw [if_pos (Nat.zero_le _)] at h1
        have := mapM_some_get h1 0 0 rfl
        simpa [Addr.add] using this
      have hspot : spot = none := by simpa using World.cell?_spot hc0
      subst hspot
      refine ⟨b, off, rfl, World.block_lt_of_cell? _ _ hc0, fun i hi => ?_⟩
      have hi' : i < len := by simpa using hi
      obtain ⟨cs, h3, h4⟩ := hfx i hi'
      rw [Addr.add_mid] at h3
      have : ((List.range len).map f)[i]'hi = f i := by simp
      rw [this]
      exact opAt_of b _ cs _ h3 h4
end
end Go.Proofs.Ytkjcjodhpcfjiaa.Teu
