/-
  What a law's arguments read as: a list of calls; a list of pairs of bytes.
-/
import Derived.Test.YtpblnjphkgilfaaSll
import Derived.ProofKit
import Derived.OpenShut
import Derived.Deep.Slices
import Derived.Lib.SmallJoins
namespace Go.Proofs.Ytpblnjphkgilfaa.Sln
open Go Go.RowKit Kit Bk Sla Slb Slc
open Go.ChangeShapes Go.WideShapes
set_option linter.unusedVariables false

/-- A call: its kind, a pid, ticks. -/
structure Opr where
  kind : Int
  p : Int
  n : Nat
instance : Inhabited Opr := ⟨⟨0, 0, 0⟩⟩
def OpOk (x : Opr) : Prop := (Lit.int .i64 x.p).wf = true ∧ x.n < 4294967296
def OpAt (w : World) (b o : Nat) (x : Opr) : Prop := (w.cell? ⟨b, o, none⟩ = some (.int .i64 x.kind) ∧ w.cell? ⟨b, o + 1, none⟩ = some (.int .i64 x.p) ∧ w.cell? ⟨b, o + 2, none⟩ = some (uv x.n)) ∧ OpOk x
def OpsAt (w : World) (v : Value) (ops : List Opr) : Prop :=
  ∃ a cap, v = .slice a ops.length cap ∧ ops.length ≤ cap ∧ cap ≤ maxLen ∧ (ops = [] ∨ ∃ b off, a = some ⟨b, off, none⟩ ∧ b < w.heap.size ∧ ∀ i (h : i < ops.length), OpAt w b (off + i * 3) ops[i])
theorem OpAt.below {w w' : World} {b o : Nat} {x : Opr} (h : OpAt w b o x) (hlt : b < w.heap.size) (hb : Below w.heap.size w w') : OpAt w' b o x :=
  ⟨⟨(hb.cell (p := ⟨b, o, none⟩) hlt).trans h.1.1, (hb.cell (p := ⟨b, o + 1, none⟩) hlt).trans h.1.2.1, (hb.cell (p := ⟨b, o + 2, none⟩) hlt).trans h.1.2.2⟩, h.2⟩
theorem OpsAt.below {w w' : World} {v : Value} {ops : List Opr} (h : OpsAt w v ops) (hb : Below w.heap.size w w') : OpsAt w' v ops := by
  obtain ⟨a, cap, h1, h2, h3, h4⟩ := h
  refine ⟨a, cap, h1, h2, h3, ?_⟩
  rcases h4 with h4 | ⟨b, off, e, hlt, h5⟩
  · exact .inl h4
  · exact .inr ⟨b, off, e, Nat.lt_of_lt_of_le hlt hb.size, fun i hi => (h5 i hi).below hlt hb⟩
/-- A pair of bytes. -/
abbrev Pr := Nat × Nat
def PrAt (w : World) (b o : Nat) (x : Pr) : Prop := (w.cell? ⟨b, o, none⟩ = some (.int .u8 (x.1 : Int)) ∧ w.cell? ⟨b, o + 1, none⟩ = some (.int .u8 (x.2 : Int))) ∧ x.1 < 256 ∧ x.2 < 256
def PrsAt (w : World) (v : Value) (prs : List Pr) : Prop :=
  ∃ a cap, v = .slice a prs.length cap ∧ prs.length ≤ cap ∧ cap ≤ maxLen ∧ (prs = [] ∨ ∃ b off, a = some ⟨b, off, none⟩ ∧ b < w.heap.size ∧ ∀ i (h : i < prs.length), PrAt w b (off + i * 2) prs[i])
theorem PrAt.below {w w' : World} {b o : Nat} {x : Pr} (h : PrAt w b o x) (hlt : b < w.heap.size) (hb : Below w.heap.size w w') : PrAt w' b o x :=
  ⟨⟨(hb.cell (p := ⟨b, o, none⟩) hlt).trans h.1.1, (hb.cell (p := ⟨b, o + 1, none⟩) hlt).trans h.1.2⟩, h.2⟩
theorem PrsAt.below {w w' : World} {v : Value} {prs : List Pr} (h : PrsAt w v prs) (hb : Below w.heap.size w w') : PrsAt w' v prs := by
  obtain ⟨a, cap, h1, h2, h3, h4⟩ := h
  refine ⟨a, cap, h1, h2, h3, ?_⟩
  rcases h4 with h4 | ⟨b, off, e, hlt, h5⟩
  · exact .inl h4
  · exact .inr ⟨b, off, e, Nat.lt_of_lt_of_le hlt hb.size, fun i hi => (h5 i hi).below hlt hb⟩
section
variable {H : Type} {enc : TypeId × Value → H} {W : World}
theorem u32_read {fuel : Nat} {c : Value} {y : DataW H × List MemPlace} (h : DataW.trod enc Try.prog W 0 (fun _ => true) true fuel 31 [c] = some y) : ∃ n : Nat, c = uv n ∧ n < 4294967296 := by
  obtain ⟨a, e0, _, wa⟩ := DataW.trod_int Try.underlying31 h
  injection e0 with e0 _
  obtain ⟨m, rfl, hm⟩ := u32_nat wa
  exact ⟨m, e0, hm⟩
theorem u8_read {fuel : Nat} {c : Value} {y : DataW H × List MemPlace} (h : DataW.trod enc Try.prog W 0 (fun _ => true) true fuel 5 [c] = some y) : ∃ n : Nat, c = .int .u8 (n : Int) ∧ n < 256 := by
  obtain ⟨a, e0, _, wa⟩ := DataW.trod_int Try.underlying5 h
  injection e0 with e0 _
  obtain ⟨m, rfl, hm⟩ := u8_nat wa
  exact ⟨m, e0, hm⟩
theorem int_read {fuel : Nat} {c : Value} {y : DataW H × List MemPlace} (h : DataW.trod enc Try.prog W 0 (fun _ => true) true fuel 3 [c] = some y) : ∃ n : Int, c = .int .i64 n ∧ (Lit.int .i64 n).wf = true := by
  obtain ⟨a, e0, _, wa⟩ := DataW.trod_int Try.underlying3 h
  injection e0 with e0 _
  exact ⟨a, e0, wa⟩
theorem list3 {α : Type} {cs : List α} (h : cs.length = 3) : ∃ c0 c1 c2, cs = [c0, c1, c2] := by
  match cs, h with
  | [c0, c1, c2], _ => exact ⟨c0, c1, c2, rfl⟩
theorem cellsOp : Try.prog.cellsOf 33 = 3 := by kernel_rfl
theorem cu : Try.prog.cellsOf 31 = 1 := by kernel_rfl
theorem ci : Try.prog.cellsOf 3 = 1 := by kernel_rfl
theorem op_read {fuel : Nat} {cs : List Value} {y : DataW H × List MemPlace} (h : DataW.trod enc Try.prog W 0 (fun _ => true) true fuel 33 cs = some y) : ∃ x : Opr, cs = [.int .i64 x.kind, .int .i64 x.p, uv x.n] ∧ OpOk x := by
  obtain ⟨xs, n, _, _, hl, hlen, hf⟩ := DataW.trod_struct Try.underlying33 h
  rw [cellsOp] at hl
  obtain ⟨c0, c1, c2, rfl⟩ := list3 hl
  have hx : ∀ i, i < 3 → ∃ y, xs[i]? = some y := fun i hi => ⟨_, List.getElem?_eq_getElem (by rw [hlen]; exact hi)⟩
  obtain ⟨y0, e0⟩ := hx 0 (by omega)
  obtain ⟨y1, e1⟩ := hx 1 (by omega)
  obtain ⟨y2, e2⟩ := hx 2 (by omega)
  have f0 : DataW.trod enc Try.prog W 0 (fun _ => true) true n 3 ((([c0, c1, c2] : List Value).drop 0).take (Try.prog.cellsOf 3)) = some y0 := (hf 0 _ rfl).trans e0
  have f1 : DataW.trod enc Try.prog W 0 (fun _ => true) true n 3 ((([c0, c1, c2] : List Value).drop 1).take (Try.prog.cellsOf 3)) = some y1 := (hf 1 _ rfl).trans e1
  have f2 : DataW.trod enc Try.prog W 0 (fun _ => true) true n 31 ((([c0, c1, c2] : List Value).drop 2).take (Try.prog.cellsOf 31)) = some y2 := (hf 2 _ rfl).trans e2
  simp only [ci, cu, List.drop_zero, List.drop_succ_cons, List.take_succ_cons, List.take_zero] at f0 f1 f2
  obtain ⟨a0, rfl, _⟩ := int_read f0
  obtain ⟨a1, rfl, w1⟩ := int_read f1
  obtain ⟨a2, rfl, w2⟩ := u32_read f2
  exact ⟨⟨a0, a1, a2⟩, rfl, w1, w2⟩
def OpCs (cs : List Value) (x : Opr) : Prop := cs = [.int .i64 x.kind, .int .i64 x.p, uv x.n] ∧ OpOk x
theorem opAt_of (b o : Nat) (cs : List Value) (x : Opr) (h : W.cells? 0 ⟨b, o, none⟩ 3 = some cs) (hp : OpCs cs x) : OpAt W b o x := by
  obtain ⟨rfl, hk⟩ := hp
  have hg : ∀ i v, i < 3 → [Value.int .i64 x.kind, .int .i64 x.p, uv x.n][i]? = some v → W.cell? ⟨b, o + i, none⟩ = some v := fun i v hi hv => by
    unfold World.cells? at h
    rw [if_pos (Nat.zero_le _)] at h
    have := mapM_some_get h i i (by simp [hi])
    rw [← hv, ← this, Addr.add_mid]
  exact ⟨⟨hg 0 _ (by omega) rfl, hg 1 _ (by omega) rfl, hg 2 _ (by omega) rfl⟩, hk⟩
theorem ops_read {v : Value} {d : DataW H} {ps : List MemPlace} (hv : ∃ a len cap, v = .slice a len cap) (h : DataW.Trod enc Try.prog W 0 (fun _ => true) true 22 v d ps) : ∃ ops, OpsAt W v ops := by
  obtain ⟨a, len, cap, rfl⟩ := hv
  obtain ⟨fuel, hf⟩ := h
  rcases Deep.open_slice Try.underlying22 hf with ⟨hcs, _⟩ | ⟨x, l, c, m, n, D, Pl, hcs, hb, hl, hm, hmm, _, hel⟩
  · simp [Value.cells] at hcs
    obtain ⟨rfl, rfl, rfl⟩ := hcs
    exact ⟨[], none, 0, rfl, Nat.le_refl _, Nat.zero_le _, .inl rfl⟩
  · simp [Value.cells] at hcs
    obtain ⟨rfl, rfl, rfl⟩ := hcs
    have hlm : len ≤ m := by rw [hmm]; simpa using hl
    have hel2 : ∀ i, i < len → ∃ p cs, W.cells? 0 (x.add (i * 3)) 3 = some cs ∧ OpCs cs p := fun i hi => by
      obtain ⟨cs, h1, h2⟩ := hel i (by omega)
      rw [cellsOp] at h1
      obtain ⟨p, hp⟩ := op_read h2
      exact ⟨p, cs, h1, hp⟩
    obtain ⟨f, hfx⟩ := Deep.choose_lt (α := Opr) (p := fun i p => ∃ cs, W.cells? 0 (x.add (i * 3)) 3 = some cs ∧ OpCs cs p) hel2
    refine ⟨(List.range len).map f, some x, cap, by simp, by simpa using hl, hm, ?_⟩
    by_cases h0 : len = 0
    · left; subst h0; rfl
    · right
      obtain ⟨b, off, spot⟩ := x
      obtain ⟨cs, h1, h2, _⟩ := hfx 0 (by omega)
      subst h2
      have hc0 : W.cell? ((⟨b, off, spot⟩ : Addr)) = some (.int .i64 (f 0).kind) := by
        unfold World.cells? at h1
        rw [if_pos (Nat.zero_le _)] at h1
        have := mapM_some_get h1 0 0 rfl
        simpa [Addr.add] using this
      have hspot : spot = none := by simpa using World.cell?_spot hc0
      subst hspot
      refine ⟨b, off, rfl, World.block_lt_of_cell? _ _ hc0, fun i hi => ?_⟩
      have hi' : i < len := by simpa using hi
      obtain ⟨cs, h3, h4⟩ := hfx i hi'
      rw [Addr.add_mid] at h3
      have : ((List.range len).map f)[i]'hi = f i := by simp
      rw [this]
      exact opAt_of b _ cs _ h3 h4
theorem list2 {α : Type} {cs : List α} (h : cs.length = 2) : ∃ c0 c1, cs = [c0, c1] := by
  match cs, h with
  | [c0, c1], _ => exact ⟨c0, c1, rfl⟩
theorem cellsPr : Try.prog.cellsOf 50 = 2 := by kernel_rfl
theorem cb : Try.prog.cellsOf 5 = 1 := by kernel_rfl
def PrCs (cs : List Value) (x : Pr) : Prop := cs = [.int .u8 (x.1 : Int), .int .u8 (x.2 : Int)] ∧ x.1 < 256 ∧ x.2 < 256
theorem pr_read {fuel : Nat} {cs : List Value} {y : DataW H × List MemPlace} (h : DataW.trod enc Try.prog W 0 (fun _ => true) true fuel 50 cs = some y) : ∃ x : Pr, PrCs cs x := by
  obtain ⟨xs, n, _, _, hl, hlen, hf⟩ := DataW.trod_array Try.underlying50 h
  rw [cellsPr] at hl
  obtain ⟨c0, c1, rfl⟩ := list2 hl
  have hx : ∀ i, i < 2 → ∃ y, xs[i]? = some y := fun i hi => ⟨_, List.getElem?_eq_getElem (by rw [hlen]; exact hi)⟩
  obtain ⟨y0, e0⟩ := hx 0 (by omega)
  obtain ⟨y1, e1⟩ := hx 1 (by omega)
  have f0 := (hf 0 (by decide)).trans e0
  have f1 := (hf 1 (by decide)).trans e1
  simp only [cb, Nat.zero_mul, Nat.one_mul, List.drop_zero, List.drop_succ_cons, List.take_succ_cons, List.take_zero] at f0 f1
  obtain ⟨a0, rfl, w0⟩ := u8_read f0
  obtain ⟨a1, rfl, w1⟩ := u8_read f1
  exact ⟨(a0, a1), rfl, w0, w1⟩
theorem prAt_of (b o : Nat) (cs : List Value) (x : Pr) (h : W.cells? 0 ⟨b, o, none⟩ 2 = some cs) (hp : PrCs cs x) : PrAt W b o x := by
  obtain ⟨rfl, hk⟩ := hp
  have hg : ∀ i v, i < 2 → [Value.int .u8 (x.1 : Int), .int .u8 (x.2 : Int)][i]? = some v → W.cell? ⟨b, o + i, none⟩ = some v := fun i v hi hv => by
    unfold World.cells? at h
    rw [if_pos (Nat.zero_le _)] at h
    have := mapM_some_get h i i (by simp [hi])
    rw [← hv, ← this, Addr.add_mid]
  exact ⟨⟨hg 0 _ (by omega) rfl, hg 1 _ (by omega) rfl⟩, hk⟩
theorem prs_read {v : Value} {d : DataW H} {ps : List MemPlace} (hv : ∃ a len cap, v = .slice a len cap) (h : DataW.Trod enc Try.prog W 0 (fun _ => true) true 48 v d ps) : ∃ prs, PrsAt W v prs := by
  obtain ⟨a, len, cap, rfl⟩ := hv
  obtain ⟨fuel, hf⟩ := h
  rcases Deep.open_slice Try.underlying48 hf with ⟨hcs, _⟩ | ⟨x, l, c, m, n, D, Pl, hcs, hb, hl, hm, hmm, _, hel⟩
  · simp [Value.cells] at hcs
    obtain ⟨rfl, rfl, rfl⟩ := hcs
    exact ⟨[], none, 0, rfl, Nat.le_refl _, Nat.zero_le _, .inl rfl⟩
  · simp [Value.cells] at hcs
    obtain ⟨rfl, rfl, rfl⟩ := hcs
    have hlm : len ≤ m := by rw [hmm]; simpa using hl
    have hel2 : ∀ i, i < len → ∃ p cs, W.cells? 0 (x.add (i * 2)) 2 = some cs ∧ PrCs cs p := fun i hi => by
      obtain ⟨cs, h1, h2⟩ := hel i (by omega)
      rw [cellsPr] at h1
      obtain ⟨p, hp⟩ := pr_read h2
      exact ⟨p, cs, h1, hp⟩
    obtain ⟨f, hfx⟩ := Deep.choose_lt (α := Pr) (p := fun i p => ∃ cs, W.cells? 0 (x.add (i * 2)) 2 = some cs ∧ PrCs cs p) hel2
    refine ⟨(List.range len).map f, some x, cap, by simp, by simpa using hl, hm, ?_⟩
    by_cases h0 : len = 0
    · left; subst h0; rfl
    · right
      obtain ⟨b, off, spot⟩ := x
      obtain ⟨cs, h1, h2, _⟩ := hfx 0 (by omega)
      subst h2
      have hc0 : W.cell? ((⟨b, off, spot⟩ : Addr)) = some (.int .u8 ((f 0).1 : Int)) := by
        unfold World.cells? at h1
        rw [if_pos (Nat.zero_le _)] at h1
        have := mapM_some_get h1 0 0 rfl
        simpa [Addr.add] using this
      have hspot : spot = none := by simpa using World.cell?_spot hc0
      subst hspot
      refine ⟨b, off, rfl, World.block_lt_of_cell? _ _ hc0, fun i hi => ?_⟩
      have hi' : i < len := by simpa using hi
      obtain ⟨cs, h3, h4⟩ := hfx i hi'
      rw [Addr.add_mid] at h3
      have : ((List.range len).map f)[i]'hi = f i := by simp
      rw [this]
      exact prAt_of b _ cs _ h3 h4
end
end Go.Proofs.Ytpblnjphkgilfaa.Sln
