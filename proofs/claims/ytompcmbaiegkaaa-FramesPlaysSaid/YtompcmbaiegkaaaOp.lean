/-
  What a law's arguments read as: a list of calls, a call.
-/
import Derived.Test.YtompcmbaiegkaaaPa
import Derived.ProofKit
import Derived.OpenShut
import Derived.Deep.Slices
import Derived.Lib.SmallJoins
namespace Go.Proofs.Ytompcmbaiegkaaa.Op
open Go Go.RowKit Kit Ea
open Go.ChangeShapes Go.WideShapes
set_option linter.unusedVariables false
section
variable {H : Type} {enc : TypeId × Value → H} {W : World}

theorem slc_read {fuel : Nat} {c : Value} {y : DataW H × List MemPlace} (h : DataW.trod enc Try.prog W 0 (fun _ => true) true fuel 31 [c] = some y) : ∃ xs : List Nat, Slc .u8 W c xs ∧ ∀ x ∈ xs, x < 256 := by
  rcases open_ints Try.underlying31 Try.underlying5 (by kernel_rfl) h with ⟨hcs, _⟩ | ⟨x, l, cp, zs, hcs, _, hl, hm, hz, _, hcell, hwz⟩
  · injection hcs with e _
    exact ⟨[], ⟨none, 0, e, Nat.le_refl _, Nat.zero_le _, .inl rfl⟩, by simp⟩
  · injection hcs with e _
    have hrow : IsRow .u8 W (some x) l cp zs := .inr ⟨x, rfl, hl, hm, by simpa using hz, hcell, hwz⟩
    obtain ⟨xs, h1, h2, h3⟩ := hrow.slc nn_u8
    refine ⟨xs, by rw [e]; exact h2, fun y hy => ?_⟩
    have := h3 y hy
    have hx : 0 ≤ (y : Int) ∧ (y : Int) ≤ 255 := by simpa [Lit.wf, IntKind.min, IntKind.max, IntKind.signed, IntKind.bits] using this
    omega
theorem int_read {fuel : Nat} {c : Value} {y : DataW H × List MemPlace} (h : DataW.trod enc Try.prog W 0 (fun _ => true) true fuel 3 [c] = some y) : ∃ n : Int, c = .int .i64 n ∧ (Lit.int .i64 n).wf = true := by
  obtain ⟨a, e0, _, wa⟩ := DataW.trod_int Try.underlying3 h
  injection e0 with e0 _
  exact ⟨a, e0, wa⟩
/-- What a call's five cells read as. -/
def OpCs (W : World) (cs : List Value) (p : Opr) : Prop :=
  ∃ bv, cs = [.int .i64 p.kind, .int .i64 p.k, .int .i64 p.off, .int .i64 p.n, bv] ∧ Slc .u8 W bv p.xs ∧ (Lit.int .i64 p.off).wf = true ∧ (Lit.int .i64 p.n).wf = true ∧ ∀ x ∈ p.xs, x < 256
theorem list5 {α : Type} {cs : List α} (h : cs.length = 5) : ∃ c0 c1 c2 c3 c4, cs = [c0, c1, c2, c3, c4] := by
  match cs, h with
  | [c0, c1, c2, c3, c4], _ => exact ⟨c0, c1, c2, c3, c4, rfl⟩
theorem cellsOp : Try.prog.cellsOf 33 = 5 := by kernel_rfl
theorem op_read {fuel : Nat} {cs : List Value} {y : DataW H × List MemPlace} (h : DataW.trod enc Try.prog W 0 (fun _ => true) true fuel 33 cs = some y) : ∃ p, OpCs W cs p := by
  obtain ⟨xs, n, _, _, hl, hlen, hf⟩ := DataW.trod_struct Try.underlying33 h
  rw [cellsOp] at hl
  obtain ⟨c0, c1, c2, c3, c4, rfl⟩ := list5 hl
  have hx : ∀ i, i < 5 → ∃ y, xs[i]? = some y := fun i hi => ⟨_, List.getElem?_eq_getElem (by rw [hlen]; exact hi)⟩
  obtain ⟨y0, e0⟩ := hx 0 (by omega)
  obtain ⟨y1, e1⟩ := hx 1 (by omega)
  obtain ⟨y2, e2⟩ := hx 2 (by omega)
  obtain ⟨y3, e3⟩ := hx 3 (by omega)
  obtain ⟨y4, e4⟩ := hx 4 (by omega)
  have ci : Try.prog.cellsOf 3 = 1 := by kernel_rfl
  have cs8 : Try.prog.cellsOf 31 = 1 := by kernel_rfl
  have f0 : DataW.trod enc Try.prog W 0 (fun _ => true) true n 3 ((([c0, c1, c2, c3, c4] : List Value).drop 0).take (Try.prog.cellsOf 3)) = some y0 := (hf 0 _ rfl).trans e0
  have f1 : DataW.trod enc Try.prog W 0 (fun _ => true) true n 3 ((([c0, c1, c2, c3, c4] : List Value).drop 1).take (Try.prog.cellsOf 3)) = some y1 := (hf 1 _ rfl).trans e1
  have f2 : DataW.trod enc Try.prog W 0 (fun _ => true) true n 3 ((([c0, c1, c2, c3, c4] : List Value).drop 2).take (Try.prog.cellsOf 3)) = some y2 := (hf 2 _ rfl).trans e2
  have f3 : DataW.trod enc Try.prog W 0 (fun _ => true) true n 3 ((([c0, c1, c2, c3, c4] : List Value).drop 3).take (Try.prog.cellsOf 3)) = some y3 := (hf 3 _ rfl).trans e3
  have f4 : DataW.trod enc Try.prog W 0 (fun _ => true) true n 31 ((([c0, c1, c2, c3, c4] : List Value).drop 4).take (Try.prog.cellsOf 31)) = some y4 := (hf 4 _ rfl).trans e4
  simp only [ci, cs8, List.drop_zero, List.drop_succ_cons, List.take_succ_cons, List.take_zero] at f0 f1 f2 f3 f4
  obtain ⟨a0, rfl, _⟩ := int_read f0
  obtain ⟨a1, rfl, _⟩ := int_read f1
  obtain ⟨a2, rfl, w2⟩ := int_read f2
  obtain ⟨a3, rfl, w3⟩ := int_read f3
  obtain ⟨l, hs, hb⟩ := slc_read f4
  exact ⟨⟨a0, a1, a2, a3, l⟩, c4, rfl, hs, w2, w3, hb⟩
instance : Inhabited Opr := ⟨⟨0, 0, 0, 0, []⟩⟩
theorem opAt_of (b o : Nat) (cs : List Value) (p : Opr) (h : W.cells? 0 ⟨b, o, none⟩ 5 = some cs) (hp : OpCs W cs p) : OpAt W b o p := by
  obtain ⟨bv, rfl, hs, w2, w3, hb⟩ := hp
  have hg : ∀ i v, i < 5 → [Value.int .i64 p.kind, .int .i64 p.k, .int .i64 p.off, .int .i64 p.n, bv][i]? = some v → W.cell? ⟨b, o + i, none⟩ = some v := fun i v hi hv => by
    unfold World.cells? at h
    rw [if_pos (Nat.zero_le _)] at h
    have := mapM_some_get h i i (by simp [hi])
    rw [← hv, ← this, Addr.add_mid]
  exact ⟨hg 0 _ (by omega) rfl, hg 1 _ (by omega) rfl, hg 2 _ (by omega) rfl, hg 3 _ (by omega) rfl, ⟨bv, hg 4 _ (by omega) rfl, hs⟩, w2, w3, hb⟩
theorem ops_read {v : Value} {d : DataW H} {ps : List MemPlace} (hv : ∃ a len cap, v = .slice a len cap) (h : DataW.Trod enc Try.prog W 0 (fun _ => true) true 22 v d ps) : ∃ ops, OpsAt W v ops := by
  obtain ⟨a, len, cap, rfl⟩ := hv
  obtain ⟨fuel, hf⟩ := h
  rcases Deep.open_slice Try.underlying22 hf with ⟨hcs, _⟩ | ⟨x, l, c, m, n, D, Pl, hcs, hb, hl, hm, hmm, _, hel⟩
  · simp [Value.cells] at hcs
    obtain ⟨rfl, rfl, rfl⟩ := hcs
    exact ⟨[], none, 0, rfl, Nat.le_refl _, Nat.zero_le _, .inl rfl⟩
  · simp [Value.cells] at hcs
    obtain ⟨rfl, rfl, rfl⟩ := hcs
    have hlm : len ≤ m := by rw [hmm]; simpa using hl
    have hel2 : ∀ i, i < len → ∃ p cs, W.cells? 0 (x.add (i * 5)) 5 = some cs ∧ OpCs W cs p := fun i hi => by
      obtain ⟨cs, h1, h2⟩ := hel i (by omega)
      rw [cellsOp] at h1
      obtain ⟨p, hp⟩ := op_read h2
      exact ⟨p, cs, h1, hp⟩
    obtain ⟨f, hfx⟩ := Deep.choose_lt (α := Opr) (p := fun i p => ∃ cs, W.cells? 0 (x.add (i * 5)) 5 = some cs ∧ OpCs W cs p) hel2
    refine ⟨(List.range len).map f, some x, cap, by simp, by simpa using hl, hm, ?_⟩
    by_cases h0 : len = 0
    · left; subst h0; rfl
    · right
      obtain ⟨b, off, spot⟩ := x
      obtain ⟨cs, h1, h2⟩ := hfx 0 (by omega)
      obtain ⟨bv, rfl, _⟩ := h2
      have hc0 : W.cell? ((⟨b, off, spot⟩ : Addr)) = some (.int .i64 (f 0).kind) := by
        unfold World.cells? at h1
        rw [if_pos (Nat.zero_le _)] at h1
        have := mapM_some_get h1 0 0 rfl
        simpa [Addr.add] using this
      have hspot : spot = none := by simpa using World.cell?_spot hc0
      subst hspot
      refine ⟨b, off, rfl, World.block_lt_of_cell? _ _ hc0, fun i hi => ?_⟩
      have hi' : i < len := by simpa using hi
      obtain ⟨cs, h3, h4⟩ := hfx i hi'
      rw [Addr.add_mid] at h3
      have : ((List.range len).map f)[i]'hi = f i := by simp
      rw [this]
      exact opAt_of b _ cs _ h3 h4
/-- A call as a parameter. -/
theorem op_arg {v : Value} {d : DataW H} {ps : List MemPlace} (hv : ∃ cs, v = .agg cs ∧ cs.size = Try.prog.cellsOf 33) (h : DataW.Trod enc Try.prog W 0 (fun _ => true) true 33 v d ps) :
    ∃ (p : Opr) (bv : Value), v = .agg #[.int .i64 p.kind, .int .i64 p.k, .int .i64 p.off, .int .i64 p.n, bv] ∧ Slc .u8 W bv p.xs ∧ (Lit.int .i64 p.off).wf = true ∧ (Lit.int .i64 p.n).wf = true ∧ ∀ x ∈ p.xs, x < 256 := by
  obtain ⟨cs, rfl, _⟩ := hv
  obtain ⟨fuel, hf⟩ := h
  obtain ⟨p, bv, hcs, r⟩ := op_read hf
  refine ⟨p, bv, ?_, r⟩
  have : cs.toList = [.int .i64 p.kind, .int .i64 p.k, .int .i64 p.off, .int .i64 p.n, bv] := hcs
  congr 1
  apply Array.ext'
  rw [this]
end
end Go.Proofs.Ytompcmbaiegkaaa.Op
