/-
  What a law's arguments read as: a call, eight registers, a list of calls.
-/
import Derived.Test.YtlddjjkbnhhfaaaDoorClj
import Derived.ProofKit
import Derived.OpenShut
import Derived.Deep.Slices
import Derived.Lib.SmallJoins
namespace Go.Proofs.YtlddjjkbnhhfaaaDoor.Clv
open Go Go.RowKit Kit IsaM Cla Clt Clf Bk Clh Cli Clj
open Go.ChangeShapes Go.WideShapes
set_option linter.unusedVariables false
set_option maxRecDepth 100000

instance : Inhabited Cl := ⟨zc⟩
def uv (x : Nat) : Value := .int .u32 (x : Int)
/-- A call at a place. -/
def ClAt (w : World) (b o : Nat) (x : Cl) : Prop := (w.cell? ⟨b, o, none⟩ = some (.int .i64 x.n) ∧ w.cell? ⟨b, o + 1, none⟩ = some (uv x.a) ∧ w.cell? ⟨b, o + 2, none⟩ = some (uv x.b) ∧ w.cell? ⟨b, o + 3, none⟩ = some (uv x.c)) ∧ Wf x
/-- A list of calls. -/
def ClsAt (w : World) (v : Value) (l : List Cl) : Prop :=
  ∃ a cap, v = .slice a l.length cap ∧ l.length ≤ cap ∧ cap ≤ maxLen ∧ (l = [] ∨ ∃ b off, a = some ⟨b, off, none⟩ ∧ b < w.heap.size ∧ ∀ i (h : i < l.length), ClAt w b (off + i * 4) l[i])
theorem ClAt.below {w w' : World} {b o : Nat} {x : Cl} (h : ClAt w b o x) (hlt : b < w.heap.size) (hb : Below w.heap.size w w') : ClAt w' b o x :=
  ⟨⟨(hb.cell (p := ⟨b, o, none⟩) hlt).trans h.1.1, (hb.cell (p := ⟨b, o + 1, none⟩) hlt).trans h.1.2.1, (hb.cell (p := ⟨b, o + 2, none⟩) hlt).trans h.1.2.2.1, (hb.cell (p := ⟨b, o + 3, none⟩) hlt).trans h.1.2.2.2⟩, h.2⟩
theorem ClsAt.below {w w' : World} {v : Value} {l : List Cl} (h : ClsAt w v l) (hb : Below w.heap.size w w') : ClsAt w' v l := by
  obtain ⟨a, cap, h1, h2, h3, h4⟩ := h
  refine ⟨a, cap, h1, h2, h3, ?_⟩
  rcases h4 with h4 | ⟨b, off, e, hlt, h5⟩
  · exact .inl h4
  · exact .inr ⟨b, off, e, Nat.lt_of_lt_of_le hlt hb.size, fun i hi => (h5 i hi).below hlt hb⟩
section
variable {H : Type} {enc : TypeId × Value → H} {W : World}
theorem u32_read {fuel : Nat} {c : Value} {y : DataW H × List MemPlace} (h : DataW.trod enc Tryd.prog W 0 (fun _ => true) true fuel 22 [c] = some y) : ∃ n : Nat, c = uv n ∧ n < 4294967296 := by
  obtain ⟨a, e0, _, wa⟩ := DataW.trod_int Tryd.underlying22 h
  injection e0 with e0 _
  obtain ⟨m, rfl, hm⟩ := u32_nat wa
  exact ⟨m, e0, hm⟩
theorem int_read {fuel : Nat} {c : Value} {y : DataW H × List MemPlace} (h : DataW.trod enc Tryd.prog W 0 (fun _ => true) true fuel 3 [c] = some y) : ∃ n : Int, c = .int .i64 n ∧ (Lit.int .i64 n).wf = true := by
  obtain ⟨a, e0, _, wa⟩ := DataW.trod_int Tryd.underlying3 h
  injection e0 with e0 _
  exact ⟨a, e0, wa⟩
theorem list4 {α : Type} {cs : List α} (h : cs.length = 4) : ∃ c0 c1 c2 c3, cs = [c0, c1, c2, c3] := by
  match cs, h with
  | [c0, c1, c2, c3], _ => exact ⟨c0, c1, c2, c3, rfl⟩
theorem list8 {α : Type} {cs : List α} (h : cs.length = 8) : ∃ c0 c1 c2 c3 c4 c5 c6 c7, cs = [c0, c1, c2, c3, c4, c5, c6, c7] := by
  match cs, h with
  | [c0, c1, c2, c3, c4, c5, c6, c7], _ => exact ⟨c0, c1, c2, c3, c4, c5, c6, c7, rfl⟩
theorem cellsC : Tryd.prog.cellsOf 27 = 4 := by kernel_rfl
theorem cellsR : Tryd.prog.cellsOf 23 = 8 := by kernel_rfl
theorem cells3 : Tryd.prog.cellsOf 25 = 3 := by kernel_rfl
theorem cu : Tryd.prog.cellsOf 22 = 1 := by kernel_rfl
theorem ci : Tryd.prog.cellsOf 3 = 1 := by kernel_rfl
theorem call_read {fuel : Nat} {cs : List Value} {y : DataW H × List MemPlace} (h : DataW.trod enc Tryd.prog W 0 (fun _ => true) true fuel 27 cs = some y) : ∃ x : Cl, cs = [.int .i64 x.n, uv x.a, uv x.b, uv x.c] ∧ Wf x := by
  obtain ⟨xs, n, _, _, hl, hlen, hf⟩ := DataW.trod_struct Tryd.underlying27 h
  rw [cellsC] at hl
  obtain ⟨c0, c1, c2, c3, rfl⟩ := list4 hl
  have hx : ∀ i, i < 2 → ∃ y, xs[i]? = some y := fun i hi => ⟨_, List.getElem?_eq_getElem (by rw [hlen]; exact hi)⟩
  obtain ⟨y0, e0⟩ := hx 0 (by omega)
  obtain ⟨y1, e1⟩ := hx 1 (by omega)
  have f0 : DataW.trod enc Tryd.prog W 0 (fun _ => true) true n 3 ((([c0, c1, c2, c3] : List Value).drop 0).take (Tryd.prog.cellsOf 3)) = some y0 := (hf 0 _ rfl).trans e0
  have f1 : DataW.trod enc Tryd.prog W 0 (fun _ => true) true n 25 ((([c0, c1, c2, c3] : List Value).drop 1).take (Tryd.prog.cellsOf 25)) = some y1 := (hf 1 _ rfl).trans e1
  simp only [ci, cells3, List.drop_zero, List.drop_succ_cons, List.take_succ_cons, List.take_zero] at f0 f1
  obtain ⟨zs, m, _, _, _, hzl, hz⟩ := DataW.trod_array Tryd.underlying25 f1
  have hzx : ∀ i, i < 3 → ∃ y, zs[i]? = some y := fun i hi => ⟨_, List.getElem?_eq_getElem (by rw [hzl]; exact hi)⟩
  obtain ⟨q0, j0⟩ := hzx 0 (by omega)
  obtain ⟨q1, j1⟩ := hzx 1 (by omega)
  obtain ⟨q2, j2⟩ := hzx 2 (by omega)
  have g0 := (hz 0 (by omega)).trans j0
  have g1 := (hz 1 (by omega)).trans j1
  have g2 := (hz 2 (by omega)).trans j2
  simp only [cu, Nat.mul_one, List.drop_zero, List.drop_succ_cons, List.take_succ_cons, List.take_zero] at g0 g1 g2
  obtain ⟨a0, rfl, w0⟩ := int_read f0
  obtain ⟨a1, rfl, w1⟩ := u32_read g0
  obtain ⟨a2, rfl, w2⟩ := u32_read g1
  obtain ⟨a3, rfl, w3⟩ := u32_read g2
  exact ⟨⟨a0, a1, a2, a3⟩, rfl, w0, w1, w2, w3⟩
theorem call_arg {v : Value} {d : DataW H} {ps : List MemPlace} (hv : ∃ cs, v = .agg cs ∧ cs.size = Tryd.prog.cellsOf 27) (h : DataW.Trod enc Tryd.prog W 0 (fun _ => true) true 27 v d ps) :
    ∃ x : Cl, v = cv x ∧ Wf x := by
  obtain ⟨cs, rfl, _⟩ := hv
  obtain ⟨fuel, hf⟩ := h
  obtain ⟨x, hcs, r⟩ := call_read hf
  refine ⟨x, ?_, r⟩
  unfold cv
  congr 1
  apply Array.ext'
  exact hcs
def lst (l : List Nat) (i : Nat) : Nat := l[i]?.getD 0
theorem lst_bd (l : List Nat) (h : ∀ x ∈ l, x < 4294967296) (i : Nat) : lst l i < 4294967296 := by
  unfold lst
  cases e : l[i]? with
  | none => simp
  | some x => exact h x (List.mem_of_getElem? e)
theorem regs_arg {v : Value} {d : DataW H} {ps : List MemPlace} (hv : ∃ cs, v = .agg cs) (h : DataW.Trod enc Tryd.prog W 0 (fun _ => true) true 23 v d ps) :
    ∃ r : Nat → Nat, v = rv r ∧ ∀ i, r i < 4294967296 := by
  obtain ⟨cs, rfl⟩ := hv
  obtain ⟨fuel, hf⟩ := h
  obtain ⟨zs, m, _, _, hcl, hzl, hz⟩ := DataW.trod_array Tryd.underlying23 hf
  have hcc : (Value.agg cs).cells.toList = cs.toList := rfl
  rw [hcc] at hcl hz
  rw [cellsR] at hcl
  obtain ⟨c0, c1, c2, c3, c4, c5, c6, c7, hc⟩ := list8 hcl
  rw [hc] at hz
  have hzx : ∀ i, i < 8 → ∃ y, zs[i]? = some y := fun i hi => ⟨_, List.getElem?_eq_getElem (by rw [hzl]; exact hi)⟩
  obtain ⟨q0, j0⟩ := hzx 0 (by omega)
  obtain ⟨q1, j1⟩ := hzx 1 (by omega)
  obtain ⟨q2, j2⟩ := hzx 2 (by omega)
  obtain ⟨q3, j3⟩ := hzx 3 (by omega)
  obtain ⟨q4, j4⟩ := hzx 4 (by omega)
  obtain ⟨q5, j5⟩ := hzx 5 (by omega)
  obtain ⟨q6, j6⟩ := hzx 6 (by omega)
  obtain ⟨q7, j7⟩ := hzx 7 (by omega)
  have g0 := (hz 0 (by omega)).trans j0
  have g1 := (hz 1 (by omega)).trans j1
  have g2 := (hz 2 (by omega)).trans j2
  have g3 := (hz 3 (by omega)).trans j3
  have g4 := (hz 4 (by omega)).trans j4
  have g5 := (hz 5 (by omega)).trans j5
  have g6 := (hz 6 (by omega)).trans j6
  have g7 := (hz 7 (by omega)).trans j7
  simp only [cu, Nat.mul_one, List.drop_zero, List.drop_succ_cons, List.take_succ_cons, List.take_zero] at g0 g1 g2 g3 g4 g5 g6 g7
  obtain ⟨a0, rfl, w0⟩ := u32_read g0
  obtain ⟨a1, rfl, w1⟩ := u32_read g1
  obtain ⟨a2, rfl, w2⟩ := u32_read g2
  obtain ⟨a3, rfl, w3⟩ := u32_read g3
  obtain ⟨a4, rfl, w4⟩ := u32_read g4
  obtain ⟨a5, rfl, w5⟩ := u32_read g5
  obtain ⟨a6, rfl, w6⟩ := u32_read g6
  obtain ⟨a7, rfl, w7⟩ := u32_read g7
  refine ⟨lst [a0, a1, a2, a3, a4, a5, a6, a7], ?_, lst_bd _ (by
    intro v hv
    simp only [List.mem_cons, List.not_mem_nil, or_false] at hv
    rcases hv with rfl | rfl | rfl | rfl | rfl | rfl | rfl | rfl <;> assumption)⟩
  unfold rv
  congr 1
  apply Array.ext'
  exact hc
theorem okWide_regs {v : Value} {r : Reach} {base : Nat} (h : Value.okWide Tryd.prog W r base 23 v) : ∃ cs, v = .agg cs := by
  simp only [Value.okWide, Tryd.underlying23] at h
  obtain ⟨cs, h1, _⟩ := h
  exact ⟨cs, h1⟩
def ClCs (cs : List Value) (x : Cl) : Prop := cs = [.int .i64 x.n, uv x.a, uv x.b, uv x.c] ∧ Wf x
theorem clAt_of (b o : Nat) (cs : List Value) (x : Cl) (h : W.cells? 0 ⟨b, o, none⟩ 4 = some cs) (hp : ClCs cs x) : ClAt W b o x := by
  obtain ⟨rfl, hk⟩ := hp
  have hg : ∀ i v, i < 4 → [Value.int .i64 x.n, uv x.a, uv x.b, uv x.c][i]? = some v → W.cell? ⟨b, o + i, none⟩ = some v := fun i v hi hv => by
    unfold World.cells? at h
    rw [if_pos (Nat.zero_le _)] at h
    have := mapM_some_get h i i (by simp [hi])
    rw [← hv, ← this, Addr.add_mid]
  exact ⟨⟨hg 0 _ (by omega) rfl, hg 1 _ (by omega) rfl, hg 2 _ (by omega) rfl, hg 3 _ (by omega) rfl⟩, hk⟩
theorem calls_arg {v : Value} {d : DataW H} {ps : List MemPlace} (hv : ∃ a len cap, v = .slice a len cap) (h : DataW.Trod enc Tryd.prog W 0 (fun _ => true) true 35 v d ps) : ∃ ops, ClsAt W v ops := by
  obtain ⟨a, len, cap, rfl⟩ := hv
  obtain ⟨fuel, hf⟩ := h
  rcases Deep.open_slice Tryd.underlying35 hf with ⟨hcs, _⟩ | ⟨x, l, c, m, n, D, Pl, hcs, hb, hl, hm, hmm, _, hel⟩
  · simp [Value.cells] at hcs
    obtain ⟨rfl, rfl, rfl⟩ := hcs
    exact ⟨[], none, 0, rfl, Nat.le_refl _, Nat.zero_le _, .inl rfl⟩
  · simp [Value.cells] at hcs
    obtain ⟨rfl, rfl, rfl⟩ := hcs
    have hlm : len ≤ m := by rw [hmm]; simpa using hl
    have hel2 : ∀ i, i < len → ∃ p cs, W.cells? 0 (x.add (i * 4)) 4 = some cs ∧ ClCs cs p := fun i hi => by
      obtain ⟨cs, h1, h2⟩ := hel i (by omega)
      rw [cellsC] at h1
      obtain ⟨p, hp⟩ := call_read h2
      exact ⟨p, cs, h1, hp⟩
    obtain ⟨f, hfx⟩ := Deep.choose_lt (α := Cl) (p := fun i p => ∃ cs, W.cells? 0 (x.add (i * 4)) 4 = some cs ∧ ClCs cs p) hel2
    refine ⟨(List.range len).map f, some x, cap, by simp, by simpa using hl, hm, ?_⟩
    by_cases h0 : len = 0
    · left; subst h0; rfl
    · right
      obtain ⟨b, off, spot⟩ := x
      obtain ⟨cs, h1, h2, _⟩ := hfx 0 (by omega)
      subst h2
      have hc0 : W.cell? ((⟨b, off, spot⟩ : Addr)) = some (.int .i64 (f 0).n) := by
        unfold World.cells? at h1
        rw [if_pos (Nat.zero_le _)] at h1
        have := mapM_some_get h1 0 0 rfl
        simpa [Addr.add] using this
      have hspot : spot = none := by simpa using World.cell?_spot hc0
      subst hspot
      refine ⟨b, off, rfl, World.block_lt_of_cell? _ _ hc0, fun i hi => ?_⟩
      have hi' : i < len := by simpa using hi
      obtain ⟨cs, h3, h4⟩ := hfx i hi'
      rw [Addr.add_mid] at h3
      have : ((List.range len).map f)[i]'hi = f i := by simp
      rw [this]
      exact clAt_of b _ cs _ h3 h4
end
end Go.Proofs.YtlddjjkbnhhfaaaDoor.Clv
