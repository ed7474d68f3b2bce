/-
  What a law's arguments read as: a list of calls, a call, a start, bytes; Great.
-/
import Derived.Test.YtfpdbcjnhgddoaaPal
import Derived.ProofKit
import Derived.OpenShut
import Derived.Deep.Slices
import Derived.Lib.SmallJoins
namespace Go.Proofs.Ytfpdbcjnhgddoaa.Pop
open Go Go.RowKit Kit Bk Rgm Rgw
open Go.ChangeShapes Go.WideShapes
set_option linter.unusedVariables false

structure Opr where
  kind : Int
  xs : List Nat
  n : Int
  w : Bool
instance : Inhabited Opr := ⟨⟨0, [], 0, false⟩⟩
/-- A call lies there. -/
def OpAt (w : World) (b o : Nat) (p : Opr) : Prop :=
  w.cell? ⟨b, o, none⟩ = some (.int .i64 p.kind) ∧ (∃ bv, w.cell? ⟨b, o + 1, none⟩ = some bv ∧ Slc .u8 w bv p.xs) ∧ w.cell? ⟨b, o + 2, none⟩ = some (.int .i64 p.n) ∧ w.cell? ⟨b, o + 3, none⟩ = some (.bool p.w) ∧ (Lit.int .i64 p.n).wf = true
def OpsAt (w : World) (v : Value) (ops : List Opr) : Prop :=
  ∃ a cap, v = .slice a ops.length cap ∧ ops.length ≤ cap ∧ cap ≤ maxLen ∧ (ops = [] ∨ ∃ b off, a = some ⟨b, off, none⟩ ∧ b < w.heap.size ∧ ∀ i (h : i < ops.length), OpAt w b (off + i * 4) ops[i])
theorem OpAt.below {w w' : World} {b o : Nat} {p : Opr} (h : OpAt w b o p) (hb : Below w.heap.size w w') (hlt : b < w.heap.size) : OpAt w' b o p := by
  obtain ⟨c0, ⟨bv, c1, hs⟩, c2, c3, r⟩ := h
  exact ⟨(hb.cell (p := ⟨b, o, none⟩) hlt).trans c0, ⟨bv, (hb.cell (p := ⟨b, o + 1, none⟩) hlt).trans c1, hs.below hb⟩, (hb.cell (p := ⟨b, o + 2, none⟩) hlt).trans c2, (hb.cell (p := ⟨b, o + 3, none⟩) hlt).trans c3, r⟩
theorem OpsAt.below {w w' : World} {v : Value} {ops : List Opr} (h : OpsAt w v ops) (hb : Below w.heap.size w w') : OpsAt w' v ops := by
  obtain ⟨a, cap, h1, h2, h3, h4⟩ := h
  refine ⟨a, cap, h1, h2, h3, h4.imp id ?_⟩
  rintro ⟨b, off, e, hlt, h5⟩
  exact ⟨b, off, e, Nat.lt_of_lt_of_le hlt hb.size, fun i hi => (h5 i hi).below hb hlt⟩
/-- What lay there when the law began lies beside its rings. -/
theorem src_of {w w' : World} {v : Value} {ys : List Nat} {p : Nat} (h : Slc .u8 w v ys) (hb : Below w.heap.size w w') (hp : w.heap.size ≤ p) : Src w' p v ys := by
  obtain ⟨a, cap, h1, h2, h3, h4⟩ := h
  refine ⟨a, cap, h1, h2, h3, h4.imp id ?_⟩
  rintro ⟨b, off, e, hlt, hc⟩
  exact ⟨b, off, e, by omega, Nat.lt_of_lt_of_le hlt hb.size, fun i hi => (hb.cell (p := ⟨b, off + i, none⟩) hlt).trans (hc i hi)⟩
section
variable {H : Type} {enc : TypeId × Value → H} {W : World}

theorem slc_read {fuel : Nat} {c : Value} {y : DataW H × List MemPlace} (h : DataW.trod enc Try.prog W 0 (fun _ => true) true fuel 22 [c] = some y) : ∃ xs : List Nat, Slc .u8 W c xs ∧ ∀ x ∈ xs, x < 256 := by
  rcases open_ints Try.underlying22 Try.underlying5 (by kernel_rfl) h with ⟨hcs, _⟩ | ⟨x, l, cp, zs, hcs, _, hl, hm, hz, _, hcell, hwz⟩
  · injection hcs with e _
    exact ⟨[], ⟨none, 0, e, Nat.le_refl _, Nat.zero_le _, .inl rfl⟩, by simp⟩
  · injection hcs with e _
    have hrow : IsRow .u8 W (some x) l cp zs := .inr ⟨x, rfl, hl, hm, by simpa using hz, hcell, hwz⟩
    obtain ⟨xs, h1, h2, h3⟩ := hrow.slc nn_u8
    refine ⟨xs, by rw [e]; exact h2, fun y hy => ?_⟩
    have := h3 y hy
    have hx : 0 ≤ (y : Int) ∧ (y : Int) ≤ 255 := by simpa [Lit.wf, IntKind.min, IntKind.max, IntKind.signed, IntKind.bits] using this
    omega
theorem int_read {fuel : Nat} {c : Value} {y : DataW H × List MemPlace} (h : DataW.trod enc Try.prog W 0 (fun _ => true) true fuel 3 [c] = some y) : ∃ n : Int, c = .int .i64 n ∧ (Lit.int .i64 n).wf = true := by
  obtain ⟨a, e0, _, wa⟩ := DataW.trod_int Try.underlying3 h
  injection e0 with e0 _
  exact ⟨a, e0, wa⟩
theorem bool_read {fuel : Nat} {c : Value} {y : DataW H × List MemPlace} (h : DataW.trod enc Try.prog W 0 (fun _ => true) true fuel 4 [c] = some y) : ∃ n : Bool, c = .bool n := by
  obtain ⟨a, e0, _⟩ := DataW.trod_bool Try.underlying4 h
  injection e0 with e0 _
  exact ⟨a, e0⟩
/-- What a call's four cells read as. -/
def OpCs (W : World) (cs : List Value) (p : Opr) : Prop :=
  ∃ bv, cs = [.int .i64 p.kind, bv, .int .i64 p.n, .bool p.w] ∧ Slc .u8 W bv p.xs ∧ (Lit.int .i64 p.n).wf = true
theorem list4 {α : Type} {cs : List α} (h : cs.length = 4) : ∃ c0 c1 c2 c3, cs = [c0, c1, c2, c3] := by
  match cs, h with
  | [c0, c1, c2, c3], _ => exact ⟨c0, c1, c2, c3, rfl⟩
theorem cellsOp : Try.prog.cellsOf 35 = 4 := by kernel_rfl
theorem op_read {fuel : Nat} {cs : List Value} {y : DataW H × List MemPlace} (h : DataW.trod enc Try.prog W 0 (fun _ => true) true fuel 35 cs = some y) : ∃ p, OpCs W cs p := by
  obtain ⟨xs, n, _, _, hl, hlen, hf⟩ := DataW.trod_struct Try.underlying35 h
  rw [cellsOp] at hl
  obtain ⟨c0, c1, c2, c3, rfl⟩ := list4 hl
  have hx : ∀ i, i < 4 → ∃ y, xs[i]? = some y := fun i hi => ⟨_, List.getElem?_eq_getElem (by rw [hlen]; exact hi)⟩
  obtain ⟨y0, e0⟩ := hx 0 (by omega)
  obtain ⟨y1, e1⟩ := hx 1 (by omega)
  obtain ⟨y2, e2⟩ := hx 2 (by omega)
  obtain ⟨y3, e3⟩ := hx 3 (by omega)
  have ci : Try.prog.cellsOf 3 = 1 := by kernel_rfl
  have cs8 : Try.prog.cellsOf 22 = 1 := by kernel_rfl
  have cb : Try.prog.cellsOf 4 = 1 := by kernel_rfl
  have f0 : DataW.trod enc Try.prog W 0 (fun _ => true) true n 3 ((([c0, c1, c2, c3] : List Value).drop 0).take (Try.prog.cellsOf 3)) = some y0 := (hf 0 _ rfl).trans e0
  have f1 : DataW.trod enc Try.prog W 0 (fun _ => true) true n 22 ((([c0, c1, c2, c3] : List Value).drop 1).take (Try.prog.cellsOf 22)) = some y1 := (hf 1 _ rfl).trans e1
  have f2 : DataW.trod enc Try.prog W 0 (fun _ => true) true n 3 ((([c0, c1, c2, c3] : List Value).drop 2).take (Try.prog.cellsOf 3)) = some y2 := (hf 2 _ rfl).trans e2
  have f3 : DataW.trod enc Try.prog W 0 (fun _ => true) true n 4 ((([c0, c1, c2, c3] : List Value).drop 3).take (Try.prog.cellsOf 4)) = some y3 := (hf 3 _ rfl).trans e3
  simp only [ci, cs8, cb, List.drop_zero, List.drop_succ_cons, List.take_succ_cons, List.take_zero] at f0 f1 f2 f3
  obtain ⟨a0, rfl, _⟩ := int_read f0
  obtain ⟨l, hs, _⟩ := slc_read f1
  obtain ⟨a2, rfl, w2⟩ := int_read f2
  obtain ⟨a3, rfl⟩ := bool_read f3
  exact ⟨⟨a0, l, a2, a3⟩, c1, rfl, hs, w2⟩
theorem opAt_of (b o : Nat) (cs : List Value) (p : Opr) (h : W.cells? 0 ⟨b, o, none⟩ 4 = some cs) (hp : OpCs W cs p) : OpAt W b o p := by
  obtain ⟨bv, rfl, hs, w2⟩ := hp
  have hg : ∀ i v, i < 4 → [Value.int .i64 p.kind, bv, .int .i64 p.n, .bool p.w][i]? = some v → W.cell? ⟨b, o + i, none⟩ = some v := fun i v hi hv => by
    unfold World.cells? at h
    rw [if_pos (Nat.zero_le _)] at h
    have := mapM_some_get h i i (by simp [hi])
    rw [← hv, ← this, Addr.add_mid]
  exact ⟨hg 0 _ (by omega) rfl, ⟨bv, hg 1 _ (by omega) rfl, hs⟩, hg 2 _ (by omega) rfl, hg 3 _ (by omega) rfl, w2⟩
theorem ops_read {v : Value} {d : DataW H} {ps : List MemPlace} (hv : ∃ a len cap, v = .slice a len cap) (h : DataW.Trod enc Try.prog W 0 (fun _ => true) true 25 v d ps) : ∃ ops, OpsAt W v ops := by
  obtain ⟨a, len, cap, rfl⟩ := hv
  obtain ⟨fuel, hf⟩ := h
  rcases Deep.open_slice Try.underlying25 hf with ⟨hcs, _⟩ | ⟨x, l, c, m, n, D, Pl, hcs, hb, hl, hm, hmm, _, hel⟩
  · simp [Value.cells] at hcs
    obtain ⟨rfl, rfl, rfl⟩ := hcs
    exact ⟨[], none, 0, rfl, Nat.le_refl _, Nat.zero_le _, .inl rfl⟩
  · simp [Value.cells] at hcs
    obtain ⟨rfl, rfl, rfl⟩ := hcs
    have hlm : len ≤ m := by rw [hmm]; simpa using hl
    have hel2 : ∀ i, i < len → ∃ p cs, W.cells? 0 (x.add (i * 4)) 4 = some cs ∧ OpCs W cs p := fun i hi => by
      obtain ⟨cs, h1, h2⟩ := hel i (by omega)
      rw [cellsOp] at h1
      obtain ⟨p, hp⟩ := op_read h2
      exact ⟨p, cs, h1, hp⟩
    obtain ⟨f, hfx⟩ := Deep.choose_lt (α := Opr) (p := fun i p => ∃ cs, W.cells? 0 (x.add (i * 4)) 4 = some cs ∧ OpCs W cs p) hel2
    refine ⟨(List.range len).map f, some x, cap, by simp, by simpa using hl, hm, ?_⟩
    by_cases h0 : len = 0
    · left; subst h0; rfl
    · right
      obtain ⟨b, off, spot⟩ := x
      obtain ⟨cs, h1, h2⟩ := hfx 0 (by omega)
      obtain ⟨bv, rfl, _⟩ := h2
      have hc0 : W.cell? ((⟨b, off, spot⟩ : Addr)) = some (.int .i64 (f 0).kind) := by
        unfold World.cells? at h1
        rw [if_pos (Nat.zero_le _)] at h1
        have := mapM_some_get h1 0 0 rfl
        simpa [Addr.add] using this
      have hspot : spot = none := by simpa using World.cell?_spot hc0
      subst hspot
      refine ⟨b, off, rfl, World.block_lt_of_cell? _ _ hc0, fun i hi => ?_⟩
      have hi' : i < len := by simpa using hi
      obtain ⟨cs, h3, h4⟩ := hfx i hi'
      rw [Addr.add_mid] at h3
      have : ((List.range len).map f)[i]'hi = f i := by simp
      rw [this]
      exact opAt_of b _ cs _ h3 h4
/-- A call as a parameter. -/
theorem op_arg {v : Value} {d : DataW H} {ps : List MemPlace} (hv : ∃ cs, v = .agg cs ∧ cs.size = Try.prog.cellsOf 35) (h : DataW.Trod enc Try.prog W 0 (fun _ => true) true 35 v d ps) :
    ∃ (p : Opr) (bv : Value), v = .agg #[.int .i64 p.kind, bv, .int .i64 p.n, .bool p.w] ∧ Slc .u8 W bv p.xs ∧ (Lit.int .i64 p.n).wf = true := by
  obtain ⟨cs, rfl, _⟩ := hv
  obtain ⟨fuel, hf⟩ := h
  obtain ⟨p, bv, hcs, r⟩ := op_read hf
  refine ⟨p, bv, ?_, r⟩
  have : cs.toList = [.int .i64 p.kind, bv, .int .i64 p.n, .bool p.w] := hcs
  congr 1
  apply Array.ext'
  rw [this]
/-- What a pipe is made of. -/
structure Str where
  c : Int
  xs : List Nat
  r : Int
  u : Int
theorem cellsSt : Try.prog.cellsOf 24 = 4 := by kernel_rfl
/-- A start as a parameter. -/
theorem st_arg {v : Value} {d : DataW H} {ps : List MemPlace} (hv : ∃ cs, v = .agg cs ∧ cs.size = Try.prog.cellsOf 24) (h : DataW.Trod enc Try.prog W 0 (fun _ => true) true 24 v d ps) :
    ∃ (s : Str) (bv : Value), v = .agg #[.int .i64 s.c, bv, .int .i64 s.r, .int .i64 s.u] ∧ Slc .u8 W bv s.xs ∧ (Lit.int .i64 s.c).wf = true ∧ (Lit.int .i64 s.r).wf = true ∧ (Lit.int .i64 s.u).wf = true := by
  obtain ⟨cs, rfl, hsz⟩ := hv
  obtain ⟨fuel, hf⟩ := h
  obtain ⟨xs, n, _, _, hl, hlen, hf⟩ := DataW.trod_struct Try.underlying24 hf
  rw [cellsSt] at hl
  obtain ⟨c0, c1, c2, c3, hcs⟩ := list4 hl
  rw [hcs] at hf
  have hx : ∀ i, i < 4 → ∃ y, xs[i]? = some y := fun i hi => ⟨_, List.getElem?_eq_getElem (by rw [hlen]; exact hi)⟩
  obtain ⟨y0, e0⟩ := hx 0 (by omega)
  obtain ⟨y1, e1⟩ := hx 1 (by omega)
  obtain ⟨y2, e2⟩ := hx 2 (by omega)
  obtain ⟨y3, e3⟩ := hx 3 (by omega)
  have ci : Try.prog.cellsOf 3 = 1 := by kernel_rfl
  have cs8 : Try.prog.cellsOf 22 = 1 := by kernel_rfl
  have f0 : DataW.trod enc Try.prog W 0 (fun _ => true) true n 3 ((([c0, c1, c2, c3] : List Value).drop 0).take (Try.prog.cellsOf 3)) = some y0 := (hf 0 _ rfl).trans e0
  have f1 : DataW.trod enc Try.prog W 0 (fun _ => true) true n 22 ((([c0, c1, c2, c3] : List Value).drop 1).take (Try.prog.cellsOf 22)) = some y1 := (hf 1 _ rfl).trans e1
  have f2 : DataW.trod enc Try.prog W 0 (fun _ => true) true n 3 ((([c0, c1, c2, c3] : List Value).drop 2).take (Try.prog.cellsOf 3)) = some y2 := (hf 2 _ rfl).trans e2
  have f3 : DataW.trod enc Try.prog W 0 (fun _ => true) true n 3 ((([c0, c1, c2, c3] : List Value).drop 3).take (Try.prog.cellsOf 3)) = some y3 := (hf 3 _ rfl).trans e3
  simp only [ci, cs8, List.drop_zero, List.drop_succ_cons, List.take_succ_cons, List.take_zero] at f0 f1 f2 f3
  obtain ⟨a0, rfl, w0⟩ := int_read f0
  obtain ⟨l, hs, _⟩ := slc_read f1
  obtain ⟨a2, rfl, w2⟩ := int_read f2
  obtain ⟨a3, rfl, w3⟩ := int_read f3
  refine ⟨⟨a0, l, a2, a3⟩, c1, ?_, hs, w0, w2, w3⟩
  congr 1
  apply Array.ext'
  exact hcs
end

/-- Calls that a law goes through. -/
def Fine (ops : List Opr) : Prop := ops.length ≤ 200 ∧ ∀ o ∈ ops, o.xs.length ≤ 200
theorem great_long (v : Value) (ops : List Opr) (w : World) (h : OpsAt w v ops) (hf : 200 < ops.length) :
    Calls Try.prog 9 #[v] w fun e w' => e = .returned (.int .i64 1) ∧ w = w' := by
  obtain ⟨a, cap, rfl, h1, h2, h3⟩ := h
  have d : decide ((200 : Int) < (ops.length : Int)) = true := decide_eq_true (by omega)
  clear h3 hf
  go_enter Try.func9, Try.ntmps9
  go_wp2
  go_ret
  exact ⟨rfl, rfl⟩
theorem great_fine (v : Value) (ops : List Opr) (w : World) (h : OpsAt w v ops) (hf : Fine ops) :
    Calls Try.prog 9 #[v] w fun e w' => e = .returned (.int .i64 0) ∧ w = w' := by
  obtain ⟨hf1, hf2⟩ := hf
  obtain ⟨a, cap, rfl, h1, h2, h3⟩ := h
  have d : decide ((200 : Int) < (ops.length : Int)) = false := decide_eq_false (by omega)
  have hl : (ops.length : Int) ≤ 200 := by omega
  go_enter Try.func9, Try.ntmps9
  go_wp2
  go_loop [9] (fun i => ∃ k : Nat, k ≤ ops.length ∧ i = .int .i64 (k : Int)) (fun i => ops.length - (intOf i).toNat)
  case atStart => exact ⟨0, Nat.zero_le _, rfl⟩
  case round =>
    obtain ⟨k, hk, rfl⟩ := hrel
    by_cases hlt : k < ops.length
    · rcases h3 with h0 | ⟨b, off, rfl, hb, h4⟩
      · subst h0; simp at hlt
      · obtain ⟨_, ⟨bv, c4, a2, cap2, rfl, _⟩, _⟩ := h4 k hlt
        have hx := hf2 _ (List.getElem_mem hlt)
        generalize ops[k].xs.length = L at *
        have d2 : decide ((200 : Int) < (L : Int)) = false := decide_eq_false (by omega)
        clear h4 hf2 hx
        go_wp2
        go_round
        case rel => exact ⟨k + 1, by omega, by go_num⟩
        case measure => simp [intOf]; omega
    · obtain rfl : k = ops.length := by omega
      clear h3 hf2
      go_wp2
      go_ret
      exact ⟨rfl, rfl⟩
theorem great_wide (v : Value) (ops : List Opr) (w : World) (h : OpsAt w v ops) (hf : ops.length ≤ 200) (m : Nat) (hm : m < ops.length) (hw : 200 < ops[m].xs.length) (hf2 : ∀ j (h : j < m), (ops[j]'(by omega)).xs.length ≤ 200) :
    Calls Try.prog 9 #[v] w fun e w' => e = .returned (.int .i64 1) ∧ w = w' := by
  obtain ⟨a, cap, rfl, h1, h2, h3⟩ := h
  have d : decide ((200 : Int) < (ops.length : Int)) = false := decide_eq_false (by omega)
  have hl : (ops.length : Int) ≤ 200 := by omega
  go_enter Try.func9, Try.ntmps9
  go_wp2
  go_loop [9] (fun i => ∃ k : Nat, k ≤ m ∧ i = .int .i64 (k : Int)) (fun i => m - (intOf i).toNat)
  case atStart => exact ⟨0, Nat.zero_le _, rfl⟩
  case round =>
    obtain ⟨k, hk, rfl⟩ := hrel
    rcases h3 with h0 | ⟨b, off, rfl, hb, h4⟩
    · subst h0; simp at hm
    · by_cases hlt : k < m
      · obtain ⟨_, ⟨bv, c4, a2, cap2, rfl, _⟩, _⟩ := h4 k (by omega)
        have hx := hf2 k hlt
        generalize (ops[k]'(by omega)).xs.length = L at *
        have d2 : decide ((200 : Int) < (L : Int)) = false := decide_eq_false (by omega)
        have hkl : (k : Int) < (ops.length : Int) := by omega
        clear h4 hf2 hx hw
        go_wp2
        go_round
        case rel => exact ⟨k + 1, by omega, by go_num⟩
        case measure => simp [intOf]; omega
      · obtain rfl : k = m := by omega
        obtain ⟨_, ⟨bv, c4, a2, cap2, rfl, _⟩, _⟩ := h4 k (by omega)
        generalize (ops[k]'(by omega)).xs.length = L at *
        have d2 : decide ((200 : Int) < (L : Int)) = true := decide_eq_true (by omega)
        have hkl : (k : Int) < (ops.length : Int) := by omega
        clear h4 hf2 hw
        go_wp2
        go_ret
        exact ⟨rfl, rfl⟩
theorem least_at (p : Nat → Prop) [∀ k, Decidable (p k)] (n : Nat) : (∀ k, k < n → ¬ p k) ∨ ∃ m, m < n ∧ p m ∧ ∀ k, k < m → ¬ p k := by
  induction n with
  | zero => exact .inl fun k hk => absurd hk (Nat.not_lt_zero _)
  | succ n ih =>
    rcases ih with h | ⟨m, h1, h2, h3⟩
    · by_cases hz : p n
      · exact .inr ⟨n, by omega, hz, h⟩
      · refine .inl fun k hk => ?_
        by_cases e : k = n
        · subst e; exact hz
        · exact h k (by omega)
    · exact .inr ⟨m, by omega, h2, h3⟩
theorem great_any (v : Value) (ops : List Opr) (w : World) (h : OpsAt w v ops) (hf : ¬ Fine ops) :
    Calls Try.prog 9 #[v] w fun e w' => e = .returned (.int .i64 1) ∧ w = w' := by
  by_cases hl : ops.length ≤ 200
  · rcases least_at (fun j => ∃ h : j < ops.length, 200 < ops[j].xs.length) ops.length with h1 | ⟨m, h1, ⟨_, h2⟩, h3⟩
    · refine absurd ⟨hl, fun o ho => ?_⟩ hf
      obtain ⟨j, hj, rfl⟩ := List.getElem_of_mem ho
      have := h1 j hj
      rcases Nat.lt_or_ge 200 ops[j].xs.length with h4 | h4
      · exact absurd ⟨hj, h4⟩ this
      · exact h4
    · refine great_wide v ops w h hl m h1 h2 (fun j hj => ?_)
      have := h3 j hj
      rcases Nat.lt_or_ge 200 (ops[j]'(by omega)).xs.length with h4 | h4
      · exact absurd ⟨by omega, h4⟩ this
      · exact h4
  · exact great_long v ops w h (by omega)
end Go.Proofs.Ytfpdbcjnhgddoaa.Pop
