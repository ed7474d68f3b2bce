/-
  What a law's arguments read as: a list of calls, a file; grown: what lies behind calls.
-/
import Derived.Test.YtmdldehdlggpkaaJz
import Derived.Test.YtmdldehdlggpkaaJw
import Derived.ProofKit
import Derived.OpenShut
import Derived.Deep.Slices
import Derived.Lib.SmallJoins
namespace Go.Proofs.Ytmdldehdlggpkaa.Jt
open Go Go.RowKit Kit Bk Jp Jm Ji Jo Ju Jd Je Jr Jq Js Jb Jx Jy Jz
open Go.ChangeShapes Go.WideShapes
set_option linter.unusedVariables false

/-- A call lies there. -/
def OpAt (w : World) (b o : Nat) (p : Opr) : Prop :=
  w.cell? ⟨b, o, none⟩ = some (.int .i64 p.kind) ∧ w.cell? ⟨b, o + 1, none⟩ = some (.int .i64 p.P) ∧ w.cell? ⟨b, o + 2, none⟩ = some (.bool p.V) ∧ w.cell? ⟨b, o + 3, none⟩ = some (.int .i64 p.n) ∧ w.cell? ⟨b, o + 4, none⟩ = some (.int .i64 p.fd)
def OpsAt (w : World) (v : Value) (ops : List Opr) : Prop :=
  ∃ a cap, v = .slice a ops.length cap ∧ ops.length ≤ cap ∧ cap ≤ maxLen ∧ (ops = [] ∨ ∃ b off, a = some ⟨b, off, none⟩ ∧ b < w.heap.size ∧ ∀ i (h : i < ops.length), OpAt w b (off + i * 5) ops[i])
theorem OpAt.below {w w' : World} {b o n : Nat} {p : Opr} (h : OpAt w b o p) (hb : Below n w w') (hlt : b < n) : OpAt w' b o p := by
  obtain ⟨c0, c1, c2, c3, c4⟩ := h
  exact ⟨(hb.cell (p := ⟨b, o, none⟩) hlt).trans c0, (hb.cell (p := ⟨b, o + 1, none⟩) hlt).trans c1, (hb.cell (p := ⟨b, o + 2, none⟩) hlt).trans c2, (hb.cell (p := ⟨b, o + 3, none⟩) hlt).trans c3, (hb.cell (p := ⟨b, o + 4, none⟩) hlt).trans c4⟩
theorem OpsAt.below {w w' : World} {v : Value} {ops : List Opr} (h : OpsAt w v ops) (hb : Below w.heap.size w w') : OpsAt w' v ops := by
  obtain ⟨a, cap, h1, h2, h3, h4⟩ := h
  refine ⟨a, cap, h1, h2, h3, h4.imp id ?_⟩
  rintro ⟨b, off, e, hlt, h5⟩
  exact ⟨b, off, e, Nat.lt_of_lt_of_le hlt hb.size, fun i hi => (h5 i hi).below hb hlt⟩
section
variable {H : Type} {enc : TypeId × Value → H} {W : World}

theorem int_read {fuel : Nat} {c : Value} {y : DataW H × List MemPlace} (h : DataW.trod enc Try.prog W 0 (fun _ => true) true fuel 3 [c] = some y) : ∃ n : Int, c = .int .i64 n ∧ (Lit.int .i64 n).wf = true := by
  obtain ⟨a, e0, _, wa⟩ := DataW.trod_int Try.underlying3 h
  injection e0 with e0 _
  exact ⟨a, e0, wa⟩
theorem bool_read {fuel : Nat} {c : Value} {y : DataW H × List MemPlace} (h : DataW.trod enc Try.prog W 0 (fun _ => true) true fuel 4 [c] = some y) : ∃ n : Bool, c = .bool n := by
  obtain ⟨a, e0, _⟩ := DataW.trod_bool Try.underlying4 h
  injection e0 with e0 _
  exact ⟨a, e0⟩
theorem ci : Try.prog.cellsOf 3 = 1 := by kernel_rfl
theorem cb : Try.prog.cellsOf 4 = 1 := by kernel_rfl
theorem cf : Try.prog.cellsOf 26 = 2 := by kernel_rfl
theorem list2 {α : Type} {cs : List α} (h : cs.length = 2) : ∃ c0 c1, cs = [c0, c1] := by
  match cs, h with
  | [c0, c1], _ => exact ⟨c0, c1, rfl⟩
theorem list5 {α : Type} {cs : List α} (h : cs.length = 5) : ∃ c0 c1 c2 c3 c4, cs = [c0, c1, c2, c3, c4] := by
  match cs, h with
  | [c0, c1, c2, c3, c4], _ => exact ⟨c0, c1, c2, c3, c4, rfl⟩
theorem file_read {fuel : Nat} {cs : List Value} {y : DataW H × List MemPlace} (h : DataW.trod enc Try.prog W 0 (fun _ => true) true fuel 26 cs = some y) : ∃ (P : Int) (V : Bool), cs = [.int .i64 P, .bool V] ∧ (Lit.int .i64 P).wf = true := by
  obtain ⟨xs, n, _, _, hl, hlen, hf⟩ := DataW.trod_struct Try.underlying26 h
  rw [cf] at hl
  obtain ⟨c0, c1, rfl⟩ := list2 hl
  have hx : ∀ i, i < 2 → ∃ y, xs[i]? = some y := fun i hi => ⟨_, List.getElem?_eq_getElem (by rw [hlen]; exact hi)⟩
  obtain ⟨y0, e0⟩ := hx 0 (by omega)
  obtain ⟨y1, e1⟩ := hx 1 (by omega)
  have f0 : DataW.trod enc Try.prog W 0 (fun _ => true) true n 3 ((([c0, c1] : List Value).drop 0).take (Try.prog.cellsOf 3)) = some y0 := (hf 0 _ rfl).trans e0
  have f1 : DataW.trod enc Try.prog W 0 (fun _ => true) true n 4 ((([c0, c1] : List Value).drop 1).take (Try.prog.cellsOf 4)) = some y1 := (hf 1 _ rfl).trans e1
  simp only [ci, cb, List.drop_zero, List.drop_succ_cons, List.take_succ_cons, List.take_zero] at f0 f1
  obtain ⟨a0, rfl, wa⟩ := int_read f0
  obtain ⟨a1, rfl⟩ := bool_read f1
  exact ⟨a0, a1, rfl, wa⟩
/-- What a call's five cells read as. -/
def OpCs (cs : List Value) (p : Opr) : Prop := cs = [.int .i64 p.kind, .int .i64 p.P, .bool p.V, .int .i64 p.n, .int .i64 p.fd]
theorem cellsOp : Try.prog.cellsOf 28 = 5 := by kernel_rfl
theorem op_read {fuel : Nat} {cs : List Value} {y : DataW H × List MemPlace} (h : DataW.trod enc Try.prog W 0 (fun _ => true) true fuel 28 cs = some y) : ∃ p, OpCs cs p := by
  obtain ⟨xs, n, _, _, hl, hlen, hf⟩ := DataW.trod_struct Try.underlying28 h
  rw [cellsOp] at hl
  obtain ⟨c0, c1, c2, c3, c4, rfl⟩ := list5 hl
  have hx : ∀ i, i < 4 → ∃ y, xs[i]? = some y := fun i hi => ⟨_, List.getElem?_eq_getElem (by rw [hlen]; exact hi)⟩
  obtain ⟨y0, e0⟩ := hx 0 (by omega)
  obtain ⟨y1, e1⟩ := hx 1 (by omega)
  obtain ⟨y2, e2⟩ := hx 2 (by omega)
  obtain ⟨y3, e3⟩ := hx 3 (by omega)
  have f0 : DataW.trod enc Try.prog W 0 (fun _ => true) true n 3 ((([c0, c1, c2, c3, c4] : List Value).drop 0).take (Try.prog.cellsOf 3)) = some y0 := (hf 0 _ rfl).trans e0
  have f1 : DataW.trod enc Try.prog W 0 (fun _ => true) true n 26 ((([c0, c1, c2, c3, c4] : List Value).drop 1).take (Try.prog.cellsOf 26)) = some y1 := (hf 1 _ rfl).trans e1
  have f2 : DataW.trod enc Try.prog W 0 (fun _ => true) true n 3 ((([c0, c1, c2, c3, c4] : List Value).drop 3).take (Try.prog.cellsOf 3)) = some y2 := (hf 2 _ rfl).trans e2
  have f3 : DataW.trod enc Try.prog W 0 (fun _ => true) true n 3 ((([c0, c1, c2, c3, c4] : List Value).drop 4).take (Try.prog.cellsOf 3)) = some y3 := (hf 3 _ rfl).trans e3
  simp only [ci, cf, List.drop_zero, List.drop_succ_cons, List.take_succ_cons, List.take_zero] at f0 f1 f2 f3
  obtain ⟨a0, rfl, _⟩ := int_read f0
  obtain ⟨P, V, e, _⟩ := file_read f1
  obtain ⟨a2, rfl, _⟩ := int_read f2
  obtain ⟨a3, rfl, _⟩ := int_read f3
  simp at e
  obtain ⟨rfl, rfl⟩ := e
  exact ⟨⟨a0, P, V, a2, a3⟩, rfl⟩
theorem opAt_of (b o : Nat) (cs : List Value) (p : Opr) (h : W.cells? 0 ⟨b, o, none⟩ 5 = some cs) (hp : OpCs cs p) : OpAt W b o p := by
  unfold OpCs at hp
  subst hp
  have hg : ∀ i v, i < 5 → [Value.int .i64 p.kind, .int .i64 p.P, .bool p.V, .int .i64 p.n, .int .i64 p.fd][i]? = some v → W.cell? ⟨b, o + i, none⟩ = some v := fun i v hi hv => by
    unfold World.cells? at h
    rw [if_pos (Nat.zero_le _)] at h
    have := mapM_some_get h i i (by simp [hi])
    rw [← hv, ← this, Addr.add_mid]
  exact ⟨hg 0 _ (by omega) rfl, hg 1 _ (by omega) rfl, hg 2 _ (by omega) rfl, hg 3 _ (by omega) rfl, hg 4 _ (by omega) rfl⟩
theorem ops_read {v : Value} {d : DataW H} {ps : List MemPlace} (hv : ∃ a len cap, v = .slice a len cap) (h : DataW.Trod enc Try.prog W 0 (fun _ => true) true 22 v d ps) : ∃ ops, OpsAt W v ops := by
  obtain ⟨a, len, cap, rfl⟩ := hv
  obtain ⟨fuel, hf⟩ := h
  rcases Deep.open_slice Try.underlying22 hf with ⟨hcs, _⟩ | ⟨x, l, c, m, n, D, Pl, hcs, hb, hl, hm, hmm, _, hel⟩
  · simp [Value.cells] at hcs
    obtain ⟨rfl, rfl, rfl⟩ := hcs
    exact ⟨[], none, 0, rfl, Nat.le_refl _, Nat.zero_le _, .inl rfl⟩
  · simp [Value.cells] at hcs
    obtain ⟨rfl, rfl, rfl⟩ := hcs
    have hlm : len ≤ m := by rw [hmm]; simpa using hl
    have hel2 : ∀ i, i < len → ∃ p cs, W.cells? 0 (x.add (i * 5)) 5 = some cs ∧ OpCs cs p := fun i hi => by
      obtain ⟨cs, h1, h2⟩ := hel i (by omega)
      rw [cellsOp] at h1
      obtain ⟨p, hp⟩ := op_read h2
      exact ⟨p, cs, h1, hp⟩
    obtain ⟨f, hfx⟩ := Deep.choose_lt (α := Opr) (p := fun i p => ∃ cs, W.cells? 0 (x.add (i * 5)) 5 = some cs ∧ OpCs cs p) hel2
    refine ⟨(List.range len).map f, some x, cap, by simp, by simpa using hl, hm, ?_⟩
    by_cases h0 : len = 0
    · left; subst h0; rfl
    · right
      obtain ⟨b, off, spot⟩ := x
      obtain ⟨cs, h1, h2⟩ := hfx 0 (by omega)
      unfold OpCs at h2
      subst h2
      have hc0 : W.cell? ((⟨b, off, spot⟩ : Addr)) = some (.int .i64 (f 0).kind) := by
        unfold World.cells? at h1
        rw [if_pos (Nat.zero_le _)] at h1
        have := mapM_some_get h1 0 0 rfl
        simpa [Addr.add] using this
      have hspot : spot = none := by simpa using World.cell?_spot hc0
      subst hspot
      refine ⟨b, off, rfl, World.block_lt_of_cell? _ _ hc0, fun i hi => ?_⟩
      have hi' : i < len := by simpa using hi
      obtain ⟨cs, h3, h4⟩ := hfx i hi'
      rw [Addr.add_mid] at h3
      have : ((List.range len).map f)[i]'hi = f i := by simp
      rw [this]
      exact opAt_of b _ cs _ h3 h4
/-- A file as a parameter. -/
theorem file_arg {v : Value} {d : DataW H} {ps : List MemPlace} (hv : ∃ cs, v = .agg cs ∧ cs.size = Try.prog.cellsOf 26) (h : DataW.Trod enc Try.prog W 0 (fun _ => true) true 26 v d ps) :
    ∃ (P : Int) (V : Bool), v = .agg #[.int .i64 P, .bool V] ∧ (Lit.int .i64 P).wf = true := by
  obtain ⟨cs, rfl, _⟩ := hv
  obtain ⟨fuel, hf⟩ := h
  obtain ⟨P, V, hcs, r⟩ := file_read hf
  refine ⟨P, V, ?_, r⟩
  congr 1
  apply Array.ext'
  exact hcs
end

/-- What lies behind calls: all of it made since W0. -/
def Sta (W0 w : World) (p c : Nat) : Prop := ∃ f d q v S D, Bo W0 w p f d q v S S D D ∧ Gof c S
theorem Sta.bel {W0 w : World} {p c : Nat} (h : Sta W0 w p c) : Below W0.heap.size W0 w := by
  obtain ⟨f, d, q, v, S, D, h, _⟩ := h
  exact h.bel
theorem Sta.do_ {W0 w : World} {p c : Nat} (h : Sta W0 w p c) (hc : c ≤ 100000) (o : Opr) :
    Calls Try.prog 11 #[.pointer (some ⟨p, 0, none⟩), .agg #[.int .i64 o.kind, .int .i64 o.P, .bool o.V, .int .i64 o.n, .int .i64 o.fd]] w fun e w' => e = .returned (.bool true) ∧ Sta W0 w' p (c + 1) := by
  obtain ⟨f, d, q, v, S, D, h, hg⟩ := h
  exact (do_any W0 w p f d q v c S D h hg hc o).mono fun e w' ⟨h1, f', d', q', v', S', D', h2, h3⟩ => ⟨h1, f', d', q', v', S', D', h2, h3⟩
theorem fresh_sta (w : World) : Calls Try.prog 10 #[] w fun e w' => ∃ p, e = .returned (.pointer (some ⟨p, 0, none⟩)) ∧ Sta w w' p 0 :=
  (fresh_any w).mono fun e w' ⟨p, f, d, q, v, h1, h2⟩ => ⟨p, h1, f, d, q, v, S0, fun _ => 0, h2, Gof.zero 0⟩

set_option maxRecDepth 100000 in
set_option maxHeartbeats 1000000 in
theorem grown_any (w : World) (va : Value) (ops : List Opr) (h : OpsAt w va ops) (hl : ops.length ≤ 200) :
    Calls Try.prog 33 #[va] w fun e w' => ∃ p, e = .returned (.pointer (some ⟨p, 0, none⟩)) ∧ Sta w w' p 200 := by
  obtain ⟨a, cap, rfl, h1, h2, h3⟩ := h
  have hli : (ops.length : Int) ≤ 200 := by omega
  have H3 := Lib.hid h3
  clear h3
  go_enter Try.func33, Try.ntmps33
  go_wp2_with (go_at_call 10; (with_reducible refine (fresh_sta _).mono ?_); rintro e w1 ⟨p, rfl, hs⟩; have HS := Lib.hid hs; clear hs)
  go_loopw [8] (fun i wr => ∃ j : Nat, j ≤ ops.length ∧ i = .int .i64 (j : Int) ∧ Sta w wr p j) (fun i _ => ops.length - (intOf i).toNat)
  case atStart => exact ⟨0, Nat.zero_le _, rfl, HS.out⟩
  case round =>
    obtain ⟨j, hj, rfl, hs⟩ := hrel
    by_cases hlt : j < ops.length
    · rcases H3.out with h0 | ⟨ba, off, rfl, hb, h4⟩
      · subst h0; simp at hlt
      · obtain ⟨c0, c1, c2, c3, c4⟩ := OpAt.below (h4 j hlt) hs.bel hb
        have hd := hs.do_ (by omega) ops[j]
        generalize ops[j] = o at *
        have HD := Lib.hid hd
        have hlti : (j : Int) < (ops.length : Int) := by omega
        clear h4 hd hs
        go_wp2_with (go_at_call 11; (with_reducible refine HD.out.mono ?_); rintro e w2 ⟨rfl, hs2⟩; have HS2 := Lib.hid hs2; clear hs2)
        go_roundw
        case rel => exact ⟨j + 1, by omega, by go_num, HS2.out⟩
        case measure => simp [intOf]; omega
    · obtain rfl : j = ops.length := by omega
      have HE := Lib.hid hs
      clear hs
      go_wp2
      go_ret
      obtain ⟨f, d, q, v, S, D, q1, q2⟩ := HE.out
      exact ⟨_, rfl, f, d, q, v, S, D, q1, q2.mono (by omega)⟩
end Go.Proofs.Ytmdldehdlggpkaa.Jt
