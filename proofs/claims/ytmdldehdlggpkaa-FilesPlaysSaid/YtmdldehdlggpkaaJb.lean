/-
  Open files, descriptors and the document's as they lie together; a call's argument; files held against each other.
-/
import Derived.Test.YtmdldehdlggpkaaJs
import Derived.DeepKeys
namespace Go.Proofs.Ytmdldehdlggpkaa.Jb
open Go Go.RowKit Kit Bk Jp Jm Ji Jo Ju Jd Je Jr Jq Js
set_option linter.unusedVariables false

structure Opr where
  kind : Int
  P : Int
  V : Bool
  n : Int
  fd : Int
instance : Inhabited Opr := ⟨⟨0, 0, false, 0, 0⟩⟩
/-- All that a law has made, since W0. -/
structure Bo (W0 w : World) (p f d q v : Nat) (S T : Sf) (D E : Nat → Nat) : Prop where
  bel : Below W0.heap.size W0 w
  blk : Blk w p #[.pointer (some ⟨f, 0, none⟩), .pointer (some ⟨d, 0, none⟩), .pointer (some ⟨q, 0, none⟩), .pointer (some ⟨v, 0, none⟩)] 36
  fl : Fl w f S
  ds : Ds w d D
  rf : Rf w q T
  rd : Rd w v E
  lo : W0.heap.size ≤ p ∧ W0.heap.size ≤ f ∧ W0.heap.size ≤ d ∧ W0.heap.size ≤ q ∧ W0.heap.size ≤ v
variable {W0 w w' : World} {p f d q v : Nat} {S T S' T' : Sf} {D E D' E' : Nat → Nat}
/-- What a call on open files leaves as it was. -/
theorem kF (h : Fl w f S) (k : Kp (fun j => j = f) w w') {b : Nat} {cs : Array Value} {U : TypeId} (hb : Blk w b cs U) (hU : U ≠ 61) : ¬ (b = f) := by
  obtain ⟨c, h1, _⟩ := h
  exact hb.ne h1 hU
theorem kD (h : Ds w d D) {b : Nat} {cs : Array Value} {U : TypeId} (hb : Blk w b cs U) (hU : U ≠ 53) : ¬ (b = d) := by
  obtain ⟨⟨c, h1, _⟩, _⟩ := h
  exact hb.ne h1 hU
theorem kQ (h : Rf w q S) {b : Nat} {cs : Array Value} {U : TypeId} (hb : Blk w b cs U) (hU : U ≠ 49) : ¬ (b = q) := by
  obtain ⟨c, h1, _⟩ := h
  exact hb.ne h1 hU
theorem kV (h : Rd w v D) {b : Nat} {cs : Array Value} {U : TypeId} (hb : Blk w b cs U) (hU : U ≠ 41) : ¬ (b = v) := by
  obtain ⟨g, cap, c, h1, _⟩ := h
  exact hb.ne h1 hU
theorem Bo.below (h : Bo W0 w p f d q v S T D E) (hb : Below w.heap.size w w') : Bo W0 w' p f d q v S T D E :=
  ⟨h.bel.trans (hb.mono h.bel.size), h.blk.below hb, h.fl.below hb, h.ds.below hb, h.rf.below hb, h.rd.below hb, h.lo⟩
theorem Bo.drew (h : Bo W0 w p f d q v S T D E) : Bo W0 w.drew p f d q v S T D E := h.below ((Below.refl _ _).drew)
theorem Bo.onF (h : Bo W0 w p f d q v S T D E) (k : Kp (fun j => j = f) w w') (hF : Fl w' f S') : Bo W0 w' p f d q v S' T D E := by
  obtain ⟨⟨c1, b1, _⟩, _⟩ := id h.ds
  obtain ⟨c2, b2, _⟩ := id h.rf
  obtain ⟨g, cap, c3, b3, _⟩ := id h.rd
  exact ⟨h.bel.trans (k.below h.bel.size (fun j e => by have := h.lo; omega)), h.blk.kept k (kF h.fl k h.blk (by decide)), hF, h.ds.kept k (kF h.fl k b1 (by decide)), h.rf.kept k (kF h.fl k b2 (by decide)), h.rd.kept k (kF h.fl k b3 (by decide)) (fun g cs hg => kF h.fl k hg (by decide)), h.lo⟩
theorem Bo.onD (h : Bo W0 w p f d q v S T D E) (k : Kp (fun j => j = d) w w') (hF : Ds w' d D') : Bo W0 w' p f d q v S T D' E := by
  obtain ⟨c1, b1, _⟩ := id h.fl
  obtain ⟨c2, b2, _⟩ := id h.rf
  obtain ⟨g, cap, c3, b3, _⟩ := id h.rd
  exact ⟨h.bel.trans (k.below h.bel.size (fun j e => by have := h.lo; omega)), h.blk.kept k (kD h.ds h.blk (by decide)), h.fl.kept k (kD h.ds b1 (by decide)), hF, h.rf.kept k (kD h.ds b2 (by decide)), h.rd.kept k (kD h.ds b3 (by decide)) (fun g cs hg => kD h.ds hg (by decide)), h.lo⟩
theorem Bo.onQ (h : Bo W0 w p f d q v S T D E) (k : Kp (fun j => j = q) w w') (hF : Rf w' q T') : Bo W0 w' p f d q v S T' D E := by
  obtain ⟨c1, b1, _⟩ := id h.fl
  obtain ⟨⟨c2, b2, _⟩, _⟩ := id h.ds
  obtain ⟨g, cap, c3, b3, _⟩ := id h.rd
  exact ⟨h.bel.trans (k.below h.bel.size (fun j e => by have := h.lo; omega)), h.blk.kept k (kQ h.rf h.blk (by decide)), h.fl.kept k (kQ h.rf b1 (by decide)), h.ds.kept k (kQ h.rf b2 (by decide)), hF, h.rd.kept k (kQ h.rf b3 (by decide)) (fun g cs hg => kQ h.rf hg (by decide)), h.lo⟩
theorem Bo.onV (h : Bo W0 w p f d q v S T D E) (k : Kp (fun j => j = v) w w') (hF : Rd w' v E') : Bo W0 w' p f d q v S T D E' := by
  obtain ⟨c1, b1, _⟩ := id h.fl
  obtain ⟨⟨c2, b2, _⟩, _⟩ := id h.ds
  obtain ⟨c3, b3, _⟩ := id h.rf
  exact ⟨h.bel.trans (k.below h.bel.size (fun j e => by have := h.lo; omega)), h.blk.kept k (kV h.rd h.blk (by decide)), h.fl.kept k (kV h.rd b1 (by decide)), h.ds.kept k (kV h.rd b2 (by decide)), h.rf.kept k (kV h.rd b3 (by decide)), hF, h.lo⟩
/-- Other open files and descriptors in their places. -/
theorem Bo.swap (h : Bo W0 w p f d q v S T D E) {f' d' : Nat} (hF : Fl w f' S') (hD : Ds w d' D') (hl : W0.heap.size ≤ f' ∧ W0.heap.size ≤ d') :
    Bo W0 ((w.setCell ⟨p, 0, none⟩ (.pointer (some ⟨f', 0, none⟩))).setCell ⟨p, 1, none⟩ (.pointer (some ⟨d', 0, none⟩))) p f' d' q v S' T D' E := by
  have k : Kp (fun j => j = p) w ((w.setCell ⟨p, 0, none⟩ (.pointer (some ⟨f', 0, none⟩))).setCell ⟨p, 1, none⟩ (.pointer (some ⟨d', 0, none⟩))) := (Kp.set (S := fun j => j = p) _ _ _ _ rfl).trans (Kp.set (S := fun j => j = p) _ _ _ _ rfl) (fun _ e => .inl e)
  have hb := (h.blk.set 0 (.pointer (some ⟨f', 0, none⟩))).set 1 (.pointer (some ⟨d', 0, none⟩))
  obtain ⟨c1, b1, _⟩ := id hF
  obtain ⟨⟨c2, b2, _⟩, _⟩ := id hD
  obtain ⟨c3, b3, _⟩ := id h.rf
  obtain ⟨g, cap, c4, b4, _⟩ := id h.rd
  exact ⟨h.bel.trans (k.below h.bel.size (fun j e => by have := h.lo; omega)), by simpa using hb, hF.kept k (b1.ne h.blk (by decide)), hD.kept k (b2.ne h.blk (by decide)), h.rf.kept k (b3.ne h.blk (by decide)), h.rd.kept k (b4.ne h.blk (by decide)) (fun g cs hg => hg.ne h.blk (by decide)), h.lo.1, hl.1, hl.2, h.lo.2.2.2⟩

/-- What a law has made, and a call's argument in block x. -/
structure Dx (W0 w : World) (p f d q v x : Nat) (o : Opr) (S T : Sf) (D E : Nat → Nat) : Prop where
  bo : Bo W0 w p f d q v S T D E
  op : Blk w x #[.int .i64 o.kind, .int .i64 o.P, .bool o.V, .int .i64 o.n, .int .i64 o.fd] 28
variable {x : Nat} {o : Opr}
theorem Dx.below (h : Dx W0 w p f d q v x o S T D E) (hb : Below w.heap.size w w') : Dx W0 w' p f d q v x o S T D E := ⟨h.bo.below hb, h.op.below hb⟩
theorem Dx.drew (h : Dx W0 w p f d q v x o S T D E) : Dx W0 w.drew p f d q v x o S T D E := h.below ((Below.refl _ _).drew)
theorem Dx.onF (h : Dx W0 w p f d q v x o S T D E) (k : Kp (fun j => j = f) w w') (hF : Fl w' f S') : Dx W0 w' p f d q v x o S' T D E := ⟨h.bo.onF k hF, h.op.kept k (kF h.bo.fl k h.op (by decide))⟩
theorem Dx.onD (h : Dx W0 w p f d q v x o S T D E) (k : Kp (fun j => j = d) w w') (hF : Ds w' d D') : Dx W0 w' p f d q v x o S T D' E := ⟨h.bo.onD k hF, h.op.kept k (kD h.bo.ds h.op (by decide))⟩
theorem Dx.onQ (h : Dx W0 w p f d q v x o S T D E) (k : Kp (fun j => j = q) w w') (hF : Rf w' q T') : Dx W0 w' p f d q v x o S T' D E := ⟨h.bo.onQ k hF, h.op.kept k (kQ h.bo.rf h.op (by decide))⟩
theorem Dx.onV (h : Dx W0 w p f d q v x o S T D E) (k : Kp (fun j => j = v) w w') (hF : Rd w' v E') : Dx W0 w' p f d q v x o S T D E' := ⟨h.bo.onV k hF, h.op.kept k (kV h.bo.rd h.op (by decide))⟩
/-- The cells that a call reads. -/
structure Cl (w : World) (p f d q v x : Nat) (o : Opr) : Prop where
  p0 : w.cell? ⟨p, 0, none⟩ = some (.pointer (some ⟨f, 0, none⟩))
  p1 : w.cell? ⟨p, 1, none⟩ = some (.pointer (some ⟨d, 0, none⟩))
  p2 : w.cell? ⟨p, 2, none⟩ = some (.pointer (some ⟨q, 0, none⟩))
  p3 : w.cell? ⟨p, 3, none⟩ = some (.pointer (some ⟨v, 0, none⟩))
  x0 : w.cell? ⟨x, 0, none⟩ = some (.int .i64 o.kind)
  x1 : w.cell? ⟨x, 1, none⟩ = some (.int .i64 o.P)
  x2 : w.cell? ⟨x, 2, none⟩ = some (.bool o.V)
  x3 : w.cell? ⟨x, 3, none⟩ = some (.int .i64 o.n)
  x4 : w.cell? ⟨x, 4, none⟩ = some (.int .i64 o.fd)
theorem Dx.cl (h : Dx W0 w p f d q v x o S T D E) : Cl w p f d q v x o := ⟨h.bo.blk.cell 0, h.bo.blk.cell 1, h.bo.blk.cell 2, h.bo.blk.cell 3, h.op.cell 0, h.op.cell 1, h.op.cell 2, h.op.cell 3, h.op.cell 4⟩
theorem Dx.new (h : Bo W0 w p f d q v S T D E) (o : Opr) : Dx W0 (w.alloc (.cells #[.int .i64 o.kind, .int .i64 o.P, .bool o.V, .int .i64 o.n, .int .i64 o.fd] 28)) p f d q v w.heap.size o S T D E := ⟨h.below ((Below.refl _ _).alloc (Nat.le_refl _) _), Blk.new _ _ _⟩

/-- Two files held against each other. -/
theorem file_lits (P : Int) (V : Bool) (hP : (Lit.int .i64 P).wf = true) : Try.prog.keyLits 2 26 [.int .i64 P, .bool V] = some [.int .i64 P, .bool V] := by
  have hc : Try.prog.cellsOf 26 = 2 := by kernel_rfl
  have hc1 : Try.prog.cellsOf 3 = 1 := by kernel_rfl
  have hc2 : Try.prog.cellsOf 4 = 1 := by kernel_rfl
  have h1 : Try.prog.keyLits 1 3 [.int .i64 P] = some [.int .i64 P] := by
    rw [Program.keyLits.eq_def]
    simp only [Try.underlying3]
    simp [hP]
  have h2 : Try.prog.keyLits 1 4 [.bool V] = some [.bool V] := by
    rw [Program.keyLits.eq_def]
    simp only [Try.underlying4]
  rw [Program.keyLits.eq_def]
  simp only [Try.underlying26]
  rw [if_pos ⟨by rw [hc]; rfl, by kernel_rfl⟩]
  simp [hc1, hc2, h1, h2]
theorem run_file (P P' : Int) (V V' : Bool) (hP : (Lit.int .i64 P).wf = true) (hP' : (Lit.int .i64 P').wf = true) (w : World) : (Op.equalIn 10000 26 (.agg #[.int .i64 P, .bool V]) (.agg #[.int .i64 P', .bool V'])).run Try.prog w = .ok (P == P' && V == V') w := by
  have hf : ∀ (a : Int) (b : Bool), (Value.agg #[.int .i64 a, .bool b]).formed Try.prog 26 = true := fun a b => by
    unfold Value.formed
    rw [Try.underlying26]
    kernel_rfl
  obtain ⟨r, h1, h2⟩ := run_equalIn_deep (P := Try.prog) 9998 2 26 (by kernel_rfl) w 2 2 (.agg #[.int .i64 P, .bool V]) (.agg #[.int .i64 P', .bool V']) _ _ (hf P V) (hf P' V') (file_lits P V hP) (file_lits P' V' hP')
  rw [h1]
  congr 1
  rw [Bool.eq_iff_iff, h2]
  simp
theorem wf_small {P : Int} (h : mayP P) : (Lit.int .i64 P).wf = true := by
  have h1 := h.1
  have h2 := h.2
  simp [Lit.wf, IntKind.min, IntKind.max, IntKind.signed, IntKind.bits]
  omega
/-- A file is like itself. -/
theorem run_same (P : Int) (V : Bool) (hP : (Lit.int .i64 P).wf = true) (w : World) : (Op.equalIn 10000 26 (.agg #[.int .i64 P, .bool V]) (.agg #[.int .i64 P, .bool V])).run Try.prog w = .ok true w := by
  have := run_file P P V V hP hP w
  simpa using this

/-- The document's open files without any, as a value. -/
def zQ : Array Value := madeCells #[.int .i64 0, .bool false] 128 ++ madeCells #[.int .i64 0] 64
theorem infoQ : (Try.prog.info? 49).map (fun i => (i.zero, i.size)) = some (some (.agg zQ), 192) := by kernel_rfl
theorem run_zeroQ (w : World) : (zeroValue 49).run Try.prog w = .ok (.agg zQ) w := by
  have h := infoQ
  cases hi : Try.prog.info? 49 with
  | none => rw [hi] at h; cases h
  | some i =>
    rw [hi] at h
    simp at h
    simp [zeroValue, typeInfo, hi, h.1]
theorem zQ_size : zQ.size = 192 := by unfold zQ; rw [Array.size_append, size_madeCells, size_madeCells]
theorem zQ_at (k : Nat) (hk : k < 64) : zQ[k * 2]? = some (.int .i64 0) ∧ zQ[k * 2 + 1]? = some (.bool false) ∧ zQ[128 + k]? = some (.int .i64 0) := by
  have hA : (madeCells #[Value.int .i64 0, .bool false] 128).size = 128 := size_madeCells _ _
  have h : ∀ r, r < 2 → (madeCells #[Value.int .i64 0, .bool false] 128)[k * 2 + r]? = (#[Value.int .i64 0, .bool false] : Array Value)[r]? := fun r hr => by
    have hs : k * 2 + r < 128 := by omega
    have hmod : (k * 2 + r) % 2 = r := by omega
    simp only [madeCells, Array.getElem?_map, Array.getElem?_range, hs, if_true, Option.map_some]
    rw [show (#[Value.int .i64 0, .bool false] : Array Value).size = 2 from rfl, hmod, getElem!_def]
    have : r < (#[Value.int .i64 0, .bool false] : Array Value).size := hr
    rw [Array.getElem?_eq_getElem this]
  refine ⟨?_, ?_, ?_⟩
  · unfold zQ
    rw [Array.getElem?_append_left (by omega)]
    exact h 0 (by omega)
  · unfold zQ
    rw [Array.getElem?_append_left (by omega)]
    exact h 1 (by omega)
  · unfold zQ
    rw [Array.getElem?_append_right (by omega), hA, show 128 + k - 128 = k by omega]
    have := toList_madeCells_one (.int .i64 0) 64
    rw [← Array.getElem?_toList, this, List.getElem?_replicate, if_pos hk]
theorem Rf.zero (w : World) : Rf (w.alloc (.cells zQ 49)) w.heap.size S0 := ⟨zQ, Blk.new _ _ _, zQ_size, fun k hk => ⟨⟨0, false, (zQ_at k hk).1, (zQ_at k hk).2.1, fun e => absurd rfl e⟩, (zQ_at k hk).2.2⟩⟩

set_option maxRecDepth 100000 in
theorem fresh_any (w : World) :
    Calls Try.prog 10 #[] w fun e w' => ∃ p f d q v, e = .returned (.pointer (some ⟨p, 0, none⟩)) ∧ Bo w w' p f d q v S0 S0 (fun _ => 0) (fun _ => 0) := by
  have hz1 := run_zeroT
  have hz2 := run_zeroD
  have hz3 := run_zeroQ
  have b1 := (Below.refl w.heap.size w).alloc (Nat.le_refl _) (.cells zF 61)
  have f1 := Ju.Fl.zero w
  generalize hw1 : w.alloc (.cells zF 61) = w1 at *
  have s1 : w1.heap.size = w.heap.size + 1 := by rw [← hw1]; simp
  have b2 := (Below.refl w1.heap.size w1).alloc (Nat.le_refl _) (.cells zD 53)
  have f2 := Je.Ds.zero w1
  generalize hw2 : w1.alloc (.cells zD 53) = w2 at *
  have s2 : w2.heap.size = w1.heap.size + 1 := by rw [← hw2]; simp
  have b3 := (Below.refl w2.heap.size w2).alloc (Nat.le_refl _) (.cells zQ 49)
  have f3 := Rf.zero w2
  generalize hw3 : w2.alloc (.cells zQ 49) = w3 at *
  have s3 : w3.heap.size = w2.heap.size + 1 := by rw [← hw3]; simp
  have HN := Lib.hid (rnew_any w3)
  have HF : Hid (∀ w4 v, Below w3.heap.size w3 w4 → w3.heap.size ≤ v → Rd w4 v (fun _ => 0) → Bo w (w4.alloc (.cells #[.pointer (some ⟨w.heap.size, 0, none⟩), .pointer (some ⟨w1.heap.size, 0, none⟩), .pointer (some ⟨w2.heap.size, 0, none⟩), .pointer (some ⟨v, 0, none⟩)] 36)) w4.heap.size w.heap.size w1.heap.size w2.heap.size v S0 S0 (fun _ => 0) (fun _ => 0)) := Lib.hid (fun w4 v hb hv hr => by
    have b4 := (Below.refl w4.heap.size w4).alloc (Nat.le_refl _) (.cells #[.pointer (some ⟨w.heap.size, 0, none⟩), .pointer (some ⟨w1.heap.size, 0, none⟩), .pointer (some ⟨w2.heap.size, 0, none⟩), .pointer (some ⟨v, 0, none⟩)] 36)
    have c1 := b1.size
    have c2 := b2.size
    have c3 := b3.size
    have c4 := hb.size
    have d2 : Below w.heap.size w w2 := b1.trans (b2.mono (by omega))
    have d3 : Below w.heap.size w w3 := d2.trans (b3.mono (by omega))
    have d4 : Below w.heap.size w w4 := d3.trans (hb.mono (by omega))
    exact ⟨d4.trans (b4.mono (by omega)), Blk.new _ _ _, (((f1.below b2).below b3).below hb).below b4, ((f2.below b3).below hb).below b4, (f3.below hb).below b4, hr.below b4, by omega, Nat.le_refl _, by omega, by omega, by omega⟩)
  generalize zF = Z1 at *
  generalize zD = Z2 at *
  generalize zQ = Z3 at *
  clear b1 b2 b3 f1 f2 f3 s1 s2 s3
  go_enter Try.func10, Try.ntmps10
  go_wp2_with (go_at_call 34; (with_reducible refine HN.out.mono ?_); rintro e w4 ⟨v, rfl, hb, hv, hr⟩; replace hb := Lib.hid hb; replace hr := Lib.hid hr)
  go_ret
  exact ⟨_, _, _, _, _, rfl, HF.out w4 v hb.out hv hr.out⟩
end Go.Proofs.Ytmdldehdlggpkaa.Jb
