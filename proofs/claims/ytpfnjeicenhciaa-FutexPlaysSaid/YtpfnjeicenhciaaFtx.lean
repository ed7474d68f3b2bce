/-
  FutexPlays: what the walk carries: the futex and the document's own, alike.
-/
import Derived.Test.YtpfnjeicenhciaaFtw
namespace Go.Proofs.Ytpfnjeicenhciaa.Ftx
open Go Go.RowKit Kit Bk Fta Ftb Ftc Ftd Fte Ftf Ftg Fth Fti Ftj Ftk Ftl Ftm Ftn Fto Ftq Ftr Fts Ftt Ftu Ftv
set_option linter.unusedVariables false

abbrev opv (o : Opr) : Value := .agg #[.int .i64 o.kind, .int .i64 o.q, .int .i64 o.k.p, .int .i64 o.k.f, .int .i64 o.k.o, .int .i64 o.n]
abbrev opc (o : Opr) : Array Value := #[.int .i64 o.kind, .int .i64 o.q, .int .i64 o.k.p, .int .i64 o.k.f, .int .i64 o.k.o, .int .i64 o.n]
/-- The futex f and the document's own u, of the same L; the call o in block x. -/
structure Pl (W0 w : World) (f r u ru : Nat) (L : List Wt) : Prop where
  bel : Below W0.heap.size W0 w
  lx : Lx 26 w f r L
  rx : Lx 29 w u ru L
  lo : W0.heap.size ≤ f ∧ W0.heap.size ≤ r ∧ W0.heap.size ≤ u ∧ W0.heap.size ≤ ru
  ne : r ≠ ru
structure Px (W0 w : World) (f r u ru x : Nat) (o : Opr) (L M : List Wt) : Prop where
  bel : Below W0.heap.size W0 w
  lx : Lx 26 w f r L
  rx : Lx 29 w u ru M
  lo : W0.heap.size ≤ f ∧ W0.heap.size ≤ r ∧ W0.heap.size ≤ u ∧ W0.heap.size ≤ ru
  ne : r ≠ ru
  op : Blk w x (opc o) 33
variable {W0 w w' : World} {f r u ru x : Nat} {o : Opr} {L M : List Wt}
theorem Pl.below (h : Pl W0 w f r u ru L) (hb : Below w.heap.size w w') : Pl W0 w' f r u ru L := ⟨h.bel.trans (hb.mono h.bel.size), h.lx.below hb, h.rx.below hb, h.lo, h.ne⟩
theorem Px.below (h : Px W0 w f r u ru x o L M) (hb : Below w.heap.size w w') : Px W0 w' f r u ru x o L M := ⟨h.bel.trans (hb.mono h.bel.size), h.lx.below hb, h.rx.below hb, h.lo, h.ne, h.op.below hb⟩
theorem Px.pl (h : Px W0 w f r u ru x o L L) : Pl W0 w f r u ru L := ⟨h.bel, h.lx, h.rx, h.lo, h.ne⟩
theorem Px.new (h : Pl W0 w f r u ru L) (o : Opr) : Px W0 (w.alloc (.cells (opc o) 33)) f r u ru w.heap.size o L L := by
  have hb := (Below.refl w.heap.size w).alloc (Nat.le_refl _) (.cells (opc o) 33)
  exact ⟨h.bel.trans (hb.mono h.bel.size), h.lx.below hb, h.rx.below hb, h.lo, h.ne, Blk.new _ _ _⟩
/-- A step of the package's futex. -/
theorem Px.onF (h : Px W0 w f r u ru x o L M) {r' : Nat} {L' : List Wt} (hk : Kp (fr f r) w w') (hx : Lx 26 w' f r' L') (hr : r' = r ∨ w.heap.size ≤ r') : Px W0 w' f r' u ru x o L' M := by
  have hru : ru < w.heap.size := h.rx.lt.2
  obtain ⟨v, u1, u2⟩ := id h.rx
  have h1 : ¬ fr f r u := h.lx.apart u1 (by decide) (by decide)
  have h2 : ¬ fr f r ru := by
    rintro (e | e)
    · rcases h.rx.row with e2 | ⟨cs, e2⟩
      · exact h1 (.inl (e2.symm.trans e))
      · obtain ⟨vf, f1, _⟩ := id h.lx
        exact e2.ne f1 (by decide) e
    · exact h.ne e.symm
  refine ⟨h.bel.trans (hk.below h.bel.size (fun j e => by have := h.lo; unfold fr at e; omega)), hx, h.rx.kept hk h1 h2, ?_, ?_, h.op.kept hk (h.lx.apart h.op (by decide) (by decide))⟩
  · have := h.lo; have := h.bel.size; omega
  · have := h.ne; omega
/-- A step of the document's own. -/
theorem Px.onR (h : Px W0 w f r u ru x o L M) {ru' : Nat} {M' : List Wt} (hk : Kp (fun j => j = u) w w') (hx : Lx 29 w' u ru' M') (hr : ru' = ru ∨ ru' = u ∨ w.heap.size ≤ ru') : Px W0 w' f r u ru' x o L M' := by
  have hrl := h.lx.lt
  obtain ⟨v, u1, u2⟩ := id h.rx
  obtain ⟨vf, f1, f2⟩ := id h.lx
  have h1 : f ≠ u := f1.ne u1 (by decide)
  have h2 : r ≠ u := by
    rcases h.lx.row with e | ⟨cs, e⟩
    · omega
    · exact e.ne u1 (by decide)
  refine ⟨h.bel.trans (hk.below h.bel.size (fun j e => by have := h.lo; omega)), h.lx.kept hk h1 h2, hx, ?_, ?_, h.op.kept hk (h.op.ne u1 (by decide))⟩
  · have := h.lo; have := h.bel.size; omega
  · have := h.ne; omega
theorem Px.wait (h : Px W0 w f r u ru x o L M) (hl : L.length ≤ 80000) :
    Calls Try.prog 9 #[.pointer (some ⟨f, 0, none⟩), .int .i64 o.q, kv o.k] w fun e w' => e = .returned (.int .i64 (wtE L o.q o.k)) ∧ ∃ r', Px W0 w' f r' u ru x o (wtL L o.q o.k) M := by
  refine (wait_any w f r L o.q o.k h.lx (by omega)).mono ?_
  rintro e w' ⟨rfl, r', h1, h2, h3⟩
  exact ⟨rfl, r', h.onF h1 h2 h3⟩
theorem Px.rwait (h : Px W0 w f r u ru x o L M) (hl : M.length ≤ 80000) :
    Calls Try.prog 10 #[.pointer (some ⟨u, 0, none⟩), .int .i64 o.q, kv o.k] w fun e w' => e = .returned (.int .i64 (wtE M o.q o.k)) ∧ ∃ ru', Px W0 w' f r u ru' x o L (wtL M o.q o.k) := by
  refine (rwait_any w u ru M o.q o.k h.rx hl).mono ?_
  rintro e w' ⟨rfl, h1, r', h2, h3⟩
  exact ⟨rfl, r', h.onR h1 h2 h3⟩
theorem Px.wake (h : Px W0 w f r u ru x o L M) (hd : Gd 80000 L) (hk : Fta.kwf o.k) :
    Calls Try.prog 11 #[.pointer (some ⟨f, 0, none⟩), kv o.k, .int .i64 o.n] w fun e w' => ∃ a c, e = .returned (.slice a (wks L o.k o.n).length c) ∧ Nr w' (.slice a (wks L o.k o.n).length c) (wks L o.k o.n) ∧ Px W0 w' f r u ru x o (rst L o.k o.n.toNat) M := by
  refine (wake_any w f r L o.k o.n h.lx hd.kwf hk (by have := hd.len; omega)).mono ?_
  rintro e w' ⟨h1, h2, v, rfl, h3⟩
  obtain ⟨a, c, rfl⟩ := own_form h3
  rw [show Ftf.stay (inn (wks L o.k o.n)) L = rst L o.k o.n.toNat from stay_wake o.k L o.n.toNat hd.own] at h2
  exact ⟨a, c, rfl, nr_own h3, h.onF h1 h2 (.inl rfl)⟩
theorem Px.rwake (h : Px W0 w f r u ru x o L M) (hd : Gd 80000 M) (hk : Fta.kwf o.k) {v : Value} {l : List Int} (hv : Nr w v l) :
    Calls Try.prog 13 #[.pointer (some ⟨u, 0, none⟩), kv o.k, .int .i64 o.n] w fun e w' => ∃ a c, e = .returned (.slice a (wks M o.k o.n).length c) ∧ Nr w' (.slice a (wks M o.k o.n).length c) (wks M o.k o.n) ∧ Nr w' v l ∧ ∃ ru', Px W0 w' f r u ru' x o L (rst M o.k o.n.toNat) := by
  refine (rwake_any w u ru M o.k o.n h.rx hd.kwf hk (by have := hd.len; omega)).mono ?_
  rintro e w' ⟨h1, ⟨r', h2, h3⟩, v', rfl, h4⟩
  obtain ⟨a, c, rfl⟩ := own_form h4
  obtain ⟨vu, u1, _⟩ := id h.rx
  exact ⟨a, c, rfl, nr_own h4, hv.kept h1 (fun g cs hb => hb.ne u1 (by decide)), r', h.onR h1 h2 (.inr h3)⟩
theorem Px.gone (h : Px W0 w f r u ru x o L M) :
    Calls Try.prog 14 #[.pointer (some ⟨f, 0, none⟩), .int .i64 o.q] w fun e w' => e = .returned (.bool (fkB L o.q)) ∧ Px W0 w' f r u ru x o (Ftf.stay (eqq o.q) L) M := by
  refine (gone_any w f r L o.q h.lx).mono ?_
  rintro e w' ⟨rfl, h1, h2⟩
  exact ⟨rfl, h.onF h1 h2 (.inl rfl)⟩
theorem Px.rgone (h : Px W0 w f r u ru x o L M) (hl : M.length ≤ 80000) :
    Calls Try.prog 15 #[.pointer (some ⟨u, 0, none⟩), .int .i64 o.q] w fun e w' => e = .returned (.bool (fkB M o.q)) ∧ ∃ ru', Px W0 w' f r u ru' x o L (Ftf.stay (eqq o.q) M) := by
  refine (rgone_any w u ru M o.q h.rx (by omega)).mono ?_
  rintro e w' ⟨rfl, h1, r', h2, h3⟩
  exact ⟨rfl, r', h.onR h1 h2 (.inr h3)⟩
/-- A copy in the futex's place, and what is done to the old one behind that. -/
theorem Px.copy (h : Px W0 w f r u ru x o L M) (hl : L.length ≤ 80000) :
    Calls Try.prog 16 #[.pointer (some ⟨f, 0, none⟩)] w fun e w' => ∃ c, e = .returned (.pointer (some ⟨c, 0, none⟩)) ∧ ∃ rc, Px W0 w' f r u ru x o L M ∧ Px W0 w' c rc u ru x o L M ∧ ¬ fr f r c ∧ ¬ fr f r rc := by
  have h1 := h.lx.lt
  have h2 := h.rx.lt
  refine (copy_any w f r L h.lx (by omega)).mono ?_
  rintro e w' ⟨hb, c, rc, rfl, hc, q1, q2⟩
  have hs := h.bel.size
  refine ⟨c, rfl, rc, h.below hb, ⟨(h.below hb).bel, hc, (h.below hb).rx, by have := h.lo; omega, by omega, (h.below hb).op⟩, by unfold fr; omega, by unfold fr; omega⟩
theorem Px.oldWake {c rc : Nat} (h : Px W0 w f r u ru x o L M) (g : Px W0 w c rc u ru x o L M) (hd : Gd 80000 L) (hk : Fta.kwf o.k) (ha : ¬ fr f r c ∧ ¬ fr f r rc) :
    Calls Try.prog 11 #[.pointer (some ⟨f, 0, none⟩), kv o.k, .int .i64 3] w fun e w' => ∃ v, e = .returned v ∧ Px W0 w' f r u ru x o (rst L o.k 3) M ∧ Px W0 w' c rc u ru x o L M := by
  refine (wake_any w f r L o.k 3 h.lx hd.kwf hk (by have := hd.len; omega)).mono ?_
  rintro e w' ⟨h1, h2, v, rfl, h3⟩
  rw [show Ftf.stay (inn (wks L o.k 3)) L = rst L o.k 3 from stay_wake o.k L 3 hd.own] at h2
  have hF := h.onF h1 h2 (.inl rfl)
  exact ⟨v, rfl, hF, hF.bel, g.lx.kept h1 ha.1 ha.2, hF.rx, g.lo, g.ne, hF.op⟩
theorem Px.oldWait {c rc : Nat} {K : List Wt} (h : Px W0 w f r u ru x o K M) (g : Px W0 w c rc u ru x o L M) (hl : K.length ≤ 80000) (ha : ¬ fr f r c ∧ ¬ fr f r rc) (q : Int) (k : Ky) :
    Calls Try.prog 9 #[.pointer (some ⟨f, 0, none⟩), .int .i64 q, kv k] w fun e w' => (∃ z : Int, e = .returned (.int .i64 z)) ∧ Px W0 w' c rc u ru x o L M := by
  refine (wait_any w f r K q k h.lx (by omega)).mono ?_
  rintro e w' ⟨rfl, r', h1, h2, h3⟩
  have hF := h.onF h1 h2 h3
  exact ⟨⟨_, rfl⟩, hF.bel, g.lx.kept h1 ha.1 ha.2, hF.rx, g.lo, g.ne, hF.op⟩
theorem rst_good {c : Nat} (h : Gd c L) (k : Ky) (n : Nat) : Gd c (rst L k n) := by
  rw [← stay_wake k L n h.own]
  exact h.stay _
/-- The cells that the tail of a round reads. -/
theorem Px.cells (h : Px W0 w f r u ru x o L M) : w.cell? ⟨x, 0, none⟩ = some (.int .i64 o.kind) ∧ w.cell? ⟨x, 1, none⟩ = some (.int .i64 o.q) ∧ w.cell? ⟨x, 2, none⟩ = some (.int .i64 o.k.p) ∧ w.cell? ⟨x, 3, none⟩ = some (.int .i64 o.k.f) ∧ w.cell? ⟨x, 4, none⟩ = some (.int .i64 o.k.o) ∧ w.cell? ⟨x, 5, none⟩ = some (.int .i64 o.n) :=
  ⟨h.op.cell 0, h.op.cell 1, h.op.cell 2, h.op.cell 3, h.op.cell 4, h.op.cell 5⟩
theorem fkK_wf {c : Nat} (h : Gd c L) (q : Int) : Fta.kwf (fkK L q) := by
  unfold fkK fk
  cases hf : L.find? fun x => x.q == q with
  | none => exact ⟨by decide, by decide, by decide⟩
  | some x => exact h.kwf x (List.mem_of_find?_eq_some hf)
theorem ckE_may (k : Ky) : (ckE k == 0) = mayK k := by
  unfold ckE
  cases mayK k <;> rfl
/-- A row handed out: it may be written over. -/
def Ow (w : World) (r ru : Nat) (ua : Value) : Prop := ∀ b n c, ua = .slice (some ⟨b, 0, none⟩) n c → (∃ cs, Blk w b cs 51 ∧ n * 4 ≤ cs.size) ∧ b ≠ r ∧ b ≠ ru
theorem Ow.below {ua : Value} (h : Ow w r ru ua) (hb : Below w.heap.size w w') : Ow w' r ru ua := fun b n c e => by
  obtain ⟨⟨cs, h1, h2⟩, h3⟩ := h b n c e
  exact ⟨⟨cs, h1.below hb, h2⟩, h3⟩
theorem Ow.of {wb : World} {ua : Value} {n : Nat} {xs : List Value} (h : w.ownsRow wb.heap.size 51 4 ua n xs) (hr : r < wb.heap.size) (hru : ru < wb.heap.size) : Ow w r ru ua := fun b n' c e => by
  rcases h.2 with ⟨e1, _⟩ | ⟨g, cap, cur, e1, hg, hh, h3, h4, h5, _⟩
  · rw [e1] at e; cases e
  · rw [e1] at e
    cases e
    exact ⟨⟨cur, hh, by omega⟩, by omega, by omega⟩
/-- One number of it written over. -/
theorem Pl.over {b n c m : Nat} (h : Pl W0 w f r u ru L) (ho : Ow w r ru (.slice (some ⟨b, 0, none⟩) n c)) (hm : m < n) (hW : W0.heap.size ≤ b) (v : Value) :
    (∃ z, w.cell? ⟨b, m * 4, none⟩ = some z) ∧ w.frozen? ⟨b, m * 4, none⟩ = false ∧ Pl W0 (w.setCell ⟨b, m * 4, none⟩ v) f r u ru L ∧ Ow (w.setCell ⟨b, m * 4, none⟩ v) r ru (.slice (some ⟨b, 0, none⟩) n c) := by
  obtain ⟨⟨cs, h1, h2⟩, h3, h4⟩ := ho b n c rfl
  have hk := Kp.set (S := fun j => j = b) w b (m * 4) v rfl
  obtain ⟨vf, f1, _⟩ := id h.lx
  obtain ⟨vu, u1, _⟩ := id h.rx
  refine ⟨⟨cs[m * 4], by rw [h1.cell, Array.getElem?_eq_getElem (by omega)]⟩, h1.free _, ⟨h.bel.trans (hk.below h.bel.size (fun j e => by omega)), h.lx.kept hk (f1.ne h1 (by decide)) (fun e => h3 e.symm), h.rx.kept hk (u1.ne h1 (by decide)) (fun e => h4 e.symm), h.lo, h.ne⟩, fun b' n' c' e => ?_⟩
  cases e
  exact ⟨⟨_, h1.set _ _, by simpa using h2⟩, h3, h4⟩
end Go.Proofs.Ytpfnjeicenhciaa.Ftx
