/-
  do: a Read, a Write of both memories.
-/
import Derived.Test.YtompcmbaiegkaaaDb
namespace Go.Proofs.Ytompcmbaiegkaaa.Dc
open Go Go.RowKit Kit Fm Fo Fr Fw Fx Fy Fu Fv Gm Go2 Gr Gw Gn Da Db
set_option linter.unusedVariables false
attribute [local go_sem ↓] app_wrap

/-- A text of bytes. -/
def bstr (l : List Nat) : ByteArray := strOfNums (l.map fun (x : Nat) => (x : Int))
theorem slc_string {w : World} {v : Value} {l : List Nat} (h : Slc .u8 w v l) : (convert 31 9 v).run Try.prog w = .ok (.string (bstr l)) w := by
  obtain ⟨a, cap, rfl, h1, h2, h3⟩ := h
  rcases h3 with rfl | ⟨b, off, rfl, hlt, hc⟩
  · cases a with
    | none =>
      refine (run_convert_bytes_nil w 31 5 Try.underlying31 Try.underlying5 0 cap 9 Try.underlying9).trans ?_
      rfl
    | some a =>
      obtain ⟨b, off, sp⟩ := a
      refine (run_convert_bytes_arg w 31 5 Try.underlying31 Try.underlying5 b off 0 cap [] (by simp) (fun i hi => by omega) 9 Try.underlying9).trans ?_
      rfl
  · refine run_convert_bytes_arg w 31 5 Try.underlying31 Try.underlying5 b off l.length cap (l.map fun (x : Nat) => (x : Int)) (by simp) (fun i hi => ?_) 9 Try.underlying9
    rw [hc i hi]
    simp [List.getD, List.getElem?_eq_getElem hi]
/-- Bytes of a block of the call's own, as numbers. -/
def bts (f : Nat → Nat) (m : Nat) : List Nat := (List.range m).map f
theorem bts_len (f : Nat → Nat) (m : Nat) : (bts f m).length = m := by simp [bts]
theorem u8f_bts (f : Nat → Nat) (m : Nat) : u8f f m = u8s (bts f m) := by simp [u8f, u8s, bts, Function.comp_def]
theorem own_slc {w : World} {base : Nat} {r : Value} {n : Nat} {l : List Nat} (h : w.ownsRow base 5 1 r n (u8s l)) : Slc .u8 w r l := by
  have hl : l.length = n := by have := h.1; simpa [u8s] using this
  rcases h.2 with ⟨rfl, rfl⟩ | ⟨g, cap, cur, rfl, hg, hh, h1, h2, h3, h4⟩
  · obtain rfl : l = [] := List.eq_nil_of_length_eq_zero hl
    exact ⟨none, 0, rfl, Nat.le_refl _, Nat.zero_le _, .inl rfl⟩
  · subst hl
    refine ⟨some ⟨g, 0, none⟩, cap, rfl, h1, h2, .inr ⟨g, 0, rfl, (Array.getElem?_eq_some_iff.1 hh).1, fun i hi => ?_⟩⟩
    rw [Nat.zero_add, cell_of_row w g i cur _ _ hh]
    have := congrArg (fun z => z[i]?) h4
    simp only [List.getElem?_take, Nat.mul_one, hi, if_true, Array.getElem?_toList] at this
    rw [this, u8s_at l i hi]
theorem own_slcf {w : World} {base : Nat} {r : Value} {f : Nat → Nat} {m : Nat} (h : w.ownsRow base 5 1 r m (u8f f m)) : Slc .u8 w r (bts f m) := own_slc (n := m) (by rw [← u8f_bts]; exact h)
/-- A block of bytes, whatever they are. -/
def Bump (w : World) (g N : Nat) : Prop := ∃ cur, Blk w g cur 5 ∧ ∀ i, i < N → ∃ x : Int, cur[i]? = some (.int .u8 x)
theorem Bump.set {w : World} {g N : Nat} (h : Bump w g N) (i : Nat) (y : Int) : Bump (w.setCell ⟨g, i, none⟩ (.int .u8 y)) g N := by
  obtain ⟨cur, h1, h2⟩ := h
  refine ⟨_, h1.set _ _, fun j hj => ?_⟩
  rw [Array.getElem?_setIfInBounds]
  obtain ⟨x, hx⟩ := h2 j hj
  by_cases e : i = j
  · subst e
    have hlt : i < cur.size := (Array.getElem?_eq_some_iff.1 hx).1
    rw [if_pos rfl, if_pos hlt]
    exact ⟨_, rfl⟩
  · rw [if_neg e]
    exact ⟨x, hx⟩
theorem Bump.of_row {w : World} {base g N cap : Nat} {xs : List Nat} (h : w.ownsRow base 5 1 (.slice (some ⟨g, 0, none⟩) N cap) N (u8s xs)) : base ≤ g ∧ Bump w g N := by
  have hl : xs.length = N := by have := h.1; simpa [u8s] using this
  rcases h.2 with ⟨e, _⟩ | ⟨g', cap', cur, e, hg, hh, h1, h2, h3, h4⟩
  · cases e
  · cases e
    refine ⟨hg, cur, hh, fun i hi => ⟨((xs[i]?.getD 0 : Nat) : Int), ?_⟩⟩
    have := congrArg (fun z => z[i]?) h4
    simp only [List.getElem?_take, Nat.mul_one, hi, if_true, Array.getElem?_toList] at this
    rw [this, u8s_at xs i (by omega)]

set_option maxRecDepth 100000 in
set_option maxHeartbeats 4000000 in
theorem do_read (W0 w : World) (c p b q rr rb n : Nat) (R : Nat → Nat) (B B' : Nat → Nat → Nat) (h : St W0 w c p b q rr rb n R B B') (hc : c ≤ 900) (K O N : Int) (v : Value) (ho : (Lit.int .i64 O).wf = true) (hm : (Lit.int .i64 N).wf = true) :
    Calls Try.prog 16 #[.pointer (some ⟨p, 0, none⟩), .pointer (some ⟨q, 0, none⟩), .agg #[.int .i64 3, .int .i64 K, .int .i64 O, .int .i64 N, v]] w (Did W0 w c p b q rr rb n) := by
  have hb : Below w.heap.size w (w.alloc (.cells #[.int .i64 3, .int .i64 K, .int .i64 O, .int .i64 N, v] 33)) := (Below.refl _ _).alloc (Nat.le_refl _) _
  have hbs : w.heap.size < (w.alloc (.cells #[.int .i64 3, .int .i64 K, .int .i64 O, .int .i64 N, v] 33)).heap.size := by simp
  have hbx : Blk (w.alloc (.cells #[.int .i64 3, .int .i64 K, .int .i64 O, .int .i64 N, v] 33)) w.heap.size #[.int .i64 3, .int .i64 K, .int .i64 O, .int .i64 N, v] 33 := Blk.new _ _ _
  have HS := Lib.hid (h.below hb)
  have HB := Lib.hid hb
  have HX := Lib.hid hbx
  have HBs := Lib.hid hbs
  obtain ⟨g, M, f, hM, hF, hR⟩ := read_both p b q rr rb n c R B B' h.agr K O N ho hm
  have HF := Lib.hid hF
  have HR := Lib.hid hR
  clear h hb hbx hbs hF hR ho hm
  go_enter Try.func16, Try.ntmps16
  go_wp2_with (first | (go_at_call 22; (with_reducible refine (HF.out _ HS.out.mem).mono ?_); rintro e w1 ⟨k1, r1, rfl, h1⟩; refine Hid.out ?_))
  refine Lib.hid ?_
  have H1 := Lib.hid h1
  have K1 := Lib.hid k1
  have x1 := (HX.out.below k1).cell 1
  have x2 := (HX.out.below k1).cell 2
  have x3 := (HX.out.below k1).cell 3
  clear h1 k1
  go_wp2_with (first | (go_at_call 36; (with_reducible refine (HR.out _ (HS.out.ref.below K1.out)).mono ?_); rintro e w2 ⟨k2, r2, rfl, h2⟩; refine Hid.out ?_))
  refine Lib.hid ?_
  have D2 := K1.out.trans (k2.mono K1.out.size)
  have hrow := own_below H1.out k2
  have hs1 := slc_string (own_slcf hrow)
  have hs2 := slc_string (own_slcf h2)
  rw [u8f_bts] at hrow
  obtain ⟨ad, cap, rfl⟩ := Gn.row_form hrow
  have hbump : ∀ a, ad = some a → 0 < M → ∃ g', a = ⟨g', 0, none⟩ ∧ (w.alloc (.cells #[.int .i64 3, .int .i64 K, .int .i64 O, .int .i64 N, v] 33)).heap.size ≤ g' ∧ Bump w2 g' M := fun a e hM0 => by
    subst e
    rcases hrow.2 with ⟨e, _⟩ | ⟨g', cap', cur, e, _⟩
    · cases e
    · cases e
      obtain ⟨y1, y2⟩ := Bump.of_row hrow
      exact ⟨g', rfl, y1, y2⟩
  have hsome : 0 < M → ∃ a, ad = some a := fun hM0 => by
    rcases hrow.2 with ⟨e, e2⟩ | ⟨g', cap', cur, e, _⟩
    · omega
    · cases e; exact ⟨_, rfl⟩
  have HBp := Lib.hid (And.intro hbump hsome)
  generalize bstr (bts f M) = S at *
  have hM2 : (M : Int) ≤ 64 := by omega
  have DD := Lib.hid D2
  clear H1 h2 k2 hrow hbump hsome x1 x2 x3 D2
  go_wp2
  go_loopw [124] (fun i wr => ∃ j : Nat, j ≤ M ∧ i = .int .i64 (j : Int) ∧ (∀ g', ad = some ⟨g', 0, none⟩ → 0 < M → Bump wr g' M) ∧ Below w.heap.size w wr ∧ Below (w.alloc (.cells #[.int .i64 3, .int .i64 K, .int .i64 O, .int .i64 N, v] 33)).heap.size (w.alloc (.cells #[.int .i64 3, .int .i64 K, .int .i64 O, .int .i64 N, v] 33)) wr) (fun i _ => M - (intOf i).toNat)
  case atStart => exact ⟨0, Nat.zero_le _, rfl, fun g' e h0 => by
    obtain ⟨g2, e2, _, e3⟩ := HBp.out.1 _ e h0
    cases e2
    exact e3, HB.out.trans (DD.out.mono (Nat.le_of_lt HBs.out)), DD.out⟩
  case round =>
    obtain ⟨j, hj, rfl, hbm, hB1, hB2⟩ := hrel
    by_cases hlt : j < M
    · obtain ⟨a, ha⟩ := HBp.out.2 (by omega)
      obtain ⟨g', rfl, hg', _⟩ := HBp.out.1 a ha (by omega)
      have hb := hbm g' ha (by omega)
      obtain ⟨cur, y1, y2⟩ := id hb
      obtain ⟨x, hx⟩ := y2 j hlt
      have cc := (y1.cell j).trans hx
      have cf := y1.free j
      have HBm := Lib.hid hb
      have HB1 := Lib.hid (And.intro hB1 hB2)
      have HG := Lib.hid hg'
      subst ha
      clear hb hbm hB1 hB2 y1 y2 hx hg'
      go_wp2
      go_roundw
      case rel => exact ⟨j + 1, by omega, by go_num, fun g2 e _ => by cases e; exact HBm.out.set _ _, HB1.out.1.setCell (p := ⟨g', j, none⟩) (Nat.le_trans (Nat.le_of_lt HBs.out) HG.out) _, HB1.out.2.setCell (p := ⟨g', j, none⟩) HG.out _⟩
      case measure => simp [intOf]; omega
    · obtain rfl : j = M := by omega
      have HB1 := Lib.hid (And.intro hB1 hB2)
      clear hbm hB1 hB2
      go_wp2
      go_ret
      have hs := HS.out.below HB1.out.2
      exact ⟨rfl, R, B, B', ⟨hs.mem, hs.ref, hs.agr.mono (by omega), hs.lo, hs.bel⟩, Kp.of_below (S := fun j => j = b ∨ j = rr ∨ j = rb) HB1.out.1⟩
/-- A copy of bytes that came in: append([]byte{}, v...). -/
theorem run_dup (w : World) (v : Value) (xs : List Nat) (h : Slc .u8 w v xs) (hl : xs.length ≤ 1000) :
    ∃ c w1, (appO #[31, 31] 31 #[.slice (some ⟨w.heap.size, 0, none⟩) 0 0, v]).run Try.prog (w.alloc (.cells #[] 5)) = .ok c w1 ∧ w1.ownsRow w.heap.size 5 1 c xs.length (u8s xs) ∧ Below w.heap.size w w1 := by
  obtain ⟨i0, hi, hz0, hz1, hz2⟩ := info_parts info5
  have hul : (u8s xs).length = xs.length := by simp [u8s]
  have hrow0 : (w.alloc (.cells #[] 5)).ownsRow w.heap.size 5 1 (.slice (some ⟨w.heap.size, 0, none⟩) 0 0) 0 [] := World.ownsRow_lit w #[] 0 (Nat.le_refl _) (Nat.zero_le _) rfl
  have hb0 : Below w.heap.size w (w.alloc (.cells #[] 5)) := (Below.refl _ _).alloc (Nat.le_refl _) _
  obtain ⟨a, cap, rfl, h1, h2, h3⟩ := h
  have some_case : ∀ x : Addr, (∀ j u, (u8s xs)[j]? = some u → (w.alloc (.cells #[] 5)).cell? (x.add j) = some u) → ∃ c w1, (appO #[31, 31] 31 #[.slice (some ⟨w.heap.size, 0, none⟩) 0 0, .slice (some x) xs.length cap]).run Try.prog (w.alloc (.cells #[] 5)) = .ok c w1 ∧ w1.ownsRow w.heap.size 5 1 c xs.length (u8s xs) ∧ Below w.heap.size w w1 := fun x hnews => by
    obtain ⟨v', w1, hrun, hown, hgr, -⟩ := run_append_own_at (P := Try.prog) (w := w.alloc (.cells #[] 5)) w.heap.size 31 31 5 i0 (.int .u8 0) 1 1 Try.underlying31 hi hz0 hz1 hz2 rfl (by decide) _ 0 [] hrow0 x xs.length cap (u8s xs) (by rw [hul, Nat.mul_one]) hnews (u8s_one xs) (by unfold maxLen; omega) (by omega) (by simp)
    rw [Nat.zero_add, List.nil_append] at hown
    exact ⟨v', w1, hrun, hown, hb0.grown hgr (by simp) (fun k e => by cases e; exact Nat.le_refl _)⟩
  rcases h3 with rfl | ⟨b, off, rfl, hlt, hc⟩
  · cases a with
    | none =>
      refine ⟨_, _, ?_, hrow0, hb0⟩
      unfold appO
      simp [Builtin.append_, run_underlying Try.underlying31, sizeOf, typeInfo, hi, Builtin.lenOf, Builtin.firstCells, storeCells]
    | some x => exact some_case x (fun j u hj => by simp [u8s] at hj)
  · refine some_case _ (fun j u hj => ?_)
    have hjl : j < xs.length := by rw [← hul]; exact (List.getElem?_eq_some_iff.1 hj).1
    rw [u8s_at xs j hjl] at hj
    cases hj
    rw [Addr.add_mid, World.cell?_alloc_lt _ _ _ hlt]
    exact hc j hjl

set_option maxRecDepth 100000 in
set_option maxHeartbeats 4000000 in
theorem do_write (W0 w : World) (c p b q rr rb n : Nat) (R : Nat → Nat) (B B' : Nat → Nat → Nat) (h : St W0 w c p b q rr rb n R B B') (hc : c ≤ 900) (K O N : Int) (v : Value) (xs : List Nat) (hv : Slc .u8 W0 v xs) (hx : ∀ x ∈ xs, x < 256) (hl : xs.length ≤ 1000) (ho : (Lit.int .i64 O).wf = true) :
    Calls Try.prog 16 #[.pointer (some ⟨p, 0, none⟩), .pointer (some ⟨q, 0, none⟩), .agg #[.int .i64 4, .int .i64 K, .int .i64 O, .int .i64 N, v]] w (Did W0 w c p b q rr rb n) := by
  obtain ⟨wb, hwb⟩ : ∃ wb, w.alloc (.cells #[.int .i64 4, .int .i64 K, .int .i64 O, .int .i64 N, v] 33) = wb := ⟨_, rfl⟩
  have hb : Below w.heap.size w wb := by rw [← hwb]; exact (Below.refl _ _).alloc (Nat.le_refl _) _
  have hbs : wb.heap.size = w.heap.size + 1 := by rw [← hwb]; simp
  have hbx : Blk wb w.heap.size #[.int .i64 4, .int .i64 K, .int .i64 O, .int .i64 N, v] 33 := by rw [← hwb]; exact Blk.new _ _ _
  have hs := h.below hb
  obtain ⟨c1, w1, hrun, hown, hb1⟩ := run_dup wb v xs (hv.below hs.bel) hl
  have hs1 := hs.below hb1
  obtain ⟨g, B1, B1', hF, hR, hA⟩ := write_both p b q rr rb n c R B B' h.agr K O ho xs hx hl
  have hbx1 := hbx.below hb1
  have x1 := hbx1.cell 1
  have x2 := hbx1.cell 2
  have x0 := hbx.cell 0
  have hbl := hbx.lt
  have x4 := hbx.cell 4
  have hbne : ¬ (w.heap.size = b) := fun e => by have := h.mem.lt; omega
  have hslc := own_slc hown
  have hlt := h.ref.lt
  have hrl := fun g' hg' => h.ref.rows_lt (g := g') hg'
  have hrkeep : ∀ g', Rws w1 rb n g' → g' < w.heap.size := fun g' hg' => hrl g' ((Rws.kept hg' (Kp.of_below (S := fun _ => False) hb1) hs.ref.lt.2.2 (fun e => e)).kept (Kp.of_below (S := fun _ => False) hb) hlt.2.2 (fun e => e))
  obtain ⟨ad, cap, rfl⟩ := Gn.row_form hown
  have hbump : ∀ a, ad = some a → 0 < xs.length → ∃ g', a = ⟨g', 0, none⟩ ∧ wb.heap.size ≤ g' ∧ Bump w1 g' xs.length := fun a e hM0 => by
    subst e
    rcases hown.2 with ⟨e, _⟩ | ⟨g', cap', cur, e, _⟩
    · cases e
    · cases e
      obtain ⟨y1, y2⟩ := Bump.of_row hown
      exact ⟨g', rfl, y1, y2⟩
  have hsome : 0 < xs.length → ∃ a, ad = some a := fun hM0 => by
    rcases hown.2 with ⟨e, e2⟩ | ⟨g', cap', cur, e, _⟩
    · omega
    · cases e; exact ⟨_, rfl⟩
  have HS := Lib.hid hs1
  have HF := Lib.hid hF
  have HR := Lib.hid hR
  have HB := Lib.hid (And.intro hb (And.intro hb1 (And.intro hbs h.bel.size)))
  have HX := Lib.hid hbx1
  have HBp := Lib.hid (And.intro hbump hsome)
  have HV := Lib.hid (And.intro hslc (And.intro hv hrkeep))
  have HW := Lib.hid hwb
  have hM2 : (xs.length : Int) ≤ 1000 := by omega
  clear h hs hs1 hb hb1 hbx hbx1 hF hR hown hslc hlt hrl hrkeep hbump hsome hx hv hbs
  go_enter Try.func16, Try.ntmps16
  go_wp2_with (first | (go_at_call 26; (with_reducible refine (HF.out _ _ HS.out.mem HV.out.1).mono ?_); rintro e w2 ⟨rfl, h2, k2⟩; refine Hid.out ?_))
  refine Lib.hid ?_
  have hbx2 := HX.out.kept k2 hbne
  have y1 := hbx2.cell 1
  have y2 := hbx2.cell 2
  have y4 := hbx2.cell 4
  have hr2 := HS.out.ref.beside HS.out.mem k2
  have hbel2 : Below W0.heap.size W0 w2 := HS.out.bel.trans (k2.below HS.out.bel.size (fun j e => by have := HS.out.lo; omega))
  have hr2k : ∀ g', Rws w2 rb n g' → g' < w.heap.size := fun g' hg' => HV.out.2.2 g' (Rws.kept hg' k2 HS.out.ref.lt.2.2 (fun e => by
    obtain ⟨_, ⟨cs, m3, _⟩, _⟩ := HS.out.mem
    obtain ⟨ds, r3, _⟩ := HS.out.ref.rows
    exact r3.ne m3 (by decide) e))
  have H2 := Lib.hid (And.intro h2 (And.intro k2 (And.intro hr2 (And.intro hbel2 hr2k))))
  clear h2 k2 hr2 hbel2 hbx2 hr2k
  go_wp2_with (first | (go_at_call 37; (with_reducible refine (HR.out _ _ H2.out.2.2.1 (Slc.below HV.out.2.1 H2.out.2.2.2.1)).mono ?_); rintro e w3 ⟨rfl, h3, k3, hr3⟩; refine Hid.out ?_))
  refine Lib.hid ?_
  have hst := HS.out.step H2.out.1 H2.out.2.1 h3 k3 hA
  have hkk := kp3 H2.out.2.1 k3
  have hr3k : ∀ g', Rws w3 rb n g' → g' < w.heap.size ∨ w2.heap.size ≤ g' := fun g' hg' => (hr3 g' hg').imp (fun e => H2.out.2.2.2.2 g' e) id
  have H3 := Lib.hid (And.intro hst (And.intro hkk hr3k))
  have hw12 : w1.heap.size ≤ w2.heap.size := H2.out.2.1.size
  have hbm3 : ∀ g', ad = some ⟨g', 0, none⟩ → 0 < xs.length → Bump w3 g' xs.length ∧ wb.heap.size ≤ g' ∧ g' < w2.heap.size := fun g' e h0 => by
    obtain ⟨g2, e2, e3, cur, e4, e5⟩ := HBp.out.1 _ e h0
    cases e2
    obtain ⟨_, ⟨cs, m3, _⟩, _⟩ := HS.out.mem
    obtain ⟨es, r1, _⟩ := H2.out.2.2.1.refs
    obtain ⟨ds, r3, _⟩ := H2.out.2.2.1.rows
    have e6 := e4.kept H2.out.2.1 (e4.ne m3 (by decide))
    have e7 := e6.kept k3 (fun e => by
      rcases e with e | e
      · exact e6.ne r1 (by decide) e
      · exact e6.ne r3 (by decide) e)
    exact ⟨⟨cur, e7, e5⟩, e3, e6.lt⟩
  have HBm := Lib.hid hbm3
  clear h3 k3 hr3 hst hkk hr3k hbm3 y1 y2 y4 x0 x1 x2 x4
  go_wp2
  go_loopw [160] (fun i wr => ∃ j : Nat, j ≤ xs.length ∧ i = .int .i64 (j : Int) ∧ (∀ g', ad = some ⟨g', 0, none⟩ → 0 < xs.length → Bump wr g' xs.length) ∧ Kp (fun k => ad = some ⟨k, 0, none⟩ ∧ 0 < xs.length) w3 wr) (fun i _ => xs.length - (intOf i).toNat)
  case atStart => exact ⟨0, Nat.zero_le _, rfl, fun g' e h0 => (HBm.out g' e h0).1, Kp.refl _ _⟩
  case round =>
    obtain ⟨j, hj, rfl, hbm, hk⟩ := hrel
    by_cases hlt : j < xs.length
    · obtain ⟨a, ha⟩ := HBp.out.2 (by omega)
      obtain ⟨g', rfl, hg', _⟩ := HBp.out.1 a ha (by omega)
      have hb := hbm g' ha (by omega)
      obtain ⟨cur, y1, y2⟩ := id hb
      obtain ⟨x, hx⟩ := y2 j hlt
      have cc := (y1.cell j).trans hx
      have cf := y1.free j
      have HBq := Lib.hid hb
      have HK := Lib.hid hk
      subst ha
      have hpos : 0 < xs.length := by omega
      clear hb hbm hk y1 y2 hx hg'
      go_wp2
      go_roundw
      case rel => exact ⟨j + 1, by omega, by go_num, fun g2 e _ => by cases e; exact HBq.out.set _ _, HK.out.trans (Kp.set (S := fun k => (some (⟨g', 0, none⟩ : Addr)) = some ⟨k, 0, none⟩ ∧ 0 < xs.length) _ g' _ _ ⟨rfl, hpos⟩) (fun _ e => .inl e)⟩
      case measure => simp [intOf]; omega
    · obtain rfl : j = xs.length := by omega
      have HK := Lib.hid hk
      clear hbm hk
      go_wp2
      go_ret
      have hs3 := H3.out.1
      have hne : ∀ k, (ad = some ⟨k, 0, none⟩ ∧ 0 < xs.length) → w.heap.size < k ∧ k < w2.heap.size ∧ ∃ cs, Blk w3 k cs 5 := fun k e => by
        obtain ⟨⟨cur, e1, _⟩, e2, e3⟩ := HBm.out k e.1 e.2
        have := HB.out.2.2.1
        exact ⟨by omega, e3, cur, e1⟩
      have hp : ∀ k cs T, Blk w3 k cs T → T ≠ 5 → ¬ (ad = some ⟨k, 0, none⟩ ∧ 0 < xs.length) := fun k cs T hb hT e => by
        obtain ⟨_, _, cs', hb'⟩ := hne k e
        exact hT (hb.inj hb').2
      obtain ⟨⟨cap1, m1, _⟩, ⟨cs1, m2, _⟩, _⟩ := id hs3.mem
      obtain ⟨c1', c2', q1, _⟩ := id hs3.ref.hd
      obtain ⟨ds1, q2, _⟩ := id hs3.ref.refs
      obtain ⟨es1, q3, _⟩ := id hs3.ref.rows
      have hm' := hs3.mem.kept HK.out (hp _ _ _ m1 (by decide)) (hp _ _ _ m2 (by decide))
      have hr' := hs3.ref.kept2 HK.out (hp _ _ _ q1 (by decide)) (hp _ _ _ q2 (by decide)) (hp _ _ _ q3 (by decide)) (fun g' hg' e => by
        obtain ⟨e1, e2, _⟩ := hne g' e
        rcases H3.out.2.2 g' hg' with e3 | e3 <;> omega)
      have hws : W0.heap.size ≤ w3.heap.size := hs3.bel.size
      have hwl : W0.heap.size ≤ w.heap.size := HB.out.2.2.2
      refine ⟨rfl, _, _, _, ⟨hm', hr', hs3.agr, hs3.lo, hs3.bel.trans (HK.out.below hws (fun k e => by have := (hne k e).1; omega))⟩, ?_⟩
      have hk0 : Kp (fun j => j = b ∨ j = rr ∨ j = rb) w w1 := Kp.of_below (HB.out.1.trans (HB.out.2.1.mono HB.out.1.size))
      exact (hk0.trans H3.out.2.1 (fun _ e => .inl e)).trans HK.out (fun k e => .inr (by have := (hne k e).1; omega))
end Go.Proofs.Ytompcmbaiegkaaa.Dc
