/-
  SleepPlays: the sleepers and the document's own, side by side.
-/
import Derived.Test.YtpblnjphkgilfaaSlx
namespace Go.Proofs.Ytpblnjphkgilfaa.Sly
open Go Go.RowKit Go.Shelf Kit Bk Sla Slb Slc Sld Sle Slf Slg Slh Sli Slj Slk Sll Sln Slo Slp Slq Slr Sls Slv Slw Slx
set_option linter.unusedVariables false

/-- The document's own sleepers M at r, and a call's box at x, beside a law's. -/
structure Rb (w0 w : World) (r x : Nat) (o : Opr) (M : St) : Prop where
  ref : Rs w r M
  okM : Ok M
  lo : w0.heap.size ≤ r
  box : Blk w x #[.int .i64 o.kind, .int .i64 o.p, uv o.n] 33
variable {w0 w w' : World} {q q2 r x : Nat} {m m2 : Option Nat} {o : Opr} {L L2 M : St}
theorem Rb.below (h : Rb w0 w r x o M) (hb : Below w.heap.size w w') : Rb w0 w' r x o M := ⟨h.ref.below hb, h.okM, h.lo, h.box.below hb⟩
theorem Rb.cells (h : Rb w0 w r x o M) : w.cell? ⟨x, 0, none⟩ = some (.int .i64 o.kind) ∧ w.cell? ⟨x, 1, none⟩ = some (.int .i64 o.p) ∧ w.cell? ⟨x, 2, none⟩ = some (uv o.n) := ⟨h.box.cell 0, h.box.cell 1, h.box.cell 2⟩
/-- Steps of the package's keep them. -/
theorem Rb.sv (h : Rb w0 w r x o M) (hv : Sv w q m L) (hk : Kp (Slb.fr q m) w w') : Rb w0 w' r x o M := by
  obtain ⟨v, h1, h2⟩ := h.ref
  exact ⟨⟨v, Sv.blk' hv h1 hk (by decide), Sv.row hv h2 hk (by decide)⟩, h.okM, h.lo, Sv.blk' hv h.box hk (by decide)⟩
/-- Steps of the document's own keep the package's. -/
theorem on_ref (h : On w0 w q m L) (hr : Rb w0 w r x o M) (hk : Kp (fun j => j = r) w w') : On w0 w' q m L := by
  obtain ⟨v, h1, h2⟩ := hr.ref
  exact h.kept hk (fun j e => by rw [e]; exact hr.lo) (fun e => by subst e; exact absurd (h.sv.blk.inj h1).2 (by decide)) (fun b e e2 => by subst e; subst e2; exact Mp.ne (show Mp w b L from h.sv.map) h1 rfl)
theorem row_ref {u : Value} {l : List Int} (h : Nr w u l) (hr : Rb w0 w r x o M) (hk : Kp (fun j => j = r) w w') : Nr w' u l := own_kept h hk (fun g hg e => by
  obtain ⟨_, cs, hc⟩ := own_cells h hg
  obtain ⟨v, h1, _⟩ := hr.ref
  subst e
  rw [show w.heap[g]? = _ from h1] at hc
  cases hc)
/-- Both. -/
structure Px (w0 w : World) (q : Nat) (m : Option Nat) (r x : Nat) (o : Opr) (L M : St) : Prop where
  on_ : On w0 w q m L
  rb : Rb w0 w r x o M
theorem Px.below (h : Px w0 w q m r x o L M) (hb : Below w.heap.size w w') : Px w0 w' q m r x o L M := ⟨h.on_.below hb, h.rb.below hb⟩
theorem Px.add (h : Px w0 w q m r x o L M) (hl : L.length < 80000) (hok : OpOk o) :
    Calls Try.prog 8 #[pv q, .int .i64 o.p, uv o.n] w fun e w' => e = .returned (.int .i64 ((adE L o.p o.n : Nat) : Int)) ∧ ∃ m', Px w0 w' q m' r x o (adL L o.p o.n) M := by
  refine (h.on_.add hl o.p o.n hok.1 hok.2).mono ?_
  rintro e w' ⟨rfl, m', h1, h2, h3⟩
  exact ⟨rfl, m', h1, h.rb.sv h.on_.sv h2⟩
theorem Px.radd (h : Px w0 w q m r x o L M) (hl : M.length ≤ 80000) (hok : OpOk o) :
    Calls Try.prog 9 #[pv r, .int .i64 o.p, uv o.n] w fun e w' => e = .returned (.int .i64 ((adE M o.p o.n : Nat) : Int)) ∧ Px w0 w' q m r x o L (adL M o.p o.n) := by
  refine (radd_any h.rb.ref h.rb.okM hl o.p o.n).mono ?_
  rintro e w' ⟨rfl, h1, h2⟩
  have hx : x ≠ r := by
    obtain ⟨v, h3, _⟩ := h.rb.ref
    exact h.rb.box.ne h3 (by decide)
  exact ⟨rfl, on_ref h.on_ h.rb h2, h1, h.rb.okM.adL (by have := i64_bd hok.1; omega) hok.2, h.rb.lo, h.rb.box.kept h2 hx⟩
theorem Px.tick (h : Px w0 w q m r x o L M) (hl : L.length < 80000) :
    Calls Try.prog 10 #[pv q] w fun e w' => ∃ u, e = .returned u ∧ Nr w' u (tkW L) ∧ Px w0 w' q m r x o (tkL L) M := by
  refine (h.on_.tick hl).mono ?_
  rintro e w' ⟨h1, h2, u, rfl, h3⟩
  exact ⟨u, rfl, own_base h3 (Nat.zero_le _), h1, h.rb.sv h.on_.sv h2⟩
theorem Px.rtick {u : Value} {l : List Int} (h : Px w0 w q m r x o L M) (hl : M.length ≤ 80000) (hu : Nr w u l) :
    Calls Try.prog 12 #[pv r] w fun e w' => ∃ v, e = .returned v ∧ Nr w' v (tkW M) ∧ Nr w' u l ∧ Px w0 w' q m r x o L (tkL M) := by
  refine (rtick_any h.rb.ref h.rb.okM hl).mono ?_
  rintro e w' ⟨h1, h2, v, rfl, h3⟩
  have hx : x ≠ r := by
    obtain ⟨v, h3, _⟩ := h.rb.ref
    exact h.rb.box.ne h3 (by decide)
  exact ⟨v, rfl, own_base h3 (Nat.zero_le _), row_ref hu h.rb h2, on_ref h.on_ h.rb h2, h1, h.rb.okM.tkL, h.rb.lo, h.rb.box.kept h2 hx⟩
theorem Px.drop (h : Px w0 w q m r x o L M) (hok : OpOk o) :
    Calls Try.prog 13 #[pv q, .int .i64 o.p] w fun e w' => e = .returned (.tuple #[uv (lft L o.p), .bool (slp L o.p)]) ∧ Px w0 w' q m r x o (drL L o.p) M := by
  refine (h.on_.drop o.p hok.1).mono ?_
  rintro e w' ⟨rfl, h1, h2⟩
  exact ⟨rfl, h1, h.rb.sv h.on_.sv h2⟩
theorem Px.rdrop (h : Px w0 w q m r x o L M) (hl : M.length ≤ 80000) :
    Calls Try.prog 14 #[pv r, .int .i64 o.p] w fun e w' => e = .returned (.tuple #[uv (lft M o.p), .bool (slp M o.p)]) ∧ Px w0 w' q m r x o L (drL M o.p) := by
  refine (rdrop_any h.rb.ref hl o.p).mono ?_
  rintro e w' ⟨rfl, h1, h2⟩
  have hx : x ≠ r := by
    obtain ⟨v, h3, _⟩ := h.rb.ref
    exact h.rb.box.ne h3 (by decide)
  exact ⟨rfl, on_ref h.on_ h.rb h2, h1, h.rb.okM.drL _, h.rb.lo, h.rb.box.kept h2 hx⟩
/-- An elder one, and its copy. -/
structure Pz (w0 w : World) (q : Nat) (m : Option Nat) (L : St) (q2 : Nat) (m2 : Option Nat) (r x : Nat) (o : Opr) (M : St) : Prop where
  two : Two w0 w q m L q2 m2 M
  rb : Rb w0 w r x o M
theorem Px.copy (h : Px w0 w q m r x o L L) : Calls Try.prog 15 #[pv q] w fun e w' => ∃ q2 m2, e = .returned (pv q2) ∧ Pz w0 w' q m L q2 m2 r x o L := by
  refine (Slr.Two.copy h.on_).mono ?_
  rintro e w' ⟨q2, m2, rfl, h1, h2⟩
  exact ⟨q2, m2, rfl, h1, h.rb.below h2⟩
theorem Pz.tick (h : Pz w0 w q m L q2 m2 r x o M) (hl : L.length < 80000) : Calls Try.prog 10 #[pv q] w fun e w' => (∃ u, e = .returned u) ∧ Pz w0 w' q m (tkL L) q2 m2 r x o M := by
  refine (Sls.Two.tick h.two hl).mono ?_
  rintro e w' ⟨h1, h2, u, rfl, _⟩
  exact ⟨⟨u, rfl⟩, h1, h.rb.sv h.two.a.sv h2⟩
theorem Pz.add (h : Pz w0 w q m L q2 m2 r x o M) (hl : L.length < 80000) : Calls Try.prog 8 #[pv q, .int .i64 77, .int .u32 1] w fun e w' => (∃ z : Int, e = .returned (.int .i64 z)) ∧ Px w0 w' q2 m2 r x o M M := by
  refine (h.two.a.add hl 77 1 (by decide) (by decide)).mono ?_
  rintro e w' ⟨rfl, m', h1, h2, h3⟩
  exact ⟨⟨_, rfl⟩, (h.two.left h1 h2 h3).b, h.rb.sv h.two.a.sv h2⟩
/-- A call's box is made. -/
theorem Px.new {L : St} (h1 : On w0 w q m L) (h2 : Rs w r L) (h3 : w0.heap.size ≤ r) (o : Opr) : Px w0 (w.alloc (.cells #[.int .i64 o.kind, .int .i64 o.p, uv o.n] 33)) q m r w.heap.size o L L := by
  have hb : Below w.heap.size w (w.alloc (.cells #[.int .i64 o.kind, .int .i64 o.p, uv o.n] 33)) := (Below.refl _ _).alloc (Nat.le_refl _) _
  exact ⟨h1.below hb, h2.below hb, h1.ok, h3, Blk.new _ _ _⟩
theorem Px.all (h : Px w0 w q m r x o L M) (hl : L.length < 80000) : Calls Try.prog 20 #[pv q] w fun e w' => ∃ a c, e = .returned (.slice a L.length c) ∧ Sr w' (.slice a L.length c) L ∧ Px w0 w' q m r x o L M := by
  refine (h.on_.all hl).mono ?_
  rintro e w' ⟨_, h2, u, rfl, h3⟩
  have h4 : Sr w' u L := own_base h3 (Nat.zero_le _)
  obtain ⟨a, c, rfl, -⟩ := sr_cells h4
  exact ⟨a, c, rfl, h4, h.below h2⟩
theorem Px.next (h : Px w0 w q m r x o L M) (hl : L.length < 80000) : Calls Try.prog 18 #[pv q] w fun e w' => e = .returned (.tuple #[uv (nx L), .bool (decide (0 < nx L))]) ∧ Px w0 w' q m r x o L M := by
  refine (h.on_.next hl).mono ?_
  rintro e w' ⟨rfl, _, h2⟩
  exact ⟨rfl, h.below h2⟩
theorem start (w : World) : On w ((w.alloc (.cells #[.map none] 26)).alloc (.cells #[.slice none 0 0] 30)) w.heap.size none [] ∧ Rs ((w.alloc (.cells #[.map none] 26)).alloc (.cells #[.slice none 0 0] 30)) (w.heap.size + 1) [] := by
  have hb : Below (w.alloc (.cells #[.map none] 26)).heap.size (w.alloc (.cells #[.map none] 26)) ((w.alloc (.cells #[.map none] 26)).alloc (.cells #[.slice none 0 0] 30)) := (Below.refl _ _).alloc (Nat.le_refl _) _
  have hn := Blk.new (w.alloc (.cells #[.map none] 26)) #[.slice none 0 0] 30
  rw [World.size_alloc] at hn
  exact ⟨(On.new w).below hb, _, hn, World.ownsRow_nil _ _ _ _⟩
end Go.Proofs.Ytpblnjphkgilfaa.Sly
