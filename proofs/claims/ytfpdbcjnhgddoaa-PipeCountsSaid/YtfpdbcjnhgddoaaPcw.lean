/-
  PipeCounts: the walk.
-/
import Derived.Test.YtfpdbcjnhgddoaaPac
import Derived.Deep.RegionHeld
namespace Go.Proofs.Ytfpdbcjnhgddoaa.Pcw
open Go Go.RowKit Go.Shelf Kit Bk Rgm Rgt Rgw Rgp Rgn Rst Pm Pw Px Pr Ps Po Pn Pal Pop Pac
set_option linter.unusedVariables false

/-- A start, an operation as values. -/
abbrev stv (st : Str) (bv : Value) : Value := .agg #[.int .i64 st.c, bv, .int .i64 st.r, .int .i64 st.u]
abbrev opv (o : Opr) (bv : Value) : Value := .agg #[.int .i64 o.kind, bv, .int .i64 o.n, .bool o.w]
/-- The law's two boxes. -/
theorem two_boxes (w : World) (c r u k n : Int) (b1 b2 : Value) (x : Bool) :
    ∃ wb, (w.alloc (.cells #[.int .i64 c, b1, .int .i64 r, .int .i64 u] 24)).alloc (.cells #[.int .i64 k, b2, .int .i64 n, .bool x] 35) = wb ∧ Below w.heap.size w wb ∧ Blk wb w.heap.size #[.int .i64 c, b1, .int .i64 r, .int .i64 u] 24 ∧ Blk wb (w.heap.size + 1) #[.int .i64 k, b2, .int .i64 n, .bool x] 35 ∧ wb.heap.size = w.heap.size + 2 := by
  refine ⟨_, rfl, ((Below.refl _ _).alloc (Nat.le_refl _) _).alloc (by simp) _, (Blk.new w _ _).below ((Below.refl _ _).alloc (Nat.le_refl _) _), ?_, by simp⟩
  have := Blk.new (w.alloc (.cells #[.int .i64 c, b1, .int .i64 r, .int .i64 u] 24)) #[.int .i64 k, b2, .int .i64 n, .bool x] 35
  rwa [World.size_alloc] at this

set_option maxRecDepth 100000 in
set_option maxHeartbeats 1000000 in
theorem counts_great (st : Str) (bv v : Value) (l : List Opr) (o : Opr) (bo : Value) (w : World) (h1 : OpsAt w v l) (hf : ¬ Fine l) :
    Calls Try.prog 8 #[stv st bv, v, opv o bo] w fun e w' => e = .returned (.bool true) ∧ Below w.heap.size w w' := by
  obtain ⟨wb, hwb, hb, hs, ho, hsz⟩ := two_boxes w st.c st.r st.u o.kind o.n bv bo o.w
  have HO := Lib.hid (h1.below hb)
  have HB := Lib.hid hb
  clear h1 hb hs ho
  go_enter Try.func8, Try.ntmps8
  go_wp2_with (first | (go_at_call 29; (with_reducible refine (alive_any _).mono ?_); rintro e w1 ⟨rfl, b1⟩) | (go_at_call 9; (with_reducible refine (great_any _ l _ (OpsAt.below HO.out b1) hf).mono ?_); rintro e w2 ⟨rfl, rfl⟩))
  go_ret
  exact ⟨rfl, HB.out.trans (b1.mono HB.out.size)⟩
set_option maxRecDepth 100000 in
set_option maxHeartbeats 1000000 in
theorem counts_far (st : Str) (bv v : Value) (l : List Opr) (o : Opr) (bo : Value) (w : World) (h0 : Slc .u8 w bv st.xs) (h1 : OpsAt w v l) (hf : Fine l) (hl : 200 < st.xs.length) :
    Calls Try.prog 8 #[stv st bv, v, opv o bo] w fun e w' => e = .returned (.bool true) ∧ Below w.heap.size w w' := by
  obtain ⟨wb, hwb, hb, hs, ho, hsz⟩ := two_boxes w st.c st.r st.u o.kind o.n bv bo o.w
  have HO := Lib.hid (h1.below hb)
  have HB := Lib.hid hb
  obtain ⟨a, cap, rfl, c1, c2, -⟩ := h0
  have HS : Hid (∀ W, Below wb.heap.size wb W → W.cell? ⟨w.heap.size, 1, none⟩ = some (.slice a st.xs.length cap)) := Lib.hid (fun W h => (hs.below h).cell 1)
  have d0 : decide (200 < (st.xs.length : Int)) = true := decide_eq_true (by omega)
  have d1 : decide (200 < st.xs.length) = true := decide_eq_true (by omega)
  clear h1 hb hs ho hl c1 c2
  go_enter Try.func8, Try.ntmps8
  go_wp2_with (first | (go_at_call 29; (with_reducible refine (alive_any _).mono ?_); rintro e w1 ⟨rfl, b1⟩; have x1 := HS.out _ b1) | (go_at_call 9; (with_reducible refine (great_fine _ l _ (OpsAt.below HO.out b1) hf).mono ?_); rintro e w2 ⟨rfl, rfl⟩))
  go_ret
  exact ⟨rfl, HB.out.trans (b1.mono HB.out.size)⟩
set_option maxRecDepth 100000 in
set_option maxHeartbeats 1000000 in
theorem counts_bad (st : Str) (bv v : Value) (l : List Opr) (o : Opr) (bo : Value) (w : World) (h0 : Slc .u8 w bv st.xs) (h1 : OpsAt w v l) (hf : Fine l) (hl : st.xs.length ≤ 200) (hg : ¬ GoodS st) :
    Calls Try.prog 8 #[stv st bv, v, opv o bo] w fun e w' => e = .returned (.bool true) ∧ Below w.heap.size w w' := by
  obtain ⟨wb, hwb, hb, hs, ho, hsz⟩ := two_boxes w st.c st.r st.u o.kind o.n bv bo o.w
  have HO := Lib.hid (h1.below hb)
  have HB := Lib.hid hb
  have HF : Hid (∀ W, Below wb.heap.size wb W → _) := Lib.hid (fun W h => start_bad W st bv (h0.below (hb.trans (h.mono hb.size))) hg)
  obtain ⟨a, cap, rfl, c1, c2, -⟩ := h0
  have HS : Hid (∀ W, Below wb.heap.size wb W → W.cell? ⟨w.heap.size, 0, none⟩ = some (.int .i64 st.c) ∧ W.cell? ⟨w.heap.size, 1, none⟩ = some (.slice a st.xs.length cap) ∧ W.cell? ⟨w.heap.size, 2, none⟩ = some (.int .i64 st.r) ∧ W.cell? ⟨w.heap.size, 3, none⟩ = some (.int .i64 st.u)) := Lib.hid (fun W h => ⟨(hs.below h).cell 0, (hs.below h).cell 1, (hs.below h).cell 2, (hs.below h).cell 3⟩)
  have d0 : decide (200 < (st.xs.length : Int)) = false := decide_eq_false (by omega)
  have d1 : decide (200 < st.xs.length) = false := decide_eq_false (by omega)
  clear h1 hb hs ho hl c1 c2 hg
  go_enter Try.func8, Try.ntmps8
  go_wp2_with (first | (go_at_call 29; (with_reducible refine (alive_any _).mono ?_); rintro e w1 ⟨rfl, b1⟩; obtain ⟨x0, x1, x2, x3⟩ := HS.out _ b1; refine Hid.out ?_))
  refine Lib.hid ?_
  obtain ⟨E, hE0, hE1, hE2⟩ := HF.out _ b1
  have HE := Lib.hid hE2
  clear hE1 hE2 HF
  go_wp2_with (first | (go_at_call 9; (with_reducible refine (great_fine _ l _ (OpsAt.below HO.out b1) hf).mono ?_); rintro e w2 ⟨rfl, rfl⟩) | (go_at_call 10; (with_reducible refine HE.out.mono ?_); rintro e w3 ⟨rfl, b3⟩))
  go_ret
  exact ⟨rfl, HB.out.trans ((b1.trans (b3.mono b1.size)).mono HB.out.size)⟩
end Go.Proofs.Ytfpdbcjnhgddoaa.Pcw
