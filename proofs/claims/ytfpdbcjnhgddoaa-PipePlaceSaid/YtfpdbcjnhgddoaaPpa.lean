/-
  PipePlace: the ways out ahead of its calls.
-/
import Derived.Test.YtfpdbcjnhgddoaaPsd
namespace Go.Proofs.Ytfpdbcjnhgddoaa.Ppa
open Go Go.RowKit Go.Shelf Kit Bk Rgm Rgt Rgw Rgp Rgn Rst Pm Pw Px Pr Ps Po Pn Pal Pop Pac Psd
set_option linter.unusedVariables false

set_option maxRecDepth 100000 in
set_option maxHeartbeats 1000000 in
theorem place_great1 (st : Str) (bv v v2 : Value) (l : List Opr) (w : World) (h1 : OpsAt w v l) (hf : ¬ Fine l) :
    Calls Try.prog 7 #[stv st bv, v, v2] w fun e w' => e = .returned (.bool true) ∧ Below w.heap.size w w' := by
  obtain ⟨wb, hwb, hb, hs⟩ := one_box w st.c st.r st.u bv
  have HO := Lib.hid (h1.below hb)
  have HB := Lib.hid hb
  clear h1 hb hs
  go_enter Try.func7, Try.ntmps7
  go_wp2_with (first | (go_at_call 29; (with_reducible refine (alive_any _).mono ?_); rintro e w1 ⟨rfl, b1⟩) | (go_at_call 9; (with_reducible refine (great_any _ l _ (OpsAt.below HO.out b1) hf).mono ?_); rintro e w2 ⟨rfl, rfl⟩))
  go_ret
  exact ⟨rfl, HB.out.trans (b1.mono HB.out.size)⟩
set_option maxRecDepth 100000 in
set_option maxHeartbeats 1000000 in
theorem place_great2 (st : Str) (bv v v2 : Value) (l m : List Opr) (w : World) (h1 : OpsAt w v l) (h2 : OpsAt w v2 m) (hf : Fine l) (hf2 : ¬ Fine m) :
    Calls Try.prog 7 #[stv st bv, v, v2] w fun e w' => e = .returned (.bool true) ∧ Below w.heap.size w w' := by
  obtain ⟨wb, hwb, hb, hs⟩ := one_box w st.c st.r st.u bv
  have HO := Lib.hid (h1.below hb)
  have HO2 := Lib.hid (h2.below hb)
  have HB := Lib.hid hb
  clear h1 h2 hb hs
  go_enter Try.func7, Try.ntmps7
  go_wp2_with (first | (go_at_call 29; (with_reducible refine (alive_any _).mono ?_); rintro e w1 ⟨rfl, b1⟩) | (go_at_call 9; (with_reducible refine (great_fine _ l _ (OpsAt.below HO.out b1) hf).mono ?_); rintro e w2 ⟨rfl, rfl⟩) | (go_at_call 9; (with_reducible refine (great_any _ m _ (OpsAt.below HO2.out b1) hf2).mono ?_); rintro e w2 ⟨rfl, rfl⟩))
  go_ret
  exact ⟨rfl, HB.out.trans (b1.mono HB.out.size)⟩
set_option maxRecDepth 100000 in
set_option maxHeartbeats 1000000 in
theorem place_far (st : Str) (bv v v2 : Value) (l m : List Opr) (w : World) (h0 : Slc .u8 w bv st.xs) (h1 : OpsAt w v l) (h2 : OpsAt w v2 m) (hf : Fine l) (hf2 : Fine m) (hl : 200 < st.xs.length) :
    Calls Try.prog 7 #[stv st bv, v, v2] w fun e w' => e = .returned (.bool true) ∧ Below w.heap.size w w' := by
  obtain ⟨wb, hwb, hb, hs⟩ := one_box w st.c st.r st.u bv
  have HO := Lib.hid (h1.below hb)
  have HO2 := Lib.hid (h2.below hb)
  have HB := Lib.hid hb
  obtain ⟨a, cap, rfl, c1, c2, -⟩ := h0
  have HS : Hid (∀ W, Below wb.heap.size wb W → W.cell? ⟨w.heap.size, 1, none⟩ = some (.slice a st.xs.length cap)) := Lib.hid (fun W h => (hs.below h).cell 1)
  have d0 : decide (200 < (st.xs.length : Int)) = true := decide_eq_true (by omega)
  have d1 : decide (200 < st.xs.length) = true := decide_eq_true (by omega)
  clear h1 h2 hb hs hl c1 c2
  go_enter Try.func7, Try.ntmps7
  go_wp2_with (first | (go_at_call 29; (with_reducible refine (alive_any _).mono ?_); rintro e w1 ⟨rfl, b1⟩; have x1 := HS.out _ b1) | (go_at_call 9; (with_reducible refine (great_fine _ l _ (OpsAt.below HO.out b1) hf).mono ?_); rintro e w2 ⟨rfl, rfl⟩) | (go_at_call 9; (with_reducible refine (great_fine _ m _ (OpsAt.below HO2.out b1) hf2).mono ?_); rintro e w2 ⟨rfl, rfl⟩))
  go_ret
  exact ⟨rfl, HB.out.trans (b1.mono HB.out.size)⟩
set_option maxRecDepth 100000 in
set_option maxHeartbeats 1000000 in
theorem place_bad (st : Str) (bv v v2 : Value) (l m : List Opr) (w : World) (h0 : Slc .u8 w bv st.xs) (h1 : OpsAt w v l) (h2 : OpsAt w v2 m) (hf : Fine l) (hf2 : Fine m) (hl : st.xs.length ≤ 200) (hg : ¬ GoodS st) :
    Calls Try.prog 7 #[stv st bv, v, v2] w fun e w' => e = .returned (.bool true) ∧ Below w.heap.size w w' := by
  obtain ⟨wb, hwb, hb, hs⟩ := one_box w st.c st.r st.u bv
  have HO := Lib.hid (h1.below hb)
  have HO2 := Lib.hid (h2.below hb)
  have HB := Lib.hid hb
  have HF : Hid (∀ W, Below wb.heap.size wb W → _) := Lib.hid (fun W h => start_bad W st bv (h0.below (hb.trans (h.mono hb.size))) hg)
  obtain ⟨a, cap, rfl, c1, c2, -⟩ := h0
  have HS : Hid (∀ W, Below wb.heap.size wb W → W.cell? ⟨w.heap.size, 0, none⟩ = some (.int .i64 st.c) ∧ W.cell? ⟨w.heap.size, 1, none⟩ = some (.slice a st.xs.length cap) ∧ W.cell? ⟨w.heap.size, 2, none⟩ = some (.int .i64 st.r) ∧ W.cell? ⟨w.heap.size, 3, none⟩ = some (.int .i64 st.u)) := Lib.hid (fun W h => ⟨(hs.below h).cell 0, (hs.below h).cell 1, (hs.below h).cell 2, (hs.below h).cell 3⟩)
  have d0 : decide (200 < (st.xs.length : Int)) = false := decide_eq_false (by omega)
  have d1 : decide (200 < st.xs.length) = false := decide_eq_false (by omega)
  clear h1 h2 hb hs hl c1 c2 hg
  go_enter Try.func7, Try.ntmps7
  go_wp2_with (first | (go_at_call 29; (with_reducible refine (alive_any _).mono ?_); rintro e w1 ⟨rfl, b1⟩; obtain ⟨x0, x1, x2, x3⟩ := HS.out _ b1; refine Hid.out ?_))
  refine Lib.hid ?_
  obtain ⟨E, hE0, hE1, hE2⟩ := HF.out _ b1
  have HE := Lib.hid hE2
  clear hE1 hE2 HF
  go_wp2_with (first | (go_at_call 9; (with_reducible refine (great_fine _ l _ (OpsAt.below HO.out b1) hf).mono ?_); rintro e w2 ⟨rfl, rfl⟩) | (go_at_call 9; (with_reducible refine (great_fine _ m _ (OpsAt.below HO2.out b1) hf2).mono ?_); rintro e w2 ⟨rfl, rfl⟩) | (go_at_call 10; (with_reducible refine HE.out.mono ?_); rintro e w3 ⟨rfl, b3⟩))
  go_ret
  exact ⟨rfl, HB.out.trans ((b1.trans (b3.mono b1.size)).mono HB.out.size)⟩
end Go.Proofs.Ytfpdbcjnhgddoaa.Ppa
