/-
  The document's Read.
-/
import Derived.Test.YtocbilaaklapkaaDoorRt
namespace Go.Proofs.YtocbilaaklapkaaDoor.Rr
open Go Go.RowKit Go.Shelf Kit IsaM IsaT IsaL IsaC IsaE IsaN IsaP IsaR Ra Rb0 Rb Rt
set_option linter.unusedVariables false

set_option maxRecDepth 100000 in
set_option maxHeartbeats 4000000 in
theorem rread_any (s : ByteArray) (hs : s.size ≤ 100000) (w : World) :
    Calls Tryd.prog 19 #[.string s] w fun e w' => e = .returned (readV (parse s.data.toList)) ∧ Below w.heap.size w w' := by
  have HT := Lib.hid (fun wx => rtake_any s hs wx)
  have B0 := (Below.refl w.heap.size w).alloc (Nat.le_refl _) (.cells #[.int .i64 0, .int .i64 0, .int .i64 0, .int .i64 0] 23)
  have K2 := Blk.new w #[.int .i64 0, .int .i64 0, .int .i64 0, .int .i64 0] 23
  go_enter Tryd.func19, Tryd.ntmps19
  go_wp2_with (first | (go_at_call 38; ((with_reducible refine (HT.out _).mono ?_); rintro e w1 ⟨⟨c0, a, b, i, lb, ok, rfl, hyes, hno⟩, hb1⟩; refine Hid.out ?_)))
  refine Lib.hid ?_
  have D1 := B0.trans (hb1.mono B0.size)
  have J2 := K2.below hb1
  have hz := J2.lt
  have q0 := J2.cell 0
  have q1 := J2.cell 1
  have q2 := J2.cell 2
  have q3 := J2.cell 3
  have f0 := J2.free 0
  have f1 := J2.free 1
  have f2 := J2.free 2
  have f3 := J2.free 3
  have HY := Lib.hid hyes
  have HNo := Lib.hid hno
  clear hyes hno
  cases ok with
  | false =>
    have HP : Hid (readV (parse s.data.toList) = .tuple #[.agg #[.int .i64 0, .int .i64 0, .int .i64 0, .int .i64 0], .int .i64 30]) := Lib.hid (by rw [HNo.out rfl]; rfl)
    obtain ⟨g0, g1, g2, g3⟩ := set4_alloc w1 w.heap.size (.int .i64 0) (.int .i64 0) (.int .i64 0) (.int .i64 0) J2 (.cells #[.int .i64 c0, .int .i64 a, .int .i64 b, .int .i64 i] 23)
    go_wp2
    exact bodyPost_ret (v := .tuple #[.agg #[.int .i64 0, .int .i64 0, .int .i64 0, .int .i64 0], .int .i64 30]) (by simp [results, Tryd.results19, go_sem, g0, g1, g2, g3]) rfl ⟨by rw [HP.out], ((((D1.setCell (Nat.le_refl _) _).setCell (Nat.le_refl _) _).setCell (Nat.le_refl _) _).setCell (Nat.le_refl _) _).alloc (by show w.heap.size ≤ ((((w1.setCell _ _).setCell _ _).setCell _ _).setCell _ _).heap.size; simp only [Deep.nblk_setCell]; omega) _⟩
  | true =>
    obtain ⟨k, l, rfl, rfl, hp⟩ := HY.out rfl
    cases l with
    | cons c r =>
      have HP : Hid (readV (parse s.data.toList) = .tuple #[.agg #[.int .i64 0, .int .i64 0, .int .i64 0, .int .i64 0], .int .i64 30]) := Lib.hid (by rw [hp]; rfl)
      have hq2 : ((st (c :: r)).toList == []) = false := by rw [ByteArray.toList_eq, st_data]; rfl
      have hq3 : (st (c :: r)).toList.isEmpty = false := by rw [ByteArray.toList_eq, st_data]; rfl
      clear hp
      obtain ⟨g0, g1, g2, g3⟩ := set4_alloc w1 w.heap.size (.int .i64 0) (.int .i64 0) (.int .i64 0) (.int .i64 0) J2 (.cells #[.int .i64 (k : Int), .int .i64 a, .int .i64 b, .int .i64 i] 23)
      go_wp2
      exact bodyPost_ret (v := .tuple #[.agg #[.int .i64 0, .int .i64 0, .int .i64 0, .int .i64 0], .int .i64 30]) (by simp [results, Tryd.results19, go_sem, g0, g1, g2, g3]) rfl ⟨by rw [HP.out], ((((D1.setCell (Nat.le_refl _) _).setCell (Nat.le_refl _) _).setCell (Nat.le_refl _) _).setCell (Nat.le_refl _) _).alloc (by show w.heap.size ≤ ((((w1.setCell _ _).setCell _ _).setCell _ _).setCell _ _).heap.size; simp only [Deep.nblk_setCell]; omega) _⟩
    | nil =>
      have HP : Hid (readV (parse s.data.toList) = .tuple #[.agg #[.int .i64 (k : Int), .int .i64 a, .int .i64 b, .int .i64 i], .int .i64 0]) := Lib.hid (by rw [hp]; rfl)
      have hq2 : ((st []).toList == []) = true := by rw [ByteArray.toList_eq, st_data]; rfl
      have hq3 : (st []).toList.isEmpty = true := by rw [ByteArray.toList_eq, st_data]; rfl
      clear hp
      obtain ⟨g0, g1, g2, g3⟩ := set4_alloc w1 w.heap.size (.int .i64 (k : Int)) (.int .i64 a) (.int .i64 b) (.int .i64 i) J2 (.cells #[.int .i64 (k : Int), .int .i64 a, .int .i64 b, .int .i64 i] 23)
      go_wp2
      exact bodyPost_ret (v := .tuple #[.agg #[.int .i64 (k : Int), .int .i64 a, .int .i64 b, .int .i64 i], .int .i64 0]) (by simp [results, Tryd.results19, go_sem, g0, g1, g2, g3]) rfl ⟨by rw [HP.out], ((((D1.setCell (Nat.le_refl _) _).setCell (Nat.le_refl _) _).setCell (Nat.le_refl _) _).setCell (Nat.le_refl _) _).alloc (by show w.heap.size ≤ ((((w1.setCell _ _).setCell _ _).setCell _ _).setCell _ _).heap.size; simp only [Deep.nblk_setCell]; omega) _⟩
end Go.Proofs.YtocbilaaklapkaaDoor.Rr
