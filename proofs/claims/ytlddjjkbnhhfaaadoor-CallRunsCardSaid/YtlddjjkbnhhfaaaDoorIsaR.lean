/-
  parse of package isa at any line; Read.
-/
import Derived.Test.YtlddjjkbnhhfaaaDoorIsaP
namespace Go.Proofs.YtlddjjkbnhhfaaaDoor.IsaR
open Go Go.RowKit Kit IsaM IsaT IsaL IsaC IsaE IsaN IsaD IsaA IsaW IsaS IsaP
set_option linter.unusedVariables false

theorem findFrom_lt (t : Tx) : ∀ (l : List Tx) (b k : Nat), findFrom t b l = some k → k < b + l.length
  | [], b, k, h => by simp [findFrom] at h
  | n :: r, b, k, h => by
    unfold findFrom at h
    split at h
    · simp at h; subst h; simp
    · have := findFrom_lt t r (b + 1) k h
      simp; omega
theorem opOf_lt {t : Tx} {k : Nat} (h : opOf t = some k) : k < 30 := by
  have := findFrom_lt t nmT 0 k h
  rw [nmT_len] at this
  omega
theorem parse_of_cut {t h : Tx} {st0 : List Tx} (hc : cut5 t = h :: st0) : parse t = (match opOf h with | none => none | some k => upV k (eats k st0)) := by
  rw [← parse_cut]
  show parseL (cut5 t) = _
  rw [hc]
  show (match opOf h with | none => none | some k => match eats k st0 with | none => none | some ((a, b, i), l) => some ((k, a, b, i), l)) = _
  cases opOf h with
  | none => rfl
  | some k =>
    show (match eats k st0 with | none => none | some ((a, b, i), l) => some ((k, a, b, i), l)) = upV k (eats k st0)
    cases eats k st0 with
    | none => rfl
    | some x => obtain ⟨⟨a, b, i⟩, l⟩ := x; rfl

set_option maxRecDepth 1000000 in
set_option maxHeartbeats 4000000 in
theorem parse_none (s : ByteArray) (w : World) (hs : s.size < 4294967281) (hT : Tabs w) (hM : Ml w) (h : Tx) (st0 : List Tx) (hcut : cut5 s.data.toList = h :: st0) (hop : opOf h = none) :
    Calls Tryd.prog 62 #[.string s] w fun e w' => e = .returned (parseV none) ∧ Below w.heap.size w w' := by
  have HT := Lib.hid hT
  have HM := Lib.hid hM
  have hsp := fun wx (hx : Ml wx) => split_any s wx hs hx
  rw [hcut] at hsp
  have HSP := Lib.hid hsp
  have hfd := fun wx (hx : Tabs wx) => find_any (st h) wx hx
  rw [st_data, hop] at hfd
  unfold findV at hfd
  have HF := Lib.hid hfd
  clear hsp hfd hT hM hop hcut
  go_enter Tryd.func62, Tryd.ntmps62
  go_wp2_with (first
    | (go_at_call 39; ((with_reducible refine (HSP.out _ (HM.out.below (((Below.refl _ _).alloc (Nat.le_refl _) _).alloc (by simp) _))).mono ?_); rintro e w1 ⟨⟨v, rfl, htx⟩, hb⟩; refine Hid.out ?_)))
  refine Lib.hid ?_
  have K2 : Blk w1 w.heap.size #[.int .i64 0, .int .i64 0, .int .i64 0, .int .i64 0] 54 := Blk.below (Blk.below (Blk.new _ _ _) ((Below.refl _ _).alloc (Nat.le_refl _) _)) hb
  have hB1 : Below w.heap.size w w1 := (((Below.refl _ _).alloc (Nat.le_refl _) _).alloc (by simp) _).trans (hb.mono (by simp; omega))
  obtain ⟨b, off, cap, off', rfl, hcell, hsl, htx⟩ := htx.open
  clear hsl htx hb
  go_wp2_with (first
    | (go_at_call 79; ((with_reducible refine (HF.out _ (HT.out.below hB1)).mono ?_); rintro e w2 ⟨rfl, hb2⟩; have hB2 := hB1.trans (hb2.mono hB1.size); have J2 := K2.below hb2; have q0 := J2.cell 0; have q1 := J2.cell 1; have q2 := J2.cell 2; have q3 := J2.cell 3; have f0 := J2.free 0; have f1 := J2.free 1; have f2 := J2.free 2; have f3 := J2.free 3)))
  obtain ⟨g0, g1, g2, g3⟩ := set4 w2 w.heap.size (.int .i64 0) (.int .i64 0) (.int .i64 0) (.int .i64 0) (.int .i64 0) (.int .i64 0) (.int .i64 0) (.int .i64 0) (J2.cell 0) (J2.cell 1) (J2.cell 2) (J2.cell 3)
  exact bodyPost_ret (v := .tuple #[insV 0 0 0 0, .string ⟨#[]⟩, .bool false]) (by simp [results, Tryd.results62, go_sem, g0, g1, g2, g3, insV]) rfl ⟨rfl, ((((hB2).setCell (Nat.le_refl _) _).setCell (Nat.le_refl _) _).setCell (Nat.le_refl _) _).setCell (Nat.le_refl _) _⟩
theorem parse_any (s : ByteArray) (w : World) (hs : s.size < 4294967281) (hT : Tabs w) (hM : Ml w) :
    Calls Tryd.prog 62 #[.string s] w fun e w' => e = .returned (parseV (parse s.data.toList)) ∧ Below w.heap.size w w' := by
  cases hc : cut5 s.data.toList with
  | nil => exact absurd hc (cut_ne _ _)
  | cons h st0 =>
    rw [parse_of_cut hc]
    cases ho : opOf h with
    | none => exact parse_none s w hs hT hM h st0 hc ho
    | some k => exact parse_walk s w hs hT hM h st0 hc k ho (opOf_lt ho)

end Go.Proofs.YtlddjjkbnhhfaaaDoor.IsaR
