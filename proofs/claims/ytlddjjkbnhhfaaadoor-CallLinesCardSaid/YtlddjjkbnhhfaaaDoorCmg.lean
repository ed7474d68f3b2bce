/-
  CallLines' walk.
-/
import Derived.Test.YtlddjjkbnhhfaaaDoorCme
import Derived.Test.YtlddjjkbnhhfaaaDoorCmf
import Derived.Test.YtlddjjkbnhhfaaaDoorClw
namespace Go.Proofs.YtlddjjkbnhhfaaaDoor.Cmg
open Go Go.RowKit Go.Shelf Kit IsaM Cla Clt Clf Bk Clh Cli Clg Clm Cln Clo Clq Clw Cma Cmb Cmc Cmd Cme Cmf
open Clv (ClAt ClsAt uv)
set_option linter.unusedVariables false
attribute [local go_sem] Oper.semAt_some
attribute [local go_sem ↓] eqv_wrap nev_wrap

theorem read_det (s : ByteArray) : ∃ (y : Cl) (E : Int), Wf y ∧ ∀ e, ReadR s e → e = .returned (.tuple #[cv y, .int .i64 E]) := by
  by_cases h : ∃ x : Cl, mayC x = true ∧ Wf x ∧ lineT x = s.data.toList
  · obtain ⟨x, h1, h2, h3⟩ := h
    exact ⟨x, 0, h2, fun e he => readR_one he (.inl ⟨x, h1, h2, h3, rfl⟩)⟩
  · exact ⟨zc, 160, ⟨by decide, by decide, by decide, by decide⟩, fun e he => readR_one he (.inr ⟨fun x h1 h2 h3 => h ⟨x, h1, h2, h3⟩, rfl⟩)⟩
theorem line_form (x : Cl) : ∃ (L : ByteArray) (E : Int), lineR x = .tuple #[.string L, .int .i64 E] := by
  unfold lineR
  split
  · exact ⟨_, _, rfl⟩
  · exact ⟨_, _, rfl⟩
theorem prog_form (l : List Cl) : ∃ (L : ByteArray) (E : Int), progR l = .tuple #[.string L, .int .i64 E] := by
  unfold progR
  split
  · exact ⟨_, _, rfl⟩
  · exact ⟨_, _, rfl⟩
set_option maxRecDepth 100000 in
set_option maxHeartbeats 4000000 in
theorem lines_any (x : Cl) (s : ByteArray) (v : Value) (l : List Cl) (w : World) (hw : Wf x) (hv : ClsAt w v l) (hT : Rw w) (hP : Pow w) (hE : Ers w) (hM : Ml w) :
    Calls Tryd.prog 4 #[cv x, .string s, v] w fun e w' => e = .returned (.bool true) ∧ Below w.heap.size w w' := by
  have hv0 := hv
  obtain ⟨a, cap, rfl, hcap, hmax, -⟩ := hv0
  unfold maxLen at hmax
  have HB := Lib.hid (And.intro ((Below.refl w.heap.size w).alloc (Nat.le_refl _) (.cells (ccs x) 27)) (Blk.new w (ccs x) 27))
  by_cases h80 : 80 < s.size
  · have d80 : decide (80 < (s.size : Int)) = true := decide_eq_true (by omega)
    unfold cv at *
    unfold ccs at *
    clear hT hP hE hM hw hv
    go_enter Tryd.func4, Tryd.ntmps4
    go_wp2_with fail
    go_ret
    exact ⟨rfl, HB.out.1⟩
  · have d80 : decide (80 < (s.size : Int)) = false := decide_eq_false (by omega)
    by_cases h60 : 60 < l.length
    · have d60 : decide (60 < (l.length : Int)) = true := decide_eq_true (by omega)
      unfold cv at *
      unfold ccs at *
      clear hT hP hE hM hw hv
      go_enter Tryd.func4, Tryd.ntmps4
      go_wp2_with fail
      go_ret
      exact ⟨rfl, HB.out.1⟩
    · have d60 : decide (60 < (l.length : Int)) = false := decide_eq_false (by omega)
      have HL1 := Lib.hid (fun wx (hb : Below w.heap.size w wx) => line_any x hw wx (hT.below hb) (hP.below hb))
      have HL2 := Lib.hid (fun wx => rline_any x hw wx)
      obtain ⟨LA, LE, hL⟩ := line_form x
      rw [hL] at HL1 HL2
      obtain ⟨y, E, hyw, hy⟩ := read_det s
      have HR1 : Hid (∀ wx, Below w.heap.size w wx → Calls Tryd.prog 24 #[.string s] wx fun e w' => e = .returned (.tuple #[cv y, .int .i64 E]) ∧ Below wx.heap.size wx w') := Lib.hid (fun wx hb => (read_any s (by omega) wx (hT.below hb) (hP.below hb) (hE.below hb) (hM.below hb)).mono fun e w' h => ⟨hy e h.1, h.2⟩)
      have HR2 : Hid (∀ wx, Calls Tryd.prog 25 #[.string s] wx fun e w' => e = .returned (.tuple #[cv y, .int .i64 E]) ∧ Below wx.heap.size wx w') := Lib.hid (fun wx => (rread_any s (by omega) wx).mono fun e w' h => ⟨hy e h.1, h.2⟩)
      have HP1 : Hid (∀ wx, Below w.heap.size w wx → Calls Tryd.prog 26 #[.slice a l.length cap] wx fun e w' => e = .returned (progR l) ∧ Below wx.heap.size wx w') := Lib.hid (fun wx hb => prog_any _ l (by omega) wx (hv.below hb) (hT.below hb) (hP.below hb))
      have HP2 : Hid (∀ wx, Below w.heap.size w wx → Calls Tryd.prog 27 #[.slice a l.length cap] wx fun e w' => e = .returned (progR l) ∧ Below wx.heap.size wx w') := Lib.hid (fun wx hb => rprog_any _ l (by omega) wx (hv.below hb))
      obtain ⟨PA, PE, hPf⟩ := prog_form l
      rw [hPf] at HP1 HP2
      have hEQ := fun wx => run_eqV hyw hyw wx
      rw [show decide (y = y) = true from decide_eq_true rfl] at hEQ
      unfold cv at *
      unfold ccs at *
      clear hT hP hE hM hw hv hL hy hyw hPf h80 h60
      go_enter Tryd.func4, Tryd.ntmps4
      have c0 := HB.out.2.cell 0
      have c1 := HB.out.2.cell 1
      have c2 := HB.out.2.cell 2
      have c3 := HB.out.2.cell 3
      simp only [List.getElem?_toArray, List.getElem?_cons_zero, List.getElem?_cons_succ] at c0 c1 c2 c3
      go_wp2_with (first
          | (go_at_call 22; (with_reducible refine (HL1.out _ HB.out.1).mono ?_); rintro e w1 ⟨rfl, hb1⟩; have B1 := Lib.hid (HB.out.1.trans (hb1.mono HB.out.1.size)); have k1 := HB.out.2.below hb1; have e0 := k1.cell 0; have e1 := k1.cell 1; have e2 := k1.cell 2; have e3 := k1.cell 3; simp only [List.getElem?_toArray, List.getElem?_cons_zero, List.getElem?_cons_succ] at e0 e1 e2 e3; clear k1)
          | (go_at_call 23; (with_reducible refine (HL2.out _).mono ?_); rintro e w2 ⟨rfl, hb2⟩; have B2 := Lib.hid (B1.out.trans (hb2.mono B1.out.size)))
          | (go_at_call 24; (with_reducible refine (HR1.out _ B2.out).mono ?_); rintro e w3 ⟨rfl, hb3⟩; have B3 := Lib.hid ((B2.out.trans (hb3.mono B2.out.size)).alloc (B2.out.trans (hb3.mono B2.out.size)).size (.cells #[.int .i64 y.n, .int .u32 (y.a : Int), .int .u32 (y.b : Int), .int .u32 (y.c : Int)] 27)); have K3 := Lib.hid (Blk.new w3 #[.int .i64 y.n, .int .u32 (y.a : Int), .int .u32 (y.b : Int), .int .u32 (y.c : Int)] 27))
          | (go_at_call 25; (with_reducible refine (HR2.out _).mono ?_); rintro e w4 ⟨rfl, hb4⟩; have B4 := Lib.hid ((B3.out.trans (hb4.mono B3.out.size)).alloc (B3.out.trans (hb4.mono B3.out.size)).size (.cells #[.int .i64 y.n, .int .u32 (y.a : Int), .int .u32 (y.b : Int), .int .u32 (y.c : Int)] 27)); have K4 := Lib.hid (And.intro ((K3.out.below hb4).below ((Below.refl _ _).alloc (Nat.le_refl _) (.cells #[.int .i64 y.n, .int .u32 (y.a : Int), .int .u32 (y.b : Int), .int .u32 (y.c : Int)] 27))) (Blk.new w4 #[.int .i64 y.n, .int .u32 (y.a : Int), .int .u32 (y.b : Int), .int .u32 (y.c : Int)] 27)))
          | (go_at_call 26; (with_reducible refine (HP1.out _ B4.out).mono ?_); rintro e w5 ⟨rfl, hb5⟩; have B5 := Lib.hid (B4.out.trans (hb5.mono B4.out.size)); have K5 := Lib.hid (And.intro (K4.out.1.below hb5) (K4.out.2.below hb5)))
          | (go_at_call 27; (with_reducible refine (HP2.out _ B5.out).mono ?_); rintro e w6 ⟨rfl, hb6⟩; have B6 := Lib.hid (B5.out.trans (hb6.mono B5.out.size)); have k1 := K5.out.1.below hb6; have k2 := K5.out.2.below hb6; have q0 := k1.cell 0; have q1 := k1.cell 1; have q2 := k1.cell 2; have q3 := k1.cell 3; have r0 := k2.cell 0; have r1 := k2.cell 1; have r2 := k2.cell 2; have r3 := k2.cell 3; simp only [List.getElem?_toArray, List.getElem?_cons_zero, List.getElem?_cons_succ] at q0 q1 q2 q3 r0 r1 r2 r3; clear k1 k2)
          | fail)
      go_ret
      exact ⟨rfl, B6.out⟩
end Go.Proofs.YtlddjjkbnhhfaaaDoor.Cmg
theorem Go.Proofs.YtlddjjkbnhhfaaaDoor.Walk.callLines (x : Go.Proofs.YtlddjjkbnhhfaaaDoor.Cla.Cl) (s : ByteArray) (v : Go.Value) (l : List Go.Proofs.YtlddjjkbnhhfaaaDoor.Cla.Cl) (w : Go.World) (hw : Go.Proofs.YtlddjjkbnhhfaaaDoor.Cla.Wf x) (_ : s.size ≤ Go.maxLen) (hv : Go.Proofs.YtlddjjkbnhhfaaaDoor.Clv.ClsAt w v l) (hL : Go.Proofs.YtlddjjkbnhhfaaaDoor.Clt.Rw w ∧ Go.Proofs.YtlddjjkbnhhfaaaDoor.Clt.Pow w ∧ Go.Proofs.YtlddjjkbnhhfaaaDoor.Clt.Ers w) (hM : Go.Proofs.YtlddjjkbnhhfaaaDoor.Clt.Ml w) :
    Go.Calls Go.Proofs.Tryd.prog 4 #[Go.Proofs.YtlddjjkbnhhfaaaDoor.Clh.cv x, .string s, v] w fun e w' => e = .returned (.bool true) ∧ Go.RowKit.Below w.heap.size w w' := Go.Proofs.YtlddjjkbnhhfaaaDoor.Cmg.lines_any x s v l w hw hv hL.1 hL.2.1 hL.2.2 hM
