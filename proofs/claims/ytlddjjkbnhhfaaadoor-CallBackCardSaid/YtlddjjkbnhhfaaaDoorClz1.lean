/-
  CallBack's walk where the call may be and the text is a line.
-/
import Derived.Test.YtlddjjkbnhhfaaaDoorClz
namespace Go.Proofs.YtlddjjkbnhhfaaaDoor.Clz1
open Go Go.RowKit Go.Shelf Kit IsaM IsaS Cla Clt Clf Bk Clh Cli Clj Clg Cll Clm Cln Clp Clq Clw Clz
set_option linter.unusedVariables false
attribute [local go_sem] Oper.semAt_some
attribute [local go_sem ↓] eqv_wrap nev_wrap
set_option maxRecDepth 100000 in
set_option maxHeartbeats 4000000 in
theorem back (x y : Cl) (s : ByteArray) (n m : Int) (hn : (Lit.int .i64 n).wf = true) (hs : s.size ≤ 80) (hw : Wf x) (w : World) (hT : Rw w) (hC : Cd w) (hP : Pow w) (hE : Ers w) (hM : Ml w) (hm : mayC x = true) (hy : mayC y = true) (hyw : Wf y) (hyl : lineT y = s.data.toList) :
    Calls Tryd.prog 6 #[cv x, .string s, .int .i64 n, .int .i64 m] w fun e w' => e = .returned (.bool true) ∧ Below w.heap.size w w' := by
  have b1 := (Below.refl w.heap.size w).alloc (Nat.le_refl _) (.cells (ccs x) 27)
  have HAl := Lib.hid (alive_any _ (hT.below b1) (hC.below b1) (hP.below b1))
  have HB := Lib.hid (And.intro b1 (Blk.new w (ccs x) 27))
  have hsz : (s.size : Int) ≤ 80 := by omega
  have HL1 := Lib.hid (fun wx (hb : Below w.heap.size w wx) => line_yes1 x hw hm wx (hT.below hb) (hP.below hb))
  have HR1 := Lib.hid (fun wx (hb : Below w.heap.size w wx) => read_yes x (tx (lineT x)) (by rw [tx_size]; have := lineT_len (may_isC hm) hw; omega) hm hw rfl wx (hT.below hb) (hP.below hb) (hE.below hb) (hM.below hb))
  have hNE := fun wx => run_neV hw hw wx
  rw [show decide (x = x) = true from decide_eq_true rfl, Bool.not_true] at hNE
  generalize tx (lineT x) = TL at *
  have HR2 := Lib.hid (fun wx (hb : Below w.heap.size w wx) => read_yes y s (by omega) hy hyw hyl wx (hT.below hb) (hP.below hb) (hE.below hb) (hM.below hb))
  have HL2 := Lib.hid (fun wx (hb : Below w.heap.size w wx) => line_yes1 y hyw hy wx (hT.below hb) (hP.below hb))
  rw [show tx (lineT y) = s by rw [hyl, tx_mk]] at HL2
  have HNn := Lib.hid (fun wx (hb : Below w.heap.size w wx) => name_any n wx (hT.below hb))
  have HNm := Lib.hid (fun wx (hb : Below w.heap.size w wx) => name_any m wx (hT.below hb))
  have HCn := Lib.hid (fun wx (hb : Below w.heap.size w wx) => code_any n wx (hC.below hb))
  have HCm := Lib.hid (fun wx (hb : Below w.heap.size w wx) => code_any m wx (hC.below hb))
  have HBy := Lib.hid (fun wx (hb : Below w.heap.size w wx) => byName_any (tx (nameT n)) wx (hT.below hb))
  rw [tx_data] at HBy
  have HAn := Lib.hid (fun wx (hb : Below w.heap.size w wx) => answer_any n wx (hC.below hb))
  have hab := answer_bd hn
  have HFa := Lib.hid (fun wx (hb : Below w.heap.size w wx) => failed_any (answer n) hab.1 hab.2 wx (hC.below hb))
  have hname := name_facts n m
  have hcode := code_facts n m
  unfold cv at *
  unfold ccs at *
  clear b1 hT hC hP hE hM hm hw hn
  by_cases h1 : nameT n = []
  · by_cases h2 : codeT n = []
    · have e1 : (tx (nameT n)).toList.isEmpty = true := by rw [tx_empty, h1]; rfl
      have e2 : (tx (codeT n)).toList.isEmpty = true := by rw [tx_empty, h2]; rfl
      clear hname hcode h1 h2
      generalize tx (nameT n) = T1 at *
      generalize tx (nameT m) = T2 at *
      generalize tx (codeT n) = T3 at *
      generalize tx (codeT m) = T4 at *
      generalize answer n = an at *
      go_enter Tryd.func6, Tryd.ntmps6
      go_wp2_with (first
          | (go_at_call 28; (with_reducible refine HAl.out.mono ?_); rintro e w2 ⟨rfl, hb2⟩; have B2 := Lib.hid (HB.out.1.trans (hb2.mono HB.out.1.size)); have k2 := HB.out.2.below hb2; have c0 := k2.cell 0; have c1 := k2.cell 1; have c2 := k2.cell 2; have c3 := k2.cell 3; have K2 := Lib.hid k2; simp only [List.getElem?_toArray, List.getElem?_cons_zero, List.getElem?_cons_succ] at c0 c1 c2 c3; clear k2)
          | (go_at_call 22; (with_reducible refine (HL1.out _ B2.out).mono ?_); rintro e w3 ⟨rfl, hb3⟩; have B3 := Lib.hid (B2.out.trans (hb3.mono B2.out.size)); have K3 := Lib.hid (K2.out.below hb3))
          | (go_at_call 24; (with_reducible refine (HR1.out _ B3.out).mono ?_); rintro e w4 ⟨rfl, hb4⟩; have B4 := Lib.hid ((B3.out.trans (hb4.mono B3.out.size)).alloc (B3.out.trans (hb4.mono B3.out.size)).size (.cells #[.int .i64 x.n, .int .u32 (x.a : Int), .int .u32 (x.b : Int), .int .u32 (x.c : Int)] 27)); have K4 := Lib.hid (And.intro ((K3.out.below hb4).below ((Below.refl _ _).alloc (Nat.le_refl _) (.cells #[.int .i64 x.n, .int .u32 (x.a : Int), .int .u32 (x.b : Int), .int .u32 (x.c : Int)] 27))) (Blk.new w4 #[.int .i64 x.n, .int .u32 (x.a : Int), .int .u32 (x.b : Int), .int .u32 (x.c : Int)] 27)))
          | (go_at_call 24; (with_reducible refine (HR2.out _ B4.out).mono ?_); rintro e w5 ⟨rfl, hb5⟩; have B5 := Lib.hid ((B4.out.trans (hb5.mono B4.out.size)).alloc (B4.out.trans (hb5.mono B4.out.size)).size (.cells #[.int .i64 y.n, .int .u32 (y.a : Int), .int .u32 (y.b : Int), .int .u32 (y.c : Int)] 27)); have K5 := Lib.hid (And.intro ((K4.out.1.below hb5).below ((Below.refl _ _).alloc (Nat.le_refl _) (.cells #[.int .i64 y.n, .int .u32 (y.a : Int), .int .u32 (y.b : Int), .int .u32 (y.c : Int)] 27))) ((K4.out.2.below hb5).below ((Below.refl _ _).alloc (Nat.le_refl _) (.cells #[.int .i64 y.n, .int .u32 (y.a : Int), .int .u32 (y.b : Int), .int .u32 (y.c : Int)] 27)))))
          | (go_at_call 22; (with_reducible refine (HL2.out _ B5.out).mono ?_); rintro e w6 ⟨rfl, hb6⟩; have B6 := Lib.hid (B5.out.trans (hb6.mono B5.out.size)); have k1 := K5.out.1.below hb6; have k2 := K5.out.2.below hb6; have q0 := k1.cell 0; have q1 := k1.cell 1; have q2 := k1.cell 2; have q3 := k1.cell 3; have r0 := k2.cell 0; have r1 := k2.cell 1; have r2 := k2.cell 2; have r3 := k2.cell 3; simp only [List.getElem?_toArray, List.getElem?_cons_zero, List.getElem?_cons_succ] at q0 q1 q2 q3 r0 r1 r2 r3; clear k1 k2)
          | (go_at_call 12; (with_reducible refine (HNn.out _ B6.out).mono ?_); rintro e w' ⟨rfl, rfl⟩)
          | (go_at_call 12; (with_reducible refine (HNm.out _ B6.out).mono ?_); rintro e w' ⟨rfl, rfl⟩)
          | (go_at_call 16; (with_reducible refine (HCn.out _ B6.out).mono ?_); rintro e w' ⟨rfl, rfl⟩)
          | (go_at_call 16; (with_reducible refine (HCm.out _ B6.out).mono ?_); rintro e w' ⟨rfl, rfl⟩)
          | (go_at_call 15; (with_reducible refine (HBy.out _ B6.out).mono ?_); rintro e w7 ⟨rfl, hb7⟩; have B7 := Lib.hid (B6.out.trans (hb7.mono B6.out.size)))
          | (go_at_call 18; (with_reducible refine (HAn.out _ B6.out).mono ?_); rintro e w' ⟨rfl, rfl⟩)
          | (go_at_call 20; (with_reducible refine (HFa.out _ B6.out).mono ?_); rintro e w' ⟨rfl, rfl⟩)
          | fail)
      go_ret
      exact ⟨rfl, B6.out⟩
    · have e1 : (tx (nameT n)).toList.isEmpty = true := by rw [tx_empty, h1]; rfl
      have e2 : (tx (codeT n)).toList.isEmpty = false := by rw [tx_empty]; simpa using h2
      have hg := hcode h2
      rw [hg.1] at HFa
      have d2 : ((tx (codeT n)).toList == (tx (codeT m)).toList) = (n == m) := by rw [tx_nil, tx_nil]; exact hg.2
      clear hname hcode h1 h2 hg
      generalize tx (nameT n) = T1 at *
      generalize tx (nameT m) = T2 at *
      generalize tx (codeT n) = T3 at *
      generalize tx (codeT m) = T4 at *
      generalize answer n = an at *
      go_enter Tryd.func6, Tryd.ntmps6
      go_wp2_with (first
          | (go_at_call 28; (with_reducible refine HAl.out.mono ?_); rintro e w2 ⟨rfl, hb2⟩; have B2 := Lib.hid (HB.out.1.trans (hb2.mono HB.out.1.size)); have k2 := HB.out.2.below hb2; have c0 := k2.cell 0; have c1 := k2.cell 1; have c2 := k2.cell 2; have c3 := k2.cell 3; have K2 := Lib.hid k2; simp only [List.getElem?_toArray, List.getElem?_cons_zero, List.getElem?_cons_succ] at c0 c1 c2 c3; clear k2)
          | (go_at_call 22; (with_reducible refine (HL1.out _ B2.out).mono ?_); rintro e w3 ⟨rfl, hb3⟩; have B3 := Lib.hid (B2.out.trans (hb3.mono B2.out.size)); have K3 := Lib.hid (K2.out.below hb3))
          | (go_at_call 24; (with_reducible refine (HR1.out _ B3.out).mono ?_); rintro e w4 ⟨rfl, hb4⟩; have B4 := Lib.hid ((B3.out.trans (hb4.mono B3.out.size)).alloc (B3.out.trans (hb4.mono B3.out.size)).size (.cells #[.int .i64 x.n, .int .u32 (x.a : Int), .int .u32 (x.b : Int), .int .u32 (x.c : Int)] 27)); have K4 := Lib.hid (And.intro ((K3.out.below hb4).below ((Below.refl _ _).alloc (Nat.le_refl _) (.cells #[.int .i64 x.n, .int .u32 (x.a : Int), .int .u32 (x.b : Int), .int .u32 (x.c : Int)] 27))) (Blk.new w4 #[.int .i64 x.n, .int .u32 (x.a : Int), .int .u32 (x.b : Int), .int .u32 (x.c : Int)] 27)))
          | (go_at_call 24; (with_reducible refine (HR2.out _ B4.out).mono ?_); rintro e w5 ⟨rfl, hb5⟩; have B5 := Lib.hid ((B4.out.trans (hb5.mono B4.out.size)).alloc (B4.out.trans (hb5.mono B4.out.size)).size (.cells #[.int .i64 y.n, .int .u32 (y.a : Int), .int .u32 (y.b : Int), .int .u32 (y.c : Int)] 27)); have K5 := Lib.hid (And.intro ((K4.out.1.below hb5).below ((Below.refl _ _).alloc (Nat.le_refl _) (.cells #[.int .i64 y.n, .int .u32 (y.a : Int), .int .u32 (y.b : Int), .int .u32 (y.c : Int)] 27))) ((K4.out.2.below hb5).below ((Below.refl _ _).alloc (Nat.le_refl _) (.cells #[.int .i64 y.n, .int .u32 (y.a : Int), .int .u32 (y.b : Int), .int .u32 (y.c : Int)] 27)))))
          | (go_at_call 22; (with_reducible refine (HL2.out _ B5.out).mono ?_); rintro e w6 ⟨rfl, hb6⟩; have B6 := Lib.hid (B5.out.trans (hb6.mono B5.out.size)); have k1 := K5.out.1.below hb6; have k2 := K5.out.2.below hb6; have q0 := k1.cell 0; have q1 := k1.cell 1; have q2 := k1.cell 2; have q3 := k1.cell 3; have r0 := k2.cell 0; have r1 := k2.cell 1; have r2 := k2.cell 2; have r3 := k2.cell 3; simp only [List.getElem?_toArray, List.getElem?_cons_zero, List.getElem?_cons_succ] at q0 q1 q2 q3 r0 r1 r2 r3; clear k1 k2)
          | (go_at_call 12; (with_reducible refine (HNn.out _ B6.out).mono ?_); rintro e w' ⟨rfl, rfl⟩)
          | (go_at_call 12; (with_reducible refine (HNm.out _ B6.out).mono ?_); rintro e w' ⟨rfl, rfl⟩)
          | (go_at_call 16; (with_reducible refine (HCn.out _ B6.out).mono ?_); rintro e w' ⟨rfl, rfl⟩)
          | (go_at_call 16; (with_reducible refine (HCm.out _ B6.out).mono ?_); rintro e w' ⟨rfl, rfl⟩)
          | (go_at_call 15; (with_reducible refine (HBy.out _ B6.out).mono ?_); rintro e w7 ⟨rfl, hb7⟩; have B7 := Lib.hid (B6.out.trans (hb7.mono B6.out.size)))
          | (go_at_call 18; (with_reducible refine (HAn.out _ B6.out).mono ?_); rintro e w' ⟨rfl, rfl⟩)
          | (go_at_call 20; (with_reducible refine (HFa.out _ B6.out).mono ?_); rintro e w' ⟨rfl, rfl⟩)
          | fail)
      go_ret
      exact ⟨rfl, B6.out⟩
  · by_cases h2 : codeT n = []
    · have e1 : (tx (nameT n)).toList.isEmpty = false := by rw [tx_empty]; simpa using h1
      have hf := hname h1
      rw [hf.1] at HBy
      have d1 : ((tx (nameT n)).toList == (tx (nameT m)).toList) = (n == m) := by rw [tx_nil, tx_nil]; exact hf.2
      have e2 : (tx (codeT n)).toList.isEmpty = true := by rw [tx_empty, h2]; rfl
      clear hname hcode h1 h2 hf
      generalize tx (nameT n) = T1 at *
      generalize tx (nameT m) = T2 at *
      generalize tx (codeT n) = T3 at *
      generalize tx (codeT m) = T4 at *
      generalize answer n = an at *
      go_enter Tryd.func6, Tryd.ntmps6
      go_wp2_with (first
          | (go_at_call 28; (with_reducible refine HAl.out.mono ?_); rintro e w2 ⟨rfl, hb2⟩; have B2 := Lib.hid (HB.out.1.trans (hb2.mono HB.out.1.size)); have k2 := HB.out.2.below hb2; have c0 := k2.cell 0; have c1 := k2.cell 1; have c2 := k2.cell 2; have c3 := k2.cell 3; have K2 := Lib.hid k2; simp only [List.getElem?_toArray, List.getElem?_cons_zero, List.getElem?_cons_succ] at c0 c1 c2 c3; clear k2)
          | (go_at_call 22; (with_reducible refine (HL1.out _ B2.out).mono ?_); rintro e w3 ⟨rfl, hb3⟩; have B3 := Lib.hid (B2.out.trans (hb3.mono B2.out.size)); have K3 := Lib.hid (K2.out.below hb3))
          | (go_at_call 24; (with_reducible refine (HR1.out _ B3.out).mono ?_); rintro e w4 ⟨rfl, hb4⟩; have B4 := Lib.hid ((B3.out.trans (hb4.mono B3.out.size)).alloc (B3.out.trans (hb4.mono B3.out.size)).size (.cells #[.int .i64 x.n, .int .u32 (x.a : Int), .int .u32 (x.b : Int), .int .u32 (x.c : Int)] 27)); have K4 := Lib.hid (And.intro ((K3.out.below hb4).below ((Below.refl _ _).alloc (Nat.le_refl _) (.cells #[.int .i64 x.n, .int .u32 (x.a : Int), .int .u32 (x.b : Int), .int .u32 (x.c : Int)] 27))) (Blk.new w4 #[.int .i64 x.n, .int .u32 (x.a : Int), .int .u32 (x.b : Int), .int .u32 (x.c : Int)] 27)))
          | (go_at_call 24; (with_reducible refine (HR2.out _ B4.out).mono ?_); rintro e w5 ⟨rfl, hb5⟩; have B5 := Lib.hid ((B4.out.trans (hb5.mono B4.out.size)).alloc (B4.out.trans (hb5.mono B4.out.size)).size (.cells #[.int .i64 y.n, .int .u32 (y.a : Int), .int .u32 (y.b : Int), .int .u32 (y.c : Int)] 27)); have K5 := Lib.hid (And.intro ((K4.out.1.below hb5).below ((Below.refl _ _).alloc (Nat.le_refl _) (.cells #[.int .i64 y.n, .int .u32 (y.a : Int), .int .u32 (y.b : Int), .int .u32 (y.c : Int)] 27))) ((K4.out.2.below hb5).below ((Below.refl _ _).alloc (Nat.le_refl _) (.cells #[.int .i64 y.n, .int .u32 (y.a : Int), .int .u32 (y.b : Int), .int .u32 (y.c : Int)] 27)))))
          | (go_at_call 22; (with_reducible refine (HL2.out _ B5.out).mono ?_); rintro e w6 ⟨rfl, hb6⟩; have B6 := Lib.hid (B5.out.trans (hb6.mono B5.out.size)); have k1 := K5.out.1.below hb6; have k2 := K5.out.2.below hb6; have q0 := k1.cell 0; have q1 := k1.cell 1; have q2 := k1.cell 2; have q3 := k1.cell 3; have r0 := k2.cell 0; have r1 := k2.cell 1; have r2 := k2.cell 2; have r3 := k2.cell 3; simp only [List.getElem?_toArray, List.getElem?_cons_zero, List.getElem?_cons_succ] at q0 q1 q2 q3 r0 r1 r2 r3; clear k1 k2)
          | (go_at_call 12; (with_reducible refine (HNn.out _ B6.out).mono ?_); rintro e w' ⟨rfl, rfl⟩)
          | (go_at_call 12; (with_reducible refine (HNm.out _ B6.out).mono ?_); rintro e w' ⟨rfl, rfl⟩)
          | (go_at_call 16; (with_reducible refine (HCn.out _ B6.out).mono ?_); rintro e w' ⟨rfl, rfl⟩)
          | (go_at_call 16; (with_reducible refine (HCm.out _ B6.out).mono ?_); rintro e w' ⟨rfl, rfl⟩)
          | (go_at_call 15; (with_reducible refine (HBy.out _ B6.out).mono ?_); rintro e w7 ⟨rfl, hb7⟩; have B7 := Lib.hid (B6.out.trans (hb7.mono B6.out.size)))
          | (go_at_call 18; (with_reducible refine (HAn.out _ B7.out).mono ?_); rintro e w' ⟨rfl, rfl⟩)
          | (go_at_call 20; (with_reducible refine (HFa.out _ B7.out).mono ?_); rintro e w' ⟨rfl, rfl⟩)
          | fail)
      go_ret
      exact ⟨rfl, B7.out⟩
    · have e1 : (tx (nameT n)).toList.isEmpty = false := by rw [tx_empty]; simpa using h1
      have hf := hname h1
      rw [hf.1] at HBy
      have d1 : ((tx (nameT n)).toList == (tx (nameT m)).toList) = (n == m) := by rw [tx_nil, tx_nil]; exact hf.2
      have e2 : (tx (codeT n)).toList.isEmpty = false := by rw [tx_empty]; simpa using h2
      have hg := hcode h2
      rw [hg.1] at HFa
      have d2 : ((tx (codeT n)).toList == (tx (codeT m)).toList) = (n == m) := by rw [tx_nil, tx_nil]; exact hg.2
      clear hname hcode h1 h2 hf hg
      generalize tx (nameT n) = T1 at *
      generalize tx (nameT m) = T2 at *
      generalize tx (codeT n) = T3 at *
      generalize tx (codeT m) = T4 at *
      generalize answer n = an at *
      go_enter Tryd.func6, Tryd.ntmps6
      go_wp2_with (first
          | (go_at_call 28; (with_reducible refine HAl.out.mono ?_); rintro e w2 ⟨rfl, hb2⟩; have B2 := Lib.hid (HB.out.1.trans (hb2.mono HB.out.1.size)); have k2 := HB.out.2.below hb2; have c0 := k2.cell 0; have c1 := k2.cell 1; have c2 := k2.cell 2; have c3 := k2.cell 3; have K2 := Lib.hid k2; simp only [List.getElem?_toArray, List.getElem?_cons_zero, List.getElem?_cons_succ] at c0 c1 c2 c3; clear k2)
          | (go_at_call 22; (with_reducible refine (HL1.out _ B2.out).mono ?_); rintro e w3 ⟨rfl, hb3⟩; have B3 := Lib.hid (B2.out.trans (hb3.mono B2.out.size)); have K3 := Lib.hid (K2.out.below hb3))
          | (go_at_call 24; (with_reducible refine (HR1.out _ B3.out).mono ?_); rintro e w4 ⟨rfl, hb4⟩; have B4 := Lib.hid ((B3.out.trans (hb4.mono B3.out.size)).alloc (B3.out.trans (hb4.mono B3.out.size)).size (.cells #[.int .i64 x.n, .int .u32 (x.a : Int), .int .u32 (x.b : Int), .int .u32 (x.c : Int)] 27)); have K4 := Lib.hid (And.intro ((K3.out.below hb4).below ((Below.refl _ _).alloc (Nat.le_refl _) (.cells #[.int .i64 x.n, .int .u32 (x.a : Int), .int .u32 (x.b : Int), .int .u32 (x.c : Int)] 27))) (Blk.new w4 #[.int .i64 x.n, .int .u32 (x.a : Int), .int .u32 (x.b : Int), .int .u32 (x.c : Int)] 27)))
          | (go_at_call 24; (with_reducible refine (HR2.out _ B4.out).mono ?_); rintro e w5 ⟨rfl, hb5⟩; have B5 := Lib.hid ((B4.out.trans (hb5.mono B4.out.size)).alloc (B4.out.trans (hb5.mono B4.out.size)).size (.cells #[.int .i64 y.n, .int .u32 (y.a : Int), .int .u32 (y.b : Int), .int .u32 (y.c : Int)] 27)); have K5 := Lib.hid (And.intro ((K4.out.1.below hb5).below ((Below.refl _ _).alloc (Nat.le_refl _) (.cells #[.int .i64 y.n, .int .u32 (y.a : Int), .int .u32 (y.b : Int), .int .u32 (y.c : Int)] 27))) ((K4.out.2.below hb5).below ((Below.refl _ _).alloc (Nat.le_refl _) (.cells #[.int .i64 y.n, .int .u32 (y.a : Int), .int .u32 (y.b : Int), .int .u32 (y.c : Int)] 27)))))
          | (go_at_call 22; (with_reducible refine (HL2.out _ B5.out).mono ?_); rintro e w6 ⟨rfl, hb6⟩; have B6 := Lib.hid (B5.out.trans (hb6.mono B5.out.size)); have k1 := K5.out.1.below hb6; have k2 := K5.out.2.below hb6; have q0 := k1.cell 0; have q1 := k1.cell 1; have q2 := k1.cell 2; have q3 := k1.cell 3; have r0 := k2.cell 0; have r1 := k2.cell 1; have r2 := k2.cell 2; have r3 := k2.cell 3; simp only [List.getElem?_toArray, List.getElem?_cons_zero, List.getElem?_cons_succ] at q0 q1 q2 q3 r0 r1 r2 r3; clear k1 k2)
          | (go_at_call 12; (with_reducible refine (HNn.out _ B6.out).mono ?_); rintro e w' ⟨rfl, rfl⟩)
          | (go_at_call 12; (with_reducible refine (HNm.out _ B6.out).mono ?_); rintro e w' ⟨rfl, rfl⟩)
          | (go_at_call 16; (with_reducible refine (HCn.out _ B6.out).mono ?_); rintro e w' ⟨rfl, rfl⟩)
          | (go_at_call 16; (with_reducible refine (HCm.out _ B6.out).mono ?_); rintro e w' ⟨rfl, rfl⟩)
          | (go_at_call 15; (with_reducible refine (HBy.out _ B6.out).mono ?_); rintro e w7 ⟨rfl, hb7⟩; have B7 := Lib.hid (B6.out.trans (hb7.mono B6.out.size)))
          | (go_at_call 18; (with_reducible refine (HAn.out _ B7.out).mono ?_); rintro e w' ⟨rfl, rfl⟩)
          | (go_at_call 20; (with_reducible refine (HFa.out _ B7.out).mono ?_); rintro e w' ⟨rfl, rfl⟩)
          | fail)
      go_ret
      exact ⟨rfl, B7.out⟩
end Go.Proofs.YtlddjjkbnhhfaaaDoor.Clz1
