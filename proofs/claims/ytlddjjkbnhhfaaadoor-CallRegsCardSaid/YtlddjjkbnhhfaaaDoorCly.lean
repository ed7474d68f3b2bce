/-
  CallRegs' walk.
-/
import Derived.Test.YtlddjjkbnhhfaaaDoorClw
namespace Go.Proofs.YtlddjjkbnhhfaaaDoor.Cly
open Go Go.RowKit Go.Shelf Kit IsaM Cla Clt Clf Bk Clh Cli Clj Clg Cll Clm Clp Clq Clw
open Clv (ClAt ClsAt uv lst)
set_option linter.unusedVariables false
attribute [local go_sem] Oper.semAt_some
attribute [local go_sem ↓] eqv_wrap

/-- The registers while arguments are put into them: i of them are there. -/
def rgs (n u : Nat) (x : Cl) (i : Nat) (j : Nat) : Nat := if j = 0 then n else if j ≤ i then ar x (j - 1) else u
theorem rgs_step (n u : Nat) (x : Cl) (i : Nat) (hi : i < 3) : (rcs (rgs n u x i)).setIfInBounds (1 + i) (.int .u32 (ar x i : Int)) = rcs (rgs n u x (i + 1)) := by
  have : i = 0 ∨ i = 1 ∨ i = 2 := by omega
  rcases this with rfl | rfl | rfl <;> rfl
theorem rgs_zero (n m u : Nat) (x : Cl) (i : Nat) : (rcs (rgs n u x i)).setIfInBounds 0 (.int .u32 (m : Int)) = rcs (rgs m u x i) := rfl
theorem rgs_lt {n u : Nat} {x : Cl} (hn : n < 4294967296) (hu : u < 4294967296) (hw : Wf x) (i j : Nat) : rgs n u x i j < 4294967296 := by
  unfold rgs
  split
  · exact hn
  · split
    · exact ar_lt hw _
    · exact hu
/-- Registers that say a call are read as it. -/
theorem rgs_of {k u : Nat} {x : Cl} (hm : mayC x = true) (hk : x.n = k) (h1 : 1 ≤ k) (h2 : k < 23) : ofC (rgs k u x (mn k)) = x := by
  unfold ofC
  rw [show rgs k u x (mn k) 0 = k from rfl, isC_iff.2 ⟨by omega, by omega⟩, if_pos rfl]
  refine may_ext (only_may h1 h2 _) hm hk.symm ?_
  intro i hi
  have hi' : i < mn k := by rw [show (only (k : Int) fun i => rgs k u x (mn k) (i + 1)).n = (k : Int) from rfl, Int.toNat_natCast] at hi; exact hi
  rw [only_ar h1 h2 _ i hi']
  unfold rgs
  rw [if_neg (by omega), if_pos (by omega), Nat.add_sub_cancel]
theorem off_no {u : Nat} : isC ((u % 1000 + 23 : Nat) : Int) = false := by
  cases e : isC ((u % 1000 + 23 : Nat) : Int) with
  | false => rfl
  | true => rw [isC_iff] at e; omega
/-- What a word says. -/
theorem failed_cases {v : Int} (h0 : 0 ≤ v) (h1 : v < 4294967296) : failed v = 0 ∨ (codeT (failed v) ≠ [] ∧ answer (failed v) = v ∧ 1 ≤ failed v ∧ failed v ≤ 60 ∧ 4294967196 < v) := by
  unfold failed
  cases h : isCd (neg32 v) with
  | false => exact .inl rfl
  | true =>
    right
    rw [if_pos rfl]
    have hb := cd_one h
    have hs := cd_some h
    refine ⟨by rw [hs.2.2.1]; exact hs.2.2.2, ?_, hb.1, hb.2, ?_⟩
    · unfold answer; rw [if_pos h]; unfold neg32 at hb ⊢; omega
    · unfold neg32 at hb; omega
set_option maxRecDepth 100000 in
set_option maxHeartbeats 4000000 in
theorem regs_no (x : Cl) (u : Nat) (v : Int) (hw : Wf x) (w : World) (hT : Rw w) (hC : Cd w) (hP : Pow w) (hm : mayC x = false) :
    Calls Tryd.prog 8 #[cv x, .int .u32 (u : Int), .int .u32 v] w fun e w' => e = .returned (.bool true) ∧ Below w.heap.size w w' := by
  have b1 := (Below.refl w.heap.size w).alloc (Nat.le_refl _) (.cells (ccs x) 27)
  have HAl := Lib.hid (alive_any _ (hT.below b1) (hC.below b1) (hP.below b1))
  have HL := Lib.hid (fun wx (hb : Below w.heap.size w wx) => line_any x hw wx (hT.below hb) (hP.below hb))
  rw [show lineR x = .tuple #[.string ⟨#[]⟩, .int .i64 160] by unfold lineR; rw [hm]; rfl] at HL
  have HB := Lib.hid (And.intro b1 (Blk.new w (ccs x) 27))
  unfold cv at *
  unfold ccs at *
  clear hT hC hP b1 hm hw
  go_enter Tryd.func8, Tryd.ntmps8
  go_wp2_with (first
    | (go_at_call 28; (with_reducible refine HAl.out.mono ?_); rintro e w2 ⟨rfl, hb2⟩; have B2 := Lib.hid (HB.out.1.trans (hb2.mono HB.out.1.size)); have k2 := HB.out.2.below hb2; have c0 := k2.cell 0; have c1 := k2.cell 1; have c2 := k2.cell 2; have c3 := k2.cell 3; simp only [List.getElem?_toArray, List.getElem?_cons_zero, List.getElem?_cons_succ] at c0 c1 c2 c3; clear k2)
    | (go_at_call 22; (with_reducible refine (HL.out _ B2.out).mono ?_); rintro e w3 ⟨rfl, hb3⟩)
    | fail)
  go_ret
  exact ⟨rfl, B2.out.trans (hb3.mono B2.out.size)⟩
set_option maxRecDepth 100000 in
set_option maxHeartbeats 4000000 in
theorem regs_yes (x : Cl) (k u : Nat) (v : Int) (hk : x.n = k) (h1 : 1 ≤ k) (h2 : k < 23) (hu : u < 4294967296) (h0 : 0 ≤ v) (h3 : v < 4294967296) (hw : Wf x) (w : World) (hT : Rw w) (hC : Cd w) (hP : Pow w) (hm : mayC x = true) :
    Calls Tryd.prog 8 #[cv x, .int .u32 (u : Int), .int .u32 v] w fun e w' => e = .returned (.bool true) ∧ Below w.heap.size w w' := by
  have b1 := (Below.refl w.heap.size w).alloc (Nat.le_refl _) (.cells (ccs x) 27)
  have HAl := Lib.hid (alive_any _ (hT.below b1) (hC.below b1) (hP.below b1))
  have HL := Lib.hid (fun wx (hb : Below w.heap.size w wx) => line_any x hw wx (hT.below hb) (hP.below hb))
  rw [show lineR x = .tuple #[.string (tx (lineT x)), .int .i64 0] by unfold lineR; rw [hm]; rfl] at HL
  have HB := Lib.hid (And.intro b1 (Blk.new w (ccs x) 27))
  have HMa := Lib.hid (fun wx (hb : Below w.heap.size w wx) => many_any (k : Int) wx (hT.below hb))
  rw [many_nat h1 h2] at HMa
  have HO1 := Lib.hid (fun wx (hb : Below w.heap.size w wx) => of_any (rgs k u x (mn k)) (rgs_lt (by omega) hu hw _) wx (hT.below hb))
  rw [rgs_of hm hk h1 h2, show rgs k u x (mn k) 0 = k from rfl, isC_iff.2 ⟨by omega, by omega⟩] at HO1
  have HO2 := Lib.hid (fun wx (hb : Below w.heap.size w wx) => of_any (rgs (u % 1000 + 23) u x (mn k)) (rgs_lt (by omega) hu hw _) wx (hT.below hb))
  rw [show ofC (rgs (u % 1000 + 23) u x (mn k)) = zc by unfold ofC; rw [show rgs (u % 1000 + 23) u x (mn k) 0 = u % 1000 + 23 from rfl, off_no]; rfl, show rgs (u % 1000 + 23) u x (mn k) 0 = u % 1000 + 23 from rfl, off_no] at HO2
  have hE := fun wx => run_eqV hw hw wx
  rw [show decide (x = x) = true from decide_eq_true rfl] at hE
  have HF := Lib.hid (fun wx (hb : Below w.heap.size w wx) => failed_any v h0 h3 wx (hC.below hb))
  have HCo := Lib.hid (fun wx (hb : Below w.heap.size w wx) => code_any (failed v) wx (hC.below hb))
  have HAn := Lib.hid (fun wx (hb : Below w.heap.size w wx) => answer_any (failed v) wx (hC.below hb))
  have hfc := failed_cases h0 h3
  have hm3 := mn3 h2
  have hmi : ((mn k : Nat) : Int) ≤ 3 := by omega
  have hki : (k : Int) % 4294967296 = (k : Int) := by omega
  have hui : (u : Int) < 4294967296 := by omega
  have hcell : ∀ j, j < 3 → (ccs x)[1 + j]? = some (.int .u32 (ar x j : Int)) := fun j hj => ar_cell hj
  have hcx : ccs x = #[.int .i64 (k : Int), .int .u32 (x.a : Int), .int .u32 (x.b : Int), .int .u32 (x.c : Int)] := by unfold ccs; rw [hk]
  have hzv : cv zc = .agg #[.int .i64 0, .int .u32 0, .int .u32 0, .int .u32 0] := rfl
  rw [hzv] at HO2
  unfold cv at HL HO1 hE ⊢
  rw [hcx] at HL HO1 hE HAl HB ⊢
  obtain ⟨uu, huu⟩ : ∃ uu : Int, (u : Int) = uu := ⟨_, rfl⟩
  rw [huu] at hui ⊢
  have HUU := Lib.hid huu
  have hu0 : 0 ≤ uu := by omega
  clear huu b1 hT hC hP hm hk h1 h2 hzv
  go_enter Tryd.func8, Tryd.ntmps8
  go_wp2_with (first
    | (go_at_call 28; (with_reducible refine HAl.out.mono ?_); rintro e w2 ⟨rfl, hb2⟩; have B2 := Lib.hid (HB.out.1.trans (hb2.mono HB.out.1.size)); have k2 := HB.out.2.below hb2; have c0 := k2.cell 0; have c1 := k2.cell 1; have c2 := k2.cell 2; have c3 := k2.cell 3; have K2 := Lib.hid k2; simp only [List.getElem?_toArray, List.getElem?_cons_zero, List.getElem?_cons_succ] at c0 c1 c2 c3; clear k2)
    | (go_at_call 22; (with_reducible refine (HL.out _ B2.out).mono ?_); rintro e w3 ⟨rfl, hb3⟩; have B3 := B2.out.trans (hb3.mono B2.out.size); have k3 := K2.out.below hb3; have d0 := k3.cell 0; have HB3 := Lib.hid (And.intro B3 k3); simp only [List.getElem?_toArray, List.getElem?_cons_zero] at d0; have k4 := k3.below ((Below.refl _ _).alloc (Nat.le_refl _) (.cells #[.int .u32 (k : Int), .int .u32 uu, .int .u32 uu, .int .u32 uu, .int .u32 uu, .int .u32 uu, .int .u32 uu, .int .u32 uu] 23)); have f0 := k4.cell 0; simp only [List.getElem?_toArray, List.getElem?_cons_zero] at f0; clear k3 k4 B3)
    | (go_at_call 13; (with_reducible refine (HMa.out _ (HB3.out.1.alloc HB3.out.1.size _)).mono ?_); rintro e w9 ⟨rfl, rfl⟩)
    | fail)
  have HI0 : Hid (Below w.heap.size w (w3.alloc (.cells #[.int .u32 (k : Int), .int .u32 uu, .int .u32 uu, .int .u32 uu, .int .u32 uu, .int .u32 uu, .int .u32 uu, .int .u32 uu] 23)) ∧ Blk (w3.alloc (.cells #[.int .u32 (k : Int), .int .u32 uu, .int .u32 uu, .int .u32 uu, .int .u32 uu, .int .u32 uu, .int .u32 uu, .int .u32 uu] 23)) w.heap.size #[.int .i64 (k : Int), .int .u32 (x.a : Int), .int .u32 (x.b : Int), .int .u32 (x.c : Int)] 27 ∧ Blk (w3.alloc (.cells #[.int .u32 (k : Int), .int .u32 uu, .int .u32 uu, .int .u32 uu, .int .u32 uu, .int .u32 uu, .int .u32 uu, .int .u32 uu] 23)) w3.heap.size (rcs (rgs k u x 0)) 23) := Lib.hid (by rw [← HUU.out]; exact ⟨HB3.out.1.alloc HB3.out.1.size _, HB3.out.2.below ((Below.refl _ _).alloc (Nat.le_refl _) _), Blk.new _ _ _⟩)
  have hlt3 : w.heap.size < w3.heap.size := HB3.out.2.lt
  clear c0 c1 c2 c3 d0 f0
  go_loopw [12] (fun i wr => ∃ j : Nat, j ≤ mn k ∧ i = .int .i64 (j : Int) ∧ Hid (Below w.heap.size w wr ∧ Blk wr w.heap.size #[.int .i64 (k : Int), .int .u32 (x.a : Int), .int .u32 (x.b : Int), .int .u32 (x.c : Int)] 27 ∧ Blk wr w3.heap.size (rcs (rgs k u x j)) 23)) (fun i _ => mn k - (intOf i).toNat)
  case atStart => exact ⟨0, by omega, rfl, HI0⟩
  case round =>
    obtain ⟨j, hj, rfl, HI⟩ := hrel
    by_cases hlt : j < mn k
    · have cA : wr.cell? ⟨w.heap.size, 1 + j, none⟩ = some (.int .u32 (ar x j : Int)) := by
        have h5 := HI.out.2.1.cell (1 + j)
        rw [← hcx] at h5
        exact h5.trans (hcell j (by omega))
      have fR := HI.out.2.2.free (1 + j)
      have hR3 := hm3
      have cR : (wr.cell? ⟨w3.heap.size, 1 + j, none⟩).isSome = true := by
        rw [HI.out.2.2.cell]
        have : j = 0 ∨ j = 1 ∨ j = 2 := by omega
        rcases this with rfl | rfl | rfl <;> rfl
      obtain ⟨v9, hv9⟩ := Option.isSome_iff_exists.1 cR
      have hj3 : (j : Int) < 3 := by omega
      clear cR
      go_wp2_with fail
      go_roundw
      case rel =>
        refine ⟨j + 1, by omega, by go_num, Lib.hid ⟨HI.out.1.setCell (p := ⟨w3.heap.size, 1 + j, none⟩) (Nat.le_of_lt hlt3) _, HI.out.2.1.other w3.heap.size (1 + j) _ (by omega), ?_⟩⟩
        have h5 := HI.out.2.2.set (1 + j) (.int .u32 (ar x j : Int))
        rw [rgs_step k u x j (by omega)] at h5
        exact h5
      case measure => simp [intOf]; omega
    · obtain rfl : j = mn k := by omega
      obtain ⟨r1, hr1⟩ : ∃ r1, rgs k u x (mn k) = r1 := ⟨_, rfl⟩
      have hset : (rcs r1).setIfInBounds 0 (.int .u32 (uu % 1000 + 23)) = #[.int .u32 (uu % 1000 + 23), .int .u32 (r1 1 : Int), .int .u32 (r1 2 : Int), .int .u32 (r1 3 : Int), .int .u32 (r1 4 : Int), .int .u32 (r1 5 : Int), .int .u32 (r1 6 : Int), .int .u32 (r1 7 : Int)] := by rw [← hr1]; rfl
      rw [hr1] at HI HO1
      have HO3 : Hid (∀ wx, Below w.heap.size w wx → Calls Tryd.prog 10 #[.agg #[.int .u32 (uu % 1000 + 23), .int .u32 (r1 1 : Int), .int .u32 (r1 2 : Int), .int .u32 (r1 3 : Int), .int .u32 (r1 4 : Int), .int .u32 (r1 5 : Int), .int .u32 (r1 6 : Int), .int .u32 (r1 7 : Int)]] wx fun e w' => e = .returned (.tuple #[.agg #[.int .i64 0, .int .u32 0, .int .u32 0, .int .u32 0], .bool false]) ∧ Below wx.heap.size wx w') := Lib.hid (fun wx hb => by
        have h := HO2.out wx hb
        rw [show rv (rgs (u % 1000 + 23) u x (mn k)) = .agg #[.int .u32 (uu % 1000 + 23), .int .u32 (r1 1 : Int), .int .u32 (r1 2 : Int), .int .u32 (r1 3 : Int), .int .u32 (r1 4 : Int), .int .u32 (r1 5 : Int), .int .u32 (r1 6 : Int), .int .u32 (r1 7 : Int)] by
          rw [show (uu % 1000 + 23) = ((u % 1000 + 23 : Nat) : Int) by have := HUU.out; omega, ← hr1]; rfl] at h
        exact h)
      have hB := HI.out.2.2
      have e0 := hB.cell 0
      have e1 := hB.cell 1
      have e2 := hB.cell 2
      have e3 := hB.cell 3
      have e4 := hB.cell 4
      have e5 := hB.cell 5
      have e6 := hB.cell 6
      have e7 := hB.cell 7
      have hrc : rcs r1 = #[.int .u32 (r1 0 : Int), .int .u32 (r1 1 : Int), .int .u32 (r1 2 : Int), .int .u32 (r1 3 : Int), .int .u32 (r1 4 : Int), .int .u32 (r1 5 : Int), .int .u32 (r1 6 : Int), .int .u32 (r1 7 : Int)] := rfl
      rw [hrc] at e0 e1 e2 e3 e4 e5 e6 e7 hB
      simp only [List.getElem?_toArray, List.getElem?_cons_zero, List.getElem?_cons_succ] at e0 e1 e2 e3 e4 e5 e6 e7
      unfold rv at HO1
      rw [hrc] at HO1 hset
      have HK := Lib.hid (And.intro HI.out.1 (And.intro HI.out.2.1 hB))
      have HSet := Lib.hid hset
      clear hB HO2 hr1 hset hrc hlt hj hcx hcell hmi hm3
      have hcases : (failed v = 0 ∧ 4294967196 < v) ∨ (failed v = 0 ∧ ¬ 4294967196 < v) ∨ (failed v ≠ 0 ∧ codeT (failed v) ≠ [] ∧ answer (failed v) = v ∧ 4294967196 < v) := by
        rcases hfc with h | h
        · by_cases h5 : 4294967196 < v
          · exact .inl ⟨h, h5⟩
          · exact .inr (.inl ⟨h, h5⟩)
        · exact .inr (.inr ⟨by omega, h.1, h.2.1, h.2.2.2.2⟩)
      clear hfc
      rcases hcases with ⟨h5, h6⟩ | ⟨h5, h6⟩ | ⟨h5, h6, h7, h8⟩
      · rw [h5] at HF
        clear h5 HCo HAn
        go_wp2_with (first
          | (go_at_call 10; (with_reducible refine (HO1.out _ HK.out.1).mono ?_); rintro e w5 ⟨rfl, hb5⟩; have B5 := HK.out.1.trans (hb5.mono HK.out.1.size); have k5 := HK.out.2.2.below hb5; have kc := HK.out.2.1.below hb5; have g0 := (k5.below ((Below.refl _ _).alloc (Nat.le_refl _) (.cells #[.int .i64 (k : Int), .int .u32 (x.a : Int), .int .u32 (x.b : Int), .int .u32 (x.c : Int)] 27))).cell 0; have m0 := (k5.below ((Below.refl _ _).alloc (Nat.le_refl _) (.cells #[.int .i64 (k : Int), .int .u32 (x.a : Int), .int .u32 (x.b : Int), .int .u32 (x.c : Int)] 27))).free 0; have k7 := k5.set 0 (.int .u32 (uu % 1000 + 23)); rw [HSet.out] at k7; have k8 := k7.below ((Below.refl _ _).alloc (Nat.le_refl _) (.cells #[.int .i64 (k : Int), .int .u32 (x.a : Int), .int .u32 (x.b : Int), .int .u32 (x.c : Int)] 27)); have g0' := k8.cell 0; have g1 := k8.cell 1; have g2 := k8.cell 2; have g3 := k8.cell 3; have g4 := k8.cell 4; have g5 := k8.cell 5; have g6 := k8.cell 6; have g7 := k8.cell 7; simp only [List.getElem?_toArray, List.getElem?_cons_zero, List.getElem?_cons_succ] at g0 g0' g1 g2 g3 g4 g5 g6 g7; have B6a := B5.setCell (p := ⟨w3.heap.size, 0, none⟩) (Nat.le_of_lt hlt3) (.int .u32 (uu % 1000 + 23)); have B6 := Lib.hid (B6a.alloc B6a.size (.cells #[.int .i64 (k : Int), .int .u32 (x.a : Int), .int .u32 (x.b : Int), .int .u32 (x.c : Int)] 27)); have kn := Blk.new (w5.setCell ⟨w3.heap.size, 0, none⟩ (.int .u32 (uu % 1000 + 23))) #[.int .i64 (k : Int), .int .u32 (x.a : Int), .int .u32 (x.b : Int), .int .u32 (x.c : Int)] 27; rw [Deep.nblk_setCell] at kn; have K6 := Lib.hid (And.intro ((kc.other w3.heap.size 0 (.int .u32 (uu % 1000 + 23)) (by omega)).below ((Below.refl _ _).alloc (Nat.le_refl _) (.cells #[.int .i64 (k : Int), .int .u32 (x.a : Int), .int .u32 (x.b : Int), .int .u32 (x.c : Int)] 27))) kn); have s5 := k5.lt; have j8 := (k5.below ((Below.refl _ _).alloc (Nat.le_refl _) (.cells #[.int .i64 (k : Int), .int .u32 (x.a : Int), .int .u32 (x.b : Int), .int .u32 (x.c : Int)] 27))).set 0 (.int .u32 (uu % 1000 + 23)); rw [HSet.out] at j8; have j0 := j8.cell 0; have j1 := j8.cell 1; have j2 := j8.cell 2; have j3 := j8.cell 3; have j4 := j8.cell 4; have j5 := j8.cell 5; have j6 := j8.cell 6; have j7 := j8.cell 7; simp only [List.getElem?_toArray, List.getElem?_cons_zero, List.getElem?_cons_succ] at j0 j1 j2 j3 j4 j5 j6 j7; have B6b := Lib.hid ((B5.alloc B5.size (.cells #[.int .i64 (k : Int), .int .u32 (x.a : Int), .int .u32 (x.b : Int), .int .u32 (x.c : Int)] 27)).setCell (p := ⟨w3.heap.size, 0, none⟩) (Nat.le_of_lt hlt3) (.int .u32 (uu % 1000 + 23))); have K6b := Lib.hid (And.intro ((kc.below ((Below.refl _ _).alloc (Nat.le_refl _) (.cells #[.int .i64 (k : Int), .int .u32 (x.a : Int), .int .u32 (x.b : Int), .int .u32 (x.c : Int)] 27))).other w3.heap.size 0 (.int .u32 (uu % 1000 + 23)) (by omega)) ((Blk.new w5 #[.int .i64 (k : Int), .int .u32 (x.a : Int), .int .u32 (x.b : Int), .int .u32 (x.c : Int)] 27).other w3.heap.size 0 (.int .u32 (uu % 1000 + 23)) (by omega))); clear k5 k7 k8 kc kn B5 B6a j8 s5)
          | (go_at_call 10; (with_reducible refine (HO3.out _ B6.out).mono ?_); rintro e w7 ⟨rfl, hb7⟩; have B7 := Lib.hid (B6.out.trans (hb7.mono B6.out.size)); have B8 := Lib.hid (B7.out.alloc B7.out.size (.cells #[.int .i64 0, .int .u32 0, .int .u32 0, .int .u32 0] 27)); have k1 := (K6.out.1.below hb7).below ((Below.refl _ _).alloc (Nat.le_refl _) (.cells #[.int .i64 0, .int .u32 0, .int .u32 0, .int .u32 0] 27)); have k2 := (K6.out.2.below hb7).below ((Below.refl _ _).alloc (Nat.le_refl _) (.cells #[.int .i64 0, .int .u32 0, .int .u32 0, .int .u32 0] 27)); have q0 := k1.cell 0; have q1 := k1.cell 1; have q2 := k1.cell 2; have q3 := k1.cell 3; have z0 := k2.cell 0; have z1 := k2.cell 1; have z2 := k2.cell 2; have z3 := k2.cell 3; simp only [List.getElem?_toArray, List.getElem?_cons_zero, List.getElem?_cons_succ] at q0 q1 q2 q3 z0 z1 z2 z3; clear k1 k2)
          | (go_at_call 10; (with_reducible refine (HO3.out _ B6b.out).mono ?_); rintro e w7 ⟨rfl, hb7⟩; have B7 := Lib.hid (B6b.out.trans (hb7.mono B6b.out.size)); have B8 := Lib.hid (B7.out.alloc B7.out.size (.cells #[.int .i64 0, .int .u32 0, .int .u32 0, .int .u32 0] 27)); have k1 := (K6b.out.1.below hb7).below ((Below.refl _ _).alloc (Nat.le_refl _) (.cells #[.int .i64 0, .int .u32 0, .int .u32 0, .int .u32 0] 27)); have k2 := (K6b.out.2.below hb7).below ((Below.refl _ _).alloc (Nat.le_refl _) (.cells #[.int .i64 0, .int .u32 0, .int .u32 0, .int .u32 0] 27)); have q0 := k1.cell 0; have q1 := k1.cell 1; have q2 := k1.cell 2; have q3 := k1.cell 3; have z0 := k2.cell 0; have z1 := k2.cell 1; have z2 := k2.cell 2; have z3 := k2.cell 3; simp only [List.getElem?_toArray, List.getElem?_cons_zero, List.getElem?_cons_succ] at q0 q1 q2 q3 z0 z1 z2 z3; clear k1 k2)
          | (go_at_call 20; (with_reducible refine (HF.out _ B8.out).mono ?_); rintro e w9 ⟨rfl, rfl⟩)
          | (go_at_call 16; (with_reducible refine (HCo.out _ B8.out).mono ?_); rintro e w9 ⟨rfl, rfl⟩)
          | (go_at_call 18; (with_reducible refine (HAn.out _ B8.out).mono ?_); rintro e w9 ⟨rfl, rfl⟩)
          | fail)
        go_ret
        exact ⟨rfl, B8.out⟩
      · rw [h5] at HF
        clear h5 HCo HAn
        go_wp2_with (first
          | (go_at_call 10; (with_reducible refine (HO1.out _ HK.out.1).mono ?_); rintro e w5 ⟨rfl, hb5⟩; have B5 := HK.out.1.trans (hb5.mono HK.out.1.size); have k5 := HK.out.2.2.below hb5; have kc := HK.out.2.1.below hb5; have g0 := (k5.below ((Below.refl _ _).alloc (Nat.le_refl _) (.cells #[.int .i64 (k : Int), .int .u32 (x.a : Int), .int .u32 (x.b : Int), .int .u32 (x.c : Int)] 27))).cell 0; have m0 := (k5.below ((Below.refl _ _).alloc (Nat.le_refl _) (.cells #[.int .i64 (k : Int), .int .u32 (x.a : Int), .int .u32 (x.b : Int), .int .u32 (x.c : Int)] 27))).free 0; have k7 := k5.set 0 (.int .u32 (uu % 1000 + 23)); rw [HSet.out] at k7; have k8 := k7.below ((Below.refl _ _).alloc (Nat.le_refl _) (.cells #[.int .i64 (k : Int), .int .u32 (x.a : Int), .int .u32 (x.b : Int), .int .u32 (x.c : Int)] 27)); have g0' := k8.cell 0; have g1 := k8.cell 1; have g2 := k8.cell 2; have g3 := k8.cell 3; have g4 := k8.cell 4; have g5 := k8.cell 5; have g6 := k8.cell 6; have g7 := k8.cell 7; simp only [List.getElem?_toArray, List.getElem?_cons_zero, List.getElem?_cons_succ] at g0 g0' g1 g2 g3 g4 g5 g6 g7; have B6a := B5.setCell (p := ⟨w3.heap.size, 0, none⟩) (Nat.le_of_lt hlt3) (.int .u32 (uu % 1000 + 23)); have B6 := Lib.hid (B6a.alloc B6a.size (.cells #[.int .i64 (k : Int), .int .u32 (x.a : Int), .int .u32 (x.b : Int), .int .u32 (x.c : Int)] 27)); have kn := Blk.new (w5.setCell ⟨w3.heap.size, 0, none⟩ (.int .u32 (uu % 1000 + 23))) #[.int .i64 (k : Int), .int .u32 (x.a : Int), .int .u32 (x.b : Int), .int .u32 (x.c : Int)] 27; rw [Deep.nblk_setCell] at kn; have K6 := Lib.hid (And.intro ((kc.other w3.heap.size 0 (.int .u32 (uu % 1000 + 23)) (by omega)).below ((Below.refl _ _).alloc (Nat.le_refl _) (.cells #[.int .i64 (k : Int), .int .u32 (x.a : Int), .int .u32 (x.b : Int), .int .u32 (x.c : Int)] 27))) kn); have s5 := k5.lt; have j8 := (k5.below ((Below.refl _ _).alloc (Nat.le_refl _) (.cells #[.int .i64 (k : Int), .int .u32 (x.a : Int), .int .u32 (x.b : Int), .int .u32 (x.c : Int)] 27))).set 0 (.int .u32 (uu % 1000 + 23)); rw [HSet.out] at j8; have j0 := j8.cell 0; have j1 := j8.cell 1; have j2 := j8.cell 2; have j3 := j8.cell 3; have j4 := j8.cell 4; have j5 := j8.cell 5; have j6 := j8.cell 6; have j7 := j8.cell 7; simp only [List.getElem?_toArray, List.getElem?_cons_zero, List.getElem?_cons_succ] at j0 j1 j2 j3 j4 j5 j6 j7; have B6b := Lib.hid ((B5.alloc B5.size (.cells #[.int .i64 (k : Int), .int .u32 (x.a : Int), .int .u32 (x.b : Int), .int .u32 (x.c : Int)] 27)).setCell (p := ⟨w3.heap.size, 0, none⟩) (Nat.le_of_lt hlt3) (.int .u32 (uu % 1000 + 23))); have K6b := Lib.hid (And.intro ((kc.below ((Below.refl _ _).alloc (Nat.le_refl _) (.cells #[.int .i64 (k : Int), .int .u32 (x.a : Int), .int .u32 (x.b : Int), .int .u32 (x.c : Int)] 27))).other w3.heap.size 0 (.int .u32 (uu % 1000 + 23)) (by omega)) ((Blk.new w5 #[.int .i64 (k : Int), .int .u32 (x.a : Int), .int .u32 (x.b : Int), .int .u32 (x.c : Int)] 27).other w3.heap.size 0 (.int .u32 (uu % 1000 + 23)) (by omega))); clear k5 k7 k8 kc kn B5 B6a j8 s5)
          | (go_at_call 10; (with_reducible refine (HO3.out _ B6.out).mono ?_); rintro e w7 ⟨rfl, hb7⟩; have B7 := Lib.hid (B6.out.trans (hb7.mono B6.out.size)); have B8 := Lib.hid (B7.out.alloc B7.out.size (.cells #[.int .i64 0, .int .u32 0, .int .u32 0, .int .u32 0] 27)); have k1 := (K6.out.1.below hb7).below ((Below.refl _ _).alloc (Nat.le_refl _) (.cells #[.int .i64 0, .int .u32 0, .int .u32 0, .int .u32 0] 27)); have k2 := (K6.out.2.below hb7).below ((Below.refl _ _).alloc (Nat.le_refl _) (.cells #[.int .i64 0, .int .u32 0, .int .u32 0, .int .u32 0] 27)); have q0 := k1.cell 0; have q1 := k1.cell 1; have q2 := k1.cell 2; have q3 := k1.cell 3; have z0 := k2.cell 0; have z1 := k2.cell 1; have z2 := k2.cell 2; have z3 := k2.cell 3; simp only [List.getElem?_toArray, List.getElem?_cons_zero, List.getElem?_cons_succ] at q0 q1 q2 q3 z0 z1 z2 z3; clear k1 k2)
          | (go_at_call 10; (with_reducible refine (HO3.out _ B6b.out).mono ?_); rintro e w7 ⟨rfl, hb7⟩; have B7 := Lib.hid (B6b.out.trans (hb7.mono B6b.out.size)); have B8 := Lib.hid (B7.out.alloc B7.out.size (.cells #[.int .i64 0, .int .u32 0, .int .u32 0, .int .u32 0] 27)); have k1 := (K6b.out.1.below hb7).below ((Below.refl _ _).alloc (Nat.le_refl _) (.cells #[.int .i64 0, .int .u32 0, .int .u32 0, .int .u32 0] 27)); have k2 := (K6b.out.2.below hb7).below ((Below.refl _ _).alloc (Nat.le_refl _) (.cells #[.int .i64 0, .int .u32 0, .int .u32 0, .int .u32 0] 27)); have q0 := k1.cell 0; have q1 := k1.cell 1; have q2 := k1.cell 2; have q3 := k1.cell 3; have z0 := k2.cell 0; have z1 := k2.cell 1; have z2 := k2.cell 2; have z3 := k2.cell 3; simp only [List.getElem?_toArray, List.getElem?_cons_zero, List.getElem?_cons_succ] at q0 q1 q2 q3 z0 z1 z2 z3; clear k1 k2)
          | (go_at_call 20; (with_reducible refine (HF.out _ B8.out).mono ?_); rintro e w9 ⟨rfl, rfl⟩)
          | (go_at_call 16; (with_reducible refine (HCo.out _ B8.out).mono ?_); rintro e w9 ⟨rfl, rfl⟩)
          | (go_at_call 18; (with_reducible refine (HAn.out _ B8.out).mono ?_); rintro e w9 ⟨rfl, rfl⟩)
          | fail)
        go_ret
        exact ⟨rfl, B8.out⟩
      · have hq : (tx (codeT (failed v))).toList.isEmpty = false := by rw [tx_nil]; cases e : codeT (failed v) with
          | nil => exact absurd e h6
          | cons a b => rfl
        have hz : (failed v == 0) = false := by simpa using h5
        rw [h7] at HAn
        clear h5 h6 h7
        generalize tx (codeT (failed v)) = TC at *
        generalize failed v = fv at *
        go_wp2_with (first
          | (go_at_call 10; (with_reducible refine (HO1.out _ HK.out.1).mono ?_); rintro e w5 ⟨rfl, hb5⟩; have B5 := HK.out.1.trans (hb5.mono HK.out.1.size); have k5 := HK.out.2.2.below hb5; have kc := HK.out.2.1.below hb5; have g0 := (k5.below ((Below.refl _ _).alloc (Nat.le_refl _) (.cells #[.int .i64 (k : Int), .int .u32 (x.a : Int), .int .u32 (x.b : Int), .int .u32 (x.c : Int)] 27))).cell 0; have m0 := (k5.below ((Below.refl _ _).alloc (Nat.le_refl _) (.cells #[.int .i64 (k : Int), .int .u32 (x.a : Int), .int .u32 (x.b : Int), .int .u32 (x.c : Int)] 27))).free 0; have k7 := k5.set 0 (.int .u32 (uu % 1000 + 23)); rw [HSet.out] at k7; have k8 := k7.below ((Below.refl _ _).alloc (Nat.le_refl _) (.cells #[.int .i64 (k : Int), .int .u32 (x.a : Int), .int .u32 (x.b : Int), .int .u32 (x.c : Int)] 27)); have g0' := k8.cell 0; have g1 := k8.cell 1; have g2 := k8.cell 2; have g3 := k8.cell 3; have g4 := k8.cell 4; have g5 := k8.cell 5; have g6 := k8.cell 6; have g7 := k8.cell 7; simp only [List.getElem?_toArray, List.getElem?_cons_zero, List.getElem?_cons_succ] at g0 g0' g1 g2 g3 g4 g5 g6 g7; have B6a := B5.setCell (p := ⟨w3.heap.size, 0, none⟩) (Nat.le_of_lt hlt3) (.int .u32 (uu % 1000 + 23)); have B6 := Lib.hid (B6a.alloc B6a.size (.cells #[.int .i64 (k : Int), .int .u32 (x.a : Int), .int .u32 (x.b : Int), .int .u32 (x.c : Int)] 27)); have kn := Blk.new (w5.setCell ⟨w3.heap.size, 0, none⟩ (.int .u32 (uu % 1000 + 23))) #[.int .i64 (k : Int), .int .u32 (x.a : Int), .int .u32 (x.b : Int), .int .u32 (x.c : Int)] 27; rw [Deep.nblk_setCell] at kn; have K6 := Lib.hid (And.intro ((kc.other w3.heap.size 0 (.int .u32 (uu % 1000 + 23)) (by omega)).below ((Below.refl _ _).alloc (Nat.le_refl _) (.cells #[.int .i64 (k : Int), .int .u32 (x.a : Int), .int .u32 (x.b : Int), .int .u32 (x.c : Int)] 27))) kn); have s5 := k5.lt; have j8 := (k5.below ((Below.refl _ _).alloc (Nat.le_refl _) (.cells #[.int .i64 (k : Int), .int .u32 (x.a : Int), .int .u32 (x.b : Int), .int .u32 (x.c : Int)] 27))).set 0 (.int .u32 (uu % 1000 + 23)); rw [HSet.out] at j8; have j0 := j8.cell 0; have j1 := j8.cell 1; have j2 := j8.cell 2; have j3 := j8.cell 3; have j4 := j8.cell 4; have j5 := j8.cell 5; have j6 := j8.cell 6; have j7 := j8.cell 7; simp only [List.getElem?_toArray, List.getElem?_cons_zero, List.getElem?_cons_succ] at j0 j1 j2 j3 j4 j5 j6 j7; have B6b := Lib.hid ((B5.alloc B5.size (.cells #[.int .i64 (k : Int), .int .u32 (x.a : Int), .int .u32 (x.b : Int), .int .u32 (x.c : Int)] 27)).setCell (p := ⟨w3.heap.size, 0, none⟩) (Nat.le_of_lt hlt3) (.int .u32 (uu % 1000 + 23))); have K6b := Lib.hid (And.intro ((kc.below ((Below.refl _ _).alloc (Nat.le_refl _) (.cells #[.int .i64 (k : Int), .int .u32 (x.a : Int), .int .u32 (x.b : Int), .int .u32 (x.c : Int)] 27))).other w3.heap.size 0 (.int .u32 (uu % 1000 + 23)) (by omega)) ((Blk.new w5 #[.int .i64 (k : Int), .int .u32 (x.a : Int), .int .u32 (x.b : Int), .int .u32 (x.c : Int)] 27).other w3.heap.size 0 (.int .u32 (uu % 1000 + 23)) (by omega))); clear k5 k7 k8 kc kn B5 B6a j8 s5)
          | (go_at_call 10; (with_reducible refine (HO3.out _ B6.out).mono ?_); rintro e w7 ⟨rfl, hb7⟩; have B7 := Lib.hid (B6.out.trans (hb7.mono B6.out.size)); have B8 := Lib.hid (B7.out.alloc B7.out.size (.cells #[.int .i64 0, .int .u32 0, .int .u32 0, .int .u32 0] 27)); have k1 := (K6.out.1.below hb7).below ((Below.refl _ _).alloc (Nat.le_refl _) (.cells #[.int .i64 0, .int .u32 0, .int .u32 0, .int .u32 0] 27)); have k2 := (K6.out.2.below hb7).below ((Below.refl _ _).alloc (Nat.le_refl _) (.cells #[.int .i64 0, .int .u32 0, .int .u32 0, .int .u32 0] 27)); have q0 := k1.cell 0; have q1 := k1.cell 1; have q2 := k1.cell 2; have q3 := k1.cell 3; have z0 := k2.cell 0; have z1 := k2.cell 1; have z2 := k2.cell 2; have z3 := k2.cell 3; simp only [List.getElem?_toArray, List.getElem?_cons_zero, List.getElem?_cons_succ] at q0 q1 q2 q3 z0 z1 z2 z3; clear k1 k2)
          | (go_at_call 10; (with_reducible refine (HO3.out _ B6b.out).mono ?_); rintro e w7 ⟨rfl, hb7⟩; have B7 := Lib.hid (B6b.out.trans (hb7.mono B6b.out.size)); have B8 := Lib.hid (B7.out.alloc B7.out.size (.cells #[.int .i64 0, .int .u32 0, .int .u32 0, .int .u32 0] 27)); have k1 := (K6b.out.1.below hb7).below ((Below.refl _ _).alloc (Nat.le_refl _) (.cells #[.int .i64 0, .int .u32 0, .int .u32 0, .int .u32 0] 27)); have k2 := (K6b.out.2.below hb7).below ((Below.refl _ _).alloc (Nat.le_refl _) (.cells #[.int .i64 0, .int .u32 0, .int .u32 0, .int .u32 0] 27)); have q0 := k1.cell 0; have q1 := k1.cell 1; have q2 := k1.cell 2; have q3 := k1.cell 3; have z0 := k2.cell 0; have z1 := k2.cell 1; have z2 := k2.cell 2; have z3 := k2.cell 3; simp only [List.getElem?_toArray, List.getElem?_cons_zero, List.getElem?_cons_succ] at q0 q1 q2 q3 z0 z1 z2 z3; clear k1 k2)
          | (go_at_call 20; (with_reducible refine (HF.out _ B8.out).mono ?_); rintro e w9 ⟨rfl, rfl⟩)
          | (go_at_call 16; (with_reducible refine (HCo.out _ B8.out).mono ?_); rintro e w9 ⟨rfl, rfl⟩)
          | (go_at_call 18; (with_reducible refine (HAn.out _ B8.out).mono ?_); rintro e w9 ⟨rfl, rfl⟩)
          | fail)
        go_ret
        exact ⟨rfl, B8.out⟩
end Go.Proofs.YtlddjjkbnhhfaaaDoor.Cly
set_option maxRecDepth 100000 in
theorem Go.Proofs.YtlddjjkbnhhfaaaDoor.Walk.callRegs (x : Go.Proofs.YtlddjjkbnhhfaaaDoor.Cla.Cl) (u v : Int) (w : Go.World) (hw : Go.Proofs.YtlddjjkbnhhfaaaDoor.Cla.Wf x) (hu : (Go.Lit.int .u32 u).wf = true) (hv : (Go.Lit.int .u32 v).wf = true)
    (hL : Go.Proofs.YtlddjjkbnhhfaaaDoor.Clt.Rw w ∧ Go.Proofs.YtlddjjkbnhhfaaaDoor.Clt.Cd w ∧ Go.Proofs.YtlddjjkbnhhfaaaDoor.Clt.Pow w) :
    Go.Calls Go.Proofs.Tryd.prog 8 #[Go.Proofs.YtlddjjkbnhhfaaaDoor.Clh.cv x, .int .u32 u, .int .u32 v] w fun e w' => e = .returned (.bool true) ∧ Go.RowKit.Below w.heap.size w w' := by
  obtain ⟨k, rfl, hk⟩ := Kit.u32_nat hu
  obtain ⟨m, rfl, hm'⟩ := Kit.u32_nat hv
  cases hm : Go.Proofs.YtlddjjkbnhhfaaaDoor.Cla.mayC x with
  | false => exact Go.Proofs.YtlddjjkbnhhfaaaDoor.Cly.regs_no x k m hw w hL.1 hL.2.1 hL.2.2 hm
  | true =>
    have hI := (Go.Proofs.YtlddjjkbnhhfaaaDoor.Cla.isC_iff).1 (Go.Proofs.YtlddjjkbnhhfaaaDoor.Cla.may_isC hm)
    obtain ⟨n, hn⟩ := Int.eq_ofNat_of_zero_le (Int.le_trans (by decide) hI.1)
    exact Go.Proofs.YtlddjjkbnhhfaaaDoor.Cly.regs_yes x n k m hn (by have := hI.1; omega) (by have := hI.2; omega) hk (by omega) (by omega) hw w hL.1 hL.2.1 hL.2.2 hm
