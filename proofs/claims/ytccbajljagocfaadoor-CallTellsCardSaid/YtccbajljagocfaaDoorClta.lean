/-
  CallTells' walk.
-/
import Derived.Test.YtccbajljagocfaaDoorClk
import Derived.Test.YtccbajljagocfaaDoorClrb
import Derived.Test.YtccbajljagocfaaDoorClrc
namespace Go.Proofs.YtccbajljagocfaaDoor
open Go Go.RowKit Go.Shelf Kit IsaM Cla Clt Clf Bk Clh Cli Clj Clk Clra Clrb Clrc
set_option linter.unusedVariables false
attribute [local go_sem] Oper.semAt_some
attribute [local go_sem ↓] eqv_wrap

theorem Walk.rv_blk {w : World} {r : Nat → Nat} : Blk (w.alloc (.cells (rcs r) 23)) w.heap.size (rcs r) 23 := Blk.new _ _ _
theorem Walk.last_step {t : Tx} {k : Nat} (h1 : 1 ≤ k) : lastBy t k = if wd k = t then k else lastBy t (k - 1) := by
  obtain ⟨i, rfl⟩ : ∃ i, k = i + 1 := ⟨k - 1, by omega⟩
  rfl
theorem Walk.callTells_main (n code : Int) (s : ByteArray) (v : Int) (r : Nat → Nat) (w : World) (hs : s.size ≤ 40) (h0 : 0 ≤ v) (h1 : v < 4294967296) (hr : ∀ i, r i < 4294967296) (hT : Rw w) (hC : Cd w) :
    Calls Tryd.prog 3 #[.int .i64 n, .int .i64 code, .string s, .int .u32 v, rv r] w fun e w' => e = .returned (.bool true) ∧ Below w.heap.size w w' := by
  have HN : Hid (∀ k wx, 1 ≤ k → k < 23 → Calls Tryd.prog 9 #[.int .i64 ((k : Nat) : Int)] wx fun e w' => e = .returned (.string (tx (wd k))) ∧ Below wx.heap.size wx w') := Lib.hid (fun k wx h1 h2 => rname_in k h1 h2 wx)
  have hsz : (s.size : Int) ≤ 40 := by omega
  have HT := Lib.hid (And.intro hT hC)
  unfold rv
  have HB1 : Hid (Below w.heap.size w (w.alloc (.cells (rcs r) 23)) ∧ Blk (w.alloc (.cells (rcs r) 23)) w.heap.size (rcs r) 23) := Lib.hid ⟨(Below.refl _ _).alloc (Nat.le_refl _) _, Walk.rv_blk⟩
  have HR := Lib.hid hr
  clear hT hC hr
  have hrc : rcs r = #[.int .u32 (r 0 : Int), .int .u32 (r 1 : Int), .int .u32 (r 2 : Int), .int .u32 (r 3 : Int), .int .u32 (r 4 : Int), .int .u32 (r 5 : Int), .int .u32 (r 6 : Int), .int .u32 (r 7 : Int)] := rfl
  rw [hrc] at HB1 ⊢
  clear hrc
  go_enter Tryd.func3, Tryd.ntmps3
  go_wp2_with fail
  go_loopw [11, 12] (fun b i wr => ∃ k : Nat, 1 ≤ k ∧ k ≤ 23 ∧ i = .int .i64 (k : Int) ∧ b = .int .i64 (lastBy s.data.toList (k - 1) : Int) ∧ Hid (Below w.heap.size w wr ∧ Blk wr w.heap.size #[.int .u32 (r 0 : Int), .int .u32 (r 1 : Int), .int .u32 (r 2 : Int), .int .u32 (r 3 : Int), .int .u32 (r 4 : Int), .int .u32 (r 5 : Int), .int .u32 (r 6 : Int), .int .u32 (r 7 : Int)] 23)) (fun _ i _ => 23 - (intOf i).toNat)
  case atStart => exact ⟨1, by omega, by omega, rfl, rfl, HB1⟩
  case round =>
    obtain ⟨k, hk1, hk2, rfl, rfl, HI⟩ := hrel
    by_cases hlt : k ≤ 22
    · have HL := Lib.hid (Walk.last_step (t := s.data.toList) hk1)
      have HK := Lib.hid (fun wx => HN.out k wx hk1 (by omega))
      generalize lastBy s.data.toList (k - 1) = z at *
      by_cases he : wd k = s.data.toList
      · have hes : tx (wd k) = s := by rw [he, tx_mk]
        rw [hes] at HK
        have HE := Lib.hid he
        clear he hes
        go_wp2_with (first | (go_at_call 9; refine (HK.out _).mono ?_; rintro e w' ⟨rfl, hb⟩) | fail)
        go_roundw
        case rel => exact ⟨k + 1, by omega, by omega, by go_num, by rw [show k + 1 - 1 = k from rfl, HL.out, if_pos HE.out], Lib.hid ⟨HI.out.1.trans (hb.mono HI.out.1.size), HI.out.2.below hb⟩⟩
        case measure => simp [intOf]; omega
      · have HE := Lib.hid he
        have hq : ((tx (wd k)).toList == s.toList) = false := by rw [tx_nil, toList_eq]; simpa using he
        clear he
        generalize tx (wd k) = T at *
        go_wp2_with (first | (go_at_call 9; refine (HK.out _).mono ?_; rintro e w' ⟨rfl, hb⟩) | fail)
        go_roundw
        case rel => exact ⟨k + 1, by omega, by omega, by go_num, by rw [show k + 1 - 1 = k from rfl, HL.out, if_neg HE.out], Lib.hid ⟨HI.out.1.trans (hb.mono HI.out.1.size), HI.out.2.below hb⟩⟩
        case measure => simp [intOf]; omega
    · obtain rfl : k = 23 := by omega
      rw [show lastBy s.data.toList (23 - 1) = byT s.data.toList from lastBy_byT _]
      have hB := HI.out.2
      have e0 := hB.cell 0
      have e1 := hB.cell 1
      have e2 := hB.cell 2
      have e3 := hB.cell 3
      have e4 := hB.cell 4
      have e5 := hB.cell 5
      have e6 := hB.cell 6
      have e7 := hB.cell 7
      simp only [List.getElem?_toArray, List.getElem?_cons_zero, List.getElem?_cons_succ] at e0 e1 e2 e3 e4 e5 e6 e7
      have HO := Lib.hid (of_any r HR.out wr (HT.out.1.below HI.out.1))
      have HO2 := Lib.hid (fun wx => rof_any r HR.out wx)
      have hyw := ofC_wf HR.out
      obtain ⟨y, hy⟩ : ∃ y, ofC r = y := ⟨_, rfl⟩
      rw [hy] at HO HO2 hyw
      have hE := fun wx => run_eqV hyw hyw wx
      rw [show decide (y = y) = true from decide_eq_true rfl] at hE
      have HI2 := Lib.hid HI.out
      generalize isC (r 0 : Int) = ic at *
      unfold rv rcs cv ccs at HO HO2
      unfold cv ccs at hE
      have HNa := Lib.hid (fun wx hb => name_any n wx (HT.out.1.below hb))
      have HNb := Lib.hid (fun wx => rname_any n wx)
      have HMa := Lib.hid (fun wx hb => many_any n wx (HT.out.1.below hb))
      have HMb := Lib.hid (fun wx => rmany_any n wx)
      have HBy := Lib.hid (fun wx hb => byName_any s wx (HT.out.1.below hb))
      have HCa := Lib.hid (fun wx hb => code_any code wx (HT.out.2.below hb))
      have HCb := Lib.hid (fun wx => rcode_any code wx)
      have HAa := Lib.hid (fun wx hb => answer_any code wx (HT.out.2.below hb))
      have HAb := Lib.hid (fun wx => ranswer_any code wx)
      have HFa := Lib.hid (fun wx hb => failed_any v h0 h1 wx (HT.out.2.below hb))
      have HFb := Lib.hid (fun wx => rfailed_any v h0 h1 wx)
      generalize tx (nameT n) = T1 at *
      generalize tx (codeT code) = T2 at *
      generalize manyI n = m at *
      generalize answer code = an at *
      generalize failed v = fa at *
      generalize byT s.data.toList = by0 at *
      clear hB hy hyw HN
      go_wp2_with (first
        | (go_at_call 10; refine HO.out.mono ?_; rintro e w2 ⟨rfl, hb2⟩; have B2 := (HI2.out.1.trans (hb2.mono HI2.out.1.size)).alloc (HI2.out.1.trans (hb2.mono HI2.out.1.size)).size (.cells #[.int .i64 y.n, .int .u32 (y.a : Int), .int .u32 (y.b : Int), .int .u32 (y.c : Int)] 27); have K2 := (HI2.out.2.below hb2).below ((Below.refl _ _).alloc (Nat.le_refl _) (.cells #[.int .i64 y.n, .int .u32 (y.a : Int), .int .u32 (y.b : Int), .int .u32 (y.c : Int)] 27)); have P0 := K2.cell 0; have P1 := K2.cell 1; have P2 := K2.cell 2; have P3 := K2.cell 3; have P4 := K2.cell 4; have P5 := K2.cell 5; have P6 := K2.cell 6; have P7 := K2.cell 7; simp only [List.getElem?_toArray, List.getElem?_cons_zero, List.getElem?_cons_succ] at P0 P1 P2 P3 P4 P5 P6 P7; have HB2 := Lib.hid B2; have HK2 := Lib.hid (Blk.new w2 #[.int .i64 y.n, .int .u32 (y.a : Int), .int .u32 (y.b : Int), .int .u32 (y.c : Int)] 27); clear B2 K2)
        | (go_at_call 11; refine (HO2.out _).mono ?_; rintro e w3 ⟨rfl, hb3⟩; have B3 := (HB2.out.trans (hb3.mono HB2.out.size)).alloc (HB2.out.trans (hb3.mono HB2.out.size)).size (.cells #[.int .i64 y.n, .int .u32 (y.a : Int), .int .u32 (y.b : Int), .int .u32 (y.c : Int)] 27); have HB3 := Lib.hid B3; have HK3 := Lib.hid (And.intro ((HK2.out.below hb3).below ((Below.refl _ _).alloc (Nat.le_refl _) (.cells #[.int .i64 y.n, .int .u32 (y.a : Int), .int .u32 (y.b : Int), .int .u32 (y.c : Int)] 27))) (Blk.new w3 #[.int .i64 y.n, .int .u32 (y.a : Int), .int .u32 (y.b : Int), .int .u32 (y.c : Int)] 27)); clear B3)
        | (go_at_call 12; refine (HNa.out _ HB3.out).mono ?_; rintro e w' ⟨rfl, rfl⟩)
        | (go_at_call 9; refine (HNb.out _).mono ?_; rintro e w4 ⟨rfl, hb4⟩; have B4 := HB3.out.trans (hb4.mono HB3.out.size); have HB4 := Lib.hid B4; have HK4 := Lib.hid (And.intro (HK3.out.1.below hb4) (HK3.out.2.below hb4)); clear B4)
        | (go_at_call 13; refine (HMa.out _ HB4.out).mono ?_; rintro e w' ⟨rfl, rfl⟩)
        | (go_at_call 14; refine (HMb.out _).mono ?_; rintro e w' ⟨rfl, rfl⟩)
        | (go_at_call 15; refine (HBy.out _ HB4.out).mono ?_; rintro e w5 ⟨rfl, hb5⟩; have B5 := HB4.out.trans (hb5.mono HB4.out.size); have HB5 := Lib.hid B5; have k1 := HK4.out.1.below hb5; have k2 := HK4.out.2.below hb5; have q0 := k1.cell 0; have q1 := k1.cell 1; have q2 := k1.cell 2; have q3 := k1.cell 3; have r0 := k2.cell 0; have r1 := k2.cell 1; have r2 := k2.cell 2; have r3 := k2.cell 3; simp only [List.getElem?_toArray, List.getElem?_cons_zero, List.getElem?_cons_succ] at q0 q1 q2 q3 r0 r1 r2 r3; clear B5 k1 k2)
        | (go_at_call 16; refine (HCa.out _ HB5.out).mono ?_; rintro e w' ⟨rfl, rfl⟩)
        | (go_at_call 17; refine (HCb.out _).mono ?_; rintro e w' ⟨rfl, rfl⟩)
        | (go_at_call 18; refine (HAa.out _ HB5.out).mono ?_; rintro e w' ⟨rfl, rfl⟩)
        | (go_at_call 19; refine (HAb.out _).mono ?_; rintro e w' ⟨rfl, rfl⟩)
        | (go_at_call 20; refine (HFa.out _ HB5.out).mono ?_; rintro e w' ⟨rfl, rfl⟩)
        | (go_at_call 21; refine (HFb.out _).mono ?_; rintro e w' ⟨rfl, rfl⟩)
        | fail)
      go_ret
      exact ⟨rfl, HB5.out⟩
theorem Walk.callTells (n code : Int) (s : ByteArray) (v : Int) (r : Nat → Nat) (w : World) (_ : (Lit.int .i64 n).wf = true) (_ : (Lit.int .i64 code).wf = true) (_ : s.size ≤ maxLen) (h : (Lit.int .u32 v).wf = true) (hr : ∀ i, r i < 4294967296) (hL : Rw w ∧ Cd w) :
    Calls Tryd.prog 3 #[.int .i64 n, .int .i64 code, .string s, .int .u32 v, rv r] w fun e w' => e = .returned (.bool true) ∧ Below w.heap.size w w' := by
  obtain ⟨hT, hC⟩ := hL
  obtain ⟨u, rfl, hu⟩ := u32_nat h
  by_cases hs : s.size ≤ 40
  · exact Walk.callTells_main n code s u r w hs (by omega) (by omega) hr hT hC
  · have hsz : (40 : Int) < (s.size : Int) := by omega
    have hB := (Below.refl w.heap.size w).alloc (Nat.le_refl _) (.cells (rcs r) 23)
    unfold rv
    unfold rcs at *
    go_enter Tryd.func3, Tryd.ntmps3
    go_wp2
    go_ret
    exact ⟨rfl, hB⟩
end Go.Proofs.YtccbajljagocfaaDoor
