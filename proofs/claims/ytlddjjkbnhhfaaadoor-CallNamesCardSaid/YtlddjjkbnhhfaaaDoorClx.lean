/-
  CallNames' walk.
-/
import Derived.Test.YtlddjjkbnhhfaaaDoorClw
import Derived.Test.YtlddjjkbnhhfaaaDoorClo
namespace Go.Proofs.YtlddjjkbnhhfaaaDoor.Clx
open Go Go.RowKit Go.Shelf Kit IsaM IsaS Cla Clt Clf Bk Clh Cli Clj Clk Clg Cll Clm Cln Clp Clq Clw
open Clv (ClAt ClsAt uv lst)
open Clo (cut4 line_parts read_any)
set_option linter.unusedVariables false
attribute [local go_sem] Oper.semAt_some
attribute [local go_sem ↓] eqv_wrap

theorem cut_a : cut4 [114, 101, 97, 100, 32, 51, 32, 54, 52] = [[114, 101, 97, 100], [51], [54, 52]] := by kernel_rfl
theorem cut_b : cut4 [101, 120, 105, 116, 32, 48, 49] = [[101, 120, 105, 116], [48, 49]] := by kernel_rfl
theorem cut_c : cut4 [101, 120, 105, 116, 32, 52, 50, 57, 52, 57, 54, 55, 50, 57, 54] = [[101, 120, 105, 116], [52, 50, 57, 52, 57, 54, 55, 50, 57, 54]] := by kernel_rfl
theorem no_a (x : Cl) (hx : mayC x = true) (hw : Wf x) : lineT x ≠ [114, 101, 97, 100, 32, 51, 32, 54, 52] := fun e => by
  obtain ⟨k, hk, h1, h2, hb, hr⟩ := line_parts hx e cut_a
  rw [show byT [114, 101, 97, 100] = 7 by kernel_rfl] at hb
  subst hb
  have := congrArg List.length hr
  rw [ags_len] at this
  exact absurd this (by decide)
theorem one_arg {x : Cl} {d : Tx} (hr : [d] = ags x (mn 1)) : d = Lib.decDigits x.a := by
  have : ags x (mn 1) = [Lib.decDigits x.a] := rfl
  rw [this] at hr
  injection hr
theorem no_b (x : Cl) (hx : mayC x = true) (hw : Wf x) : lineT x ≠ [101, 120, 105, 116, 32, 48, 49] := fun e => by
  obtain ⟨k, hk, h1, h2, hb, hr⟩ := line_parts hx e cut_b
  rw [show byT [101, 120, 105, 116] = 1 by kernel_rfl] at hb
  subst hb
  have h3 := one_arg hr
  have h4 := dd_val x.a
  rw [← h3] at h4
  have h5 : x.a = 1 := h4.symm
  rw [h5, dg1] at h3
  exact absurd h3 (by decide)
theorem no_c (x : Cl) (hx : mayC x = true) (hw : Wf x) : lineT x ≠ [101, 120, 105, 116, 32, 52, 50, 57, 52, 57, 54, 55, 50, 57, 54] := fun e => by
  obtain ⟨k, hk, h1, h2, hb, hr⟩ := line_parts hx e cut_c
  rw [show byT [101, 120, 105, 116] = 1 by kernel_rfl] at hb
  subst hb
  have h3 := one_arg hr
  have h4 := dd_val x.a
  rw [← h3] at h4
  have h5 : x.a = 4294967296 := h4.symm
  have := hw.a
  omega
theorem zc_v : cv zc = .agg #[.int .i64 0, .int .u32 0, .int .u32 0, .int .u32 0] := rfl
theorem read_not (t : Tx) (ht : t.length ≤ 100) (hno : ∀ x : Cl, mayC x = true → Wf x → lineT x ≠ t) (w : World) (hT : Rw w) (hP : Pow w) (hE : Ers w) (hM : Ml w) :
    Calls Tryd.prog 24 #[.string (tx t)] w fun e w' => e = .returned (.tuple #[.agg #[.int .i64 0, .int .u32 0, .int .u32 0, .int .u32 0], .int .i64 160]) ∧ Below w.heap.size w w' :=
  (read_any (tx t) (by rw [tx_size]; omega) w hT hP hE hM).mono fun e w' ⟨h, hb⟩ => ⟨by
    rcases h with ⟨x, h1, h2, h3, _⟩ | ⟨_, h4⟩
    · exact absurd h3 (hno x h1 h2)
    · rw [h4, zc_v], hb⟩
theorem tx_e : tx [] = ⟨#[]⟩ := rfl
set_option maxRecDepth 100000 in
set_option maxHeartbeats 4000000 in
theorem names_any (w : World) (hT : Rw w) (hC : Cd w) (hP : Pow w) (hE : Ers w) (hM : Ml w) :
    Calls Tryd.prog 5 #[] w fun e w' => e = .returned (.bool true) ∧ Below w.heap.size w w' := by
  have HL1 : Hid (∀ wx, Below w.heap.size w wx → Calls Tryd.prog 22 #[.agg #[.int .i64 2, .int .u32 1, .int .u32 0, .int .u32 0]] wx fun e w' => e = .returned (.tuple #[.string ⟨#[]⟩, .int .i64 160]) ∧ Below wx.heap.size wx w') := Lib.hid (fun wx hb => by
    have h := line_any (⟨2, 1, 0, 0⟩ : Cl) ⟨by decide, by decide, by decide, by decide⟩ wx (hT.below hb) (hP.below hb)
    rw [show lineR (⟨2, 1, 0, 0⟩ : Cl) = .tuple #[.string (tx []), .int .i64 160] by unfold lineR; rw [show mayC (⟨2, 1, 0, 0⟩ : Cl) = false by kernel_rfl]; rfl, show cv (⟨2, 1, 0, 0⟩ : Cl) = .agg #[.int .i64 2, .int .u32 1, .int .u32 0, .int .u32 0] by kernel_rfl, tx_e] at h
    exact h)
  have HL0 : Hid (∀ wx, Below w.heap.size w wx → Calls Tryd.prog 22 #[.agg #[.int .i64 0, .int .u32 0, .int .u32 0, .int .u32 0]] wx fun e w' => e = .returned (.tuple #[.string ⟨#[]⟩, .int .i64 160]) ∧ Below wx.heap.size wx w') := Lib.hid (fun wx hb => by
    have h := line_any (⟨0, 0, 0, 0⟩ : Cl) ⟨by decide, by decide, by decide, by decide⟩ wx (hT.below hb) (hP.below hb)
    rw [show lineR (⟨0, 0, 0, 0⟩ : Cl) = .tuple #[.string (tx []), .int .i64 160] by unfold lineR; rw [show mayC (⟨0, 0, 0, 0⟩ : Cl) = false by kernel_rfl]; rfl, show cv (⟨0, 0, 0, 0⟩ : Cl) = .agg #[.int .i64 0, .int .u32 0, .int .u32 0, .int .u32 0] by kernel_rfl, tx_e] at h
    exact h)
  have HRa : Hid (∀ wx, Below w.heap.size w wx → Calls Tryd.prog 24 #[.string ⟨#[114, 101, 97, 100, 32, 51, 32, 54, 52]⟩] wx fun e w' => e = .returned (.tuple #[.agg #[.int .i64 0, .int .u32 0, .int .u32 0, .int .u32 0], .int .i64 160]) ∧ Below wx.heap.size wx w') := Lib.hid (fun wx hb => read_not [114, 101, 97, 100, 32, 51, 32, 54, 52] (by decide) no_a wx (hT.below hb) (hP.below hb) (hE.below hb) (hM.below hb))
  have HRb : Hid (∀ wx, Below w.heap.size w wx → Calls Tryd.prog 24 #[.string ⟨#[101, 120, 105, 116, 32, 48, 49]⟩] wx fun e w' => e = .returned (.tuple #[.agg #[.int .i64 0, .int .u32 0, .int .u32 0, .int .u32 0], .int .i64 160]) ∧ Below wx.heap.size wx w') := Lib.hid (fun wx hb => read_not [101, 120, 105, 116, 32, 48, 49] (by decide) no_b wx (hT.below hb) (hP.below hb) (hE.below hb) (hM.below hb))
  have HRc : Hid (∀ wx, Below w.heap.size w wx → Calls Tryd.prog 24 #[.string ⟨#[101, 120, 105, 116, 32, 52, 50, 57, 52, 57, 54, 55, 50, 57, 54]⟩] wx fun e w' => e = .returned (.tuple #[.agg #[.int .i64 0, .int .u32 0, .int .u32 0, .int .u32 0], .int .i64 160]) ∧ Below wx.heap.size wx w') := Lib.hid (fun wx hb => read_not [101, 120, 105, 116, 32, 52, 50, 57, 52, 57, 54, 55, 50, 57, 54] (by decide) no_c wx (hT.below hb) (hP.below hb) (hE.below hb) (hM.below hb))
  have HPr : Hid (∀ wx g, Below w.heap.size w wx → Blk wx g #[.int .i64 22, .int .u32 32768, .int .u32 0, .int .u32 0] 27 → Calls Tryd.prog 26 #[.slice (some ⟨g, 0, none⟩) 1 1] wx fun e w' => e = .returned (.tuple #[.string ⟨#[]⟩, .int .i64 160]) ∧ Below wx.heap.size wx w') := Lib.hid (fun wx g hb hk => by
    rw [show #[.int .i64 22, .int .u32 32768, .int .u32 0, .int .u32 0] = ccs (⟨22, 32768, 0, 0⟩ : Cl) by kernel_rfl] at hk
    have h := prog_any _ [(⟨22, 32768, 0, 0⟩ : Cl)] (by decide) wx (cls_one ⟨by decide, by decide, by decide, by decide⟩ hk) (hT.below hb) (hP.below hb)
    rw [show [(⟨22, 32768, 0, 0⟩ : Cl)].all okB = false by kernel_rfl, if_neg (by decide)] at h
    exact h)
  have HOf : Hid (∀ wx, Below w.heap.size w wx → Calls Tryd.prog 10 #[.agg #[.int .u32 23, .int .u32 0, .int .u32 0, .int .u32 0, .int .u32 0, .int .u32 0, .int .u32 0, .int .u32 0]] wx fun e w' => e = .returned (.tuple #[.agg #[.int .i64 0, .int .u32 0, .int .u32 0, .int .u32 0], .bool false]) ∧ Below wx.heap.size wx w') := Lib.hid (fun wx hb => by
    have h := of_any (lst [23]) (Clv.lst_bd _ (by decide)) wx (hT.below hb)
    rw [show isC (lst [23] 0 : Int) = false by kernel_rfl, show ofC (lst [23]) = zc by unfold ofC; rw [show isC (lst [23] 0 : Int) = false by kernel_rfl]; rfl, show rv (lst [23]) = .agg #[.int .u32 23, .int .u32 0, .int .u32 0, .int .u32 0, .int .u32 0, .int .u32 0, .int .u32 0, .int .u32 0] by kernel_rfl, zc_v] at h
    exact h)
  have HAl := Lib.hid (fun wx (hb : Below w.heap.size w wx) => alive_any wx (hT.below hb) (hC.below hb) (hP.below hb))
  have HN0 : Hid (∀ wx, Below w.heap.size w wx → Calls Tryd.prog 12 #[.int .i64 0] wx fun e w' => e = .returned (.string ⟨#[]⟩) ∧ wx = w') := Lib.hid (fun wx hb => by
    have h := name_any 0 wx (hT.below hb)
    rw [show nameT 0 = [] by kernel_rfl, tx_e] at h
    exact h)
  have HN23 : Hid (∀ wx, Below w.heap.size w wx → Calls Tryd.prog 12 #[.int .i64 23] wx fun e w' => e = .returned (.string ⟨#[]⟩) ∧ wx = w') := Lib.hid (fun wx hb => by
    have h := name_any 23 wx (hT.below hb)
    rw [show nameT 23 = [] by kernel_rfl, tx_e] at h
    exact h)
  have HMa : Hid (∀ wx, Below w.heap.size w wx → Calls Tryd.prog 13 #[.int .i64 0] wx fun e w' => e = .returned (.int .i64 (-1)) ∧ wx = w') := Lib.hid (fun wx hb => by
    have h := many_any 0 wx (hT.below hb)
    rw [show manyI 0 = -1 by kernel_rfl] at h
    exact h)
  have HBy : Hid (∀ wx, Below w.heap.size w wx → Calls Tryd.prog 15 #[.string ⟨#[]⟩] wx fun e w' => e = .returned (.int .i64 0) ∧ Below wx.heap.size wx w') := Lib.hid (fun wx hb => by
    have h := byName_any ⟨#[]⟩ wx (hT.below hb)
    rw [show byT (⟨#[]⟩ : ByteArray).data.toList = 0 by kernel_rfl] at h
    exact h)
  have HAn : Hid (∀ wx, Below w.heap.size w wx → Calls Tryd.prog 18 #[.int .i64 2] wx fun e w' => e = .returned (.int .u32 0) ∧ wx = w') := Lib.hid (fun wx hb => by
    have h := answer_any 2 wx (hC.below hb)
    rw [show answer 2 = 0 by kernel_rfl] at h
    exact h)
  have HF0 : Hid (∀ wx, Below w.heap.size w wx → Calls Tryd.prog 20 #[.int .u32 0] wx fun e w' => e = .returned (.int .i64 0) ∧ wx = w') := Lib.hid (fun wx hb => by
    have h := failed_any 0 (by decide) (by decide) wx (hC.below hb)
    rw [show failed 0 = 0 by kernel_rfl] at h
    exact h)
  have HF2 : Hid (∀ wx, Below w.heap.size w wx → Calls Tryd.prog 20 #[.int .u32 4294967294] wx fun e w' => e = .returned (.int .i64 0) ∧ wx = w') := Lib.hid (fun wx hb => by
    have h := failed_any 4294967294 (by decide) (by decide) wx (hC.below hb)
    rw [show failed 4294967294 = 0 by kernel_rfl] at h
    exact h)
  clear hT hC hP hE hM
  go_enter Tryd.func5, Tryd.ntmps5
  go_wp2_with (first
    | (go_at_call 22; (with_reducible refine (HL1.out _ (Below.refl _ _)).mono ?_); rintro e w1 ⟨rfl, hb1⟩; have B1 := Lib.hid hb1)
    | (go_at_call 22; (with_reducible refine (HL0.out _ B1.out).mono ?_); rintro e w2 ⟨rfl, hb2⟩; have B2 := Lib.hid (B1.out.trans (hb2.mono B1.out.size)))
    | (go_at_call 24; (with_reducible refine (HRa.out _ B2.out).mono ?_); rintro e w3 ⟨rfl, hb3⟩; have B3 := Lib.hid ((B2.out.trans (hb3.mono B2.out.size)).alloc (B2.out.trans (hb3.mono B2.out.size)).size (.cells #[.int .i64 0, .int .u32 0, .int .u32 0, .int .u32 0] 27)))
    | (go_at_call 24; (with_reducible refine (HRb.out _ B3.out).mono ?_); rintro e w4 ⟨rfl, hb4⟩; have B4 := Lib.hid ((B3.out.trans (hb4.mono B3.out.size)).alloc (B3.out.trans (hb4.mono B3.out.size)).size (.cells #[.int .i64 0, .int .u32 0, .int .u32 0, .int .u32 0] 27)))
    | (go_at_call 24; (with_reducible refine (HRc.out _ B4.out).mono ?_); rintro e w5 ⟨rfl, hb5⟩; have B5 := Lib.hid ((B4.out.trans (hb5.mono B4.out.size)).alloc (B4.out.trans (hb5.mono B4.out.size)).size (.cells #[.int .i64 0, .int .u32 0, .int .u32 0, .int .u32 0] 27)))
    | (go_at_call 26; have kq := Blk.new (w5.alloc (.cells #[.int .i64 0, .int .u32 0, .int .u32 0, .int .u32 0] 27)) #[.int .i64 22, .int .u32 32768, .int .u32 0, .int .u32 0] 27; rw [World.size_alloc] at kq; (with_reducible refine (HPr.out _ _ (B5.out.alloc B5.out.size (.cells #[.int .i64 22, .int .u32 32768, .int .u32 0, .int .u32 0] 27)) kq).mono ?_); clear kq; rintro e w6 ⟨rfl, hb6⟩; have B6 := Lib.hid ((B5.out.alloc B5.out.size (.cells #[.int .i64 22, .int .u32 32768, .int .u32 0, .int .u32 0] 27)).trans (hb6.mono (B5.out.alloc B5.out.size (.cells #[.int .i64 22, .int .u32 32768, .int .u32 0, .int .u32 0] 27)).size)))
    | (go_at_call 10; (with_reducible refine (HOf.out _ B6.out).mono ?_); rintro e w7 ⟨rfl, hb7⟩; have B7 := Lib.hid ((B6.out.trans (hb7.mono B6.out.size)).alloc (B6.out.trans (hb7.mono B6.out.size)).size (.cells #[.int .i64 0, .int .u32 0, .int .u32 0, .int .u32 0] 27)))
    | (go_at_call 28; (with_reducible refine (HAl.out _ B7.out).mono ?_); rintro e w8 ⟨rfl, hb8⟩; have B8 := Lib.hid (B7.out.trans (hb8.mono B7.out.size)))
    | (go_at_call 12; (with_reducible refine (HN0.out _ B8.out).mono ?_); rintro e w' ⟨rfl, rfl⟩)
    | (go_at_call 12; (with_reducible refine (HN23.out _ B8.out).mono ?_); rintro e w' ⟨rfl, rfl⟩)
    | (go_at_call 13; (with_reducible refine (HMa.out _ B8.out).mono ?_); rintro e w' ⟨rfl, rfl⟩)
    | (go_at_call 15; (with_reducible refine (HBy.out _ B8.out).mono ?_); rintro e w9 ⟨rfl, hb9⟩; have B9 := Lib.hid (B8.out.trans (hb9.mono B8.out.size)))
    | (go_at_call 18; (with_reducible refine (HAn.out _ B9.out).mono ?_); rintro e w' ⟨rfl, rfl⟩)
    | (go_at_call 20; (with_reducible refine (HF0.out _ B9.out).mono ?_); rintro e w' ⟨rfl, rfl⟩)
    | (go_at_call 20; (with_reducible refine (HF2.out _ B9.out).mono ?_); rintro e w' ⟨rfl, rfl⟩)
    | fail)
  go_ret
  exact ⟨rfl, B9.out⟩
end Go.Proofs.YtlddjjkbnhhfaaaDoor.Clx
theorem Go.Proofs.YtlddjjkbnhhfaaaDoor.Walk.callNames (w : Go.World) (hL : Go.Proofs.YtlddjjkbnhhfaaaDoor.Clt.Rw w ∧ Go.Proofs.YtlddjjkbnhhfaaaDoor.Clt.Cd w ∧ Go.Proofs.YtlddjjkbnhhfaaaDoor.Clt.Pow w ∧ Go.Proofs.YtlddjjkbnhhfaaaDoor.Clt.Ers w) (hM : Go.Proofs.YtlddjjkbnhhfaaaDoor.Clt.Ml w) :
    Go.Calls Go.Proofs.Tryd.prog 5 #[] w fun e w' => e = .returned (.bool true) ∧ Go.RowKit.Below w.heap.size w w' := Go.Proofs.YtlddjjkbnhhfaaaDoor.Clx.names_any w hL.1 hL.2.1 hL.2.2.1 hL.2.2.2 hM
