/-
  CallRuns' walk.
-/
import Derived.Test.YtlddjjkbnhhfaaaDoorClw
import Derived.Test.YtlddjjkbnhhfaaaDoorIsaV
import Derived.Test.YtlddjjkbnhhfaaaDoorCpa
namespace Go.Proofs.YtlddjjkbnhhfaaaDoor.Cpr
open Go Go.RowKit Go.Shelf Kit IsaM Cla Clt Clf Bk Clh Clq Clw
open Clv (ClAt ClsAt uv)
open Cpa (wnt MayI wdI li sysI)
set_option linter.unusedVariables false
attribute [local go_sem] Oper.semAt_some

theorem row_cells {w : World} {base : Nat} {r : Value} {ws : List Nat} (h : w.ownsRow base 22 1 r ws.length (IsaB.u32s ws)) (hn : 0 < ws.length) :
    ∃ g cap, r = .slice (some ⟨g, 0, none⟩) ws.length cap ∧ base ≤ g ∧ ws.length ≤ cap ∧ cap ≤ maxLen ∧ (∃ cur, Blk w g cur 22) ∧ (∀ (i x : Nat), ws[i]? = some x → w.cell? ⟨g, i, none⟩ = some (.int .u32 (x : Int))) := by
  obtain ⟨ad, cap, rfl⟩ := IsaB.row_form h
  obtain ⟨g, cur, rfl, h1, h2, h3, h4, h5, h6⟩ := IsaK.row_at h hn
  refine ⟨g, cap, rfl, h1, h2, h3, ⟨cur, h4⟩, fun i x hx => ?_⟩
  have hi : i < ws.length := (List.getElem?_eq_some_iff.1 hx).1
  rw [h6 i (by omega)]
  unfold IsaB.u32s
  rw [List.getElem?_map, hx]
  rfl

theorem own_slc {w : World} {base : Nat} {r : Value} {ws : List Nat} (h : w.ownsRow base 22 1 r ws.length (IsaB.u32s ws)) : Slc .u32 w r ws := by
  by_cases hn : 0 < ws.length
  · obtain ⟨g, cap, rfl, _, h1, h2, ⟨cur, hb⟩, hc⟩ := row_cells h hn
    refine ⟨_, cap, rfl, h1, h2, .inr ⟨g, 0, rfl, hb.lt, fun i hi => ?_⟩⟩
    rw [Nat.zero_add, hc i (ws[i]) (List.getElem?_eq_getElem hi), List.getElem?_eq_getElem hi]
    rfl
  · obtain rfl : ws = [] := List.length_eq_zero_iff.1 (by omega)
    rcases h.2 with ⟨rfl, _⟩ | ⟨g, cap, cur, rfl, _, _, h1, h2, _⟩
    · exact ⟨none, 0, rfl, Nat.le_refl _, Nat.zero_le _, .inl rfl⟩
    · exact ⟨_, cap, rfl, h1, h2, .inl rfl⟩
theorem asm_ok (s : ByteArray) (hs : s.size ≤ 100000) (ws : List Nat) (h : IsaU.asm s.data.toList = .inr ws) (w : World) (hT : IsaT.Tabs w) (hM : IsaP.Ml w) :
    Calls Tryd.prog 29 #[.string s] w fun e W' => Below w.heap.size w W' ∧ ∃ r, e = .returned (.tuple #[r, .int .i64 0, .int .i64 0]) ∧ Slc .u32 W' r ws :=
  (IsaV.asm_any s hs w hT hM).mono fun e W' hR => by
    obtain ⟨r, h1, h2, -⟩ := hR.2.2 ws h
    exact ⟨hR.1, r, h1, own_slc h2⟩
theorem dec_ins {x : Cpa.In} (h : MayI x) : IsaE.decV (wdI x) = .tuple #[.agg #[.int .i64 (x.1 : Int), .int .i64 (x.2.1 : Int), .int .i64 0, .int .i64 x.2.2], .int .i64 0] := by
  obtain ⟨d1, d2, d3, d4⟩ := dec_enc h
  have hm : mayB x.1 x.2.1 0 x.2.2 = true := decide_eq_true h
  unfold IsaE.decV
  rw [Cpa.wdI_cast h, d1, d2, d3, d4, hm]
  rfl
theorem dec_any {x : Cpa.In} (h : MayI x) (w : World) (hT : IsaT.Tabs w) :
    Calls Tryd.prog 30 #[.int .u32 ((wdI x : Nat) : Int)] w fun e w' => e = .returned (.tuple #[.agg #[.int .i64 (x.1 : Int), .int .i64 (x.2.1 : Int), .int .i64 0, .int .i64 x.2.2], .int .i64 0]) ∧ Below w.heap.size w w' := by
  rw [← dec_ins h]
  exact IsaE.decode_any _ (Cpa.wdI_lt h) w hT
theorem at_fits {l : List Cl} (h : l.all okB = true) (hl : l.length ≤ 60) (j : Nat) : Cpa.at_ l j ≤ 300 := by
  have h1 := Cpa.at_le l j
  have h2 := Cpa.insL_len h
  unfold Cpa.wds at h1
  rw [List.length_map] at h1
  omega
theorem wds_len {l : List Cl} (h : l.all okB = true) (hl : l.length ≤ 60) : (Cpa.wds l).length ≤ 300 := by
  rw [← Cpa.at_all]
  exact at_fits h hl _
theorem at_lt {l : List Cl} {i : Nat} {x : Cl} (h : l[i]? = some x) : Cpa.at_ l i + (mn x.n.toNat + 2) ≤ (Cpa.wds l).length := by
  rw [← Cpa.at_succ h]
  exact Cpa.at_le l (i + 1)
theorem cls_cell {w : World} {v : Value} {l : List Cl} {a : Option Addr} {cap : Nat} (hv : l = [] ∨ ∃ b off, a = some ⟨b, off, none⟩ ∧ b < w.heap.size ∧ ∀ i (h : i < l.length), ClAt w b (off + i * 4) l[i]) :
    ∀ j (hj : j < l.length), ∃ b o, a = some ⟨b, o, none⟩ ∧ b < w.heap.size ∧ ∀ W, Below w.heap.size w W → ClAt W b (o + j * 4) l[j] := fun j hj => by
  rcases hv with h0 | ⟨b, o, e, hlt, hc⟩
  · rw [h0] at hj; simp at hj
  · exact ⟨b, o, e, hlt, fun W hW => (hc j hj).below hlt hW⟩
theorem arg_cell {W : World} {b o : Nat} {x : Cl} (h : ClAt W b o x) (t : Nat) (ht : t < 3) : W.cell? ⟨b, o + 1 + t, none⟩ = some (.int .u32 ((ar x t : Nat) : Int)) := by
  have : t = 0 ∨ t = 1 ∨ t = 2 := by omega
  rcases this with rfl | rfl | rfl
  · exact h.1.2.1
  · exact h.1.2.2.1
  · exact h.1.2.2.2
set_option maxRecDepth 100000 in
set_option maxHeartbeats 4000000 in
theorem runs_no (v : Value) (l : List Cl) (w : World) (hv : ClsAt w v l) (hT : Rw w) (hC : Cd w) (hP : Pow w) (hI : IsaT.Tabs w) (hM : IsaP.Ml w) (h60 : l.length ≤ 60) (hn : l.all okB = false) :
    Calls Tryd.prog 7 #[v] w fun e w' => e = .returned (.bool true) ∧ Below w.heap.size w w' := by
  have HAl := Lib.hid (alive_any w hT hC hP)
  have HPr := Lib.hid (fun wx (hb : Below w.heap.size w wx) => prog_any v l h60 wx (hv.below hb) (hT.below hb) (hP.below hb))
  rw [hn] at HPr
  have HAs : Hid (∀ wx, Below w.heap.size w wx → Calls Tryd.prog 29 #[.string (tx [])] wx fun e W' => Below wx.heap.size wx W' ∧ ∃ r, e = .returned (.tuple #[r, .int .i64 0, .int .i64 0]) ∧ Slc .u32 W' r []) := Lib.hid (fun wx hb => asm_ok (tx []) (by decide) [] (by rw [tx_data]; exact Cpa.asm_nil) wx (hI.below hb) (hM.below hb))
  obtain ⟨a, cap, rfl, hcap, hmax, -⟩ := hv
  unfold maxLen at hmax
  have d60 : decide (60 < (l.length : Int)) = false := decide_eq_false (by omega)
  rw [show (if false = true then Value.tuple #[.string (tx (progT l)), .int .i64 0] else .tuple #[.string (tx []), .int .i64 160]) = .tuple #[.string ⟨#[]⟩, .int .i64 160] from rfl] at HPr
  rw [show tx [] = ⟨#[]⟩ from rfl] at HAs
  clear hT hC hP hI hM h60 hn hcap hmax
  go_enter Tryd.func7, Tryd.ntmps7
  go_wp2_with (first
    | (go_at_call 28; (with_reducible refine HAl.out.mono ?_); rintro e w2 ⟨rfl, hb2⟩; have B2 := Lib.hid hb2)
    | (go_at_call 26; (with_reducible refine (HPr.out _ B2.out).mono ?_); rintro e w3 ⟨rfl, hb3⟩; have B3 := Lib.hid (B2.out.trans (hb3.mono B2.out.size)))
    | (go_at_call 29; (with_reducible refine (HAs.out _ B3.out).mono ?_); rintro e w4 ⟨hb4, r, rfl, -⟩; have B4 := Lib.hid (B3.out.trans (hb4.mono B3.out.size)))
    | fail)
  go_ret
  exact ⟨rfl, B4.out⟩
set_option maxRecDepth 100000 in
set_option maxHeartbeats 4000000 in
theorem runs_long (v : Value) (l : List Cl) (w : World) (hv : ClsAt w v l) (hT : Rw w) (hC : Cd w) (hP : Pow w) (h60 : ¬ l.length ≤ 60) :
    Calls Tryd.prog 7 #[v] w fun e w' => e = .returned (.bool true) ∧ Below w.heap.size w w' := by
  have HAl := Lib.hid (alive_any w hT hC hP)
  obtain ⟨a, cap, rfl, hcap, hmax, -⟩ := hv
  have d60 : decide (60 < (l.length : Int)) = true := decide_eq_true (by omega)
  clear hT hC hP h60 hcap hmax
  go_enter Tryd.func7, Tryd.ntmps7
  go_wp2_with (first
    | (go_at_call 28; (with_reducible refine HAl.out.mono ?_); rintro e w2 ⟨rfl, hb2⟩; have B2 := Lib.hid hb2)
    | fail)
  go_ret
  exact ⟨rfl, B2.out⟩
set_option maxRecDepth 100000 in
set_option maxHeartbeats 4000000 in
theorem runs_yes (v : Value) (l : List Cl) (w : World) (hv : ClsAt w v l) (hT : Rw w) (hC : Cd w) (hP : Pow w) (hI : IsaT.Tabs w) (hM : IsaP.Ml w) (h60 : l.length ≤ 60) (hn : l.all okB = true) :
    Calls Tryd.prog 7 #[v] w fun e w' => e = .returned (.bool true) ∧ Below w.heap.size w w' := by
  have HAl := Lib.hid (alive_any w hT hC hP)
  have HPr := Lib.hid (fun wx (hb : Below w.heap.size w wx) => prog_any v l h60 wx (hv.below hb) (hT.below hb) (hP.below hb))
  rw [hn] at HPr
  have hwl := wds_len hn h60
  have HIs : Hid (∀ x ∈ l, isC x.n = true ∧ Wf x) := Lib.hid (fun x hx => by
    have h1 := List.all_eq_true.1 hn x hx
    obtain ⟨j, hj, rfl⟩ := List.getElem_of_mem hx
    obtain ⟨a, cap, rfl, -, -, hh⟩ := hv
    obtain ⟨b, o, -, hlt, hc⟩ := cls_cell (v := .bool true) (cap := 0) hh j hj
    exact ⟨may_isC (Cpa.okB_and h1).1, (hc w (Below.refl _ _)).2⟩)
  have hpl := progT_len l HIs.out
  obtain ⟨ws, hws⟩ : ∃ ws, Cpa.wds l = ws := ⟨_, rfl⟩
  have hasm := Cpa.asm_prog hn h60
  rw [hws] at hasm hwl
  obtain ⟨p, hp⟩ : ∃ p, tx (progT l) = p := ⟨_, rfl⟩
  have HAs : Hid (∀ wx, Below w.heap.size w wx → Calls Tryd.prog 29 #[.string p] wx fun e W' => Below wx.heap.size wx W' ∧ ∃ r, e = .returned (.tuple #[r, .int .i64 0, .int .i64 0]) ∧ Slc .u32 W' r ws) := Lib.hid (fun wx hb => by
    rw [← hp]
    exact asm_ok _ (by rw [tx_size]; omega) ws (by rw [tx_data]; exact hasm) wx (hI.below hb) (hM.below hb))
  obtain ⟨a, cap, rfl, hcap, hmax, hh⟩ := hv
  have HCL := Lib.hid (cls_cell (v := .bool true) (cap := 0) hh)
  unfold maxLen at hmax
  have d60 : decide (60 < (l.length : Int)) = false := decide_eq_false (by omega)
  have hl60 : (l.length : Int) ≤ 60 := by omega
  rw [show (if true = true then Value.tuple #[.string (tx (progT l)), .int .i64 0] else .tuple #[.string (tx []), .int .i64 160]) = .tuple #[.string p, .int .i64 0] by rw [hp]; rfl] at HPr
  have HMa := Lib.hid (fun n wx (hb : Below w.heap.size w wx) => many_any n wx (hT.below hb))
  have HDe := Lib.hid (fun (x : Cpa.In) (hx : MayI x) wx (hb : Below w.heap.size w wx) => dec_any hx wx (hI.below hb))
  have HOk := Lib.hid (And.intro (List.all_eq_true.1 hn) (at_fits hn h60))
  have HWs := Lib.hid hws
  have HAt := Lib.hid (show (Cpa.at_ l l.length) = ws.length by rw [Cpa.at_all, hws])
  clear hT hC hP hI hM hn hcap hmax hh hasm hp hpl hws
  go_enter Tryd.func7, Tryd.ntmps7
  go_wp2_with (first
    | (go_at_call 28; (with_reducible refine HAl.out.mono ?_); rintro e w2 ⟨rfl, hb2⟩; have B2 := Lib.hid hb2)
    | (go_at_call 26; (with_reducible refine (HPr.out _ B2.out).mono ?_); rintro e w3 ⟨rfl, hb3⟩; have B3 := Lib.hid (B2.out.trans (hb3.mono B2.out.size)))
    | (go_at_call 29; (with_reducible refine (HAs.out _ B3.out).mono ?_); rintro e w4 ⟨hb4, r, rfl, ⟨ra, rcap, rfl, hr1, hr2, hr3⟩⟩; have B4 := Lib.hid (B3.out.trans (hb4.mono B3.out.size)))
    | fail)
  have HWd : Hid (∀ i y, ws[i]? = some y → ∃ b off, ra = some ⟨b, off, none⟩ ∧ b < w4.heap.size ∧ ∀ W, Below w4.heap.size w4 W → W.cell? ⟨b, off + i, none⟩ = some (.int .u32 ((y : Nat) : Int))) := Lib.hid (fun i y hy => by
    have hi := (List.getElem?_eq_some_iff.1 hy).1
    rcases hr3 with h0 | ⟨b, o, e, hlt, hc⟩
    · rw [h0] at hi; simp at hi
    · refine ⟨b, o, e, hlt, fun W hW => (hW.cell (p := ⟨b, o + i, none⟩) hlt).trans ?_⟩
      rw [hc i hi, hy]
      rfl)
  clear hr3
  go_loopw [9, 10] (fun m i wr => ∃ (j : Nat), j ≤ l.length ∧ i = .int .i64 (j : Int) ∧ m = .int .i64 ((Cpa.at_ l j : Nat) : Int) ∧ Below w4.heap.size w4 wr) (fun _ i _ => l.length - (intOf i).toNat)
  case atStart => exact ⟨0, Nat.zero_le _, rfl, rfl, Below.refl _ _⟩
  case round =>
    obtain ⟨j, hj, rfl, rfl, hW⟩ := hrel
    by_cases hlt : j < l.length
    · have hltI : (j : Int) < (l.length : Int) := by omega
      obtain ⟨b, o, rfl, hbl, hcl⟩ := HCL.out j hlt
      have hBr := B4.out.trans (hW.mono B4.out.size)
      obtain ⟨⟨c0, -⟩, hwf⟩ := hcl wr hBr
      have hok := HOk.out.1 l[j] (List.getElem_mem hlt)
      have hge : l[j]? = some l[j] := List.getElem?_eq_getElem hlt
      have hat := Cpa.at_succ hge
      have h300 := HOk.out.2 j
      generalize l[j] = x at *
      obtain ⟨k, hk, h1, h2⟩ := Cpa.okB_num hok
      have hm3 := mn3 h2
      rw [hk, Int.toNat_natCast] at hat
      have HM2 : Hid (∀ wx, Below w.heap.size w wx → Calls Tryd.prog 13 #[.int .i64 (k : Int)] wx fun e w' => e = .returned (.int .i64 ((mn k : Nat) : Int)) ∧ wx = w') := Lib.hid (fun wx hb => by have := HMa.out (k : Int) wx hb; rwa [many_nat h1 h2] at this)
      rw [hk] at c0
      have HBW := Lib.hid (And.intro hBr hW)
      have HAJ := Lib.hid hat
      have hai : ((Cpa.at_ l j : Nat) : Int) ≤ 300 := by omega
      have hmi : ((mn k : Nat) : Int) ≤ 3 := by omega
      clear hat hW hBr hcl hok hge hwf hk
      go_wp2_with (first
        | (go_at_call 13; (with_reducible refine (HM2.out _ HBW.out.1).mono ?_); rintro e w9 ⟨rfl, rfl⟩)
        | fail)
      go_roundw
      case rel => exact ⟨j + 1, by omega, by go_num, by rw [HAJ.out]; go_num, HBW.out.2⟩
      case measure => simp [intOf]; omega
    · obtain rfl : j = l.length := by omega
      have HW5 := Lib.hid hW
      rw [HAt.out]
      clear hW
      go_wp2
      go_loopw [11, 12] (fun m i w1 => ∃ (j : Nat), j ≤ l.length ∧ i = .int .i64 (j : Int) ∧ m = .int .i64 ((Cpa.at_ l j : Nat) : Int) ∧ Below w4.heap.size w4 w1) (fun _ i _ => l.length - (intOf i).toNat)
      case atStart => exact ⟨0, Nat.zero_le _, rfl, rfl, HW5.out⟩
      case round =>
        obtain ⟨j, hj2, rfl, rfl, hW⟩ := hrel
        by_cases hlt : j < l.length
        · have hltI : (j : Int) < (l.length : Int) := by omega
          obtain ⟨b, o, rfl, hbl, hcl⟩ := HCL.out j hlt
          have hBr := B4.out.trans (hW.mono B4.out.size)
          have hok := HOk.out.1 l[j] (List.getElem_mem hlt)
          have hge : l[j]? = some l[j] := List.getElem?_eq_getElem hlt
          have hat := Cpa.at_succ hge
          have h300 := HOk.out.2 j
          have hal := at_lt hge
          have HWL := Lib.hid (fun m hm => Cpa.word_li hge (j := m) hm)
          have HWS := Lib.hid (Cpa.word_sys hge)
          have HXC : Hid (∀ W, Below w.heap.size w W → ClAt W b (o + j * 4) l[j]) := Lib.hid hcl
          clear hcl
          generalize l[j] = x at *
          obtain ⟨k, hk, h1, h2⟩ := Cpa.okB_num hok
          have hm3 := mn3 h2
          have HMy : Hid (∀ m, m ≤ mn k → MayI (li m (wnt x m)) ∧ wnt x m ≤ 32767) := Lib.hid (fun m hm => by
            have hb : wnt x m ≤ 32767 := by
              unfold wnt
              split
              · rw [hk, Int.toNat_natCast]; omega
              · exact Cpa.near_at (Cpa.okB_and hok).2 (by rw [hk, Int.toNat_natCast]; omega)
            exact ⟨Cpa.may_li (by omega) hb, hb⟩)
          rw [hk, Int.toNat_natCast] at hat hal HWL HWS
          rw [HWs.out] at HWL HWS hal
          obtain ⟨⟨c0, -⟩, -⟩ := HXC.out _ hBr
          have HM2 : Hid (∀ wx, Below w.heap.size w wx → Calls Tryd.prog 13 #[.int .i64 (k : Int)] wx fun e w' => e = .returned (.int .i64 ((mn k : Nat) : Int)) ∧ wx = w') := Lib.hid (fun wx hb => by have := HMa.out (k : Int) wx hb; rwa [many_nat h1 h2] at this)
          rw [hk] at c0
          have HBW := Lib.hid (And.intro hBr hW)
          have HAJ := Lib.hid hat
          have hai : ((Cpa.at_ l j : Nat) : Int) ≤ 300 := by omega
          have hmi : ((mn k : Nat) : Int) ≤ 3 := by omega
          have HK := Lib.hid hk
          clear hat hW hBr hok hge hk
          go_wp2_with (first
            | (go_at_call 13; (with_reducible refine (HM2.out _ HBW.out.1).mono ?_); rintro e w9 ⟨rfl, rfl⟩)
            | fail)
          clear c0
          go_loopw [14] (fun i w1 => ∃ m : Nat, m ≤ mn k + 1 ∧ i = .int .i64 (m : Int) ∧ Below w4.heap.size w4 w1) (fun i _ => mn k + 1 - (intOf i).toNat)
          case atStart => exact ⟨0, Nat.zero_le _, rfl, HBW.out.2⟩
          case round =>
            obtain ⟨m, hm, rfl, hW⟩ := hrel
            by_cases hlt2 : m < mn k + 1
            · have hB := B4.out.trans (hW.mono B4.out.size)
              obtain ⟨⟨c0, c1, c2, c3⟩, -⟩ := HXC.out _ hB
              have hwd := HWL.out m (by omega)
              obtain ⟨g, q, rfl, hgl, hgc⟩ := HWd.out _ _ hwd
              have cw := hgc _ hW
              have hmy := HMy.out m (by omega)
              have hwn : wnt x m = if m = 0 then k else ar x (m - 1) := by unfold wnt; rw [HK.out, Int.toNat_natCast]
              generalize hV : wnt x m = V at *
              have HD : Hid (∀ wx, Below w.heap.size w wx → Calls Tryd.prog 30 #[.int .u32 ((wdI (li m V) : Nat) : Int)] wx fun e w' => e = .returned (.tuple #[.agg #[.int .i64 1, .int .i64 (m : Int), .int .i64 0, .int .i64 (V : Int)], .int .i64 0]) ∧ Below wx.heap.size wx w') := Lib.hid (fun wx hb => HDe.out _ hmy.1 wx hb)
              generalize wdI (li m V) = Y at *
              have HB := Lib.hid (And.intro hB hW)
              have hmy2 := hmy.2
              clear hmy hV hB hW hgc hwd c0 c1 c2 c3
              have hatm : ((Cpa.at_ l j : Nat) : Int) + (m : Int) < (ws.length : Int) := by omega
              by_cases hm0 : m = 0
              · have dm : decide ((0 : Int) < (m : Int)) = false := decide_eq_false (by omega)
                have dn : decide (0 < m) = false := decide_eq_false (by omega)
                rw [if_pos hm0] at hwn
                have HV := Lib.hid hwn
                clear hwn hm0 hmy2
                go_wp2_with (first
                  | (go_at_call 30; (with_reducible refine (HD.out _ HB.out.1).mono ?_); rintro e w9 ⟨rfl, hb9⟩; have B9 := HB.out.1.trans (hb9.mono HB.out.1.size); have B10 := Lib.hid (B9.alloc B9.size (.cells #[.int .i64 1, .int .i64 (m : Int), .int .i64 0, .int .i64 (V : Int)] 54)); have d0 := (HXC.out _ B10.out).1.1; rw [HK.out, ← HV.out] at d0; have BW := Lib.hid ((HB.out.2.trans (hb9.mono HB.out.2.size)).alloc (HB.out.2.trans (hb9.mono HB.out.2.size)).size (.cells #[.int .i64 1, .int .i64 (m : Int), .int .i64 0, .int .i64 (V : Int)] 54)); have KN := Blk.new w9 #[.int .i64 1, .int .i64 (m : Int), .int .i64 0, .int .i64 (V : Int)] 54; have q0 := KN.cell 0; have q1 := KN.cell 1; have q2 := KN.cell 2; have q3 := KN.cell 3; simp only [List.getElem?_toArray, List.getElem?_cons_zero, List.getElem?_cons_succ] at q0 q1 q2 q3; clear KN B9)
                  | fail)
                go_roundw
                case rel => exact ⟨m + 1, by omega, by go_num, BW.out⟩
                case measure => simp [intOf]; omega
              · obtain ⟨t, rfl⟩ : ∃ t, m = t + 1 := ⟨m - 1, by omega⟩
                rw [if_neg hm0, Nat.add_sub_cancel] at hwn
                obtain ⟨Z, hZ⟩ : ∃ Z : Int, (V : Int) = Z := ⟨_, rfl⟩
                have HV : Hid (((ar x t : Nat) : Int) = Z) := Lib.hid (by rw [← hwn, hZ])
                have hz0 : 0 ≤ Z := by omega
                have hz1 : Z ≤ 32767 := by have := hmy2; omega
                have HT3 : Hid (t < 3) := Lib.hid (by omega)
                have ht3 : (t : Int) < 3 := by omega
                have cw2 := cw
                have cw3 := cw
                rw [← Nat.add_assoc] at cw2
                rw [← Nat.add_assoc, ← Nat.add_assoc] at cw3
                rw [show ((t + 1 : Nat) : Int) = (t : Int) + 1 by omega] at HD hatm ⊢
                rw [hZ] at HD
                clear hwn hm0 hZ hmy2
                go_wp2_with (first
                  | (go_at_call 30; (with_reducible refine (HD.out _ HB.out.1).mono ?_); rintro e w9 ⟨rfl, hb9⟩; have B9 := HB.out.1.trans (hb9.mono HB.out.1.size); have B10 := Lib.hid (B9.alloc B9.size (.cells #[.int .i64 1, .int .i64 ((t : Int) + 1), .int .i64 0, .int .i64 Z] 54)); have d0 := (HXC.out _ B10.out).1.1; rw [HK.out] at d0; have d1 := arg_cell (HXC.out _ B10.out) t (by have := HT3.out; omega); rw [HV.out] at d1; have BW := Lib.hid ((HB.out.2.trans (hb9.mono HB.out.2.size)).alloc (HB.out.2.trans (hb9.mono HB.out.2.size)).size (.cells #[.int .i64 1, .int .i64 ((t : Int) + 1), .int .i64 0, .int .i64 Z] 54)); have KN := Blk.new w9 #[.int .i64 1, .int .i64 ((t : Int) + 1), .int .i64 0, .int .i64 Z] 54; have q0 := KN.cell 0; have q1 := KN.cell 1; have q2 := KN.cell 2; have q3 := KN.cell 3; simp only [List.getElem?_toArray, List.getElem?_cons_zero, List.getElem?_cons_succ] at q0 q1 q2 q3; clear KN B9)
                  | fail)
                go_roundw
                case rel => exact ⟨t + 1 + 1, by omega, by go_num, BW.out⟩
                case measure => simp [intOf]; omega
            · obtain rfl : m = mn k + 1 := by omega
              have hB := B4.out.trans (hW.mono B4.out.size)
              obtain ⟨g, q, rfl, hgl, hgc⟩ := HWd.out _ _ HWS.out
              have cw := hgc _ hW
              have cw2 := cw
              have cw3 := cw
              rw [← Nat.add_assoc] at cw2
              rw [← Nat.add_assoc, ← Nat.add_assoc] at cw3
              have HD : Hid (∀ wx, Below w.heap.size w wx → Calls Tryd.prog 30 #[.int .u32 ((wdI sysI : Nat) : Int)] wx fun e w' => e = .returned (.tuple #[.agg #[.int .i64 24, .int .i64 0, .int .i64 0, .int .i64 0], .int .i64 0]) ∧ Below wx.heap.size wx w') := Lib.hid (fun wx hb => HDe.out _ Cpa.may_sys wx hb)
              generalize wdI sysI = Y at *
              have HB := Lib.hid (And.intro hB hW)
              have hatm : ((Cpa.at_ l j : Nat) : Int) + (1 + (mn k : Int)) < (ws.length : Int) := by omega
              clear hB hW hgc hlt2
              go_wp2_with (first
                | (go_at_call 30; (with_reducible refine (HD.out _ HB.out.1).mono ?_); rintro e w9 ⟨rfl, hb9⟩; have BW := Lib.hid ((HB.out.2.trans (hb9.mono HB.out.2.size)).alloc (HB.out.2.trans (hb9.mono HB.out.2.size)).size (.cells #[.int .i64 24, .int .i64 0, .int .i64 0, .int .i64 0] 54)); have KN := Blk.new w9 #[.int .i64 24, .int .i64 0, .int .i64 0, .int .i64 0] 54; have q0 := KN.cell 0; simp only [List.getElem?_toArray, List.getElem?_cons_zero] at q0; clear KN)
                | fail)
              go_roundw
              case rel => exact ⟨j + 1, by omega, by go_num, by rw [HAJ.out]; go_num, BW.out⟩
              case measure => simp [intOf]; omega
        · obtain rfl : j = l.length := by omega
          go_wp2
          go_ret
          exact ⟨rfl, B4.out.trans (hW.mono B4.out.size)⟩
end Go.Proofs.YtlddjjkbnhhfaaaDoor.Cpr
theorem Go.Proofs.YtlddjjkbnhhfaaaDoor.Walk.callRuns (v : Go.Value) (l : List Go.Proofs.YtlddjjkbnhhfaaaDoor.Cla.Cl) (w : Go.World) (hv : Go.Proofs.YtlddjjkbnhhfaaaDoor.Clv.ClsAt w v l) (hL : Go.Proofs.YtlddjjkbnhhfaaaDoor.Clt.Rw w ∧ Go.Proofs.YtlddjjkbnhhfaaaDoor.Clt.Cd w ∧ Go.Proofs.YtlddjjkbnhhfaaaDoor.Clt.Pow w) (hI : Go.Proofs.YtlddjjkbnhhfaaaDoor.IsaT.Tabs w) (hM : Go.Proofs.YtlddjjkbnhhfaaaDoor.IsaP.Ml w) :
    Go.Calls Go.Proofs.Tryd.prog 7 #[v] w fun e w' => e = .returned (.bool true) ∧ Go.RowKit.Below w.heap.size w w' := by
  by_cases h60 : l.length ≤ 60
  · cases hn : l.all Go.Proofs.YtlddjjkbnhhfaaaDoor.Cla.okB with
    | false => exact Go.Proofs.YtlddjjkbnhhfaaaDoor.Cpr.runs_no v l w hv hL.1 hL.2.1 hL.2.2 hI hM h60 hn
    | true => exact Go.Proofs.YtlddjjkbnhhfaaaDoor.Cpr.runs_yes v l w hv hL.1 hL.2.1 hL.2.2 hI hM h60 hn
  · exact Go.Proofs.YtlddjjkbnhhfaaaDoor.Cpr.runs_long v l w hv hL.1 hL.2.1 hL.2.2 h60
