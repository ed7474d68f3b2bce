/-
  The chapter's examples.
-/
import Derived.Test.YtlddjjkbnhhfaaaDoorClq
import Derived.Test.YtlddjjkbnhhfaaaDoorClj
namespace Go.Proofs.YtlddjjkbnhhfaaaDoor.Clw
open Go Go.RowKit Go.Shelf Kit IsaM Cla Clt Clf Bk Clh Cli Clj Clg Cll Clm Clp Clq
open Clv (ClAt ClsAt uv lst)
set_option linter.unusedVariables false
attribute [local go_sem] Oper.semAt_some
attribute [local go_sem ↓] eqv_wrap

theorem prog_any (v : Value) (l : List Cl) (hl : l.length ≤ 60) (w : World) (hv : ClsAt w v l) (hT : Rw w) (hP : Pow w) :
    Calls Tryd.prog 26 #[v] w fun e w' => e = .returned (if l.all okB then .tuple #[.string (tx (progT l)), .int .i64 0] else .tuple #[.string (tx []), .int .i64 160]) ∧ Below w.heap.size w w' :=
  (callsIn_wide (n := 8)).1 (prog_in 8 (Nat.le_refl _) v l hl w hv hT hP)
theorem cls_one {w : World} {g : Nat} {x : Cl} {T : TypeId} (hx : Wf x) (h : Blk w g (ccs x) T) : ClsAt w (.slice (some ⟨g, 0, none⟩) 1 1) [x] := by
  refine ⟨_, 1, rfl, Nat.le_refl _, by decide, .inr ⟨g, 0, rfl, h.lt, fun i hi => ?_⟩⟩
  have : i = 0 := by simpa using hi
  subst this
  exact ⟨⟨(h.cell _).trans rfl, (h.cell _).trans rfl, (h.cell _).trans rfl, (h.cell _).trans rfl⟩, hx⟩
theorem dg0 : Lib.decDigits 0 = [48] := dd_one (by decide)
theorem dg1 : Lib.decDigits 1 = [49] := dd_one (by decide)
theorem dg2 : Lib.decDigits 2 = [50] := dd_one (by decide)
theorem dg3 : Lib.decDigits 3 = [51] := dd_one (by decide)
theorem dg5 : Lib.decDigits 5 = [53] := dd_one (by decide)
theorem dg64 : Lib.decDigits 64 = [54, 52] := by rw [dd_more (by decide), dd_one (by decide)]; rfl
def xr : Cl := ⟨7, 3, 64, 5⟩
def xe : Cl := ⟨1, 2, 0, 0⟩
theorem xr_wf : Wf xr := ⟨by decide, by decide, by decide, by decide⟩
theorem xe_wf : Wf xe := ⟨by decide, by decide, by decide, by decide⟩
theorem xr_line : lineT xr = [114, 101, 97, 100, 32, 51, 32, 54, 52, 32, 53] := by
  show wd 7 ++ ((([] ++ 32 :: Lib.decDigits 3) ++ 32 :: Lib.decDigits 64) ++ 32 :: Lib.decDigits 5) = _
  rw [dg3, dg64, dg5]
  rfl
theorem xe_prog : progT [xe] = [108, 105, 32, 48, 32, 49, 10, 108, 105, 32, 49, 32, 50, 10, 115, 121, 115, 10] := by
  show (([108, 105, 32] ++ Lib.decDigits 0 ++ [32] ++ Lib.decDigits 1 ++ [10]) ++ ([] ++ ([108, 105, 32] ++ Lib.decDigits 1 ++ [32] ++ Lib.decDigits 2 ++ [10])) ++ sysT) ++ [] = _
  rw [dg0, dg1, dg2]
  rfl
theorem xr_may : mayC xr = true := by kernel_rfl
theorem xr_R : lineR xr = .tuple #[.string ⟨#[114, 101, 97, 100, 32, 51, 32, 54, 52, 32, 53]⟩, .int .i64 0] := by
  unfold lineR
  rw [xr_may, if_pos rfl, xr_line]
  rfl
def regs : Nat → Nat := lst [7, 3, 64, 5, 9, 9, 9, 9]
theorem regs_is : isC (regs 0 : Int) = true := by kernel_rfl
theorem regs_of : ofC regs = xr := by unfold ofC; rw [regs_is]; rfl
theorem regs_v : rv regs = .agg #[.int .u32 7, .int .u32 3, .int .u32 64, .int .u32 5, .int .u32 9, .int .u32 9, .int .u32 9, .int .u32 9] := by kernel_rfl
theorem xr_v : cv xr = .agg #[.int .i64 7, .int .u32 3, .int .u32 64, .int .u32 5] := by kernel_rfl
theorem xe_ok : [xe].all okB = true := by kernel_rfl
theorem xe_c : ccs xe = #[.int .i64 1, .int .u32 2, .int .u32 0, .int .u32 0] := by kernel_rfl
theorem failed11 : failed 4294967285 = 11 := by kernel_rfl
set_option maxRecDepth 100000 in
set_option maxHeartbeats 4000000 in
theorem alive_any (w : World) (hT : Rw w) (hC : Cd w) (hP : Pow w) :
    Calls Tryd.prog 28 #[] w fun e w' => e = .returned (.bool true) ∧ Below w.heap.size w w' := by
  have HL : Hid (∀ wx, Below w.heap.size w wx → Calls Tryd.prog 22 #[.agg #[.int .i64 7, .int .u32 3, .int .u32 64, .int .u32 5]] wx fun e w' => e = .returned (.tuple #[.string ⟨#[114, 101, 97, 100, 32, 51, 32, 54, 52, 32, 53]⟩, .int .i64 0]) ∧ Below wx.heap.size wx w') := Lib.hid (fun wx hb => by
    have h := line_any xr xr_wf wx (hT.below hb) (hP.below hb)
    rw [xr_R, xr_v] at h
    exact h)
  have HO : Hid (∀ wx, Below w.heap.size w wx → Calls Tryd.prog 10 #[.agg #[.int .u32 7, .int .u32 3, .int .u32 64, .int .u32 5, .int .u32 9, .int .u32 9, .int .u32 9, .int .u32 9]] wx fun e w' => e = .returned (.tuple #[.agg #[.int .i64 7, .int .u32 3, .int .u32 64, .int .u32 5], .bool true]) ∧ Below wx.heap.size wx w') := Lib.hid (fun wx hb => by
    have h := of_any regs (Clv.lst_bd _ (by decide)) wx (hT.below hb)
    rw [regs_is, regs_of, regs_v, xr_v] at h
    exact h)
  have HPr : Hid (∀ wx g, Below w.heap.size w wx → Blk wx g #[.int .i64 1, .int .u32 2, .int .u32 0, .int .u32 0] 27 → Calls Tryd.prog 26 #[.slice (some ⟨g, 0, none⟩) 1 1] wx fun e w' => e = .returned (.tuple #[.string ⟨#[108, 105, 32, 48, 32, 49, 10, 108, 105, 32, 49, 32, 50, 10, 115, 121, 115, 10]⟩, .int .i64 0]) ∧ Below wx.heap.size wx w') := Lib.hid (fun wx g hb hk => by
    rw [← xe_c] at hk
    have h := prog_any _ [xe] (by decide) wx (cls_one xe_wf hk) (hT.below hb) (hP.below hb)
    rw [xe_ok, xe_prog, if_pos rfl] at h
    exact h)
  have HF : Hid (∀ wx, Below w.heap.size w wx → Calls Tryd.prog 20 #[.int .u32 4294967285] wx fun e w' => e = .returned (.int .i64 11) ∧ wx = w') := Lib.hid (fun wx hb => by
    have h := failed_any 4294967285 (by decide) (by decide) wx (hC.below hb)
    rw [failed11] at h
    exact h)
  have hE : ∀ wx, (eqV (.agg #[.int .i64 7, .int .u32 3, .int .u32 64, .int .u32 5]) (.agg #[.int .i64 7, .int .u32 3, .int .u32 64, .int .u32 5])).run Tryd.prog wx = .ok (.bool true) wx := fun wx => by
    have h := run_eqV xr_wf xr_wf wx
    rw [show decide (xr = xr) = true from decide_eq_true rfl, xr_v] at h
    exact h
  have b1 := (Below.refl w.heap.size w).alloc (Nat.le_refl _) (.cells #[.int .i64 7, .int .u32 3, .int .u32 64, .int .u32 5] 27)
  have HB := Lib.hid (And.intro b1 (Blk.new w #[.int .i64 7, .int .u32 3, .int .u32 64, .int .u32 5] 27))
  clear b1 hT hC hP
  go_enter Tryd.func28, Tryd.ntmps28
  go_wp2_with (first
    | (go_at_call 22; refine (HL.out _ HB.out.1).mono ?_; rintro e w2 ⟨rfl, hb2⟩; have B2 := Lib.hid (HB.out.1.trans (hb2.mono HB.out.1.size)))
    | (go_at_call 10; refine (HO.out _ B2.out).mono ?_; rintro e w3 ⟨rfl, hb3⟩; have B3 := Lib.hid ((B2.out.trans (hb3.mono B2.out.size)).alloc (B2.out.trans (hb3.mono B2.out.size)).size (.cells #[.int .i64 7, .int .u32 3, .int .u32 64, .int .u32 5] 27)); have K3 := Lib.hid (And.intro (((HB.out.2.below hb2).below hb3).below ((Below.refl _ _).alloc (Nat.le_refl _) (.cells #[.int .i64 7, .int .u32 3, .int .u32 64, .int .u32 5] 27))) (Blk.new w3 #[.int .i64 7, .int .u32 3, .int .u32 64, .int .u32 5] 27)))
    | (go_at_call 26; have kq := Blk.new (w3.alloc (.cells #[.int .i64 7, .int .u32 3, .int .u32 64, .int .u32 5] 27)) #[.int .i64 1, .int .u32 2, .int .u32 0, .int .u32 0] 27; rw [World.size_alloc] at kq; refine (HPr.out _ _ (B3.out.alloc B3.out.size (.cells #[.int .i64 1, .int .u32 2, .int .u32 0, .int .u32 0] 27)) kq).mono ?_; clear kq; rintro e w4 ⟨rfl, hb4⟩; have hb4' := (((Below.refl _ _).alloc (Nat.le_refl _) (.cells #[.int .i64 1, .int .u32 2, .int .u32 0, .int .u32 0] 27)).trans (hb4.mono (by simp))); have k1 := K3.out.1.below hb4'; have k2 := K3.out.2.below hb4'; have q0 := k1.cell 0; have q1 := k1.cell 1; have q2 := k1.cell 2; have q3 := k1.cell 3; have r0 := k2.cell 0; have r1 := k2.cell 1; have r2 := k2.cell 2; have r3 := k2.cell 3; simp only [List.getElem?_toArray, List.getElem?_cons_zero, List.getElem?_cons_succ] at q0 q1 q2 q3 r0 r1 r2 r3; have B4 := Lib.hid (B3.out.trans (hb4'.mono B3.out.size)); clear k1 k2 hb4' hb4)
    | (go_at_call 20; refine (HF.out _ B4.out).mono ?_; rintro e w9 ⟨rfl, rfl⟩)
    | fail)
  go_ret
  exact ⟨rfl, B4.out⟩
end Go.Proofs.YtlddjjkbnhhfaaaDoor.Clw
