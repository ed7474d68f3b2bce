/-
  Step where there is no memory; a nil Ram's Word and SetByte.
-/
import Derived.Test.YtgnpbedhpkmkfaaDoorZCa
namespace Go.Proofs.YtgnpbedhpkmkfaaDoor.Ni
open Go Go.RowKit Kit Bk CoM CoR CoB CoW CoI CoF CoC CoY CoZ CoE IsaM IsaT IsaL IsaC IsaE IsaN
set_option linter.unusedVariables false
attribute [local go_sem ↓] ldc_wrap stc_wrap cpy_wrap

set_option maxRecDepth 100000 in
set_option maxHeartbeats 1000000 in
theorem reach_nil (w : World) (a : Int) (L : Int) (wr : Bool) (v : Int) :
    Calls Tryd.prog 28 #[plc a L wr, .nilIface, .int .u32 v] w fun e w' => e = .returned (.tuple #[.int .u32 0, .bool false]) ∧ Below w.heap.size w w' := by
  have hmf := mkf
  go_enter_defers Tryd.func28, Tryd.ntmps28
  go_wp2
  refine leaves_cons (f := 50) (args := #[.pointer (some ⟨w.heap.size + 1, 0, none⟩), .pointer (some ⟨w.heap.size + 1 + 1, 0, none⟩)]) (by simp) (by simp [go_sem]) ?_
  refine (catch_idle _ _ _).mono ?_
  rintro e u' w2 ⟨rfl, rfl, rfl⟩
  simp [Leaves, settle, results, Tryd.results28, go_sem]
  exact (by (repeat (first | (with_reducible exact Below.refl _ _) | (with_reducible refine IsaN.bdr ?_) | (with_reducible refine IsaN.bal ?_ _))))

set_option maxRecDepth 100000 in
set_option maxHeartbeats 1000000 in
theorem fetch_nil (w : World) (s : St) (hs : s.Ok) :
    Calls Tryd.prog 23 #[cv s, .nilIface] w fun e w' => e = .returned (fetchV (.inl 2)) ∧ Below w.heap.size w w' := by
  obtain ⟨p, hp⟩ := Int.eq_ofNat_of_zero_le hs.p0
  have p1 := hs.p1
  have HR : Hid (∀ wx, Below w.heap.size w wx → Calls Tryd.prog 28 #[plc (p : Int) 4 false, .nilIface, .int .u32 0] wx fun e w' => e = .returned (.tuple #[.int .u32 0, .bool false]) ∧ Below wx.heap.size wx w') := Lib.hid (fun wx hb => reach_nil wx p 4 false 0)
  have hcp := cs_pc s
  rw [hp] at hcp
  have B1 := (Below.refl w.heap.size w).alloc (Nat.le_refl _) (.cells (cs s) 30)
  have X1 := (Blk.new w (cs s) 30).below ((Below.refl _ _).alloc (Nat.le_refl _) (.cells #[.int .i64 0, .int .i64 0, .int .i64 0, .int .i64 0] 61))
  have x1 := (X1.cell 10).trans hcp
  unfold fetchV insV
  clear hs
  go_enter Tryd.func23, Tryd.ntmps23
  go_wp2_with (first | (go_at_call 28; (with_reducible refine (HR.out _ (by first | exact B1 | (repeat (first | (with_reducible exact Below.refl _ _) | (with_reducible refine bdr ?_) | (with_reducible refine bal ?_ _))))).mono ?_); rintro e w1 ⟨rfl, hb1⟩; refine Hid.out ?_))
  refine Lib.hid ?_
  have R2 := (Blk.new (w.alloc (.cells (cs s) 30)) #[.int .i64 0, .int .i64 0, .int .i64 0, .int .i64 0] 61).below hb1
  have D := (B1.alloc (by simp) (.cells #[.int .i64 0, .int .i64 0, .int .i64 0, .int .i64 0] 61)).trans (hb1.mono (by simp <;> omega))
  rw [World.size_alloc] at R2
  have y0 := R2.cell 0
  have y1 := R2.cell 1
  have y2 := R2.cell 2
  have y3 := R2.cell 3
  have f0 := R2.free 0
  have f1 := R2.free 1
  have f2 := R2.free 2
  have f3 := R2.free 3
  obtain ⟨g0, g1, g2, g3⟩ := set4 w1 (w.heap.size + 1) (.int .i64 0) (.int .i64 0) (.int .i64 0) (.int .i64 0) (.int .i64 0) (.int .i64 0) (.int .i64 0) (.int .i64 0) y0 y1 y2 y3
  clear R2 B1 X1 x1 hb1
  go_wp2
  exact bodyPost_ret (v := .tuple #[.agg #[.int .i64 0, .int .i64 0, .int .i64 0, .int .i64 0], .int .i64 2]) (by simp [results, Tryd.results23, go_sem, g0, g1, g2, g3]) rfl ⟨rfl, below4 D _ (by omega) _ _ _ _⟩


set_option maxRecDepth 100000 in
set_option maxHeartbeats 1000000 in
theorem step_nil (w : World) (s : St) (hs : s.Ok) :
    Calls Tryd.prog 12 #[cv s, .nilIface] w fun e w' => e = .returned (.tuple #[cv s, .int .i64 2]) ∧ Below w.heap.size w w' := by
  have HF : Hid (∀ wx, Below w.heap.size w wx → Calls Tryd.prog 23 #[cv s, .nilIface] wx fun e w' => e = .returned (.tuple #[.agg #[.int .i64 0, .int .i64 0, .int .i64 0, .int .i64 0], .int .i64 2]) ∧ Below wx.heap.size wx w') := Lib.hid (fun wx hb => fetch_nil wx s hs)
  have B2 := ((Below.refl w.heap.size w).alloc (Nat.le_refl _) (.cells (cs s) 30)).alloc (by simp) (.cells zcs 30)
  have C1 := (Blk.new w (cs s) 30).below ((Below.refl _ _).alloc (Nat.le_refl _) (.cells zcs 30))
  have R1 := Blk.new (w.alloc (.cells (cs s) 30)) zcs 30
  rw [World.size_alloc] at R1
  have h0 := run_ldC C1 (cs_size s)
  clear hs
  go_enter Tryd.func12, Tryd.ntmps12
  go_wp2_with (first | (go_at_call 23; (with_reducible refine (HF.out _ B2).mono ?_); rintro e w1 ⟨rfl, hb1⟩; refine Hid.out ?_))
  refine Lib.hid ?_
  have bb := hb1.trans (((Below.refl w1.heap.size w1).alloc (Nat.le_refl _) (.cells #[.int .i64 0, .int .i64 0, .int .i64 0, .int .i64 0] 61)).mono hb1.size)
  have C2 := C1.below bb
  have R2 := R1.below bb
  have W2 := B2.trans (bb.mono B2.size)
  have h1 := run_ldC C2 (cs_size s)
  have h2 := run_stC R2 rfl (cs_size s) (cs_one s)
  have HR := Lib.hid (Blk.setAll R2 (ds := cs s) rfl)
  have HS := Lib.hid (cs_size s)
  have HW := Lib.hid (below_all (w.heap.size + 1) (by omega) (cs s).toList 0 W2)
  clear C1 R1 C2 R2 W2 bb hb1 B2 h0
  generalize hD : cs s = D at *
  have HE := Lib.hid hD
  clear hD
  go_wp2
  refine bodyPost_ret (v := .tuple #[.agg D, .int .i64 2]) ?_ rfl ⟨by rw [← HE.out], HW.out⟩
  exact results_cell_row2 rfl _ _ (w.heap.size + 1) 30 D (0, 0) _ _ rfl rfl HR.out Tryd.underlying30 rfl (by rw [infoC, HS.out])



set_option maxRecDepth 100000 in
theorem part_nil (w : World) (n : Int) :
    Calls Tryd.prog 41 #[.pointer none, .int .u32 0, .int .i64 n] w fun e w' => e = .returned (.tuple #[.slice none 0 0, .bool false]) ∧ w = w' := by
  go_enter Tryd.func41, Tryd.ntmps41
  go_wp2
  go_ret2
  exact ⟨rfl, rfl⟩
set_option maxRecDepth 100000 in
theorem word_nil (w : World) :
    Calls Tryd.prog 18 #[.pointer none, .int .u32 0] w fun e w' => e = .returned (.tuple #[.int .u32 0, .bool false]) ∧ w = w' := by
  go_enter Tryd.func18, Tryd.ntmps18
  go_wp2_with (go_at_call 41; refine (part_nil _ 4).mono ?_; rintro e w1 ⟨rfl, rfl⟩)
  refine wp_loop_rounds 1 ?_
  rw [rounds_succ]
  go_wp2
  go_ret2
  exact ⟨rfl, rfl⟩
set_option maxRecDepth 100000 in
theorem setByte_nil (w : World) :
    Calls Tryd.prog 19 #[.pointer none, .int .u32 0, .int .u8 1] w fun e w' => e = .returned (.bool false) ∧ Below w.heap.size w w' := by
  have B0 := (Below.refl w.heap.size w).alloc (Nat.le_refl _) (.cells #[.int .u8 1] 5)
  have hc := fun (wx : World) (a2 : Option Addr) (n c : Nat) => run_cpy_none wx a2 n c
  go_enter Tryd.func19, Tryd.ntmps19
  go_wp2_with (first | (go_at_call 41; refine (part_nil _ 1).mono ?_; rintro e w1 ⟨rfl, rfl⟩))
  go_ret
  exact ⟨rfl, B0⟩
end Go.Proofs.YtgnpbedhpkmkfaaDoor.Ni
