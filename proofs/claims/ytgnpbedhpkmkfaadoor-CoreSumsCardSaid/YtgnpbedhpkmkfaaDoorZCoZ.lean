/-
  Step: what traps, sys.
-/
import Derived.Test.YtgnpbedhpkmkfaaDoorZCx
namespace Go.Proofs.YtgnpbedhpkmkfaaDoor.CoZ
open Go Go.RowKit Kit Bk CoM CoR CoB CoW CoI CoF CoT CoU CoV CoC CoX CoY IsaM IsaT IsaL IsaC IsaE IsaN
set_option linter.unusedVariables false
attribute [local go_sem ↓] ldc_wrap stc_wrap

set_option maxRecDepth 100000 in
set_option maxHeartbeats 2000000 in
theorem step_trap (w : World) (hT : Tabs w) (M B : Nat) (ad : Option Addr) (cap : Nat) (bs : CoM.Bs) (hM : RamAt w M ad cap bs) (hL : Lies w B ad cap bs) (s : St) (hs : s.Ok) (t : Int) (hf : fetchP s.pc bs = .inl t) (ht : (t != 0) = true) :
    Calls Tryd.prog 12 #[cv s, mv M] w fun e w' => e = .returned (.tuple #[cv s, .int .i64 t]) ∧ Wrote w B ad cap bs w' := by
  have HF : Hid (∀ wx, Below w.heap.size w wx → Calls Tryd.prog 23 #[cv s, mv M] wx fun e w' => e = .returned (.tuple #[.agg #[.int .i64 0, .int .i64 0, .int .i64 0, .int .i64 0], .int .i64 t]) ∧ Below wx.heap.size wx w') := Lib.hid (fun wx hb => by
    have := fetch_any wx (hT.below hb) M B ad cap bs (hM.below hb) (Lies.below hL hb) s hs
    rw [hf] at this
    exact this)
  have hBl := CoY.Lies.lt hL
  have B2 := ((Below.refl w.heap.size w).alloc (Nat.le_refl _) (.cells (cs s) 30)).alloc (by simp) (.cells zcs 30)
  have C1 := (Blk.new w (cs s) 30).below ((Below.refl _ _).alloc (Nat.le_refl _) (.cells zcs 30))
  have R1 := Blk.new (w.alloc (.cells (cs s) 30)) zcs 30
  rw [World.size_alloc] at R1
  have h0 := run_ldC C1 (cs_size s)
  clear hT hM hf hs
  go_enter Tryd.func12, Tryd.ntmps12
  go_wp2_with (first | (go_at_call 23; (with_reducible refine (HF.out _ B2).mono ?_); rintro e w1 ⟨rfl, hb1⟩; refine Hid.out ?_))
  refine Lib.hid ?_
  have bb := hb1.trans (((Below.refl w1.heap.size w1).alloc (Nat.le_refl _) (.cells #[.int .i64 0, .int .i64 0, .int .i64 0, .int .i64 0] 61)).mono hb1.size)
  have C2 := C1.below bb
  have R2 := R1.below bb
  have W2 := Wrote.of_below hL (B2.trans (bb.mono B2.size))
  have h1 := run_ldC C2 (cs_size s)
  have h2 := run_stC R2 rfl (cs_size s) (cs_one s)
  have HR := Lib.hid (Blk.setAll R2 (ds := cs s) rfl)
  have HS := Lib.hid (cs_size s)
  have HW := Lib.hid (Wrote.sets hBl (w.heap.size + 1) (by omega) (cs s).toList 0 W2)
  clear C1 R1 C2 R2 W2 bb hb1 B2 h0 hL
  generalize hD : cs s = D at *
  have HE := Lib.hid hD
  clear hD
  go_wp2
  refine bodyPost_ret (v := .tuple #[.agg D, .int .i64 t]) ?_ rfl ⟨by rw [← HE.out], HW.out⟩
  exact results_cell_row2 rfl _ _ (w.heap.size + 1) 30 D (0, 0) _ _ rfl rfl HR.out Tryd.underlying30 rfl (by rw [infoC, HS.out])


set_option maxRecDepth 100000 in
set_option maxHeartbeats 2000000 in
theorem step_sys (w : World) (hT : Tabs w) (M B : Nat) (ad : Option Addr) (cap : Nat) (bs : CoM.Bs) (hM : RamAt w M ad cap bs) (hL : Lies w B ad cap bs) (s : St) (hs : s.Ok) (a b : Nat) (i : Int) (hf : fetchP s.pc bs = .inr (24, a, b, i)) :
    Calls Tryd.prog 12 #[cv s, mv M] w fun e w' => e = .returned (.tuple #[cv s, .int .i64 1]) ∧ Wrote w B ad cap bs w' := by
  have HF : Hid (∀ wx, Below w.heap.size w wx → Calls Tryd.prog 23 #[cv s, mv M] wx fun e w' => e = .returned (.tuple #[.agg #[.int .i64 24, .int .i64 (a : Int), .int .i64 (b : Int), .int .i64 i], .int .i64 0]) ∧ Below wx.heap.size wx w') := Lib.hid (fun wx hb => by
    have := fetch_any wx (hT.below hb) M B ad cap bs (hM.below hb) (Lies.below hL hb) s hs
    rw [hf] at this
    exact this)
  have hBl := CoY.Lies.lt hL
  have B2 := ((Below.refl w.heap.size w).alloc (Nat.le_refl _) (.cells (cs s) 30)).alloc (by simp) (.cells zcs 30)
  have C1 := (Blk.new w (cs s) 30).below ((Below.refl _ _).alloc (Nat.le_refl _) (.cells zcs 30))
  have R1 := Blk.new (w.alloc (.cells (cs s) 30)) zcs 30
  rw [World.size_alloc] at R1
  have h0 := run_ldC C1 (cs_size s)
  clear hT hf hs
  clear hM
  go_enter Tryd.func12, Tryd.ntmps12
  go_wp2_with (first | (go_at_call 23; (with_reducible refine (HF.out _ B2).mono ?_); rintro e w1 ⟨rfl, hb1⟩; refine Hid.out ?_))
  refine Lib.hid ?_
  have bb1 := hb1.trans (((Below.refl w1.heap.size w1).alloc (Nat.le_refl _) (.cells #[.int .i64 24, .int .i64 (a : Int), .int .i64 (b : Int), .int .i64 i] 61)).mono hb1.size)
  have bb2 := bb1.trans (((Below.refl (w1.alloc (.cells #[.int .i64 24, .int .i64 (a : Int), .int .i64 (b : Int), .int .i64 i] 61)).heap.size (w1.alloc (.cells #[.int .i64 24, .int .i64 (a : Int), .int .i64 (b : Int), .int .i64 i] 61))).alloc (Nat.le_refl _) (.cells zcs 30)).mono bb1.size)
  have h1 := run_ldC (C1.below bb1) (cs_size s)
  have E1 := Blk.new (w1.alloc (.cells #[.int .i64 24, .int .i64 (a : Int), .int .i64 (b : Int), .int .i64 i] 61)) zcs 30
  have X1 := (Blk.new w1 #[.int .i64 24, .int .i64 (a : Int), .int .i64 (b : Int), .int .i64 i] 61).below ((Below.refl _ _).alloc (Nat.le_refl _) (.cells zcs 30))
  rw [World.size_alloc] at E1
  have hnX : w.heap.size + 1 < w1.heap.size := by have := hb1.size; simp at this; omega
  have F1 : Four w w.heap.size w1.heap.size s 24 a b i zcs ((w1.alloc (.cells #[.int .i64 24, .int .i64 (a : Int), .int .i64 (b : Int), .int .i64 i] 61)).alloc (.cells zcs 30)) := ⟨C1.below bb2, R1.below bb2, X1, E1, hnX⟩
  have h2 := run_stC E1 rfl (cs_size s) (cs_one s)
  have F2 := F1.all (cs s) rfl
  have W2 := Wrote.sets hBl (w1.heap.size + 1) (by omega) (cs s).toList 0 (Wrote.of_below hL (B2.trans (bb2.mono B2.size)))
  obtain ⟨w2, hw2⟩ : ∃ w2, World.setCells ((w1.alloc (.cells #[.int .i64 24, .int .i64 (a : Int), .int .i64 (b : Int), .int .i64 i] 61)).alloc (.cells zcs 30)) (w1.heap.size + 1) 0 (cs s).toList = w2 := ⟨_, rfl⟩
  have D2 := below_all (w1.heap.size + 1) (by omega) (cs s).toList 0 (B2.trans (bb2.mono B2.size))
  rw [hw2] at h2 F2 W2 D2
  have x0 := F2.x.cell 0
  clear hw2 F1 E1 X1 bb1 bb2 C1 R1 h0 hb1 B2 hL
  have h3 := run_ldC F2.c (cs_size s)
  have h4 := run_stC F2.r rfl (cs_size s) (cs_one s)
  have HR := Lib.hid (Blk.setAll F2.r (ds := cs s) rfl)
  have HS := Lib.hid (cs_size s)
  have HW := Lib.hid (Wrote.sets hBl (w.heap.size + 1) (by omega) (cs s).toList 0 W2)
  clear F2 W2 D2
  generalize hD : cs s = D at *
  have HE := Lib.hid hD
  clear hD
  go_wp2
  refine bodyPost_ret (v := .tuple #[.agg D, .int .i64 1]) ?_ rfl ⟨by rw [← HE.out], HW.out⟩
  exact results_cell_row2 rfl _ _ (w.heap.size + 1) 30 D (0, 0) _ _ rfl rfl HR.out Tryd.underlying30 rfl (by rw [infoC, HS.out])


set_option maxRecDepth 100000 in
set_option maxHeartbeats 2000000 in
theorem step_z (w : World) (hT : Tabs w) (M B : Nat) (ad : Option Addr) (cap : Nat) (bs : CoM.Bs) (hM : RamAt w M ad cap bs) (hL : Lies w B ad cap bs) (s : St) (hs : s.Ok) (k : Nat) (hk : 25 ≤ k) (a b : Nat) (i : Int) (hf : fetchP s.pc bs = .inr (k, a, b, i)) (hfit : Fits k a b i) :
    Calls Tryd.prog 12 #[cv s, mv M] w fun e w' => e = .returned (.tuple #[cv (setP (zst k a b s) (nxt k (s.r a) i s.pc)), .int .i64 0]) ∧ Wrote w B ad cap bs w' := by
  have hbd := hfit.bd
  have ha : a < 8 := by omega
  have hb : b < 8 := by omega
  have HF : Hid (∀ wx, Below w.heap.size w wx → Calls Tryd.prog 23 #[cv s, mv M] wx fun e w' => e = .returned (.tuple #[.agg #[.int .i64 (k : Int), .int .i64 (a : Int), .int .i64 (b : Int), .int .i64 i], .int .i64 0]) ∧ Below wx.heap.size wx w') := Lib.hid (fun wx hb => by
    have := fetch_any wx (hT.below hb) M B ad cap bs (hM.below hb) (Lies.below hL hb) s hs
    rw [hf] at this
    exact this)
  obtain ⟨P, hP⟩ : ∃ P, nxt k (s.r a) i s.pc = P := ⟨_, rfl⟩
  have HNX : Hid (∀ wx, Calls Tryd.prog 31 #[.agg #[.int .i64 (k : Int), .int .i64 (a : Int), .int .i64 (b : Int), .int .i64 i], cv s] wx fun e w' => e = .returned (uv P) ∧ Below wx.heap.size wx w') := Lib.hid (fun wx => by have := next_any wx k a b i ha hb s hs; rw [hP] at this; exact this)
  obtain ⟨s1, hs1⟩ : ∃ s1, zst k a b s = s1 := ⟨_, rfl⟩
  have HZ : Hid (∀ wx, Calls Tryd.prog 29 #[.agg #[.int .i64 (k : Int), .int .i64 (a : Int), .int .i64 (b : Int), .int .i64 i], cv s] wx fun e w' => e = .returned (.agg (cs s1)) ∧ Below wx.heap.size wx w') := Lib.hid (fun wx => by have := turned_any wx k a b i hfit hk s hs; rw [hs1] at this; exact this)
  rw [hP, hs1]
  have h5 : k = 25 ∨ k = 26 ∨ k = 27 ∨ k = 28 ∨ k = 29 := by omega
  have e24 : ((k : Int) == 24) = false := by simp; omega
  have e15 : ((k : Int) == 15) = false := by simp; omega
  have e16 : ((k : Int) == 16) = false := by simp; omega
  have e17 : ((k : Int) == 17) = false := by simp; omega
  have e18 : ((k : Int) == 18) = false := by simp; omega
  have hBl := CoY.Lies.lt hL
  have B2 := ((Below.refl w.heap.size w).alloc (Nat.le_refl _) (.cells (cs s) 30)).alloc (by simp) (.cells zcs 30)
  have C1 := (Blk.new w (cs s) 30).below ((Below.refl _ _).alloc (Nat.le_refl _) (.cells zcs 30))
  have R1 := Blk.new (w.alloc (.cells (cs s) 30)) zcs 30
  rw [World.size_alloc] at R1
  have h0 := run_ldC C1 (cs_size s)
  clear hT hf hs hP hs1 hbd hfit hk ha hb
  clear hM
  go_enter Tryd.func12, Tryd.ntmps12
  go_wp2_with (first | (go_at_call 23; (with_reducible refine (HF.out _ B2).mono ?_); rintro e w1 ⟨rfl, hb1⟩; refine Hid.out ?_))
  refine Lib.hid ?_
  have bb1 := hb1.trans (((Below.refl w1.heap.size w1).alloc (Nat.le_refl _) (.cells #[.int .i64 (k : Int), .int .i64 (a : Int), .int .i64 (b : Int), .int .i64 i] 61)).mono hb1.size)
  have bb2 := bb1.trans (((Below.refl (w1.alloc (.cells #[.int .i64 (k : Int), .int .i64 (a : Int), .int .i64 (b : Int), .int .i64 i] 61)).heap.size (w1.alloc (.cells #[.int .i64 (k : Int), .int .i64 (a : Int), .int .i64 (b : Int), .int .i64 i] 61))).alloc (Nat.le_refl _) (.cells zcs 30)).mono bb1.size)
  have h1 := run_ldC (C1.below bb1) (cs_size s)
  have E1 := Blk.new (w1.alloc (.cells #[.int .i64 (k : Int), .int .i64 (a : Int), .int .i64 (b : Int), .int .i64 i] 61)) zcs 30
  have X1 := (Blk.new w1 #[.int .i64 (k : Int), .int .i64 (a : Int), .int .i64 (b : Int), .int .i64 i] 61).below ((Below.refl _ _).alloc (Nat.le_refl _) (.cells zcs 30))
  rw [World.size_alloc] at E1
  have hnX : w.heap.size + 1 < w1.heap.size := by have := hb1.size; simp at this; omega
  have F1 : Four w w.heap.size w1.heap.size s (k : Int) a b i zcs ((w1.alloc (.cells #[.int .i64 (k : Int), .int .i64 (a : Int), .int .i64 (b : Int), .int .i64 i] 61)).alloc (.cells zcs 30)) := ⟨C1.below bb2, R1.below bb2, X1, E1, hnX⟩
  have h2 := run_stC E1 rfl (cs_size s) (cs_one s)
  have F2 := F1.all (cs s) rfl
  have W2 := Wrote.sets hBl (w1.heap.size + 1) (by omega) (cs s).toList 0 (Wrote.of_below hL (B2.trans (bb2.mono B2.size)))
  obtain ⟨w2, hw2⟩ : ∃ w2, World.setCells ((w1.alloc (.cells #[.int .i64 (k : Int), .int .i64 (a : Int), .int .i64 (b : Int), .int .i64 i] 61)).alloc (.cells zcs 30)) (w1.heap.size + 1) 0 (cs s).toList = w2 := ⟨_, rfl⟩
  have D2 := below_all (w1.heap.size + 1) (by omega) (cs s).toList 0 (B2.trans (bb2.mono B2.size))
  rw [hw2] at h2 F2 W2 D2
  have x0 := F2.x.cell 0
  clear hw2 F1 E1 X1 bb1 bb2 C1 R1 h0 hb1 B2 hL
  have q0 := F2.x.cell 1
  have q1 := F2.x.cell 2
  have q2 := F2.x.cell 3
  have h3 := run_ldC F2.c (cs_size s)
  have HZ5 : Hid (((k : Int) == 25) = true ∨ (((k : Int) == 25) = false ∧ ((k : Int) == 26) = true) ∨ (((k : Int) == 25) = false ∧ ((k : Int) == 26) = false ∧ ((k : Int) == 27) = true) ∨ (((k : Int) == 25) = false ∧ ((k : Int) == 26) = false ∧ ((k : Int) == 27) = false ∧ ((k : Int) == 28) = true) ∨ (((k : Int) == 25) = false ∧ ((k : Int) == 26) = false ∧ ((k : Int) == 27) = false ∧ ((k : Int) == 28) = false ∧ ((k : Int) == 29) = true)) := Lib.hid (by rcases h5 with rfl | rfl | rfl | rfl | rfl <;> simp)
  clear h5
  rcases HZ5.out with h5 | ⟨h6, h5⟩ | ⟨h7, h6, h5⟩ | ⟨h8, h7, h6, h5⟩ | ⟨h9, h8, h7, h6, h5⟩
  · go_wp2_with (first | (go_at_call 29; (with_reducible refine (HZ.out _).mono ?_); rintro e w3 ⟨rfl, hb3⟩; refine Hid.out ?_))
    refine Lib.hid ?_
    have F3 := F2.below hb3
    have W3 := W2.below hb3
    have h7' := run_stC F3.e rfl (cs_size s1) (cs_one s1)
    have F4 := F3.all (cs s1) rfl
    have W4 := Wrote.sets hBl (w1.heap.size + 1) (by omega) (cs s1).toList 0 W3
    obtain ⟨w4, hw4⟩ : ∃ w4, World.setCells w3 (w1.heap.size + 1) 0 (cs s1).toList = w4 := ⟨_, rfl⟩
    rw [hw4] at h7' F4 W4
    clear hw4 F2 W2 F3 W3 hb3 D2 x0 q0 q1 q2 h3 h1 h2
    have HN : Hid (∀ wx, Calls Tryd.prog 31 #[.agg #[.int .i64 (k : Int), .int .i64 (a : Int), .int .i64 (b : Int), .int .i64 i], cv s] wx fun e w' => e = .returned (uv P) ∧ Below wx.heap.size wx w') := HNX
    have g1 := run_ldC F4.c (cs_size s)
    have z0 := F4.x.cell 0
    have z1 := F4.x.cell 1
    have z2 := F4.x.cell 2
    have z3 := F4.x.cell 3
    go_wp2_with (first | (go_at_call 31; (with_reducible refine (HN.out _).mono ?_); rintro e w5 ⟨rfl, hb5⟩; refine Hid.out ?_))
    refine Lib.hid ?_
    have F5 := F4.below hb5
    have W5 := W4.below hb5
    clear g1 z0 z1 z2 z3 hb5
    have y10 := F5.e.cell 10
    rw [cs_pc] at y10
    have f10 := F5.e.free 10
    have F6 := F5.set 10 (uv P)
    rw [cs_setP] at F6
    have W6 := W5.set hBl (w1.heap.size + 1) 10 (uv P) (by omega)
    have h3 := run_ldC F6.e (cs_size _)
    have h4 := run_stC F6.r rfl (cs_size (setP s1 P)) (cs_one _)
    have HR := Lib.hid (Blk.setAll F6.r (ds := cs (setP s1 P)) rfl)
    have HS := Lib.hid (cs_size (setP s1 P))
    have HW := Lib.hid (Wrote.sets hBl (w.heap.size + 1) (by omega) (cs (setP s1 P)).toList 0 W6)
    clear F5 F6 W5 W6
    generalize hD : cs (setP s1 P) = D at *
    have HE := Lib.hid hD
    clear hD
    go_wp2
    refine bodyPost_ret (v := .tuple #[.agg D, .int .i64 0]) ?_ rfl ⟨by rw [← HE.out], HW.out⟩
    exact results_cell_row2 rfl _ _ (w.heap.size + 1) 30 D (0, 0) _ _ rfl rfl HR.out Tryd.underlying30 rfl (by rw [infoC, HS.out])
  · go_wp2_with (first | (go_at_call 29; (with_reducible refine (HZ.out _).mono ?_); rintro e w3 ⟨rfl, hb3⟩; refine Hid.out ?_))
    refine Lib.hid ?_
    have F3 := F2.below hb3
    have W3 := W2.below hb3
    have h7' := run_stC F3.e rfl (cs_size s1) (cs_one s1)
    have F4 := F3.all (cs s1) rfl
    have W4 := Wrote.sets hBl (w1.heap.size + 1) (by omega) (cs s1).toList 0 W3
    obtain ⟨w4, hw4⟩ : ∃ w4, World.setCells w3 (w1.heap.size + 1) 0 (cs s1).toList = w4 := ⟨_, rfl⟩
    rw [hw4] at h7' F4 W4
    clear hw4 F2 W2 F3 W3 hb3 D2 x0 q0 q1 q2 h3 h1 h2
    have HN : Hid (∀ wx, Calls Tryd.prog 31 #[.agg #[.int .i64 (k : Int), .int .i64 (a : Int), .int .i64 (b : Int), .int .i64 i], cv s] wx fun e w' => e = .returned (uv P) ∧ Below wx.heap.size wx w') := HNX
    have g1 := run_ldC F4.c (cs_size s)
    have z0 := F4.x.cell 0
    have z1 := F4.x.cell 1
    have z2 := F4.x.cell 2
    have z3 := F4.x.cell 3
    go_wp2_with (first | (go_at_call 31; (with_reducible refine (HN.out _).mono ?_); rintro e w5 ⟨rfl, hb5⟩; refine Hid.out ?_))
    refine Lib.hid ?_
    have F5 := F4.below hb5
    have W5 := W4.below hb5
    clear g1 z0 z1 z2 z3 hb5
    have y10 := F5.e.cell 10
    rw [cs_pc] at y10
    have f10 := F5.e.free 10
    have F6 := F5.set 10 (uv P)
    rw [cs_setP] at F6
    have W6 := W5.set hBl (w1.heap.size + 1) 10 (uv P) (by omega)
    have h3 := run_ldC F6.e (cs_size _)
    have h4 := run_stC F6.r rfl (cs_size (setP s1 P)) (cs_one _)
    have HR := Lib.hid (Blk.setAll F6.r (ds := cs (setP s1 P)) rfl)
    have HS := Lib.hid (cs_size (setP s1 P))
    have HW := Lib.hid (Wrote.sets hBl (w.heap.size + 1) (by omega) (cs (setP s1 P)).toList 0 W6)
    clear F5 F6 W5 W6
    generalize hD : cs (setP s1 P) = D at *
    have HE := Lib.hid hD
    clear hD
    go_wp2
    refine bodyPost_ret (v := .tuple #[.agg D, .int .i64 0]) ?_ rfl ⟨by rw [← HE.out], HW.out⟩
    exact results_cell_row2 rfl _ _ (w.heap.size + 1) 30 D (0, 0) _ _ rfl rfl HR.out Tryd.underlying30 rfl (by rw [infoC, HS.out])
  · go_wp2_with (first | (go_at_call 29; (with_reducible refine (HZ.out _).mono ?_); rintro e w3 ⟨rfl, hb3⟩; refine Hid.out ?_))
    refine Lib.hid ?_
    have F3 := F2.below hb3
    have W3 := W2.below hb3
    have h7' := run_stC F3.e rfl (cs_size s1) (cs_one s1)
    have F4 := F3.all (cs s1) rfl
    have W4 := Wrote.sets hBl (w1.heap.size + 1) (by omega) (cs s1).toList 0 W3
    obtain ⟨w4, hw4⟩ : ∃ w4, World.setCells w3 (w1.heap.size + 1) 0 (cs s1).toList = w4 := ⟨_, rfl⟩
    rw [hw4] at h7' F4 W4
    clear hw4 F2 W2 F3 W3 hb3 D2 x0 q0 q1 q2 h3 h1 h2
    have HN : Hid (∀ wx, Calls Tryd.prog 31 #[.agg #[.int .i64 (k : Int), .int .i64 (a : Int), .int .i64 (b : Int), .int .i64 i], cv s] wx fun e w' => e = .returned (uv P) ∧ Below wx.heap.size wx w') := HNX
    have g1 := run_ldC F4.c (cs_size s)
    have z0 := F4.x.cell 0
    have z1 := F4.x.cell 1
    have z2 := F4.x.cell 2
    have z3 := F4.x.cell 3
    go_wp2_with (first | (go_at_call 31; (with_reducible refine (HN.out _).mono ?_); rintro e w5 ⟨rfl, hb5⟩; refine Hid.out ?_))
    refine Lib.hid ?_
    have F5 := F4.below hb5
    have W5 := W4.below hb5
    clear g1 z0 z1 z2 z3 hb5
    have y10 := F5.e.cell 10
    rw [cs_pc] at y10
    have f10 := F5.e.free 10
    have F6 := F5.set 10 (uv P)
    rw [cs_setP] at F6
    have W6 := W5.set hBl (w1.heap.size + 1) 10 (uv P) (by omega)
    have h3 := run_ldC F6.e (cs_size _)
    have h4 := run_stC F6.r rfl (cs_size (setP s1 P)) (cs_one _)
    have HR := Lib.hid (Blk.setAll F6.r (ds := cs (setP s1 P)) rfl)
    have HS := Lib.hid (cs_size (setP s1 P))
    have HW := Lib.hid (Wrote.sets hBl (w.heap.size + 1) (by omega) (cs (setP s1 P)).toList 0 W6)
    clear F5 F6 W5 W6
    generalize hD : cs (setP s1 P) = D at *
    have HE := Lib.hid hD
    clear hD
    go_wp2
    refine bodyPost_ret (v := .tuple #[.agg D, .int .i64 0]) ?_ rfl ⟨by rw [← HE.out], HW.out⟩
    exact results_cell_row2 rfl _ _ (w.heap.size + 1) 30 D (0, 0) _ _ rfl rfl HR.out Tryd.underlying30 rfl (by rw [infoC, HS.out])
  · go_wp2_with (first | (go_at_call 29; (with_reducible refine (HZ.out _).mono ?_); rintro e w3 ⟨rfl, hb3⟩; refine Hid.out ?_))
    refine Lib.hid ?_
    have F3 := F2.below hb3
    have W3 := W2.below hb3
    have h7' := run_stC F3.e rfl (cs_size s1) (cs_one s1)
    have F4 := F3.all (cs s1) rfl
    have W4 := Wrote.sets hBl (w1.heap.size + 1) (by omega) (cs s1).toList 0 W3
    obtain ⟨w4, hw4⟩ : ∃ w4, World.setCells w3 (w1.heap.size + 1) 0 (cs s1).toList = w4 := ⟨_, rfl⟩
    rw [hw4] at h7' F4 W4
    clear hw4 F2 W2 F3 W3 hb3 D2 x0 q0 q1 q2 h3 h1 h2
    have HN : Hid (∀ wx, Calls Tryd.prog 31 #[.agg #[.int .i64 (k : Int), .int .i64 (a : Int), .int .i64 (b : Int), .int .i64 i], cv s] wx fun e w' => e = .returned (uv P) ∧ Below wx.heap.size wx w') := HNX
    have g1 := run_ldC F4.c (cs_size s)
    have z0 := F4.x.cell 0
    have z1 := F4.x.cell 1
    have z2 := F4.x.cell 2
    have z3 := F4.x.cell 3
    go_wp2_with (first | (go_at_call 31; (with_reducible refine (HN.out _).mono ?_); rintro e w5 ⟨rfl, hb5⟩; refine Hid.out ?_))
    refine Lib.hid ?_
    have F5 := F4.below hb5
    have W5 := W4.below hb5
    clear g1 z0 z1 z2 z3 hb5
    have y10 := F5.e.cell 10
    rw [cs_pc] at y10
    have f10 := F5.e.free 10
    have F6 := F5.set 10 (uv P)
    rw [cs_setP] at F6
    have W6 := W5.set hBl (w1.heap.size + 1) 10 (uv P) (by omega)
    have h3 := run_ldC F6.e (cs_size _)
    have h4 := run_stC F6.r rfl (cs_size (setP s1 P)) (cs_one _)
    have HR := Lib.hid (Blk.setAll F6.r (ds := cs (setP s1 P)) rfl)
    have HS := Lib.hid (cs_size (setP s1 P))
    have HW := Lib.hid (Wrote.sets hBl (w.heap.size + 1) (by omega) (cs (setP s1 P)).toList 0 W6)
    clear F5 F6 W5 W6
    generalize hD : cs (setP s1 P) = D at *
    have HE := Lib.hid hD
    clear hD
    go_wp2
    refine bodyPost_ret (v := .tuple #[.agg D, .int .i64 0]) ?_ rfl ⟨by rw [← HE.out], HW.out⟩
    exact results_cell_row2 rfl _ _ (w.heap.size + 1) 30 D (0, 0) _ _ rfl rfl HR.out Tryd.underlying30 rfl (by rw [infoC, HS.out])
  · go_wp2_with (first | (go_at_call 29; (with_reducible refine (HZ.out _).mono ?_); rintro e w3 ⟨rfl, hb3⟩; refine Hid.out ?_))
    refine Lib.hid ?_
    have F3 := F2.below hb3
    have W3 := W2.below hb3
    have h7' := run_stC F3.e rfl (cs_size s1) (cs_one s1)
    have F4 := F3.all (cs s1) rfl
    have W4 := Wrote.sets hBl (w1.heap.size + 1) (by omega) (cs s1).toList 0 W3
    obtain ⟨w4, hw4⟩ : ∃ w4, World.setCells w3 (w1.heap.size + 1) 0 (cs s1).toList = w4 := ⟨_, rfl⟩
    rw [hw4] at h7' F4 W4
    clear hw4 F2 W2 F3 W3 hb3 D2 x0 q0 q1 q2 h3 h1 h2
    have HN : Hid (∀ wx, Calls Tryd.prog 31 #[.agg #[.int .i64 (k : Int), .int .i64 (a : Int), .int .i64 (b : Int), .int .i64 i], cv s] wx fun e w' => e = .returned (uv P) ∧ Below wx.heap.size wx w') := HNX
    have g1 := run_ldC F4.c (cs_size s)
    have z0 := F4.x.cell 0
    have z1 := F4.x.cell 1
    have z2 := F4.x.cell 2
    have z3 := F4.x.cell 3
    go_wp2_with (first | (go_at_call 31; (with_reducible refine (HN.out _).mono ?_); rintro e w5 ⟨rfl, hb5⟩; refine Hid.out ?_))
    refine Lib.hid ?_
    have F5 := F4.below hb5
    have W5 := W4.below hb5
    clear g1 z0 z1 z2 z3 hb5
    have y10 := F5.e.cell 10
    rw [cs_pc] at y10
    have f10 := F5.e.free 10
    have F6 := F5.set 10 (uv P)
    rw [cs_setP] at F6
    have W6 := W5.set hBl (w1.heap.size + 1) 10 (uv P) (by omega)
    have h3 := run_ldC F6.e (cs_size _)
    have h4 := run_stC F6.r rfl (cs_size (setP s1 P)) (cs_one _)
    have HR := Lib.hid (Blk.setAll F6.r (ds := cs (setP s1 P)) rfl)
    have HS := Lib.hid (cs_size (setP s1 P))
    have HW := Lib.hid (Wrote.sets hBl (w.heap.size + 1) (by omega) (cs (setP s1 P)).toList 0 W6)
    clear F5 F6 W5 W6
    generalize hD : cs (setP s1 P) = D at *
    have HE := Lib.hid hD
    clear hD
    go_wp2
    refine bodyPost_ret (v := .tuple #[.agg D, .int .i64 0]) ?_ rfl ⟨by rw [← HE.out], HW.out⟩
    exact results_cell_row2 rfl _ _ (w.heap.size + 1) 30 D (0, 0) _ _ rfl rfl HR.out Tryd.underlying30 rfl (by rw [infoC, HS.out])

set_option maxRecDepth 100000 in
set_option maxHeartbeats 2000000 in
theorem step_reg (w : World) (hT : Tabs w) (M B : Nat) (ad : Option Addr) (cap : Nat) (bs : CoM.Bs) (hM : RamAt w M ad cap bs) (hL : Lies w B ad cap bs) (s : St) (hs : s.Ok) (k : Nat) (hk : k < 15 ∨ 18 < k) (hk2 : k < 24) (a b : Nat) (i : Int) (hf : fetchP s.pc bs = .inr (k, a, b, i)) (hfit : Fits k a b i) :
    Calls Tryd.prog 12 #[cv s, mv M] w fun e w' => e = .returned (.tuple #[cv (setP (setR s a (res k (s.r a) (s.r b) i s.pc)) (nxt k (s.r a) i s.pc)), .int .i64 0]) ∧ Wrote w B ad cap bs w' := by
  have hbd := hfit.bd
  have ha : a < 8 := by omega
  have hb : b < 8 := by omega
  have HF : Hid (∀ wx, Below w.heap.size w wx → Calls Tryd.prog 23 #[cv s, mv M] wx fun e w' => e = .returned (.tuple #[.agg #[.int .i64 (k : Int), .int .i64 (a : Int), .int .i64 (b : Int), .int .i64 i], .int .i64 0]) ∧ Below wx.heap.size wx w') := Lib.hid (fun wx hb => by
    have := fetch_any wx (hT.below hb) M B ad cap bs (hM.below hb) (Lies.below hL hb) s hs
    rw [hf] at this
    exact this)
  obtain ⟨P, hP⟩ : ∃ P, nxt k (s.r a) i s.pc = P := ⟨_, rfl⟩
  have HNX : Hid (∀ wx, Calls Tryd.prog 31 #[.agg #[.int .i64 (k : Int), .int .i64 (a : Int), .int .i64 (b : Int), .int .i64 i], cv s] wx fun e w' => e = .returned (uv P) ∧ Below wx.heap.size wx w') := Lib.hid (fun wx => by have := next_any wx k a b i ha hb s hs; rw [hP] at this; exact this)
  obtain ⟨v, hv⟩ : ∃ v, res k (s.r a) (s.r b) i s.pc = v := ⟨_, rfl⟩
  have HRS : Hid (∀ wx, Calls Tryd.prog 30 #[.agg #[.int .i64 (k : Int), .int .i64 (a : Int), .int .i64 (b : Int), .int .i64 i], cv s] wx fun e w' => e = .returned (uv v) ∧ Below wx.heap.size wx w') := Lib.hid (fun wx => by have := result_any wx k a b i ha hb s hs; rw [hv] at this; exact this)
  rw [hP, hv]
  have e15 : ((k : Int) == 15) = false := by simp; omega
  have e16 : ((k : Int) == 16) = false := by simp; omega
  have e17 : ((k : Int) == 17) = false := by simp; omega
  have e18 : ((k : Int) == 18) = false := by simp; omega
  have e24 : ((k : Int) == 24) = false := by simp; omega
  have e25 : ((k : Int) == 25) = false := by simp; omega
  have e26 : ((k : Int) == 26) = false := by simp; omega
  have e27 : ((k : Int) == 27) = false := by simp; omega
  have e28 : ((k : Int) == 28) = false := by simp; omega
  have e29 : ((k : Int) == 29) = false := by simp; omega
  have hai : (a : Int) < 8 := by omega
  have hai0 : (0 : Int) ≤ (a : Int) := by omega
  have hca := cs_r s ha
  have HSR := Lib.hid (cs_setR s (k := a) v ha)
  have hBl := CoY.Lies.lt hL
  have B2 := ((Below.refl w.heap.size w).alloc (Nat.le_refl _) (.cells (cs s) 30)).alloc (by simp) (.cells zcs 30)
  have C1 := (Blk.new w (cs s) 30).below ((Below.refl _ _).alloc (Nat.le_refl _) (.cells zcs 30))
  have R1 := Blk.new (w.alloc (.cells (cs s) 30)) zcs 30
  rw [World.size_alloc] at R1
  have h0 := run_ldC C1 (cs_size s)
  clear hT hf hs hP hv hbd hfit hk hk2 hb
  clear hM
  go_enter Tryd.func12, Tryd.ntmps12
  go_wp2_with (first | (go_at_call 23; (with_reducible refine (HF.out _ B2).mono ?_); rintro e w1 ⟨rfl, hb1⟩; refine Hid.out ?_))
  refine Lib.hid ?_
  have bb1 := hb1.trans (((Below.refl w1.heap.size w1).alloc (Nat.le_refl _) (.cells #[.int .i64 (k : Int), .int .i64 (a : Int), .int .i64 (b : Int), .int .i64 i] 61)).mono hb1.size)
  have bb2 := bb1.trans (((Below.refl (w1.alloc (.cells #[.int .i64 (k : Int), .int .i64 (a : Int), .int .i64 (b : Int), .int .i64 i] 61)).heap.size (w1.alloc (.cells #[.int .i64 (k : Int), .int .i64 (a : Int), .int .i64 (b : Int), .int .i64 i] 61))).alloc (Nat.le_refl _) (.cells zcs 30)).mono bb1.size)
  have h1 := run_ldC (C1.below bb1) (cs_size s)
  have E1 := Blk.new (w1.alloc (.cells #[.int .i64 (k : Int), .int .i64 (a : Int), .int .i64 (b : Int), .int .i64 i] 61)) zcs 30
  have X1 := (Blk.new w1 #[.int .i64 (k : Int), .int .i64 (a : Int), .int .i64 (b : Int), .int .i64 i] 61).below ((Below.refl _ _).alloc (Nat.le_refl _) (.cells zcs 30))
  rw [World.size_alloc] at E1
  have hnX : w.heap.size + 1 < w1.heap.size := by have := hb1.size; simp at this; omega
  have F1 : Four w w.heap.size w1.heap.size s (k : Int) a b i zcs ((w1.alloc (.cells #[.int .i64 (k : Int), .int .i64 (a : Int), .int .i64 (b : Int), .int .i64 i] 61)).alloc (.cells zcs 30)) := ⟨C1.below bb2, R1.below bb2, X1, E1, hnX⟩
  have h2 := run_stC E1 rfl (cs_size s) (cs_one s)
  have F2 := F1.all (cs s) rfl
  have W2 := Wrote.sets hBl (w1.heap.size + 1) (by omega) (cs s).toList 0 (Wrote.of_below hL (B2.trans (bb2.mono B2.size)))
  obtain ⟨w2, hw2⟩ : ∃ w2, World.setCells ((w1.alloc (.cells #[.int .i64 (k : Int), .int .i64 (a : Int), .int .i64 (b : Int), .int .i64 i] 61)).alloc (.cells zcs 30)) (w1.heap.size + 1) 0 (cs s).toList = w2 := ⟨_, rfl⟩
  have D2 := below_all (w1.heap.size + 1) (by omega) (cs s).toList 0 (B2.trans (bb2.mono B2.size))
  rw [hw2] at h2 F2 W2 D2
  have x0 := F2.x.cell 0
  clear hw2 F1 E1 X1 bb1 bb2 C1 R1 h0 hb1 B2 hL
  go_wp2
  have HB := Lib.hid (fun wx (hb : Below w2.heap.size w2 wx) => (show (wx.cell? ⟨w1.heap.size, 0, none⟩ = some (.int .i64 (k : Int)) ∧ wx.cell? ⟨w1.heap.size, 1, none⟩ = some (.int .i64 (a : Int)) ∧ wx.cell? ⟨w1.heap.size, 2, none⟩ = some (.int .i64 (b : Int)) ∧ wx.cell? ⟨w1.heap.size, 3, none⟩ = some (.int .i64 i)) ∧ (ldC (.pointer (some ⟨w.heap.size, 0, none⟩))).run Tryd.prog wx = .ok (.agg (cs s)) wx from
    ⟨⟨(F2.x.below hb).cell 0, (F2.x.below hb).cell 1, (F2.x.below hb).cell 2, (F2.x.below hb).cell 3⟩, run_ldC (F2.c.below hb) (cs_size s)⟩))
  have HB2 := Lib.hid (fun wx (hb : Below w2.heap.size w2 wx) => (show ((wx.setCell ⟨w1.heap.size + 1, a, none⟩ (uv v)).cell? ⟨w1.heap.size, 0, none⟩ = some (.int .i64 (k : Int)) ∧ (wx.setCell ⟨w1.heap.size + 1, a, none⟩ (uv v)).cell? ⟨w1.heap.size, 1, none⟩ = some (.int .i64 (a : Int)) ∧ (wx.setCell ⟨w1.heap.size + 1, a, none⟩ (uv v)).cell? ⟨w1.heap.size, 2, none⟩ = some (.int .i64 (b : Int)) ∧ (wx.setCell ⟨w1.heap.size + 1, a, none⟩ (uv v)).cell? ⟨w1.heap.size, 3, none⟩ = some (.int .i64 i)) ∧ (ldC (.pointer (some ⟨w.heap.size, 0, none⟩))).run Tryd.prog (wx.setCell ⟨w1.heap.size + 1, a, none⟩ (uv v)) = .ok (.agg (cs s)) (wx.setCell ⟨w1.heap.size + 1, a, none⟩ (uv v)) from
    ⟨⟨((F2.below hb).set a (uv v)).x.cell 0, ((F2.below hb).set a (uv v)).x.cell 1, ((F2.below hb).set a (uv v)).x.cell 2, ((F2.below hb).set a (uv v)).x.cell 3⟩, run_ldC ((F2.below hb).set a (uv v)).c (cs_size s)⟩))
  have HF2 := Lib.hid F2
  have HW2 := Lib.hid W2
  clear F2 W2 D2 h1 h2
  have B0 := (Below.refl w2.heap.size w2).drew
  go_region_held (fun wx => (wx.cell? ⟨w1.heap.size, 0, none⟩ = some (.int .i64 (k : Int)) ∧ wx.cell? ⟨w1.heap.size, 1, none⟩ = some (.int .i64 (a : Int)) ∧ wx.cell? ⟨w1.heap.size, 2, none⟩ = some (.int .i64 (b : Int)) ∧ wx.cell? ⟨w1.heap.size, 3, none⟩ = some (.int .i64 i)) ∧ (ldC (.pointer (some ⟨w.heap.size, 0, none⟩))).run Tryd.prog wx = .ok (.agg (cs s)) wx) (first | exact HB2.out _ B3 | exact HB.out _ B3 | exact HB.out _ B0 | go_keep) ((go_at_call 30; (with_reducible refine (HRS.out _).mono ?_); rintro e w3 ⟨rfl, hb3⟩; have B3 := B0.trans hb3; have y1 := (HF2.out.e.below B3).cell a; rw [hca] at y1; have f1 := (HF2.out.e.below B3).free a))
  have F3 := (HF2.out.below B3).set a (uv v)
  rw [HSR.out] at F3
  have W3 := (HW2.out.below B3).set hBl (w1.heap.size + 1) a (uv v) (by omega)
  obtain ⟨w4, hw4⟩ : ∃ w4, w3.setCell ⟨w1.heap.size + 1, a, none⟩ (uv v) = w4 := ⟨_, rfl⟩
  rw [hw4] at F3 W3
  have hw4' : w3.setCell ⟨w1.heap.size + 1, a, none⟩ (Value.int .u32 v) = w4 := hw4
  rw [hw4']
  clear hw4 hw4' y1 f1 B3 B0 hb3 x0 hai hai0 ha
  obtain ⟨s1, hs1⟩ : ∃ s1, setR s a v = s1 := ⟨_, rfl⟩
  rw [hs1] at F3
  have HS1 := Lib.hid hs1
  clear hs1
  have HN : Hid (∀ wx, Calls Tryd.prog 31 #[.agg #[.int .i64 (k : Int), .int .i64 (a : Int), .int .i64 (b : Int), .int .i64 i], cv s] wx fun e w' => e = .returned (uv P) ∧ Below wx.heap.size wx w') := HNX
  have g1 := run_ldC F3.c (cs_size s)
  have z0 := F3.x.cell 0
  have z1 := F3.x.cell 1
  have z2 := F3.x.cell 2
  have z3 := F3.x.cell 3
  go_wp2_with (first | (go_at_call 31; (with_reducible refine (HN.out _).mono ?_); rintro e w5 ⟨rfl, hb5⟩; refine Hid.out ?_))
  refine Lib.hid ?_
  have F5 := F3.below hb5
  have W5 := W3.below hb5
  clear g1 z0 z1 z2 z3 hb5
  have y10 := F5.e.cell 10
  rw [cs_pc] at y10
  have f10 := F5.e.free 10
  have F6 := F5.set 10 (uv P)
  rw [cs_setP] at F6
  have W6 := W5.set hBl (w1.heap.size + 1) 10 (uv P) (by omega)
  have h3 := run_ldC F6.e (cs_size _)
  have h4 := run_stC F6.r rfl (cs_size (setP s1 P)) (cs_one _)
  have HR := Lib.hid (Blk.setAll F6.r (ds := cs (setP s1 P)) rfl)
  have HS := Lib.hid (cs_size (setP s1 P))
  have HW := Lib.hid (Wrote.sets hBl (w.heap.size + 1) (by omega) (cs (setP s1 P)).toList 0 W6)
  clear F5 F6 W5 W6
  generalize hD : cs (setP s1 P) = D at *
  have HE := Lib.hid hD
  clear hD
  go_wp2
  refine bodyPost_ret (v := .tuple #[.agg D, .int .i64 0]) ?_ rfl ⟨by rw [← HE.out, HS1.out], HW.out⟩
  exact results_cell_row2 rfl _ _ (w.heap.size + 1) 30 D (0, 0) _ _ rfl rfl HR.out Tryd.underlying30 rfl (by rw [infoC, HS.out])
end Go.Proofs.YtgnpbedhpkmkfaaDoor.CoZ
