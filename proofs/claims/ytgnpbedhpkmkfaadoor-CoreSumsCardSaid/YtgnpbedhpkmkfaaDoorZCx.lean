/-
  A Cpu loaded, and stored, as a whole.
-/
import Derived.Test.YtgnpbedhpkmkfaaDoorZCm
import Derived.Laws.Rows
import Derived.Test.YtgnpbedhpkmkfaaDoorZCu
namespace Go.Proofs.YtgnpbedhpkmkfaaDoor.CoC
open Go Go.RowKit Kit Bk CoM CoR
set_option linter.unusedVariables false

def ldC (p : Value) : Sem Value := Instr.loadAt 30 p
theorem ldc_wrap (p : Value) : Instr.loadAt 30 p = ldC p := rfl
def stC (p v : Value) : Sem Unit := Instr.storeAt 30 p v
theorem stc_wrap (p v : Value) : Instr.storeAt 30 p v = stC p v := rfl
theorem infoC : (Tryd.prog.info? 30).map (·.size) = some 11 := by kernel_rfl
theorem cs_size (s : St) : (cs s).size = 11 := rfl
theorem cs_one (s : St) : (cs s).all (·.oneCell') = true := by simp [cs, Value.oneCell']
theorem run_ldC {w : World} {g : Nat} {D : Array Value} {T : TypeId} (h : Blk w g D T) (hs : D.size = 11) : (ldC (.pointer (some ⟨g, 0, none⟩))).run Tryd.prog w = .ok (.agg D) w := by
  have := run_loadAt_mid (P := Tryd.prog) w g 0 30 D.toList _ (fun j v hj => by
    rw [Nat.zero_add, h.cell, ← hj, Array.getElem?_toList]) Tryd.underlying30 rfl (by rw [infoC, Array.length_toList, hs])
  rw [Array.toArray_toList] at this
  exact this
theorem run_stC {w : World} {g : Nat} {D E : Array Value} {T : TypeId} (h : Blk w g D T) (hs : D.size = 11) (he : E.size = 11) (h1 : E.all (·.oneCell') = true) :
    (stC (.pointer (some ⟨g, 0, none⟩)) (.agg E)).run Tryd.prog w = .ok () (w.setCells g 0 E.toList) := by
  unfold stC
  exact run_storeAt_mid _ _ 0 _ E (h.there _ _ (by omega)) (by rw [infoC, he]) h1
theorem Blk.setAll {w : World} {b : Nat} {T : TypeId} {cs ds : Array Value} (h : Blk w b cs T) (hs : ds.size = cs.size) : Blk (w.setCells b 0 ds.toList) b ds T := by
  obtain ⟨es, h1, h2, h3, h4⟩ := h.sets ds.toList 0
  have : es = ds := by
    apply Array.ext_getElem?
    intro j
    by_cases hj : j < ds.size
    · have := h4 j (by simpa using hj) (by omega)
      rw [Nat.zero_add] at this
      rw [this, Array.getElem?_toList]
    · rw [Array.getElem?_eq_none (by omega), Array.getElem?_eq_none (by omega)]
  rw [← this]
  exact this ▸ h1
theorem below_all {n : Nat} {w : World} (g : Nat) (hg : n ≤ g) : ∀ (vs : List Value) (o : Nat) {w1 : World}, Below n w w1 → Below n w (w1.setCells g o vs)
  | [], _, _, D => D
  | v :: r, o, w1, D => below_all g hg r (o + 1) (D.setCell (p := ⟨g, o, none⟩) hg v)
theorem results_cell_row2 {P : Program} {fn : Func} {p u : Tmp} {ty : TypeId} (h : fn.results = #[.cell p ty, .tmp u]) (tmps : Array Value) (w : World) (g : Nat) (t : TypeId) (cs : Array Value) (fr : Nat × Nat) (d : TypeDesc) (v : Value)
    (hp : tmps.getD p undef = .pointer (some ⟨g, 0, none⟩)) (hv : tmps.getD u undef = v) (hg : w.heap[g]? = some (.cells cs t fr))
    (hu : P.underlying ty = some d) (hd : (match d with | .struct _ | .array _ _ => true | _ => false) = true) (hi : (P.info? ty).map (·.size) = some cs.size) :
    (results fn tmps).run P w = .ok (.tuple #[.agg cs, v]) w := by
  have hp' : tmps[p]?.getD undef = .pointer (some ⟨g, 0, none⟩) := by simpa using hp
  have hv' : tmps[u]?.getD undef = v := by simpa using hv
  simp [results, h, hp', hv', asAddr, run_loadVar_row w g t ty cs fr d hg hu hd hi]
theorem results_cell_row3 {P : Program} {fn : Func} {p u x : Tmp} {ty : TypeId} (h : fn.results = #[.cell p ty, .tmp u, .tmp x]) (tmps : Array Value) (w : World) (g : Nat) (t : TypeId) (cs : Array Value) (fr : Nat × Nat) (d : TypeDesc) (v v2 : Value)
    (hp : tmps.getD p undef = .pointer (some ⟨g, 0, none⟩)) (hv : tmps.getD u undef = v) (hv2 : tmps.getD x undef = v2) (hg : w.heap[g]? = some (.cells cs t fr))
    (hu : P.underlying ty = some d) (hd : (match d with | .struct _ | .array _ _ => true | _ => false) = true) (hi : (P.info? ty).map (·.size) = some cs.size) :
    (results fn tmps).run P w = .ok (.tuple #[.agg cs, v, v2]) w := by
  have hp' : tmps[p]?.getD undef = .pointer (some ⟨g, 0, none⟩) := by simpa using hp
  have hv' : tmps[u]?.getD undef = v := by simpa using hv
  have hv2' : tmps[x]?.getD undef = v2 := by simpa using hv2
  simp [results, h, hp', hv', hv2', asAddr, run_loadVar_row w g t ty cs fr d hg hu hd hi]
/-- What the Cpu's zero is. -/
abbrev zcs : Array Value := #[.int .u32 0, .int .u32 0, .int .u32 0, .int .u32 0, .int .u32 0, .int .u32 0, .int .u32 0, .int .u32 0, .complex .f64 0 0, .complex .f64 0 0, .int .u32 0]
end Go.Proofs.YtgnpbedhpkmkfaaDoor.CoC

/-
  turned: a Gaussian registers' instruction, but for Pc.
-/
namespace Go.Proofs.YtgnpbedhpkmkfaaDoor.CoX
open Go Go.RowKit Kit Fl Whole Gleaf Gparts Gwhole Gnums Gg WordsG Bk CoM CoR CoB CoW CoI CoF CoT CoU CoV CoC IsaM IsaT IsaL IsaC IsaE IsaN
set_option linter.unusedVariables false
attribute [local go_sem ↓] ldc_wrap stc_wrap

theorem setZ_same (s : St) (k : Nat) : setZ s k (s.z k) = s := by
  have : up s.z k (s.z k) = s.z := funext fun j => by
    unfold up
    split
    · rename_i h; rw [h]
    · rfl
  unfold setZ
  rw [this]

set_option maxRecDepth 100000 in
set_option maxHeartbeats 1000000 in
theorem turned_29 (w : World) (a b : Nat) (i : Int) (ha : a < 2) (s : St) (hs : s.Ok) :
    Calls Tryd.prog 29 #[insV 29 (a : Nat) (b : Nat) i, cv s] w fun e w' => e = .returned (cv (zst 29 a b s)) ∧ Below w.heap.size w w' := by
  have hca := cs_z s ha
  have hai : (a : Int) < 2 := by omega
  have hai0 : (0 : Int) ≤ (a : Int) := by omega
  obtain ⟨z', hz'⟩ : ∃ z', zpair (zre (s.z a)) (-(zim (s.z a))) = z' := ⟨_, rfl⟩
  have hzz : zst 29 a b s = setZ s a z' := by rw [← hz']; rfl
  have HC : Hid (∀ wx, Calls Tryd.prog 55 #[zc (s.z a)] wx fun e w' => e = .returned (zc z') ∧ Below wx.heap.size wx w') := Lib.hid (fun wx => by have := conj_any (s.z a).1 (s.z a).2 wx; rw [← hz']; exact this)
  rw [hzz]
  clear hzz hs
  unfold insV
  go_enter Tryd.func29, Tryd.ntmps29
  go_wp2_with (first | (go_at_call 55; (with_reducible refine (HC.out _).mono ?_); rintro e w1 ⟨rfl, hb1⟩; refine Hid.out ?_))
  refine Lib.hid ?_
  have B3 := (((Below.refl w.heap.size w).alloc (Nat.le_refl _) (.cells #[.int .i64 29, .int .i64 (a : Int), .int .i64 (b : Int), .int .i64 i] 61)).alloc (by simp) (.cells (cs s) 30)).alloc (by simp <;> omega) (.cells zcs 30)
  have X1 := ((Blk.new w #[.int .i64 29, .int .i64 (a : Int), .int .i64 (b : Int), .int .i64 i] 61).below ((Below.refl _ _).alloc (Nat.le_refl _) (.cells (cs s) 30))).below ((Below.refl _ _).alloc (Nat.le_refl _) (.cells zcs 30))
  have C1 := (Blk.new (w.alloc (.cells #[.int .i64 29, .int .i64 (a : Int), .int .i64 (b : Int), .int .i64 i] 61)) (cs s) 30).below ((Below.refl _ _).alloc (Nat.le_refl _) (.cells zcs 30))
  have R1 := Blk.new ((w.alloc (.cells #[.int .i64 29, .int .i64 (a : Int), .int .i64 (b : Int), .int .i64 i] 61)).alloc (.cells (cs s) 30)) zcs 30
  simp only [World.size_alloc] at C1 R1
  have X2 := X1.below hb1
  have C2 := C1.below hb1
  have R2 := R1.below hb1
  have D2 := B3.trans (hb1.mono B3.size)
  clear X1 C1 R1 B3
  have x1 := X2.cell 1
  have y1 := C2.cell (8 + a)
  rw [hca] at y1
  have f1 := C2.free (8 + a)
  have h0 : (store ⟨w.heap.size + 1, 8 + a, none⟩ (zc z')).run Tryd.prog w1 = .ok () (w1.setCell ⟨w.heap.size + 1, 8 + a, none⟩ (zc z')) := by rw [run_store _ _ _ _ _ rfl, y1]; simp [f1]
  have C3 := C2.set (8 + a) (zc z')
  rw [cs_setZ s z' ha] at C3
  have R3 := R2.other (w.heap.size + 1) (8 + a) (zc z') (by omega)
  have h1 := run_ldC C3 (cs_size _)
  have h2 := run_stC R3 rfl (cs_size (setZ s a z')) (cs_one _)
  have HR := Lib.hid (Blk.setAll R3 (ds := cs (setZ s a z')) rfl)
  have HS := Lib.hid (cs_size (setZ s a z'))
  have HD := Lib.hid (below_all (w.heap.size + 1 + 1) (by omega) (cs (setZ s a z')).toList 0 (D2.setCell (p := ⟨w.heap.size + 1, 8 + a, none⟩) (by show w.heap.size ≤ w.heap.size + 1; omega) (zc z')))
  clear C2 R2 D2 C3 R3 X2
  generalize hD : cs (setZ s a z') = D at *
  have HE := Lib.hid hD
  clear hD
  go_wp2
  refine bodyPost_ret (v := .agg D) ?_ rfl ⟨by rw [← HE.out], HD.out⟩
  exact results_cell_row rfl _ _ (w.heap.size + 1 + 1) 30 D (0, 0) _ rfl HR.out Tryd.underlying30 rfl (by rw [infoC, HS.out])

set_option maxRecDepth 100000 in
set_option maxHeartbeats 1000000 in
theorem turned_27 (w : World) (a b : Nat) (i : Int) (ha : a < 2) (hb : b < 2) (s : St) (hs : s.Ok) :
    Calls Tryd.prog 29 #[insV 27 (a : Nat) (b : Nat) i, cv s] w fun e w' => e = .returned (cv (zst 27 a b s)) ∧ Below w.heap.size w w' := by
  have hca := cs_z s ha
  have hai : (a : Int) < 2 := by omega
  have hai0 : (0 : Int) ≤ (a : Int) := by omega
  have hcb := cs_z s hb
  have hbi : (b : Int) < 2 := by omega
  have hbi0 : (0 : Int) ≤ (b : Int) := by omega
  obtain ⟨z', hz'⟩ : ∃ z', zpair (zre (s.z a) + zre (s.z b)) (zim (s.z a) + zim (s.z b)) = z' := ⟨_, rfl⟩
  have hzz : zst 27 a b s = setZ s a z' := by rw [← hz']; rfl
  have HC : Hid (∀ wx, Calls Tryd.prog 53 #[zc (s.z a), zc (s.z b)] wx fun e w' => e = .returned (zc z') ∧ Below wx.heap.size wx w') := Lib.hid (fun wx => by have := add_any (s.z a).1 (s.z a).2 (s.z b).1 (s.z b).2 wx; rw [← hz']; exact this)
  rw [hzz]
  clear hzz hs
  unfold insV
  go_enter Tryd.func29, Tryd.ntmps29
  go_wp2_with (first | (go_at_call 53; (with_reducible refine (HC.out _).mono ?_); rintro e w1 ⟨rfl, hb1⟩; refine Hid.out ?_))
  refine Lib.hid ?_
  have B3 := (((Below.refl w.heap.size w).alloc (Nat.le_refl _) (.cells #[.int .i64 27, .int .i64 (a : Int), .int .i64 (b : Int), .int .i64 i] 61)).alloc (by simp) (.cells (cs s) 30)).alloc (by simp <;> omega) (.cells zcs 30)
  have X1 := ((Blk.new w #[.int .i64 27, .int .i64 (a : Int), .int .i64 (b : Int), .int .i64 i] 61).below ((Below.refl _ _).alloc (Nat.le_refl _) (.cells (cs s) 30))).below ((Below.refl _ _).alloc (Nat.le_refl _) (.cells zcs 30))
  have C1 := (Blk.new (w.alloc (.cells #[.int .i64 27, .int .i64 (a : Int), .int .i64 (b : Int), .int .i64 i] 61)) (cs s) 30).below ((Below.refl _ _).alloc (Nat.le_refl _) (.cells zcs 30))
  have R1 := Blk.new ((w.alloc (.cells #[.int .i64 27, .int .i64 (a : Int), .int .i64 (b : Int), .int .i64 i] 61)).alloc (.cells (cs s) 30)) zcs 30
  simp only [World.size_alloc] at C1 R1
  have X2 := X1.below hb1
  have C2 := C1.below hb1
  have R2 := R1.below hb1
  have D2 := B3.trans (hb1.mono B3.size)
  clear X1 C1 R1 B3
  have x1 := X2.cell 1
  have y1 := C2.cell (8 + a)
  rw [hca] at y1
  have f1 := C2.free (8 + a)
  have h0 : (store ⟨w.heap.size + 1, 8 + a, none⟩ (zc z')).run Tryd.prog w1 = .ok () (w1.setCell ⟨w.heap.size + 1, 8 + a, none⟩ (zc z')) := by rw [run_store _ _ _ _ _ rfl, y1]; simp [f1]
  have C3 := C2.set (8 + a) (zc z')
  rw [cs_setZ s z' ha] at C3
  have R3 := R2.other (w.heap.size + 1) (8 + a) (zc z') (by omega)
  have h1 := run_ldC C3 (cs_size _)
  have h2 := run_stC R3 rfl (cs_size (setZ s a z')) (cs_one _)
  have HR := Lib.hid (Blk.setAll R3 (ds := cs (setZ s a z')) rfl)
  have HS := Lib.hid (cs_size (setZ s a z'))
  have HD := Lib.hid (below_all (w.heap.size + 1 + 1) (by omega) (cs (setZ s a z')).toList 0 (D2.setCell (p := ⟨w.heap.size + 1, 8 + a, none⟩) (by show w.heap.size ≤ w.heap.size + 1; omega) (zc z')))
  clear C2 R2 D2 C3 R3 X2
  generalize hD : cs (setZ s a z') = D at *
  have HE := Lib.hid hD
  clear hD
  go_wp2
  refine bodyPost_ret (v := .agg D) ?_ rfl ⟨by rw [← HE.out], HD.out⟩
  exact results_cell_row rfl _ _ (w.heap.size + 1 + 1) 30 D (0, 0) _ rfl HR.out Tryd.underlying30 rfl (by rw [infoC, HS.out])

set_option maxRecDepth 100000 in
set_option maxHeartbeats 1000000 in
theorem turned_28 (w : World) (a b : Nat) (i : Int) (ha : a < 2) (hb : b < 2) (s : St) (hs : s.Ok) :
    Calls Tryd.prog 29 #[insV 28 (a : Nat) (b : Nat) i, cv s] w fun e w' => e = .returned (cv (zst 28 a b s)) ∧ Below w.heap.size w w' := by
  have hca := cs_z s ha
  have hai : (a : Int) < 2 := by omega
  have hai0 : (0 : Int) ≤ (a : Int) := by omega
  have hcb := cs_z s hb
  have hbi : (b : Int) < 2 := by omega
  have hbi0 : (0 : Int) ≤ (b : Int) := by omega
  obtain ⟨z', hz'⟩ : ∃ z', zpair (zre (s.z a) * zre (s.z b) - zim (s.z a) * zim (s.z b)) (zre (s.z a) * zim (s.z b) + zim (s.z a) * zre (s.z b)) = z' := ⟨_, rfl⟩
  have hzz : zst 28 a b s = setZ s a z' := by rw [← hz']; rfl
  have HC : Hid (∀ wx, Calls Tryd.prog 54 #[zc (s.z a), zc (s.z b)] wx fun e w' => e = .returned (zc z') ∧ Below wx.heap.size wx w') := Lib.hid (fun wx => by have := mul_any (s.z a).1 (s.z a).2 (s.z b).1 (s.z b).2 wx; rw [← hz']; exact this)
  rw [hzz]
  clear hzz hs
  unfold insV
  go_enter Tryd.func29, Tryd.ntmps29
  go_wp2_with (first | (go_at_call 54; (with_reducible refine (HC.out _).mono ?_); rintro e w1 ⟨rfl, hb1⟩; refine Hid.out ?_))
  refine Lib.hid ?_
  have B3 := (((Below.refl w.heap.size w).alloc (Nat.le_refl _) (.cells #[.int .i64 28, .int .i64 (a : Int), .int .i64 (b : Int), .int .i64 i] 61)).alloc (by simp) (.cells (cs s) 30)).alloc (by simp <;> omega) (.cells zcs 30)
  have X1 := ((Blk.new w #[.int .i64 28, .int .i64 (a : Int), .int .i64 (b : Int), .int .i64 i] 61).below ((Below.refl _ _).alloc (Nat.le_refl _) (.cells (cs s) 30))).below ((Below.refl _ _).alloc (Nat.le_refl _) (.cells zcs 30))
  have C1 := (Blk.new (w.alloc (.cells #[.int .i64 28, .int .i64 (a : Int), .int .i64 (b : Int), .int .i64 i] 61)) (cs s) 30).below ((Below.refl _ _).alloc (Nat.le_refl _) (.cells zcs 30))
  have R1 := Blk.new ((w.alloc (.cells #[.int .i64 28, .int .i64 (a : Int), .int .i64 (b : Int), .int .i64 i] 61)).alloc (.cells (cs s) 30)) zcs 30
  simp only [World.size_alloc] at C1 R1
  have X2 := X1.below hb1
  have C2 := C1.below hb1
  have R2 := R1.below hb1
  have D2 := B3.trans (hb1.mono B3.size)
  clear X1 C1 R1 B3
  have x1 := X2.cell 1
  have y1 := C2.cell (8 + a)
  rw [hca] at y1
  have f1 := C2.free (8 + a)
  have h0 : (store ⟨w.heap.size + 1, 8 + a, none⟩ (zc z')).run Tryd.prog w1 = .ok () (w1.setCell ⟨w.heap.size + 1, 8 + a, none⟩ (zc z')) := by rw [run_store _ _ _ _ _ rfl, y1]; simp [f1]
  have C3 := C2.set (8 + a) (zc z')
  rw [cs_setZ s z' ha] at C3
  have R3 := R2.other (w.heap.size + 1) (8 + a) (zc z') (by omega)
  have h1 := run_ldC C3 (cs_size _)
  have h2 := run_stC R3 rfl (cs_size (setZ s a z')) (cs_one _)
  have HR := Lib.hid (Blk.setAll R3 (ds := cs (setZ s a z')) rfl)
  have HS := Lib.hid (cs_size (setZ s a z'))
  have HD := Lib.hid (below_all (w.heap.size + 1 + 1) (by omega) (cs (setZ s a z')).toList 0 (D2.setCell (p := ⟨w.heap.size + 1, 8 + a, none⟩) (by show w.heap.size ≤ w.heap.size + 1; omega) (zc z')))
  clear C2 R2 D2 C3 R3 X2
  generalize hD : cs (setZ s a z') = D at *
  have HE := Lib.hid hD
  clear hD
  go_wp2
  refine bodyPost_ret (v := .agg D) ?_ rfl ⟨by rw [← HE.out], HD.out⟩
  exact results_cell_row rfl _ _ (w.heap.size + 1 + 1) 30 D (0, 0) _ rfl HR.out Tryd.underlying30 rfl (by rw [infoC, HS.out])

set_option maxRecDepth 100000 in
set_option maxHeartbeats 1000000 in
theorem turned_25 (w : World) (a b : Nat) (i : Int) (ha : a < 2) (hb : b < 7) (s : St) (hs : s.Ok) :
    Calls Tryd.prog 29 #[insV 25 (a : Nat) (b : Nat) i, cv s] w fun e w' => e = .returned (cv (zst 25 a b s)) ∧ Below w.heap.size w w' := by
  have hca := cs_z s ha
  have hai : (a : Int) < 2 := by omega
  have hai0 : (0 : Int) ≤ (a : Int) := by omega
  have hcb := cs_r s (show b < 8 by omega)
  have hcb1 := cs_r s (show b + 1 < 8 by omega)
  have hbi : (b : Int) < 8 := by omega
  have hbi0 : (0 : Int) ≤ (b : Int) := by omega
  have hbi1 : (b : Int) + 1 < 8 := by omega
  have hbi2 : (0 : Int) ≤ (b : Int) + 1 := by omega
  obtain ⟨z', hz'⟩ : ∃ z', zpair (sx (s.r b)) (sx (s.r (b + 1))) = z' := ⟨_, rfl⟩
  have hzz : zst 25 a b s = setZ s a z' := by rw [← hz']; rfl
  have HC : Hid (∀ wx, Calls Tryd.prog 51 #[uv (s.r b), uv (s.r (b + 1))] wx fun e w' => e = .returned (zc z') ∧ wx = w') := Lib.hid (fun wx => by have := from_any (s.r b) (s.r (b + 1)) ⟨hs.r0 _, hs.r1 _⟩ ⟨hs.r0 _, hs.r1 _⟩ wx; rw [← hz']; exact this)
  rw [hzz]
  clear hzz hs
  unfold insV
  go_enter Tryd.func29, Tryd.ntmps29
  go_wp2
  go_quiet ((go_at_call 51; exact quiet (HC.out _)))
  have B3 := (((Below.refl w.heap.size w).alloc (Nat.le_refl _) (.cells #[.int .i64 25, .int .i64 (a : Int), .int .i64 (b : Int), .int .i64 i] 61)).alloc (by simp) (.cells (cs s) 30)).alloc (by simp <;> omega) (.cells zcs 30)
  have X1 := ((Blk.new w #[.int .i64 25, .int .i64 (a : Int), .int .i64 (b : Int), .int .i64 i] 61).below ((Below.refl _ _).alloc (Nat.le_refl _) (.cells (cs s) 30))).below ((Below.refl _ _).alloc (Nat.le_refl _) (.cells zcs 30))
  have C1 := (Blk.new (w.alloc (.cells #[.int .i64 25, .int .i64 (a : Int), .int .i64 (b : Int), .int .i64 i] 61)) (cs s) 30).below ((Below.refl _ _).alloc (Nat.le_refl _) (.cells zcs 30))
  have R1 := Blk.new ((w.alloc (.cells #[.int .i64 25, .int .i64 (a : Int), .int .i64 (b : Int), .int .i64 i] 61)).alloc (.cells (cs s) 30)) zcs 30
  simp only [World.size_alloc] at C1 R1
  have hb1 := drew_below (((w.alloc (.cells #[.int .i64 25, .int .i64 (a : Int), .int .i64 (b : Int), .int .i64 i] 61)).alloc (.cells (cs s) 30)).alloc (.cells zcs 30)).heap.size (((w.alloc (.cells #[.int .i64 25, .int .i64 (a : Int), .int .i64 (b : Int), .int .i64 i] 61)).alloc (.cells (cs s) 30)).alloc (.cells zcs 30)) nq
  generalize ((((w.alloc (.cells #[.int .i64 25, .int .i64 (a : Int), .int .i64 (b : Int), .int .i64 i] 61)).alloc (.cells (cs s) 30)).alloc (.cells zcs 30)).drewN nq) = w1 at *
  have X2 := X1.below hb1
  have C2 := C1.below hb1
  have R2 := R1.below hb1
  have D2 := B3.trans (hb1.mono B3.size)
  clear X1 C1 R1 B3
  have x1 := X2.cell 1
  have y1 := C2.cell (8 + a)
  rw [hca] at y1
  have f1 := C2.free (8 + a)
  have h0 : (store ⟨w.heap.size + 1, 8 + a, none⟩ (zc z')).run Tryd.prog w1 = .ok () (w1.setCell ⟨w.heap.size + 1, 8 + a, none⟩ (zc z')) := by rw [run_store _ _ _ _ _ rfl, y1]; simp [f1]
  have C3 := C2.set (8 + a) (zc z')
  rw [cs_setZ s z' ha] at C3
  have R3 := R2.other (w.heap.size + 1) (8 + a) (zc z') (by omega)
  have h1 := run_ldC C3 (cs_size _)
  have h2 := run_stC R3 rfl (cs_size (setZ s a z')) (cs_one _)
  have HR := Lib.hid (Blk.setAll R3 (ds := cs (setZ s a z')) rfl)
  have HS := Lib.hid (cs_size (setZ s a z'))
  have HD := Lib.hid (below_all (w.heap.size + 1 + 1) (by omega) (cs (setZ s a z')).toList 0 (D2.setCell (p := ⟨w.heap.size + 1, 8 + a, none⟩) (by show w.heap.size ≤ w.heap.size + 1; omega) (zc z')))
  clear C2 R2 D2 C3 R3 X2
  generalize hD : cs (setZ s a z') = D at *
  have HE := Lib.hid hD
  clear hD
  go_wp2
  refine bodyPost_ret (v := .agg D) ?_ rfl ⟨by rw [← HE.out], HD.out⟩
  exact results_cell_row rfl _ _ (w.heap.size + 1 + 1) 30 D (0, 0) _ rfl HR.out Tryd.underlying30 rfl (by rw [infoC, HS.out])

set_option maxRecDepth 100000 in
set_option maxHeartbeats 2000000 in
theorem turned_26 (w : World) (a b : Nat) (i : Int) (ha : a < 2) (hb : b < 7) (s : St) (hs : s.Ok) :
    Calls Tryd.prog 29 #[insV 26 (a : Nat) (b : Nat) i, cv s] w fun e w' => e = .returned (cv (zst 26 a b s)) ∧ Below w.heap.size w w' := by
  have hca := cs_z s ha
  have hai : (a : Int) < 2 := by omega
  have hai0 : (0 : Int) ≤ (a : Int) := by omega
  obtain ⟨c, hc⟩ : ∃ c, c = b + 1 := ⟨_, rfl⟩
  have hcb := cs_r s (show b < 8 by omega)
  have hcc := cs_r s (show c < 8 by omega)
  have hbi : (b : Int) < 8 := by omega
  have hbi0 : (0 : Int) ≤ (b : Int) := by omega
  have hci : (c : Int) < 8 := by omega
  have hci0 : (0 : Int) ≤ (c : Int) := by omega
  have hcI : (b : Int) + 1 = (c : Int) := by omega
  have hne : b ≠ c := by omega
  have hwr : IntKind.i64.wrap (c : Int) = (c : Int) := by rw [IntKind.wrap_i64]; omega
  have HC1 := Lib.hid (fun v => cs_setR s (k := b) v (show b < 8 by omega))
  have HC2 := Lib.hid (fun s' v => cs_setR s' (k := c) v (show c < 8 by omega))
  obtain ⟨v1, hv1⟩ : ∃ v1, wd (zre (s.z a)) = v1 := ⟨_, rfl⟩
  obtain ⟨v2, hv2⟩ : ∃ v2, wd (zim (s.z a)) = v2 := ⟨_, rfl⟩
  have hzz : zst 26 a b s = setZ (setR (setR s b v1) c v2) a (s.z a) := by rw [← hv1, ← hv2, hc]; exact (setZ_same (setR (setR s b (wd (zre (s.z a)))) (b + 1) (wd (zim (s.z a)))) a).symm
  have HC : Hid (∀ wx, Calls Tryd.prog 52 #[zc (s.z a)] wx fun e w' => e = .returned (.tuple #[uv v1, uv v2]) ∧ Below wx.heap.size wx w') := Lib.hid (fun wx => by have := words_any (s.z a).1 (s.z a).2 wx; rw [← hv1, ← hv2]; exact this)
  rw [hzz]
  clear hzz hs
  unfold insV
  have B3 := (((Below.refl w.heap.size w).alloc (Nat.le_refl _) (.cells #[.int .i64 26, .int .i64 (a : Int), .int .i64 (b : Int), .int .i64 i] 61)).alloc (by simp) (.cells (cs s) 30)).alloc (by simp <;> omega) (.cells zcs 30)
  have X1 := ((Blk.new w #[.int .i64 26, .int .i64 (a : Int), .int .i64 (b : Int), .int .i64 i] 61).below ((Below.refl _ _).alloc (Nat.le_refl _) (.cells (cs s) 30))).below ((Below.refl _ _).alloc (Nat.le_refl _) (.cells zcs 30))
  have C1 := (Blk.new (w.alloc (.cells #[.int .i64 26, .int .i64 (a : Int), .int .i64 (b : Int), .int .i64 i] 61)) (cs s) 30).below ((Below.refl _ _).alloc (Nat.le_refl _) (.cells zcs 30))
  have R1 := Blk.new ((w.alloc (.cells #[.int .i64 26, .int .i64 (a : Int), .int .i64 (b : Int), .int .i64 i] 61)).alloc (.cells (cs s) 30)) zcs 30
  simp only [World.size_alloc] at C1 R1
  have B4 := B3.drew
  have HB := Lib.hid (fun w1 (hb1 : Below (((w.alloc (.cells #[.int .i64 26, .int .i64 (a : Int), .int .i64 (b : Int), .int .i64 i] 61)).alloc (.cells (cs s) 30)).alloc (.cells zcs 30)).drew.heap.size (((w.alloc (.cells #[.int .i64 26, .int .i64 (a : Int), .int .i64 (b : Int), .int .i64 i] 61)).alloc (.cells (cs s) 30)).alloc (.cells zcs 30)).drew w1) => (show w1.cell? ⟨w.heap.size, 1, none⟩ = some (.int .i64 (a : Int)) ∧ w1.cell? ⟨w.heap.size, 2, none⟩ = some (.int .i64 (b : Int)) ∧ Blk w1 (w.heap.size + 1) (cs s) 30 ∧ Blk w1 (w.heap.size + 1 + 1) zcs 30 ∧ Below w.heap.size w w1 from ⟨((X1.below ((Below.refl _ _).drew)).below hb1).cell 1, ((X1.below ((Below.refl _ _).drew)).below hb1).cell 2, (C1.below ((Below.refl _ _).drew)).below hb1, (R1.below ((Below.refl _ _).drew)).below hb1, B4.trans (hb1.mono B4.size)⟩))
  have HA := Lib.hid (HB.out _ (Below.refl _ _)).2.1
  have HN := Lib.hid hne
  have HAA := Lib.hid ha
  have HY : Hid (((cs s).setIfInBounds b (uv v1))[c]? = some (uv (s.r c))) := Lib.hid (by rw [Array.getElem?_setIfInBounds, if_neg hne]; exact hcc)
  clear hne hc hb ha
  clear B3 X1 C1 R1 B4
  go_enter Tryd.func29, Tryd.ntmps29
  go_wp2
  go_region_held (fun w' => w'.cell? ⟨w.heap.size, 2, none⟩ = some (.int .i64 (b : Int))) (first | exact (HB.out _ hb1).2.1 | exact HA.out | go_keep) ((go_at_call 52; (with_reducible refine (HC.out _).mono ?_); rintro e w1 ⟨rfl, hb1⟩; obtain ⟨x1, x2, C2, R2, D2⟩ := HB.out _ hb1; have y1 := C2.cell b; have y2 := C2.cell c; have f1 := C2.free b; have f2 := C2.free c; rw [hcb] at y1; rw [hcc] at y2; have y3 := ((C2.set b (uv v1)).cell c).trans HY.out; have f3 := (C2.set b (uv v1)).free c))
  have C3 := C2.set b (uv v1)
  rw [HC1.out] at C3
  have C4 := C3.set c (uv v2)
  rw [HC2.out] at C4
  have R4 := (R2.other (w.heap.size + 1) b (uv v1) (by omega)).other (w.heap.size + 1) c (uv v2) (by omega)
  have D4 := (D2.setCell (p := ⟨w.heap.size + 1, b, none⟩) (by show w.heap.size ≤ w.heap.size + 1; omega) (uv v1)).setCell (p := ⟨w.heap.size + 1, c, none⟩) (by show w.heap.size ≤ w.heap.size + 1; omega) (uv v2)
  have x1' : ((w1.setCell ⟨w.heap.size + 1, b, none⟩ (uv v1)).setCell ⟨w.heap.size + 1, c, none⟩ (uv v2)).cell? ⟨w.heap.size, 1, none⟩ = some (.int .i64 (a : Int)) := by
    rw [World.cell?_setCell_other _ _ _ _ (fun e => by have := congrArg Addr.block e; simp at this), World.cell?_setCell_other _ _ _ _ (fun e => by have := congrArg Addr.block e; simp at this)]
    exact x1
  clear x1 x2 C2 R2 D2 y1 y2 f1 f2 y3 f3 C3 hb1
  obtain ⟨s2, hs2⟩ : ∃ s2, setR (setR s b v1) c v2 = s2 := ⟨_, rfl⟩
  have hz2 : s2.z a = s.z a := by rw [← hs2]; rfl
  rw [hs2] at C4
  have HS2 := Lib.hid hs2
  have ha := HAA.out
  generalize hW : ((w1.setCell ⟨w.heap.size + 1, b, none⟩ (uv v1)).setCell ⟨w.heap.size + 1, c, none⟩ (uv v2)) = w3 at *
  have y1 := C4.cell (8 + a)
  rw [cs_z s2 ha, hz2] at y1
  have f1 := C4.free (8 + a)
  have h0 : (store ⟨w.heap.size + 1, 8 + a, none⟩ (zc (s.z a))).run Tryd.prog w3 = .ok () (w3.setCell ⟨w.heap.size + 1, 8 + a, none⟩ (zc (s.z a))) := by rw [run_store _ _ _ _ _ rfl, y1]; simp [f1]
  have C5 := C4.set (8 + a) (zc (s.z a))
  rw [cs_setZ s2 (s.z a) ha] at C5
  have R5 := R4.other (w.heap.size + 1) (8 + a) (zc (s.z a)) (by omega)
  have h1 := run_ldC C5 (cs_size _)
  have h2 := run_stC R5 rfl (cs_size (setZ s2 a (s.z a))) (cs_one _)
  have HR := Lib.hid (Blk.setAll R5 (ds := cs (setZ s2 a (s.z a))) rfl)
  have HS := Lib.hid (cs_size (setZ s2 a (s.z a)))
  have HD := Lib.hid (below_all (w.heap.size + 1 + 1) (by omega) (cs (setZ s2 a (s.z a))).toList 0 (D4.setCell (p := ⟨w.heap.size + 1, 8 + a, none⟩) (by show w.heap.size ≤ w.heap.size + 1; omega) (zc (s.z a))))
  clear C4 R4 D4 C5 R5 hz2 hs2 ha hW
  generalize hD : cs (setZ s2 a (s.z a)) = D at *
  have HE := Lib.hid hD
  clear hD
  go_wp2
  refine bodyPost_ret (v := .agg D) ?_ rfl ⟨by rw [← HE.out, HS2.out], HD.out⟩
  exact results_cell_row rfl _ _ (w.heap.size + 1 + 1) 30 D (0, 0) _ rfl HR.out Tryd.underlying30 rfl (by rw [infoC, HS.out])
end Go.Proofs.YtgnpbedhpkmkfaaDoor.CoX

/-
  Step, begun: what a step's worlds keep.
-/
namespace Go.Proofs.YtgnpbedhpkmkfaaDoor.CoW
open Go Go.RowKit Kit Bk CoM CoR CoB
set_option linter.unusedVariables false
theorem Wrote.refl {w : World} {B : Nat} {ad : Option Addr} {cap : Nat} {b : CoM.Bs} (h : Lies w B ad cap b) : Wrote w B ad cap b w := ⟨h, Kp.refl _ _⟩
theorem Wrote.trans {w w1 w2 : World} {B : Nat} {ad : Option Addr} {cap : Nat} {b b' : CoM.Bs} (h : Wrote w B ad cap b w1) (k : Wrote w1 B ad cap b' w2) : Wrote w B ad cap b' w2 := ⟨k.lies, h.kp.trans k.kp (fun _ h => .inl h)⟩
theorem Wrote.below {w w1 w2 : World} {B : Nat} {ad : Option Addr} {cap : Nat} {b : CoM.Bs} (h : Wrote w B ad cap b w1) (k : Below w1.heap.size w1 w2) : Wrote w B ad cap b w2 := ⟨Lies.below h.lies k, h.kp.trans (.of_below k) (fun _ h => .inl h)⟩
theorem Wrote.set {w w1 : World} {B : Nat} {ad : Option Addr} {cap : Nat} {b : CoM.Bs} (h : Wrote w B ad cap b w1) (hB : b = [] ∨ B < w.heap.size) (g o : Nat) (v : Value) (hg : w.heap.size ≤ g) : Wrote w B ad cap b (w1.setCell ⟨g, o, none⟩ v) := by
  have K := Kp.set (S := fun j => j = g) w1 g o v rfl
  refine ⟨?_, h.kp.trans K (fun j e => .inr (by omega))⟩
  rcases hB with rfl | hB
  · exact ⟨h.lies.le, h.lies.small, .inl rfl⟩
  · exact Lies.kept h.lies K (by omega)
theorem Wrote.sets {w : World} {B : Nat} {ad : Option Addr} {cap : Nat} {b : CoM.Bs} (hB : b = [] ∨ B < w.heap.size) (g : Nat) (hg : w.heap.size ≤ g) : ∀ (vs : List Value) (o : Nat) {w1 : World}, Wrote w B ad cap b w1 → Wrote w B ad cap b (w1.setCells g o vs)
  | [], _, _, h => h
  | v :: r, o, _, h => Wrote.sets hB g hg r (o + 1) (h.set hB g o v hg)
theorem Wrote.alloc {w w1 : World} {B : Nat} {ad : Option Addr} {cap : Nat} {b : CoM.Bs} (h : Wrote w B ad cap b w1) (o : Obj) : Wrote w B ad cap b (w1.alloc o) := h.below ((Below.refl _ _).alloc (Nat.le_refl _) _)
theorem Wrote.drew {w w1 : World} {B : Nat} {ad : Option Addr} {cap : Nat} {b : CoM.Bs} (h : Wrote w B ad cap b w1) : Wrote w B ad cap b w1.drew := h.below ((Below.refl _ _).drew)
theorem Wrote.of_below {w w1 : World} {B : Nat} {ad : Option Addr} {cap : Nat} {b : CoM.Bs} (h : Lies w B ad cap b) (k : Below w.heap.size w w1) : Wrote w B ad cap b w1 := (Wrote.refl h).below k

end Go.Proofs.YtgnpbedhpkmkfaaDoor.CoW
namespace Go.Proofs.YtgnpbedhpkmkfaaDoor.CoY
open Go Go.RowKit Kit Bk CoM CoR CoB CoW CoI CoF CoT CoU CoV CoC CoX IsaM IsaT IsaL IsaC IsaE IsaN
set_option linter.unusedVariables false

theorem Lies.lt {w : World} {B : Nat} {ad : Option Addr} {cap : Nat} {b : CoM.Bs} (h : Lies w B ad cap b) : b = [] ∨ B < w.heap.size := h.row.imp id fun ⟨_, _, _, _, _, h4, _⟩ => h4.lt
theorem turned_any (w : World) (k a b : Nat) (i : Int) (hf : Fits k a b i) (hk : 25 ≤ k) (s : St) (hs : s.Ok) :
    Calls Tryd.prog 29 #[insV (k : Nat) (a : Nat) (b : Nat) i, cv s] w fun e w' => e = .returned (cv (zst k a b s)) ∧ Below w.heap.size w w' := by
  have h30 := hf.k30
  have ha := hf.a1
  have hb := hf.b1
  have hc : k = 25 ∨ k = 26 ∨ k = 27 ∨ k = 28 ∨ k = 29 := by omega
  rcases hc with rfl | rfl | rfl | rfl | rfl
  · exact turned_25 w a b i (by simp [mA, sigT] at ha; omega) (by simp [mB, sigT] at hb; omega) s hs
  · exact turned_26 w a b i (by simp [mA, sigT] at ha; omega) (by simp [mB, sigT] at hb; omega) s hs
  · exact turned_27 w a b i (by simp [mA, sigT] at ha; omega) (by simp [mB, sigT] at hb; omega) s hs
  · exact turned_28 w a b i (by simp [mA, sigT] at ha; omega) (by simp [mB, sigT] at hb; omega) s hs
  · exact turned_29 w a b i (by simp [mA, sigT] at ha; omega) s hs

/-- What a step's world holds: the Cpu, the result, the instruction, the Cpu behind it. -/
structure Four (w : World) (n X : Nat) (s : St) (k a b i : Int) (d : Array Value) (w1 : World) : Prop where
  c : Blk w1 n (cs s) 30
  r : Blk w1 (n + 1) zcs 30
  x : Blk w1 X #[.int .i64 k, .int .i64 a, .int .i64 b, .int .i64 i] 61
  e : Blk w1 (X + 1) d 30
  nX : n + 1 < X
theorem Four.below {w w1 w2 : World} {n X : Nat} {s : St} {k a b i : Int} {d : Array Value} (h : Four w n X s k a b i d w1) (hb : Below w1.heap.size w1 w2) : Four w n X s k a b i d w2 := ⟨h.c.below hb, h.r.below hb, h.x.below hb, h.e.below hb, h.nX⟩
theorem Four.kept {w w1 w2 : World} {n X B : Nat} {s : St} {k a b i : Int} {d : Array Value} (h : Four w n X s k a b i d w1) (hb : Kp (fun j => j = B) w1 w2) (hB : B < n) : Four w n X s k a b i d w2 := ⟨h.c.kept hb (by omega), h.r.kept hb (by omega), h.x.kept hb (by have := h.nX; omega), h.e.kept hb (by have := h.nX; omega), h.nX⟩
theorem Four.set {w w1 : World} {n X : Nat} {s : St} {k a b i : Int} {d : Array Value} (h : Four w n X s k a b i d w1) (o : Nat) (v : Value) : Four w n X s k a b i (d.setIfInBounds o v) (w1.setCell ⟨X + 1, o, none⟩ v) :=
  ⟨h.c.other _ _ _ (by have := h.nX; omega), h.r.other _ _ _ (by have := h.nX; omega), h.x.other _ _ _ (by omega), h.e.set o v, h.nX⟩
theorem Blk.otherAll {w : World} {b g : Nat} {T : TypeId} {ds : Array Value} (h : Blk w b ds T) (hne : b ≠ g) (vs : List Value) (o : Nat) : Blk (w.setCells g o vs) b ds T := h.kept (Kp.sets (S := fun j => j = g) g rfl vs o w) hne
theorem Four.all {w w1 : World} {n X : Nat} {s : St} {k a b i : Int} {d : Array Value} (h : Four w n X s k a b i d w1) (ds : Array Value) (hs : ds.size = d.size) : Four w n X s k a b i ds (w1.setCells (X + 1) 0 ds.toList) :=
  ⟨Blk.otherAll h.c (by have := h.nX; omega) _ _, Blk.otherAll h.r (by have := h.nX; omega) _ _, Blk.otherAll h.x (by omega) _ _, Blk.setAll h.e hs, h.nX⟩
end Go.Proofs.YtgnpbedhpkmkfaaDoor.CoY
