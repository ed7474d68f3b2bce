/-
  only: a call of its number and the words that are its own.
-/
import Derived.Test.YtlddjjkbnhhfaaaDoorClf
import Derived.Test.YtlddjjkbnhhfaaaDoorBk
import Derived.Laws.CopyRow
namespace Go.Proofs.YtlddjjkbnhhfaaaDoor.Clh
open Go Go.RowKit Go.Shelf Kit IsaM Cla Clt Clf Bk
set_option linter.unusedVariables false

/-- A call as a value. -/
def ccs (x : Cl) : Array Value := #[.int .i64 x.n, .int .u32 (x.a : Int), .int .u32 (x.b : Int), .int .u32 (x.c : Int)]
def cv (x : Cl) : Value := .agg (ccs x)
/-- Three words lie at b from off on. -/
def Wds (w : World) (b off : Nat) (xs : Nat → Nat) : Prop := b < w.heap.size ∧ ∀ j, j < 3 → w.cell? ⟨b, off + j, none⟩ = some (.int .u32 (xs j : Int))
theorem Wds.below {w w' : World} {b off : Nat} {xs : Nat → Nat} (h : Wds w b off xs) (hb : Below w.heap.size w w') : Wds w' b off xs :=
  ⟨Nat.lt_of_lt_of_le h.1 hb.size, fun j hj => (hb.cell (p := ⟨b, off + j, none⟩) h.1).trans (h.2 j hj)⟩
def wds (xs : Nat → Nat) (m : Nat) : List Value := (List.range m).map fun i => Value.int .u32 (xs i : Int)
theorem Wds.src {w : World} {b off : Nat} {xs : Nat → Nat} (h : Wds w b off xs) (m : Nat) (hm : m ≤ 3) (j : Nat) (v : Value) (hj : (wds xs m)[j]? = some v) : w.cell? ((⟨b, off, none⟩ : Addr).add j) = some v := by
  unfold wds at hj
  have hjm : j < m := by
    have := (List.getElem?_eq_some_iff.1 hj).1
    simpa using this
  rw [List.getElem?_map, List.getElem?_range hjm] at hj
  rw [show (⟨b, off, none⟩ : Addr).add j = ⟨b, off + j, none⟩ by unfold Addr.add; split <;> simp_all, h.2 j (by omega)]
  exact hj
def c0s (n : Int) : Array Value := #[.int .i64 n, .int .u32 0, .int .u32 0, .int .u32 0]
theorem row_eq {k m : Nat} (h1 : 1 ≤ k) (h2 : k < 23) (hm : mn k = m) (xs : Nat → Nat) : ((c0s k).toList.take 1 ++ wds xs m ++ (c0s k).toList.drop (1 + (wds xs m).length)).toArray = ccs (only (k : Int) xs) := by
  have h3 := mn3 h2
  unfold only ccs
  rw [many_nat h1 h2, hm]
  have : m = 0 ∨ m = 1 ∨ m = 2 ∨ m = 3 := by omega
  rcases this with rfl | rfl | rfl | rfl <;> rfl
theorem hal3 : Tryd.prog.arrayLen 25 = 3 := by kernel_rfl
theorem sl_args (g o m : Nat) (hm : m ≤ 3) (W : World) : (Instr.sliceAt 25 (.pointer (some ⟨g, o, none⟩)) none (some (.int .i64 (m : Int))) none).run Tryd.prog W = .ok (.slice (some ⟨g, o, none⟩) m 3) W := by
  rw [run_sliceAt_array_h W 25 ⟨g, o, none⟩ (by kernel_rfl) .i64 (m : Int) (by omega) (by rw [hal3]; omega), hal3]
  go_simp
set_option maxRecDepth 100000 in
set_option maxHeartbeats 2000000 in
theorem only_in (k m : Nat) (h1 : 1 ≤ k) (h2 : k < 23) (hm : mn k = m) (xs : Nat → Nat) (b off len cap : Nat) (hl : 3 ≤ len) (hlc : len ≤ cap) (hcap : cap ≤ maxLen) (w : World) (hT : Rw w) (hx : Wds w b off xs) :
    Calls Tryd.prog 32 #[.int .i64 (k : Int), .slice (some ⟨b, off, none⟩) len cap] w fun e w' => e = .returned (cv (only (k : Int) xs)) ∧ Below w.heap.size w w' := by
  have hm3 : m ≤ 3 := hm ▸ mn3 h2
  have HM : Hid (∀ wx, Below w.heap.size w wx → Calls Tryd.prog 13 #[.int .i64 (k : Int)] wx fun e w' => e = .returned (.int .i64 (m : Int)) ∧ wx = w') := Lib.hid (fun wx hb => by
    have := many_any (k : Int) wx (hT.below hb)
    rw [many_nat h1 h2, hm] at this
    exact this)
  have hR := row_eq h1 h2 hm xs
  obtain ⟨y, hy⟩ : ∃ y, only (k : Int) xs = y := ⟨_, rfl⟩
  rw [hy] at hR ⊢
  obtain ⟨X, hX⟩ : ∃ X, ccs y = X := ⟨_, rfl⟩
  rw [hX] at hR
  have x0 : X[0]? = some (.int .i64 y.n) := by rw [← hX]; rfl
  have x1 : X[1]? = some (.int .u32 (y.a : Int)) := by rw [← hX]; rfl
  have x2 : X[2]? = some (.int .u32 (y.b : Int)) := by rw [← hX]; rfl
  have x3 : X[3]? = some (.int .u32 (y.c : Int)) := by rw [← hX]; rfl
  have hcv : cv y = .agg #[.int .i64 y.n, .int .u32 (y.a : Int), .int .u32 (y.b : Int), .int .u32 (y.c : Int)] := rfl
  rw [hcv]
  unfold maxLen at hcap
  have b1 := (Below.refl w.heap.size w).alloc (Nat.le_refl _) (.cells #[.int .i64 0, .int .u32 0, .int .u32 0, .int .u32 0] 27)
  have b2 := b1.alloc b1.size (.cells #[.int .i64 (k : Int), .int .u32 0, .int .u32 0, .int .u32 0] 27)
  have HB := Lib.hid b2
  have hblk := Blk.new (w.alloc (.cells #[.int .i64 0, .int .u32 0, .int .u32 0, .int .u32 0] 27)) #[.int .i64 (k : Int), .int .u32 0, .int .u32 0, .int .u32 0] 27
  have hblk0 := (Blk.new w #[.int .i64 0, .int .u32 0, .int .u32 0, .int .u32 0] 27).below ((Below.refl _ _).alloc (Nat.le_refl _) (.cells #[.int .i64 (k : Int), .int .u32 0, .int .u32 0, .int .u32 0] 27))
  rw [World.size_alloc] at hblk
  have hcp := run_copy_row (P := Tryd.prog) ((w.alloc (.cells #[.int .i64 0, .int .u32 0, .int .u32 0, .int .u32 0] 27)).alloc (.cells #[.int .i64 (k : Int), .int .u32 0, .int .u32 0, .int .u32 0] 27)) 50 50 3 22 (w.heap.size + 1) 1 m 3 ⟨b, off, none⟩ len cap (c0s k) 27 (wds xs m) Tryd.underlying50 (by kernel_rfl) hblk (by simp [wds]; exact (Nat.min_eq_right (by omega)).symm) (fun j v hj => (hx.below b2).src m hm3 j v hj) (by simp [wds, c0s]; omega) (by simp [wds, Value.oneCell'])
  rw [hR, show (wds xs m).length = m by simp [wds]] at hcp
  have b3 : Below w.heap.size w (((w.alloc (.cells #[.int .i64 0, .int .u32 0, .int .u32 0, .int .u32 0] 27)).alloc (.cells #[.int .i64 (k : Int), .int .u32 0, .int .u32 0, .int .u32 0] 27)).setRow (w.heap.size + 1) X) :=
    (Kp.setRow (S := fun j => w.heap.size ≤ j) _ _ _ (by omega)).below (n := w.heap.size) (by simp; omega) (fun j hj => hj) |> b2.trans
  have hblk3 := hblk.row X
  have hblk03 := hblk0.kept (Kp.setRow (S := fun j => j = w.heap.size + 1) ((w.alloc (.cells #[.int .i64 0, .int .u32 0, .int .u32 0, .int .u32 0] 27)).alloc (.cells #[.int .i64 (k : Int), .int .u32 0, .int .u32 0, .int .u32 0] 27)) (w.heap.size + 1) X rfl) (by omega)
  have HB3 := Lib.hid b3
  have d0 := (hblk3.cell 0).trans x0
  have d1 := (hblk3.cell 1).trans x1
  have d2 := (hblk3.cell 2).trans x2
  have d3 := (hblk3.cell 3).trans x3
  have f0 := hblk03.free 0
  have f1 := hblk03.free 1
  have f2 := hblk03.free 2
  have f3 := hblk03.free 3
  have e0 := hblk03.cell 0
  have e1 := hblk03.cell 1
  have e2 := hblk03.cell 2
  have e3 := hblk03.cell 3
  have hsl := fun W => sl_args (w.heap.size + 1) 1 m hm3 W
  simp only [List.getElem?_toArray, List.getElem?_cons_zero, List.getElem?_cons_succ] at e0 e1 e2 e3
  clear b1 b2 b3 hblk hblk0 hblk3 hblk03 hR hx hT hm hX hy hcv x0 x1 x2 x3
  go_enter Tryd.func32, Tryd.ntmps32
  go_wp2_with (first | (go_at_call 13; refine (HM.out _ HB.out).mono ?_; rintro e w' ⟨rfl, rfl⟩) | fail)
  refine bodyPost_ret (v := .agg #[.int .i64 y.n, .int .u32 (y.a : Int), .int .u32 (y.b : Int), .int .u32 (y.c : Int)]) ?res rfl ⟨rfl, ?bel⟩
  case res => simp [results, Tryd.results32, go_sem, e0, e1, e2, e3]
  case bel => exact (((HB3.out.setCell (p := ⟨w.heap.size, 0, none⟩) (Nat.le_refl _) _).setCell (p := ⟨w.heap.size, 1, none⟩) (Nat.le_refl _) _).setCell (p := ⟨w.heap.size, 2, none⟩) (Nat.le_refl _) _).setCell (p := ⟨w.heap.size, 3, none⟩) (Nat.le_refl _) _
end Go.Proofs.YtlddjjkbnhhfaaaDoor.Clh
