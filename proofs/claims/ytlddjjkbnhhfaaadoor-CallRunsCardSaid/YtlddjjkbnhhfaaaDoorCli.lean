/-
  Calls held against each other; mayBe.
-/
import Derived.Test.YtlddjjkbnhhfaaaDoorClh
import Derived.Deep.RegionHeld
import Derived.Laws.StructEq
import Derived.Shelf.RegionOpen
namespace Go.Proofs.YtlddjjkbnhhfaaaDoor.Cli
open Go Go.RowKit Go.Shelf Kit IsaM Cla Clt Clf Bk Clh
set_option linter.unusedVariables false
attribute [local go_sem] Oper.semAt_some

theorem wds_of {w : World} {g : Nat} {x : Cl} {T : TypeId} (h : Blk w g (ccs x) T) : Wds w g 1 (ar x) := by
  refine ⟨h.lt, fun j hj => ?_⟩
  rw [h.cell]
  have : j = 0 ∨ j = 1 ∨ j = 2 := by omega
  rcases this with rfl | rfl | rfl <;> rfl
theorem only_any (k : Nat) (h1 : 1 ≤ k) (h2 : k < 23) (xs : Nat → Nat) (b off len cap : Nat) (hl : 3 ≤ len) (hlc : len ≤ cap) (hcap : cap ≤ maxLen) (w : World) (hT : Rw w) (hx : Wds w b off xs) :
    Calls Tryd.prog 32 #[.int .i64 (k : Int), .slice (some ⟨b, off, none⟩) len cap] w fun e w' => e = .returned (cv (only (k : Int) xs)) ∧ Below w.heap.size w w' := only_in k (mn k) h1 h2 rfl xs b off len cap hl hlc hcap w hT hx
theorem only_wf {k : Nat} (h2 : k < 23) {xs : Nat → Nat} (hx : ∀ i, xs i < 4294967296) : Wf (only (k : Int) xs) := by
  refine ⟨?_, ?_, ?_, ?_⟩
  · show (Lit.int .i64 (k : Int)).wf = true
    simp [Lit.wf, IntKind.min, IntKind.max, IntKind.signed, IntKind.bits]; omega
  all_goals unfold only; simp only; split; exact hx _; omega

/-- Two calls held against each other. -/
def lits (x : Cl) : List Lit := [.int .i64 x.n, .int .u32 (x.a : Int), .int .u32 (x.b : Int), .int .u32 (x.c : Int)]
theorem lits_iff {x y : Cl} : lits x = lits y ↔ x = y := by
  obtain ⟨a, b, c, d⟩ := x
  obtain ⟨a', b', c', d'⟩ := y
  simp only [lits, List.cons.injEq, Lit.int.injEq, true_and, and_true, Int.natCast_inj, Cl.mk.injEq]
theorem lit_u32 {x : Nat} (h : x < 4294967296) : (Lit.int .u32 (x : Int)).wf = true := by
  simp [Lit.wf, IntKind.min, IntKind.max, IntKind.signed, IntKind.bits]
  omega
theorem key_lits (x : Cl) (h : Wf x) : Tryd.prog.keyLits 3 27 (ccs x).toList = some (lits x) := by
  have hc : Tryd.prog.cellsOf 27 = 4 := by kernel_rfl
  have hc1 : Tryd.prog.cellsOf 22 = 1 := by kernel_rfl
  have hc2 : Tryd.prog.cellsOf 25 = 3 := by kernel_rfl
  have hc3 : Tryd.prog.cellsOf 3 = 1 := by kernel_rfl
  have hi : ∀ n x, x < 4294967296 → Tryd.prog.keyLits (n + 1) 22 [.int .u32 ((x : Nat) : Int)] = some [.int .u32 (x : Int)] := fun n x hx => by
    rw [Program.keyLits.eq_def]
    simp only [Tryd.underlying22]
    simp [lit_u32 hx]
  have hn : ∀ n (a : Int), (Lit.int .i64 a).wf = true → Tryd.prog.keyLits (n + 1) 3 [.int .i64 a] = some [.int .i64 a] := fun n a ha => by
    rw [Program.keyLits.eq_def]
    simp only [Tryd.underlying3]
    simp [ha]
  have ha : Tryd.prog.keyLits 2 25 [.int .u32 (x.a : Int), .int .u32 (x.b : Int), .int .u32 (x.c : Int)] = some [.int .u32 (x.a : Int), .int .u32 (x.b : Int), .int .u32 (x.c : Int)] := by
    rw [Program.keyLits.eq_def]
    simp only [Tryd.underlying25]
    rw [if_pos (by rw [hc2]; rfl)]
    simp [hc1, List.range, List.range.loop, hi, h.a, h.b, h.c]
  rw [Program.keyLits.eq_def]
  simp only [Tryd.underlying27]
  rw [if_pos ⟨by rw [hc]; rfl, by kernel_rfl⟩]
  simp [ccs, hc2, hc3, hn, h.n, ha, lits]
set_option maxRecDepth 100000 in
theorem run_eq (s t : Cl) (hs : Wf s) (ht : Wf t) (w : World) : (Op.equalIn 10000 27 (cv s) (cv t)).run Tryd.prog w = .ok (decide (s = t)) w := by
  have hf : ∀ s : Cl, (cv s).formed Tryd.prog 27 = true := fun s => by
    unfold Value.formed
    rw [Tryd.underlying27]
    kernel_rfl
  obtain ⟨r, h1, h2⟩ := run_equalIn_deep (P := Tryd.prog) 9997 3 27 (by kernel_rfl) w 3 3 (cv s) (cv t) _ _ (hf _) (hf _) (key_lits s hs) (key_lits t ht)
  rw [h1]
  congr 1
  rw [Bool.eq_iff_iff, h2, lits_iff, decide_eq_true_eq]
def eqV (a b : Value) : Sem Value := binOp .eql 27 a b
theorem eqv_wrap (a b : Value) : binOp .eql 27 a b = eqV a b := rfl
def neV (a b : Value) : Sem Value := binOp .neq 27 a b
theorem nev_wrap (a b : Value) : binOp .neq 27 a b = neV a b := rfl
theorem run_eqV {s t : Cl} (hs : Wf s) (ht : Wf t) (w : World) : (eqV (cv s) (cv t)).run Tryd.prog w = .ok (.bool (decide (s = t))) w := by
  unfold eqV cv
  rw [run_eql_struct, show (Op.equalIn 10000 27 (.agg (ccs s)) (.agg (ccs t))).run Tryd.prog w = _ from run_eq s t hs ht w]
  rfl
theorem run_neV {s t : Cl} (hs : Wf s) (ht : Wf t) (w : World) : (neV (cv s) (cv t)).run Tryd.prog w = .ok (.bool (!decide (s = t))) w := by
  unfold neV cv
  rw [run_neq_struct, show (Op.equalIn 10000 27 (.agg (ccs s)) (.agg (ccs t))).run Tryd.prog w = _ from run_eq s t hs ht w]
  rfl
attribute [local go_sem ↓] eqv_wrap
theorem drewN_b {h : Nat} {w W : World} (hb : Below h w W) (n : Nat) : Below h w (W.drewN n) := hb.trans ⟨rfl, rfl, rfl, Nat.le_refl _, fun _ _ => rfl⟩
set_option maxRecDepth 100000 in
set_option maxHeartbeats 2000000 in
theorem mayBe_no (x : Cl) (w : World) (h : isC x.n = false) :
    Calls Tryd.prog 34 #[cv x] w fun e w' => e = .returned (.bool false) ∧ Below w.heap.size w w' := by
  have HC := Lib.hid (fun wx => isCall_any x.n wx)
  rw [h] at HC
  have hblk := Blk.new w (ccs x) 27
  have b1 := (Below.refl w.heap.size w).alloc (Nat.le_refl _) (.cells (ccs x) 27)
  obtain ⟨n, a, b, c⟩ := x
  unfold cv
  unfold ccs at *
  dsimp only at HC ⊢ hblk b1
  have c0 := hblk.cell 0
  have c1 := (hblk.below ((Below.refl _ _).drew)).cell 0
  simp only [List.getElem?_toArray, List.getElem?_cons_zero] at c0 c1
  have HB := Lib.hid b1
  clear h hblk b1
  go_enter Tryd.func34, Tryd.ntmps34
  go_wp2_with fail
  go_quiet ((go_at_call 31; exact Calls.quiet_of_same ((HC.out _).mono fun e w' ⟨he, hw⟩ => ⟨he, hw.symm⟩)))
  go_wp2
  go_ret
  exact ⟨rfl, drewN_b HB.out _⟩
set_option maxRecDepth 100000 in
set_option maxHeartbeats 2000000 in
theorem mayBe_yes (x : Cl) (k : Nat) (hk : x.n = k) (h1 : 1 ≤ k) (h2 : k < 23) (hw : Wf x) (w : World) (hT : Rw w) :
    Calls Tryd.prog 34 #[cv x] w fun e w' => e = .returned (.bool (decide (x = only x.n (ar x)))) ∧ Below w.heap.size w w' := by
  have HC := Lib.hid (fun wx => isCall_any x.n wx)
  rw [hk, isC_iff.2 ⟨by omega, by omega⟩] at HC
  have hblk := Blk.new w (ccs x) 27
  have b1 := (Below.refl w.heap.size w).alloc (Nat.le_refl _) (.cells (ccs x) 27)
  have HO : Hid (∀ wx, Below (w.alloc (.cells (ccs x) 27)).heap.size (w.alloc (.cells (ccs x) 27)) wx → Calls Tryd.prog 32 #[.int .i64 (k : Int), .slice (some ⟨w.heap.size, 1, none⟩) 3 3] wx fun e w' => e = .returned (cv (only (k : Int) (ar x))) ∧ Below wx.heap.size wx w') := Lib.hid (fun wx hb => only_any k h1 h2 (ar x) _ _ 3 3 (by omega) (by omega) (by decide) wx (hT.below (b1.trans (hb.mono (by simp)))) (wds_of (hblk.below hb)))
  have HCL : Hid (∀ wx, Below (w.alloc (.cells (ccs x) 27)).heap.size (w.alloc (.cells (ccs x) 27)) wx → wx.cell? ⟨w.heap.size, 0, none⟩ = some (.int .i64 (k : Int)) ∧ wx.cell? ⟨w.heap.size, 1, none⟩ = some (.int .u32 (x.a : Int)) ∧ wx.cell? ⟨w.heap.size, 2, none⟩ = some (.int .u32 (x.b : Int)) ∧ wx.cell? ⟨w.heap.size, 3, none⟩ = some (.int .u32 (x.c : Int))) := Lib.hid (fun wx hb => by
    have hB := hblk.below hb
    rw [hB.cell, hB.cell, hB.cell, hB.cell, ← hk]
    exact ⟨rfl, rfl, rfl, rfl⟩)
  have HE := fun wx => run_eqV hw (only_wf h2 (ar_lt hw)) wx
  obtain ⟨y, hy⟩ : ∃ y, only (k : Int) (ar x) = y := ⟨_, rfl⟩
  rw [hy] at HO HE
  rw [hk, hy]
  have B0 := Below.refl (w.alloc (.cells (ccs x) 27)).heap.size (w.alloc (.cells (ccs x) 27))
  have B1 := B0.drew
  have c0 := HCL.out _ B0
  have c1 := HCL.out _ B1
  have HB := Lib.hid b1
  clear b1 hblk hy h1 h2 hw hT
  generalize decide (x = y) = d at *
  unfold cv ccs at *
  rw [hk] at *
  clear hk
  generalize x.a = a at *
  generalize x.b = b at *
  generalize x.c = c at *
  go_enter Tryd.func34, Tryd.ntmps34
  go_wp2_with fail
  go_region_held (fun w' => w'.cell? ⟨w.heap.size, 0, none⟩ = some (.int .i64 (k : Int)) ∧ w'.cell? ⟨w.heap.size, 1, none⟩ = some (.int .u32 (a : Int)) ∧ w'.cell? ⟨w.heap.size, 2, none⟩ = some (.int .u32 (b : Int)) ∧ w'.cell? ⟨w.heap.size, 3, none⟩ = some (.int .u32 (c : Int))) (first | exact c0 | exact c1 | assumption) (first | (go_at_call 31; (with_reducible refine (HC.out _).mono ?_); rintro e w1 ⟨rfl, rfl⟩) | (go_at_call 32; (with_reducible refine (HO.out _ (by first | exact B0 | exact B1)).mono ?_); rintro e w1 ⟨rfl, hb⟩; have c2 := HCL.out _ (by first | exact B0.trans hb | exact B1.trans hb)))
  all_goals go_wp2
  all_goals go_ret
  all_goals first | exact ⟨rfl, HB.out.trans (hb.mono (by simp))⟩ | exact ⟨rfl, HB.out.drew.trans (hb.mono (by simp))⟩
theorem mayBe_any (x : Cl) (hw : Wf x) (w : World) (hT : Rw w) :
    Calls Tryd.prog 34 #[cv x] w fun e w' => e = .returned (.bool (mayC x)) ∧ Below w.heap.size w w' := by
  cases h : isC x.n with
  | false =>
    rw [show mayC x = false by unfold mayC; rw [h]; rfl]
    exact mayBe_no x w h
  | true =>
    obtain ⟨k, hk, h1, h2⟩ := isC_nat h
    rw [show mayC x = decide (x = only x.n (ar x)) by unfold mayC; rw [h]; rfl]
    exact mayBe_yes x k hk h1 h2 hw w hT
end Go.Proofs.YtlddjjkbnhhfaaaDoor.Cli
