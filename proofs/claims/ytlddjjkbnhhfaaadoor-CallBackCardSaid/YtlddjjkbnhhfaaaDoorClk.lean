/-
  The document's own Of.
-/
import Derived.Test.YtlddjjkbnhhfaaaDoorClj
namespace Go.Proofs.YtlddjjkbnhhfaaaDoor.Clk
open Go Go.RowKit Go.Shelf Kit IsaM Cla Clt Clf Bk Clh Cli Clj Clra
set_option linter.unusedVariables false

/-- A call whose first i arguments are there. -/
def pre (n : Int) (xs : Nat → Nat) (i : Nat) : Cl := ⟨n, if 0 < i then xs 0 else 0, if 1 < i then xs 1 else 0, if 2 < i then xs 2 else 0⟩
theorem pre_only {k : Nat} (h1 : 1 ≤ k) (h2 : k < 23) (xs : Nat → Nat) : pre (k : Int) xs (mn k) = only (k : Int) xs := by
  unfold pre only
  simp only [many_nat h1 h2]
  have : mn k = 0 ∨ mn k = 1 ∨ mn k = 2 ∨ mn k = 3 := by have := mn3 h2; omega
  rcases this with e | e | e | e <;> rw [e] <;> rfl
theorem pre_set (n : Int) (xs : Nat → Nat) (i : Nat) (hi : i < 3) : (ccs (pre n xs i)).setIfInBounds (1 + i) (.int .u32 (xs i : Int)) = ccs (pre n xs (i + 1)) := by
  have : i = 0 ∨ i = 1 ∨ i = 2 := by omega
  rcases this with rfl | rfl | rfl <;> rfl
set_option maxRecDepth 100000 in
set_option maxHeartbeats 2000000 in
theorem rof_no (r : Nat → Nat) (hr : ∀ i, r i < 4294967296) (w : World) (h : isC (r 0 : Int) = false) :
    Calls Tryd.prog 11 #[rv r] w fun e w' => e = .returned (.tuple #[cv zc, .bool false]) ∧ Below w.heap.size w w' := by
  have HC := Lib.hid (fun wx => rmany_any (r 0 : Int) wx)
  rw [many_no h] at HC
  have h0 := hr 0
  have h0' : (r 0 : Int) < 4294967296 := by omega
  have hw : wrap64 (r 0 : Int) = (r 0 : Int) := IntWalk.wrap64_in _ (by omega)
  clear h hr
  unfold rv rcs
  have b1 := ((Below.refl w.heap.size w).alloc (Nat.le_refl _) (.cells #[.int .u32 (r 0 : Int), .int .u32 (r 1 : Int), .int .u32 (r 2 : Int), .int .u32 (r 3 : Int), .int .u32 (r 4 : Int), .int .u32 (r 5 : Int), .int .u32 (r 6 : Int), .int .u32 (r 7 : Int)] 23)).alloc (by simp) (.cells #[.int .i64 0, .int .u32 0, .int .u32 0, .int .u32 0] 27)
  have HB := Lib.hid b1
  clear b1
  generalize r 0 = r0 at *
  by_cases hd : (100 : Int) < (r0 : Int)
  · go_enter Tryd.func11, Tryd.ntmps11
    go_wp2_with (first | (go_at_call 14; refine (HC.out _).mono ?_; rintro e w' ⟨rfl, rfl⟩) | fail)
    refine bodyPost_ret (v := .tuple #[.agg #[.int .i64 0, .int .u32 0, .int .u32 0, .int .u32 0], .bool false]) ?res rfl ⟨rfl, ?bel⟩
    case res => simp [results, Tryd.results11, go_sem]
    case bel => exact HB.out
  · go_enter Tryd.func11, Tryd.ntmps11
    go_wp2_with (first | (go_at_call 14; refine (HC.out _).mono ?_; rintro e w' ⟨rfl, rfl⟩) | fail)
    refine bodyPost_ret (v := .tuple #[.agg #[.int .i64 0, .int .u32 0, .int .u32 0, .int .u32 0], .bool false]) ?res rfl ⟨rfl, ?bel⟩
    case res => simp [results, Tryd.results11, go_sem]
    case bel => exact HB.out
set_option maxRecDepth 100000 in
set_option maxHeartbeats 2000000 in
theorem rof_yes (r : Nat → Nat) (hr : ∀ i, r i < 4294967296) (w : World) (k : Nat) (hk : r 0 = k) (h1 : 1 ≤ k) (h2 : k < 23) :
    Calls Tryd.prog 11 #[rv r] w fun e w' => e = .returned (.tuple #[cv (only (k : Int) (fun i => r (i + 1))), .bool true]) ∧ Below w.heap.size w w' := by
  have HC := Lib.hid (fun wx => rmany_any (k : Int) wx)
  rw [many_nat h1 h2] at HC
  have hm3 := mn3 h2
  rw [← pre_only h1 h2]
  unfold rv
  obtain ⟨o1, ho1⟩ : ∃ o, Obj.cells (rcs r) 23 = o := ⟨_, rfl⟩
  obtain ⟨o2, ho2⟩ : ∃ o, Obj.cells #[.int .i64 0, .int .u32 0, .int .u32 0, .int .u32 0] 27 = o := ⟨_, rfl⟩
  obtain ⟨o3, ho3⟩ : ∃ o, Obj.cells (ccs (pre (k : Int) (fun i => r (i + 1)) 0)) 27 = o := ⟨_, rfl⟩
  have b1 := (Below.refl w.heap.size w).alloc (Nat.le_refl _) o1
  have b2 := b1.alloc b1.size o2
  have b3 := b2.alloc b2.size o3
  have hblk : Blk (((w.alloc o1).alloc o2).alloc o3) w.heap.size (rcs r) 23 := by
    rw [← ho1]
    exact ((Blk.new w _ _).below ((Below.refl _ _).alloc (Nat.le_refl _) _)).below ((Below.refl _ _).alloc (Nat.le_refl _) _)
  have hblk2 : Blk (((w.alloc o1).alloc o2).alloc o3) (w.heap.size + 1) #[.int .i64 0, .int .u32 0, .int .u32 0, .int .u32 0] 27 := by
    rw [← ho2]
    have := Blk.new (w.alloc o1) #[.int .i64 0, .int .u32 0, .int .u32 0, .int .u32 0] 27
    rw [World.size_alloc] at this
    exact this.below ((Below.refl _ _).alloc (Nat.le_refl _) _)
  have hblk3 : Blk (((w.alloc o1).alloc o2).alloc o3) (w.heap.size + 2) (ccs (pre (k : Int) (fun i => r (i + 1)) 0)) 27 := by
    rw [← ho3]
    have := Blk.new ((w.alloc o1).alloc o2) (ccs (pre (k : Int) (fun i => r (i + 1)) 0)) 27
    rw [World.size_alloc, World.size_alloc] at this
    exact this
  have HS := Lib.hid (And.intro (And.intro b3 hblk) (And.intro hblk2 hblk3))
  have hlt : (k : Int) < 23 := by omega
  have hlt1 : (1 : Int) ≤ (k : Int) := by omega
  have hw : wrap64 (k : Int) = (k : Int) := IntWalk.wrap64_in _ (by omega)
  rw [← ho1, ← ho2, ← ho3] at HS
  unfold rcs
  rw [hk]
  have hcell : ∀ j, j < 3 → (rcs r)[1 + j]? = some (.int .u32 (r (j + 1) : Int)) := fun j hj => by
    have : j = 0 ∨ j = 1 ∨ j = 2 := by omega
    rcases this with rfl | rfl | rfl <;> rfl
  have hmb : ((mn k : Nat) : Int) ≤ 3 := by omega
  clear b1 b2 b3 hblk hblk2 hblk3 ho1 ho2 ho3 hr
  go_enter Tryd.func11, Tryd.ntmps11
  go_wp2_with (first | (go_at_call 14; refine (HC.out _).mono ?_; rintro e w' ⟨rfl, rfl⟩) | fail)
  go_loopw [5] (fun i wr => ∃ j : Nat, j ≤ mn k ∧ i = .int .i64 (j : Int) ∧ Hid ((Below w.heap.size w wr ∧ Blk wr w.heap.size (rcs r) 23) ∧ (Blk wr (w.heap.size + 1) #[.int .i64 0, .int .u32 0, .int .u32 0, .int .u32 0] 27 ∧ Blk wr (w.heap.size + 2) (ccs (pre (k : Int) (fun i => r (i + 1)) j)) 27))) (fun i _ => mn k - (intOf i).toNat)
  case atStart =>
    refine ⟨0, by omega, rfl, Lib.hid ?_⟩
    have := HS.out
    unfold rcs at this ⊢
    rw [hk] at this ⊢
    exact this
  case round =>
    obtain ⟨j, hj, rfl, HI⟩ := hrel
    have cN := HI.out.2.2.cell 0
    have cN2 : wr.cell? ⟨w.heap.size + 2, 0, none⟩ = some (.int .i64 (k : Int)) := cN
    clear cN
    by_cases hlt2 : j < mn k
    · have cR : wr.cell? ⟨w.heap.size, 1 + j, none⟩ = some (.int .u32 (r (j + 1) : Int)) := (HI.out.1.2.cell (1 + j)).trans (hcell j (by omega))
      have fC := HI.out.2.2.free (1 + j)
      have cC : (wr.cell? ⟨w.heap.size + 2, 1 + j, none⟩).isSome = true := by
        rw [HI.out.2.2.cell]
        have : j = 0 ∨ j = 1 ∨ j = 2 := by omega
        rcases this with rfl | rfl | rfl <;> rfl
      obtain ⟨v9, hv9⟩ := Option.isSome_iff_exists.1 cC
      clear cC
      have HM := Lib.hid hm3
      go_wp2_with (first | (go_at_call 14; refine (HC.out _).mono ?_; rintro e w' ⟨rfl, rfl⟩) | fail)
      go_roundw
      case rel =>
        refine ⟨j + 1, by omega, by go_num, Lib.hid ⟨⟨HI.out.1.1.setCell (p := ⟨w.heap.size + 2, 1 + j, none⟩) (Nat.le_add_right _ 2) _, HI.out.1.2.other (w.heap.size + 2) (1 + j) _ (by omega)⟩, HI.out.2.1.other (w.heap.size + 2) (1 + j) _ (by omega), ?_⟩⟩
        have := HI.out.2.2.set (1 + j) (.int .u32 (r (j + 1) : Int))
        rw [pre_set (k : Int) (fun i => r (i + 1)) j (by have := HM.out; omega)] at this
        exact this
      case measure => simp [intOf]; omega
    · obtain rfl : j = mn k := by omega
      obtain ⟨y, hy⟩ : ∃ y, pre (k : Int) (fun i => r (i + 1)) (mn k) = y := ⟨_, rfl⟩
      rw [hy] at HI
      have g0 := HI.out.2.2.cell 0
      have g1 := HI.out.2.2.cell 1
      have g2 := HI.out.2.2.cell 2
      have g3 := HI.out.2.2.cell 3
      have e0 := HI.out.2.1.cell 0
      have e1 := HI.out.2.1.cell 1
      have e2 := HI.out.2.1.cell 2
      have e3 := HI.out.2.1.cell 3
      have f0 := HI.out.2.1.free 0
      have f1 := HI.out.2.1.free 1
      have f2 := HI.out.2.1.free 2
      have f3 := HI.out.2.1.free 3
      simp only [ccs, List.getElem?_toArray, List.getElem?_cons_zero, List.getElem?_cons_succ] at e0 e1 e2 e3 g0 g1 g2 g3
      have hyn : y.n = (k : Int) := by rw [← hy]; rfl
      rw [hyn] at g0
      clear cN2
      have HY := Lib.hid (And.intro hy hyn)
      clear hy hyn
      go_wp2_with (first | (go_at_call 14; refine (HC.out _).mono ?_; rintro e w' ⟨rfl, rfl⟩) | fail)
      refine bodyPost_ret (v := .tuple #[.agg #[.int .i64 (k : Int), .int .u32 (y.a : Int), .int .u32 (y.b : Int), .int .u32 (y.c : Int)], .bool true]) ?res rfl ⟨by rw [HY.out.1]; unfold cv ccs; rw [HY.out.2], ?bel⟩
      case res => simp [results, Tryd.results11, go_sem, e0, e1, e2, e3]
      case bel => exact (((HI.out.1.1.setCell (p := ⟨w.heap.size + 1, 0, none⟩) (Nat.le_succ _) _).setCell (p := ⟨w.heap.size + 1, 1, none⟩) (Nat.le_succ _) _).setCell (p := ⟨w.heap.size + 1, 2, none⟩) (Nat.le_succ _) _).setCell (p := ⟨w.heap.size + 1, 3, none⟩) (Nat.le_succ _) _
theorem rof_any (r : Nat → Nat) (hr : ∀ i, r i < 4294967296) (w : World) :
    Calls Tryd.prog 11 #[rv r] w fun e w' => e = .returned (.tuple #[cv (ofC r), .bool (isC (r 0 : Int))]) ∧ Below w.heap.size w w' := by
  unfold ofC
  cases h : isC (r 0 : Int) with
  | false => exact rof_no r hr w h
  | true =>
    rw [isC_iff] at h
    exact rof_yes r hr w (r 0) rfl (by omega) (by omega)
end Go.Proofs.YtlddjjkbnhhfaaaDoor.Clk
