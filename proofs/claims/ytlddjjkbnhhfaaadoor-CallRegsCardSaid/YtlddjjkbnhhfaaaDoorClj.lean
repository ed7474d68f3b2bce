/-
  Of, and the document's own Of.
-/
import Derived.Test.YtlddjjkbnhhfaaaDoorCli
import Derived.Test.YtlddjjkbnhhfaaaDoorClra
namespace Go.Proofs.YtlddjjkbnhhfaaaDoor.Clj
open Go Go.RowKit Go.Shelf Kit IsaM Cla Clt Clf Bk Clh Cli
set_option linter.unusedVariables false

/-- Eight registers. -/
def rcs (r : Nat → Nat) : Array Value := #[.int .u32 (r 0 : Int), .int .u32 (r 1 : Int), .int .u32 (r 2 : Int), .int .u32 (r 3 : Int), .int .u32 (r 4 : Int), .int .u32 (r 5 : Int), .int .u32 (r 6 : Int), .int .u32 (r 7 : Int)]
def rv (r : Nat → Nat) : Value := .agg (rcs r)
def ofC (r : Nat → Nat) : Cl := if isC (r 0 : Int) then only (r 0 : Int) (fun i => r (i + 1)) else zc
theorem ofC_wf {r : Nat → Nat} (hr : ∀ i, r i < 4294967296) : Wf (ofC r) := by
  unfold ofC
  split
  · rename_i h
    rw [isC_iff] at h
    exact only_wf (by omega) (fun i => hr _)
  · exact ⟨by decide, by decide, by decide, by decide⟩
set_option maxRecDepth 100000 in
set_option maxHeartbeats 2000000 in
theorem of_no (r : Nat → Nat) (hr : ∀ i, r i < 4294967296) (w : World) (h : isC (r 0 : Int) = false) :
    Calls Tryd.prog 10 #[rv r] w fun e w' => e = .returned (.tuple #[cv zc, .bool false]) ∧ Below w.heap.size w w' := by
  have HC := Lib.hid (fun wx => isCall_any (r 0 : Int) wx)
  rw [h] at HC
  have h0 := hr 0
  have h0' : (r 0 : Int) < 4294967296 := by omega
  clear h hr
  unfold rv rcs
  have b1 := ((Below.refl w.heap.size w).alloc (Nat.le_refl _) (.cells #[.int .u32 (r 0 : Int), .int .u32 (r 1 : Int), .int .u32 (r 2 : Int), .int .u32 (r 3 : Int), .int .u32 (r 4 : Int), .int .u32 (r 5 : Int), .int .u32 (r 6 : Int), .int .u32 (r 7 : Int)] 23)).alloc (by simp) (.cells #[.int .i64 0, .int .u32 0, .int .u32 0, .int .u32 0] 27)
  have HB := Lib.hid b1
  clear b1
  generalize r 0 = r0 at *
  go_enter Tryd.func10, Tryd.ntmps10
  go_wp2_with (first | (go_at_call 31; refine (HC.out _).mono ?_; rintro e w' ⟨rfl, rfl⟩) | fail)
  refine bodyPost_ret (v := .tuple #[.agg #[.int .i64 0, .int .u32 0, .int .u32 0, .int .u32 0], .bool false]) ?res rfl ⟨rfl, ?bel⟩
  case res => simp [results, Tryd.results10, go_sem]
  case bel => exact HB.out
theorem hal8 : Tryd.prog.arrayLen 23 = 8 := by kernel_rfl
set_option maxRecDepth 100000 in
set_option maxHeartbeats 2000000 in
theorem of_yes (r : Nat → Nat) (hr : ∀ i, r i < 4294967296) (w : World) (hT : Rw w) (k : Nat) (hk : r 0 = k) (h1 : 1 ≤ k) (h2 : k < 23) :
    Calls Tryd.prog 10 #[rv r] w fun e w' => e = .returned (.tuple #[cv (only (k : Int) (fun i => r (i + 1))), .bool true]) ∧ Below w.heap.size w w' := by
  have HC := Lib.hid (fun wx => isCall_any (k : Int) wx)
  rw [isC_iff.2 ⟨by omega, by omega⟩] at HC
  unfold rv rcs
  obtain ⟨o1, ho1⟩ : ∃ o, Obj.cells #[.int .u32 (k : Int), .int .u32 (r 1 : Int), .int .u32 (r 2 : Int), .int .u32 (r 3 : Int), .int .u32 (r 4 : Int), .int .u32 (r 5 : Int), .int .u32 (r 6 : Int), .int .u32 (r 7 : Int)] 23 = o := ⟨_, rfl⟩
  obtain ⟨o2, ho2⟩ : ∃ o, Obj.cells #[.int .i64 0, .int .u32 0, .int .u32 0, .int .u32 0] 27 = o := ⟨_, rfl⟩
  rw [hk]
  have b1 := (Below.refl w.heap.size w).alloc (Nat.le_refl _) o1
  have b2 := b1.alloc b1.size o2
  have hblk : Blk ((w.alloc o1).alloc o2) w.heap.size #[.int .u32 (k : Int), .int .u32 (r 1 : Int), .int .u32 (r 2 : Int), .int .u32 (r 3 : Int), .int .u32 (r 4 : Int), .int .u32 (r 5 : Int), .int .u32 (r 6 : Int), .int .u32 (r 7 : Int)] 23 := by
    rw [← ho1]
    exact (Blk.new w _ _).below ((Below.refl _ _).alloc (Nat.le_refl _) _)
  have hblk2 : Blk ((w.alloc o1).alloc o2) (w.heap.size + 1) #[.int .i64 0, .int .u32 0, .int .u32 0, .int .u32 0] 27 := by
    rw [← ho2]
    have := Blk.new (w.alloc o1) #[.int .i64 0, .int .u32 0, .int .u32 0, .int .u32 0] 27
    rwa [World.size_alloc] at this
  have hwds : Wds ((w.alloc o1).alloc o2) w.heap.size 1 (fun i => r (i + 1)) := by
    refine ⟨hblk.lt, fun j hj => ?_⟩
    rw [hblk.cell]
    have : j = 0 ∨ j = 1 ∨ j = 2 := by omega
    rcases this with rfl | rfl | rfl <;> rfl
  have HO := Lib.hid (only_any k h1 h2 (fun i => r (i + 1)) w.heap.size 1 7 7 (by omega) (by omega) (by decide) _ (hT.below b2) hwds)
  have c0 := hblk.cell 0
  simp only [List.getElem?_toArray, List.getElem?_cons_zero] at c0
  obtain ⟨y, hy⟩ : ∃ y, only (k : Int) (fun i => r (i + 1)) = y := ⟨_, rfl⟩
  rw [hy] at HO ⊢
  have HS : Hid (Below w.heap.size w ((w.alloc o1).alloc o2) ∧ Blk ((w.alloc o1).alloc o2) (w.heap.size + 1) #[.int .i64 0, .int .u32 0, .int .u32 0, .int .u32 0] 27 ∧ ((w.alloc o1).alloc o2).heap.size = w.heap.size + 2) := Lib.hid ⟨b2, hblk2, by simp⟩
  have hlt : (k : Int) < 23 := by omega
  have hlt1 : (1 : Int) ≤ (k : Int) := by omega
  have hw : wrap64 (k : Int) = (k : Int) := IntWalk.wrap64_in _ (by omega)
  unfold cv ccs at *
  rw [← ho1, ← ho2] at HO HS c0
  clear hy hwds hblk hblk2 b1 b2 hT hr ho1 ho2 hk h1 h2
  go_enter Tryd.func10, Tryd.ntmps10
  go_wp2_with (first | (go_at_call 31; refine (HC.out _).mono ?_; rintro e w' ⟨rfl, rfl⟩) | (go_at_call 32; refine HO.out.mono ?_; rintro e w' ⟨rfl, hb⟩; have hB2 := HS.out.2.1.below hb; have e0 := hB2.cell 0; have e1 := hB2.cell 1; have e2 := hB2.cell 2; have e3 := hB2.cell 3; have f0 := hB2.free 0; have f1 := hB2.free 1; have f2 := hB2.free 2; have f3 := hB2.free 3; have HB2 := Lib.hid hb; simp only [List.getElem?_toArray, List.getElem?_cons_zero, List.getElem?_cons_succ] at e0 e1 e2 e3; clear hB2 hb) | fail)
  refine bodyPost_ret (v := .tuple #[.agg #[.int .i64 y.n, .int .u32 (y.a : Int), .int .u32 (y.b : Int), .int .u32 (y.c : Int)], .bool true]) ?res rfl ⟨rfl, ?bel⟩
  case res => simp [results, Tryd.results10, go_sem, e0, e1, e2, e3]
  case bel =>
    have hb := HS.out.1.trans (HB2.out.mono (by simp; omega))
    exact (((hb.setCell (p := ⟨w.heap.size + 1, 0, none⟩) (Nat.le_succ _) _).setCell (p := ⟨w.heap.size + 1, 1, none⟩) (Nat.le_succ _) _).setCell (p := ⟨w.heap.size + 1, 2, none⟩) (Nat.le_succ _) _).setCell (p := ⟨w.heap.size + 1, 3, none⟩) (Nat.le_succ _) _
theorem of_any (r : Nat → Nat) (hr : ∀ i, r i < 4294967296) (w : World) (hT : Rw w) :
    Calls Tryd.prog 10 #[rv r] w fun e w' => e = .returned (.tuple #[cv (ofC r), .bool (isC (r 0 : Int))]) ∧ Below w.heap.size w w' := by
  unfold ofC
  cases h : isC (r 0 : Int) with
  | false => exact of_no r hr w h
  | true =>
    rw [isC_iff] at h
    exact of_yes r hr w hT (r 0) rfl (by omega) (by omega)
end Go.Proofs.YtlddjjkbnhhfaaaDoor.Clj
