/-
  The document's own New.
-/
import Derived.Test.YtompcmbaiegkaaaGw
namespace Go.Proofs.Ytompcmbaiegkaaa.Gn
open Go Go.RowKit Kit Fm Fo Fr Fw Fx Fu Fv Gm Go2 Gr Gw
set_option linter.unusedVariables false
attribute [local go_sem ↓] mk_wrap app_wrap

theorem rnew_arg (w : World) (n : Int) (hn : ¬ (1 ≤ n ∧ n ≤ 256)) :
    Calls Try.prog 12 #[.int .i64 n] w fun e w' => e = .returned (.tuple #[.pointer none, .int .i64 2]) ∧ w = w' := by
  by_cases h1 : n < 1
  · have d : decide (n < 1) = true := decide_eq_true h1
    clear hn h1
    go_enter Try.func12, Try.ntmps12
    go_wp2
    go_ret2
    exact ⟨rfl, rfl⟩
  · have d : decide (n < 1) = false := decide_eq_false h1
    have d2 : decide (256 < n) = true := decide_eq_true (by omega)
    clear hn h1
    go_enter Try.func12, Try.ntmps12
    go_wp2
    go_ret2
    exact ⟨rfl, rfl⟩
def slv (g : Nat) : Value := .slice (some ⟨g, 0, none⟩) 64 64
def Z64 : Array Value := madeCells #[.int .u8 0] 64
theorem info31 : (Try.prog.info? 31).map (fun i => (i.zero, i.size, i.bytes)) = some (some (.slice none 0 0), 1, 24) := by kernel_rfl
/-- The reference's memory with its first j frames. -/
def Part (n₀ q j : Nat) (W : World) : Prop := ∃ (v1 v2 : Value) (gs : List Nat), Blk W q #[v1, v2] 47 ∧ gs.length = j ∧ W.ownsRow n₀ 3 1 v1 j (List.replicate j (.int .i64 0)) ∧ W.ownsRow n₀ 31 1 v2 j (gs.map slv) ∧ ∀ g ∈ gs, n₀ ≤ g ∧ Blk W g Z64 5
theorem run_mkZ (w : World) : (mkO 31 (.int .i64 64) (.int .i64 64)).run Try.prog w = .ok (.slice (some ⟨w.heap.size, 0, none⟩) 64 64) (w.alloc (.cells Z64 5)) := run_mk64 w
theorem row_form {w : World} {base : Nat} {e : TypeId} {size : Nat} {v : Value} {n : Nat} {xs : List Value} (h : w.ownsRow base e size v n xs) : ∃ ad cap, v = .slice ad n cap := by
  rcases h.2 with ⟨h1, h2⟩ | ⟨g, cap, cur, h1, _⟩
  · subst h2; exact ⟨none, 0, h1⟩
  · exact ⟨_, _, h1⟩
theorem row_block {w : World} {base : Nat} {e : TypeId} {size : Nat} {v : Value} {n : Nat} {xs : List Value} (h : w.ownsRow base e size v n xs) {r : Nat} (hr : v.ownBlock = some r) : base ≤ r ∧ ∃ cs, Blk w r cs e := by
  rcases h.2 with ⟨h1, h2⟩ | ⟨g, cap, cur, h1, hg, hh, _⟩
  · subst h1; simp [Value.ownBlock] at hr
  · subst h1; simp [Value.ownBlock] at hr; subst hr; exact ⟨hg, cur, hh⟩
theorem row_kept {w w' : World} {S : Nat → Prop} {base : Nat} {e : TypeId} {size : Nat} {v : Value} {n : Nat} {xs : List Value} (h : w.ownsRow base e size v n xs) (hk : Kp S w w') (hS : ∀ r cs, Blk w r cs e → ¬ S r) : w'.ownsRow base e size v n xs := by
  refine ⟨h.1, ?_⟩
  rcases h.2 with h2 | ⟨g, cap, cur, hv, hg, hh, h3⟩
  · exact .inl h2
  · exact .inr ⟨g, cap, cur, hv, hg, (hk.block g (Array.getElem?_eq_some_iff.1 hh).1 (hS g cur hh)).trans hh, h3⟩
set_option maxHeartbeats 2000000 in
theorem rnew_ok (w : World) (n : Nat) (hn : 1 ≤ n ∧ n ≤ 256) :
    Calls Try.prog 12 #[.int .i64 (n : Int)] w fun e w' => Below w.heap.size w w' ∧ ∃ q rr rb, e = .returned (.tuple #[.pointer (some ⟨q, 0, none⟩), .int .i64 0]) ∧ w.heap.size ≤ q ∧ w.heap.size ≤ rr ∧ w.heap.size ≤ rb ∧ RMem w' q rr rb n (fun _ => 0) (fun _ _ => 0) := by
  obtain ⟨i3, hi3, hz30, hz31, hz32⟩ := info_parts info3
  obtain ⟨i31, hi31, hz310, hz311, hz312⟩ := info_parts info31
  have hmk := run_mkZ
  have d : decide ((n : Int) < 1) = false := decide_eq_false (by omega)
  have d2 : decide (256 < (n : Int)) = false := decide_eq_false (by omega)
  have hn2 : (n : Int) ≤ 256 := by omega
  go_enter Try.func12, Try.ntmps12
  go_wp2
  go_loopw [5] (fun i wr => ∃ j : Nat, j ≤ n ∧ i = .int .i64 (j : Int) ∧ Part w.heap.size w.heap.size j wr ∧ Below w.heap.size w wr) (fun i _ => n - (intOf i).toNat)
  case atStart => exact ⟨0, Nat.zero_le _, rfl, ⟨_, _, [], Blk.new _ _ _, rfl, World.ownsRow_nil _ _ _ _, World.ownsRow_nil _ _ _ _, fun g hg => by cases hg⟩, (Below.refl _ _).alloc (Nat.le_refl _) _⟩
  case round =>
    obtain ⟨j, hj, rfl, ⟨v1, v2, gs, hq, hgl, hr1, hr2, hgs⟩, hB⟩ := hrel
    by_cases hlt : j < n
    · have hs := hB.size
      have cq0 := hq.cell 0
      have cq1 := hq.cell 1
      have hql := hq.lt
      -- the counts
      obtain ⟨v1', w2, hrun, hown1, hgr1, -⟩ := run_append_own (P := Try.prog) (w := wr.alloc (.cells #[.int .i64 0] 3)) w.heap.size 39 39 3 i3 (.int .i64 0) 1 8 Try.underlying39 hi3 hz30 hz31 hz32 rfl (by decide) v1 j _ (hr1.alloc _) ⟨wr.heap.size, 0, none⟩ 1 1 [.int .i64 0] rfl
        (by intro j u hj; have hj0 : j = 0 := (by cases j with | zero => rfl | succ j => simp at hj); subst hj0; simp at hj; subst hj; simp [Addr.add]) (by simp [Value.oneCell']) (by unfold maxLen; omega) (by omega) (by simp; omega)
      have hrun' : (appO #[39, 39] 39 #[v1, .slice (some ⟨wr.heap.size, 0, none⟩) 1 1]).run Try.prog (wr.alloc (.cells #[.int .i64 0] 3)) = .ok v1' w2 := hrun
      have hrow1 : ∀ r, v1.ownBlock = some r → w.heap.size ≤ r ∧ ∃ cs, Blk wr r cs 3 := fun r e => row_block hr1 e
      have hk1 : Kp (fun k => some k = v1.ownBlock) wr w2 := (Kp.alloc _ wr _).trans (Kp.of_grown hgr1) (fun _ h => .inl h)
      have hB2 : Below w.heap.size w w2 := hB.trans (hk1.below hs (fun k e => (hrow1 k e.symm).1))
      have hno : ∀ b cs T, Blk wr b cs T → T ≠ 3 → ¬ some b = v1.ownBlock := fun b cs T hb hT e => by
        obtain ⟨_, cs', hb'⟩ := hrow1 b e.symm
        exact hT (hb.inj hb').2
      have hq2 : Blk w2 w.heap.size #[v1, v2] 47 := hq.kept hk1 (hno _ _ _ hq (by decide))
      have hr22 : w2.ownsRow w.heap.size 31 1 v2 j (gs.map slv) := row_kept hr2 hk1 (fun r cs hb => hno _ _ _ hb (by decide))
      have hgs2 : ∀ g ∈ gs, w.heap.size ≤ g ∧ Blk w2 g Z64 5 := fun g hg => ⟨(hgs g hg).1, (hgs g hg).2.kept hk1 (hno _ _ _ (hgs g hg).2 (by decide))⟩
      have fq2 := hq2.free 0
      have cq20 := hq2.cell 0
      -- behind the store of the counts' slice
      have hk2 : Kp (fun k => k = w.heap.size) w2 (w2.setCell ⟨w.heap.size, 0, none⟩ v1') := Kp.set _ _ _ _ rfl
      have hq3 : Blk (w2.setCell ⟨w.heap.size, 0, none⟩ v1') w.heap.size #[v1', v2] 47 := hq2.set 0 v1'
      have hr13 : (w2.setCell ⟨w.heap.size, 0, none⟩ v1').ownsRow w.heap.size 3 1 v1' (j + 1) (List.replicate j (.int .i64 0) ++ [.int .i64 0]) := row_kept hown1 hk2 (fun r cs hb e => by rw [e] at hb; exact absurd (hb.inj hq2).2 (by decide))
      have hr23 := row_kept hr22 hk2 (fun r cs hb e => by rw [e] at hb; exact absurd (hb.inj hq2).2 (by decide))
      have hgs3 : ∀ g ∈ gs, w.heap.size ≤ g ∧ Blk (w2.setCell ⟨w.heap.size, 0, none⟩ v1') g Z64 5 := fun g hg => ⟨(hgs2 g hg).1, (hgs2 g hg).2.kept hk2 (fun e => by have hb := (hgs2 g hg).2; rw [e] at hb; exact absurd (hb.inj hq2).2 (by decide))⟩
      have hB3 : Below w.heap.size w (w2.setCell ⟨w.heap.size, 0, none⟩ v1') := hB2.setCell (p := ⟨w.heap.size, 0, none⟩) (Nat.le_refl _) _
      obtain ⟨a1, cp1, rfl⟩ := row_form hown1
      generalize hW3 : w2.setCell ⟨w.heap.size, 0, none⟩ (.slice a1 (j + 1) cp1) = W3 at *
      have hs3 := hB3.size
      have hq3l := hq3.lt
      have cq3 := hq3.cell 1
      -- the bytes
      obtain ⟨v2', w4, hrunb, hown2, hgr2, -⟩ := run_append_own (P := Try.prog) (w := ((W3.alloc (.cells Z64 5)).alloc (.cells #[.slice (some ⟨W3.heap.size, 0, none⟩) 64 64] 31)).drew) w.heap.size 45 45 31 i31 (.slice none 0 0) 1 24 Try.underlying45 hi31 hz310 hz311 hz312 rfl (by decide) v2 j _ ((hr23.alloc _).alloc _).drew ⟨W3.heap.size + 1, 0, none⟩ 1 1 [slv W3.heap.size] rfl
        (by intro j u hj; have hj0 : j = 0 := (by cases j with | zero => rfl | succ j => simp at hj); subst hj0; simp at hj; subst hj; simp [Addr.add, slv]) (by simp [Value.oneCell', slv]) (by unfold maxLen; omega) (by omega) (by simp; omega)
      have hrunb' : (appO #[45, 45] 45 #[v2, .slice (some ⟨W3.heap.size + 1, 0, none⟩) 1 1]).run Try.prog ((W3.alloc (.cells Z64 5)).alloc (.cells #[.slice (some ⟨W3.heap.size, 0, none⟩) 64 64] 31)).drew = .ok v2' w4 := hrunb
      have hrow2 : ∀ r, v2.ownBlock = some r → w.heap.size ≤ r ∧ ∃ cs, Blk W3 r cs 31 := fun r e => row_block hr23 e
      have hk3 : Kp (fun k => some k = v2.ownBlock) W3 w4 := ((((Kp.alloc _ W3 _).trans (Kp.alloc (fun _ => False) _ _) (fun _ h => h.elim)).drew).trans (Kp.of_grown hgr2) (fun _ h => .inl h))
      have hno2 : ∀ b cs T, Blk W3 b cs T → T ≠ 31 → ¬ some b = v2.ownBlock := fun b cs T hb hT e => by
        obtain ⟨_, cs', hb'⟩ := hrow2 b e.symm
        exact hT (hb.inj hb').2
      have hq4 : Blk w4 w.heap.size #[.slice a1 (j + 1) cp1, v2] 47 := hq3.kept hk3 (hno2 _ _ _ hq3 (by decide))
      have hr14 := row_kept hr13 hk3 (fun r cs hb => hno2 _ _ _ hb (by decide))
      have hZ4 : Blk w4 W3.heap.size Z64 5 := by
        have h1 : Blk ((W3.alloc (.cells Z64 5)).alloc (.cells #[.slice (some ⟨W3.heap.size, 0, none⟩) 64 64] 31)).drew W3.heap.size Z64 5 := (Blk.new W3 Z64 _).below ((Below.refl _ _).alloc (Nat.le_refl _) _).drew
        refine h1.kept (Kp.of_grown hgr2) (fun e => ?_)
        obtain ⟨_, cs', hb'⟩ := hrow2 _ e.symm
        have := hb'.lt
        omega
      have hgs4 : ∀ g ∈ gs, w.heap.size ≤ g ∧ Blk w4 g Z64 5 := fun g hg => ⟨(hgs3 g hg).1, (hgs3 g hg).2.kept hk3 (hno2 _ _ _ (hgs3 g hg).2 (by decide))⟩
      have hB4 : Below w.heap.size w w4 := hB3.trans (hk3.below hs3 (fun k e => (hrow2 k e.symm).1))
      have fq4 := hq4.free 1
      have cq4 := hq4.cell 1
      have hk4 : Kp (fun k => k = w.heap.size) w4 (w4.setCell ⟨w.heap.size, 1, none⟩ v2') := Kp.set _ _ _ _ rfl
      have hpart : Part w.heap.size w.heap.size (j + 1) (w4.setCell ⟨w.heap.size, 1, none⟩ v2') := by
        refine ⟨.slice a1 (j + 1) cp1, v2', gs ++ [W3.heap.size], hq4.set 1 v2', by simp [hgl], ?_, ?_, fun g hg => ?_⟩
        · have := row_kept hr14 hk4 (fun r cs hb e => by rw [e] at hb; exact absurd (hb.inj hq4).2 (by decide))
          rw [List.replicate_succ']
          exact this
        · have := row_kept hown2 hk4 (fun r cs hb e => by rw [e] at hb; exact absurd (hb.inj hq4).2 (by decide))
          rw [List.map_append]
          exact this
        · rcases List.mem_append.1 hg with hg | hg
          · exact ⟨(hgs4 g hg).1, (hgs4 g hg).2.kept hk4 (fun e => by have hb := (hgs4 g hg).2; rw [e] at hb; exact absurd (hb.inj hq4).2 (by decide))⟩
          · rw [List.mem_singleton.1 hg]
            exact ⟨hs3, hZ4.kept hk4 (fun e => by rw [e] at hZ4; exact absurd (hZ4.inj hq4).2 (by decide))⟩
      have hB5 : Below w.heap.size w (w4.setCell ⟨w.heap.size, 1, none⟩ v2') := hB4.setCell (p := ⟨w.heap.size, 1, none⟩) (Nat.le_refl _) _
      obtain ⟨a2, cp2, rfl⟩ := row_form hown2
      have HE := Lib.hid (And.intro hpart hB5)
      have HW3 := Lib.hid hW3
      generalize Z64 = Z at *
      clear hrun hrunb hown1 hown2 hgr1 hgr2 hrow1 hrow2 hk1 hk2 hk3 hk4 hB hB2 hB3 hB4 hB5 hno hno2 hq hq2 hq3 hq4 hr1 hr2 hr22 hr13 hr23 hr14 hgs hgs2 hgs3 hgs4 hZ4 hpart hi3 hz30 hz31 hz32 hi31 hz310 hz311 hz312
      go_wp2
      go_region
      go_wp2
      go_roundw
      case rel => exact ⟨j + 1, by omega, by go_num, HE.out.1, HE.out.2⟩
      case measure => simp [intOf]; omega
    · obtain rfl : j = n := by omega
      have HE := Lib.hid (And.intro hr1 (And.intro hr2 (And.intro hgs (And.intro hB hq))))
      clear hr1 hr2 hgs hB hq hmk
      go_wp2
      go_ret2
      obtain ⟨h1, h2, h3, h4, h5⟩ := HE.out
      obtain ⟨l1, ⟨e1, n1⟩ | ⟨g1, c1, u1, rfl, x1, x2, x3, x4, x5, x6⟩⟩ := h1
      · omega
      obtain ⟨l2, ⟨e2, n2⟩ | ⟨g2, c2, u2, rfl, y1, y2, y3, y4, y5, y6⟩⟩ := h2
      · omega
      refine ⟨h4, _, g1, g2, rfl, Nat.le_refl _, x1, y1, ⟨c1, c2, h5, x3, y3, x4, y4⟩, ⟨u1, x2, by omega, fun k hk => ?_⟩, ⟨u2, y2, by omega, fun k hk => ?_⟩, hn, fun _ _ => by omega, fun _ => by omega⟩
      · have := congrArg (fun l => l[k]?) x6
        simp only [List.getElem?_take, Nat.mul_one, hk, if_true, Array.getElem?_toList, List.getElem?_replicate] at this
        exact this
      · have hkl : k < gs.length := by omega
        have := congrArg (fun l => l[k]?) y6
        simp only [List.getElem?_take, Nat.mul_one, hk, if_true, Array.getElem?_toList, List.getElem?_map, List.getElem?_eq_getElem hkl, Option.map_some] at this
        exact ⟨gs[k], 64, Z64, this, Nat.le_refl _, by unfold maxLen; omega, (h3 _ (List.getElem_mem _)).2, fun i hi => zero_bytes i hi⟩
end Go.Proofs.Ytompcmbaiegkaaa.Gn
