/-
  waits of a pipe: the iterator waiting is asked till the side comes, and left by its label.
-/
import Derived.Test.YtfpdbcjnhgddoaaPw
namespace Go.Proofs.Ytfpdbcjnhgddoaa.Px
open Go Go.RowKit Go.Shelf Kit Bk Rgm Rgt Rgw Rgp Rgn Rst Pm Pw
set_option linter.unusedVariables false
attribute [local go_sem] Oper.semAt_some

theorem waiting_in (n : Nat) (a : Option Addr) (w : World) :
    CallsIn Fence.wide n Try.prog 48 #[.pointer a] w fun e w' => e = .returned (.func (.func 53) #[] #[.pointer (some ⟨w.heap.size, 0, none⟩)]) ∧ w' = w.alloc (.cells #[.pointer a] 27) := by
  refine callsIn_of_wp Try.func48 rfl trivial ?_ rfl
  simp only [Try.ntmps48, List.size_toArray, List.length_cons, List.length_nil, Nat.reduceAdd, Nat.reduceSub, Array.replicate_succ, Array.replicate_zero, List.push_toArray, List.append_toArray, List.nil_append, List.cons_append]
  gi_wp2
  go_ret
  exact ⟨rfl, rfl⟩
/-- Both sides come, or the first alone. -/
theorem waiting_stops (n : Nat) (hn : 1 ≤ n) (Bb n₀ p r : Nat) (L G R U : Int) (a b : Bool) (ha : (L == 0 && decide (0 < U)) = a) (hb : (G == 0 && decide (0 < R)) = b) (w : World) (hn₀ : n₀ ≤ w.heap.size) (hS : Sees n₀ w p r L G R U) (hc : Boxed w Bb 27 (.pointer (some ⟨p, 0, none⟩))) :
    SeqStopsK Fence.wide n Try.prog 53 #[.pointer (some ⟨Bb, 0, none⟩)] encw (Kw n₀ Bb) (fun ys => ys = wl a b 2) (fun pre => ∃ k, k ≤ 2 ∧ pre = wl a b k) 2 w := fun l J Jx W hW hJ _ hY hJ0 => by
  have := waiting1_in n hn l Bb n₀ p r L G R U J Jx W hJ hY (Nat.le_trans hn₀ hW.size) (hS.low (hW.mono hn₀)) ((hW.block Bb hc.lt).trans hc) hJ0
  rw [ha, hb] at this
  exact this
/-- What the last one of some sides says. -/
def lastv (pre : List (Nat × Bool)) : Bool := (pre.getLast?.map Prod.snd).getD false
theorem lastv_app (pre : List (Nat × Bool)) (x : Nat × Bool) : lastv (pre ++ [x]) = x.2 := by simp [lastv]

set_option maxRecDepth 100000 in
set_option maxHeartbeats 2000000 in
theorem waits_in (n : Nat) (hn : 4 ≤ n) (w : World) (p r C : Nat) (xs : List Nat) (R U : Nat) (s : Bool) (h : Pp w p r C xs R U) :
    CallsIn Fence.wide n Try.prog 36 #[.pointer (some ⟨p, 0, none⟩), .int .i64 (sd s)] w fun e w' => e = .returned (.bool (if s then mw C xs R else mr xs U)) ∧ Below w.heap.size w w' := by
  have hS := sees_pipe h h.ltp h.ltr
  obtain ⟨a, ha⟩ : ∃ a, mr xs U = a := ⟨_, rfl⟩
  obtain ⟨b, hb⟩ : ∃ b, mw C xs R = b := ⟨_, rfl⟩
  rw [ha, hb]
  unfold mr at ha
  unfold mw at hb
  obtain ⟨z, hz⟩ : ∃ z, sd s = z := ⟨_, rfl⟩
  rw [hz]
  obtain ⟨g, hg⟩ : ∃ g, (if s then b else a) = g := ⟨_, rfl⟩
  rw [hg]
  have HG := Lib.hid hg
  have HZ := Lib.hid hz
  clear hz h hg
  refine callsIn_of_wp_marks Try.func36 rfl trivial ?_ rfl
  simp only [Try.ntmps36, List.size_toArray, List.length_cons, List.length_nil, Nat.reduceAdd, Nat.reduceSub, Array.replicate_succ, Array.replicate_zero, List.push_toArray, List.append_toArray, List.nil_append, List.cons_append]
  gi_wp2
  refine wpIn_wide.2 (wp_scope_straight ((wpIn_wide (n := n)).1 ?_))
  gi_wp2
  refine wpIn_label ?_
  gi_wp2_with (first | (refine ⟨trivial, ?_⟩; gi_at_call 48; refine (waiting_in (n - 1) _ _).mono ?_; rintro e w' ⟨rfl, rfl⟩) | (refine ⟨trivial, fun _ => (by omega), ?_⟩; gi_at_call 48; refine (waiting_in (n - 1) _ _).mono ?_; rintro e w' ⟨rfl, rfl⟩))
  have bN := ((Boxed.new w 3 (.int .i64 z)).alloc (.cells #[.bool false] 4)).alloc (.cells #[.pointer (some ⟨p, 0, none⟩)] 27)
  have bS := (Boxed.new (w.alloc (.cells #[.int .i64 z] 3)) 4 (.bool false)).alloc (.cells #[.pointer (some ⟨p, 0, none⟩)] 27)
  have bP := Boxed.new ((w.alloc (.cells #[.int .i64 z] 3)).alloc (.cells #[.bool false] 4)) 27 (.pointer (some ⟨p, 0, none⟩))
  have hB0 := ((((Below.refl w.heap.size w).alloc (Nat.le_refl _) (.cells #[.int .i64 z] 3))).alloc (by simp) (.cells #[.bool false] 4)).alloc (by simp; omega) (.cells #[.pointer (some ⟨p, 0, none⟩)] 27)
  have hsz : (((w.alloc (.cells #[.int .i64 z] 3)).alloc (.cells #[.bool false] 4)).alloc (.cells #[.pointer (some ⟨p, 0, none⟩)] 27)).heap.size = w.heap.size + 3 := by simp
  simp only [World.size_alloc] at bP bS
  obtain ⟨W0, hW0⟩ : ∃ W0, ((w.alloc (.cells #[.int .i64 z] 3)).alloc (.cells #[.bool false] 4)).alloc (.cells #[.pointer (some ⟨p, 0, none⟩)] 27) = W0 := ⟨_, rfl⟩
  rw [hW0] at bN bS bP hB0 hsz ⊢
  clear hW0
  have hS0 := hS.low hB0
  refine wpIn_rangeFunc_ownH rfl (by omega) (gf := 53) (lb := #[.pointer (some ⟨w.heap.size + 1 + 1, 0, none⟩)]) rfl trivial (enters_of Try.func53 (by kernel_rfl) rfl)
    (waiting_stops (n - 1) (by omega) (w.heap.size + 1 + 1) w.heap.size p r _ _ _ _ a b ha hb W0 (by omega) hS0 bP) Kw.trans (Kw.put (by omega)) (Below.refl _ _) (fun _ => rfl)
    (fun pre W => (((Boxed W w.heap.size 3 (.int .i64 z) ∧ Boxed W (w.heap.size + 1) 4 (.bool false)) ∧ (∀ x ∈ pre, (x.1 : Int) ≠ z)) ∧ Boxed W (w.heap.size + 1 + 1) 27 (.pointer (some ⟨p, 0, none⟩))) ∧ Below w.heap.size w W)
    (fun c pre W => ((Boxed W (w.heap.size + 1) 4 (.bool (lastv pre)) ∧ (c = .exit 0 ∧ ∃ ini x, pre = ini ++ [x] ∧ (x.1 : Int) = z))) ∧ Below w.heap.size w W)
    (OwnFrom.and (OwnFrom.and (OwnFrom.and (OwnFrom.and (Own.from (boxed_own _ _ (fun (pre : List (Nat × Bool)) => Value.int .i64 z)) _) (Own.from (boxed_own _ _ (fun (pre : List (Nat × Bool)) => Value.bool false)) _)) (ownFrom_pure _ _)) (Own.from (boxed_own _ _ _) _)) (ownFrom_below (Nat.le_refl _) (by omega)))
    (fun c => OwnFrom.and (OwnFrom.and (Own.from (boxed_own _ _ (fun (pre : List (Nat × Bool)) => Value.bool (lastv pre))) _) (ownFrom_pure _ _)) (ownFrom_below (Nat.le_refl _) (by omega)))
    ⟨⟨⟨⟨bN, bS⟩, (fun x h => by cases h)⟩, bP⟩, hB0⟩
    (fun x a' W => a' = { tmps := #[.pointer (some ⟨p, 0, none⟩), .int .i64 z, undef, .pointer (some ⟨w.heap.size, 0, none⟩), .bool false, .pointer (some ⟨w.heap.size + 1, 0, none⟩), .int .i64 (x.1 : Int), .bool x.2, .pointer (some ⟨p, 0, none⟩), .func (.func 53) #[] #[.pointer (some ⟨w.heap.size + 1 + 1, 0, none⟩)], .int .i64 (x.1 : Int), .bool x.2, undef, undef, undef, undef, undef], defers := [] })
    (fun x a' => ownFrom_pure _ (fun _ : Unit => _))
    ?assign ?body ?done ?stop
  case assign =>
    rintro l pre x W K hI hK
    dsimp only [encw]
    gi_wp2
    exact hK _ _ ((KeepsOthers.refl _).from _) (Kw.refl _ _ _) hI (by simp)
  case body =>
    rintro l pre x a' W hl ⟨rr, hr⟩ ⟨⟨⟨⟨hN, hv⟩, hbl⟩, hP⟩, hB⟩ rfl hlt
    have cN := hN.cell
    have fL := hv.frozen
    have cL := hv.cell
    have hsW := hB.size
    obtain ⟨y, m⟩ := x
    dsimp only at *
    by_cases he : (y : Int) = z
    · have hd : ((y : Int) == z) = true := by simp [he]
      have HX := Lib.hid (And.intro hB he)
      clear hN hbl hP hB he hlt
      gi_wp2
      refine ⟨(KeepsOthers.setCell _ _ _).from _, ⟨?_, rfl, pre, (y, m), rfl, HX.out.2⟩, HX.out.1.setCell (p := ⟨w.heap.size + 1, 0, none⟩) (Nat.le_succ _) _⟩
      rw [lastv_app]
      exact heap_setCell_same W _ _ _ _ _ hv
    · have hd : ((y : Int) == z) = false := by simp [he]
      have HX := Lib.hid (And.intro hN (And.intro hv (And.intro hbl (And.intro hP (And.intro hB he)))))
      clear hN hv hbl hP hB he hlt
      gi_wp2
      refine ⟨(KeepsOthers.refl _).from _, Kw.refl _ _ _, ⟨⟨⟨HX.out.1, HX.out.2.1⟩, fun v hv => ?_⟩, HX.out.2.2.2.1⟩, HX.out.2.2.2.2.1⟩
      rcases List.mem_append.1 hv with h | h
      · exact HX.out.2.2.1 v h
      · rw [List.mem_singleton] at h; subst h; exact HX.out.2.2.2.2.2
  case done =>
    rintro D ys W hD rfl ⟨⟨⟨⟨hN, hv⟩, hbl⟩, hP⟩, hB⟩ hK
    exfalso
    have h0 := hbl (0, a) (by simp [wl])
    have h1 := hbl (1, b) (by simp [wl])
    rw [← HZ.out] at h0 h1
    cases s
    · exact h0 rfl
    · exact h1 rfl
  case stop =>
    rintro D c pre W hD ⟨k, hk, hpre⟩ ⟨⟨hv, rfl, ini, x, hpi, hx⟩, hB⟩ hK
    have cL := hv.cell
    have hval : lastv pre = g := by
      rw [← HZ.out] at hx
      rw [← HG.out]
      have hk3 : k = 0 ∨ k = 1 ∨ k = 2 := by omega
      rcases hk3 with rfl | rfl | rfl
      · rw [hpre] at hpi
        simp [wl] at hpi
      · have h1 : ini ++ [x] = [] ++ [((0 : Nat), a)] := by rw [← hpi, hpre]; rfl
        obtain ⟨-, h2⟩ := List.append_inj' h1 rfl
        injection h2 with h2
        subst h2
        cases s
        · rw [hpi, lastv_app]; rfl
        · simp [sd] at hx
      · have h1 : ini ++ [x] = [((0 : Nat), a)] ++ [((1 : Nat), b)] := by rw [← hpi, hpre]; rfl
        obtain ⟨-, h2⟩ := List.append_inj' h1 rfl
        injection h2 with h2
        subst h2
        cases s
        · simp [sd] at hx
        · rw [hpi, lastv_app]; rfl
    rw [hval] at cL
    have HB := Lib.hid hB
    clear hv hpi hpre hB hval
    gi_wp2
    rw [Exit.noGoto_ret]
    refine ⟨by simp, .inl ⟨_, _, rfl, run_takeDeferred hK, ?_⟩⟩
    refine ⟨_, ?_, rfl, HB.out.trans (belowK_b (w := w) (Nat.le_refl _) W D _ _ (by omega) hK rfl rfl)⟩
    simp [results, go_sem]
theorem waits_any (w : World) (p r C : Nat) (xs : List Nat) (R U : Nat) (s : Bool) (h : Pp w p r C xs R U) :
    Calls Try.prog 36 #[.pointer (some ⟨p, 0, none⟩), .int .i64 (sd s)] w fun e w' => e = .returned (.bool (if s then mw C xs R else mr xs U)) ∧ Below w.heap.size w w' := (callsIn_wide (n := 4)).1 (waits_in 4 (Nat.le_refl _) w p r C xs R U s h)
end Go.Proofs.Ytfpdbcjnhgddoaa.Px
