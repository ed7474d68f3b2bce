/-
  Peek, All and Read of a ring.
-/
import Derived.Test.YtfpdbcjnhgddoaaRgt
import Derived.Test.YtfpdbcjnhgddoaaRgw
namespace Go.Proofs.Ytfpdbcjnhgddoaa.Rgp
open Go Go.RowKit Go.Shelf Kit Bk Rgm Rgt Rgw
set_option linter.unusedVariables false

attribute [local go_sem] Oper.semAt_some
/-- An append, behind a name that a walk does not open: its run is given as an equation. -/
def appO (ts : Array TypeId) (ty : TypeId) (vs : Array Value) : Sem Value := Builtin.append_ ts ty vs
theorem app_wrap (ts : Array TypeId) (ty : TypeId) (vs : Array Value) : Builtin.append_ ts ty vs = appO ts ty vs := rfl
attribute [local go_sem ↓] app_wrap
theorem infoB : (Try.prog.info? 5).map (fun i => (i.zero, i.size, i.bytes)) = some (some (.int .u8 0), 1, 1) := by kernel_rfl

/-- Numbers as bytes of a row. -/
def u8s (xs : List Nat) : List Value := xs.map fun (x : Nat) => Value.int .u8 (x : Int)
theorem u8s_len (xs : List Nat) : (u8s xs).length = xs.length := by simp [u8s]
theorem u8s_app (xs : List Nat) (x : Nat) : u8s xs ++ [.int .u8 (x : Int)] = u8s (xs ++ [x]) := by simp [u8s]
theorem u8s_at (xs : List Nat) (i : Nat) (h : i < xs.length) : (u8s xs)[i]? = some (.int .u8 ((xs[i]?.getD 0 : Nat) : Int)) := by simp [u8s, h]
theorem u8s_one (xs : List Nat) : ∀ u ∈ u8s xs, u.oneCell' = true := by
  intro u hu
  simp only [u8s, List.mem_map] at hu
  obtain ⟨i, _, rfl⟩ := hu
  rfl
/-- The bytes of pairs. -/
def snds (l : List (Nat × Nat)) : List Nat := l.map Prod.snd
theorem snds_app (l : List (Nat × Nat)) (x : Nat × Nat) : snds (l ++ [x]) = snds l ++ [x.2] := by simp [snds]
theorem snds_len (l : List (Nat × Nat)) : (snds l).length = l.length := by simp [snds]
theorem snds_prs (xs : List Nat) : ∀ k, k ≤ xs.length → snds (prs xs k) = xs.take k
  | 0, _ => rfl
  | k + 1, h => by
    rw [prs_succ, snds_app, snds_prs xs k (by omega), List.take_succ_eq_append_getElem (by omega), List.getElem?_eq_getElem (by omega)]
    rfl
/-- Where the pairs lie below n, all so far. -/
def below (n : Int) (l : List (Nat × Nat)) : Prop := ∀ x ∈ l, (x.1 : Int) < n

set_option maxRecDepth 100000 in
set_option maxHeartbeats 2000000 in
theorem peek_in (n : Nat) (hn : 4 ≤ n) (a : Option Addr) (xs : List Nat) (N : Int) (w : World) (hM : Tells w.heap.size w a xs) :
    CallsIn Fence.wide n Try.prog 51 #[.pointer a, .int .i64 N] w fun e w' => Below w.heap.size w w' ∧ ∃ r, e = .returned r ∧ w'.ownsRow w.heap.size 5 1 r (xs.take N.toNat).length (u8s (xs.take N.toNat)) := by
  have hx64 := hM.le
  obtain ⟨i0, hi, hz0, hz1, hz2⟩ := info_parts infoB
  refine callsIn_of_wp_marks Try.func51 rfl trivial ?_ rfl
  simp only [Try.ntmps51, List.size_toArray, List.length_cons, List.length_nil, Nat.reduceAdd, Nat.reduceSub, Array.replicate_succ, Array.replicate_zero, List.push_toArray, List.append_toArray, List.nil_append, List.cons_append]
  gi_wp2
  refine wpIn_wide.2 (wp_scope_straight ((wpIn_wide (n := n)).1 ?_))
  gi_wp2
  refine wpIn_label ?_
  gi_wp2_with (first | (refine ⟨trivial, ?_⟩; gi_at_call 55; refine (told_in (n - 1) a _).mono ?_; rintro e w' ⟨rfl, rfl⟩) | (refine ⟨trivial, fun _ => (by omega), ?_⟩; gi_at_call 55; refine (told_in (n - 1) a _).mono ?_; rintro e w' ⟨rfl, rfl⟩))
  have bN := ((Boxed.new w 3 (.int .i64 N)).alloc (.cells #[.slice none 0 0] 22)).alloc (.cells #[.pointer a] 62)
  have bS := (Boxed.new (w.alloc (.cells #[.int .i64 N] 3)) 22 (.slice none 0 0)).alloc (.cells #[.pointer a] 62)
  have bP := Boxed.new ((w.alloc (.cells #[.int .i64 N] 3)).alloc (.cells #[.slice none 0 0] 22)) 62 (.pointer a)
  have hB0 := ((((Below.refl w.heap.size w).alloc (Nat.le_refl _) (.cells #[.int .i64 N] 3))).alloc (by simp) (.cells #[.slice none 0 0] 22)).alloc (by simp; omega) (.cells #[.pointer a] 62)
  have hsz : (((w.alloc (.cells #[.int .i64 N] 3)).alloc (.cells #[.slice none 0 0] 22)).alloc (.cells #[.pointer a] 62)).heap.size = w.heap.size + 3 := by simp
  have hrow0 := World.ownsRow_nil (((w.alloc (.cells #[.int .i64 N] 3)).alloc (.cells #[.slice none 0 0] 22)).alloc (.cells #[.pointer a] 62)) w.heap.size 5 1
  simp only [World.size_alloc] at bP bS
  obtain ⟨W0, hW0⟩ : ∃ W0, ((w.alloc (.cells #[.int .i64 N] 3)).alloc (.cells #[.slice none 0 0] 22)).alloc (.cells #[.pointer a] 62) = W0 := ⟨_, rfl⟩
  rw [hW0] at bN bS bP hB0 hsz hrow0 ⊢
  clear hW0
  have hM0 := hM.low hB0
  refine wpIn_rangeFunc_ownH rfl (by omega) (gf := 56) (lb := #[.pointer (some ⟨w.heap.size + 1 + 1, 0, none⟩)]) rfl trivial (enters_of Try.func56 (by kernel_rfl) rfl)
    (tells_stops (n - 1) (by omega) (w.heap.size + 1 + 1) w.heap.size a xs W0 (by omega) hM0 bP) Kq.trans (Kq.put (by omega)) (Below.refl _ _) (fun _ => rfl)
    (fun pre W => (((Boxed W w.heap.size 3 (.int .i64 N) ∧ (∃ v, Boxed W (w.heap.size + 1) 22 v ∧ W.ownsRow w.heap.size 5 1 v (snds pre).length (u8s (snds pre)) ∧ True)) ∧ below N pre) ∧ Boxed W (w.heap.size + 1 + 1) 62 (.pointer a)) ∧ Below w.heap.size w W)
    (fun c pre W => (((Boxed W w.heap.size 3 (.int .i64 N) ∧ (∃ v, Boxed W (w.heap.size + 1) 22 v ∧ W.ownsRow w.heap.size 5 1 v (snds pre.dropLast).length (u8s (snds pre.dropLast)) ∧ True)) ∧ (c = .exit 0 ∧ ∃ ini x, pre = ini ++ [x] ∧ below N ini ∧ N ≤ (x.1 : Int)))) ∧ Below w.heap.size w W)
    (OwnFrom.and (OwnFrom.and (OwnFrom.and (OwnFrom.and (Own.from (boxed_own _ _ (fun (pre : List (Nat × Nat)) => Value.int .i64 N)) _) (Own.from (holdsRow_own w.heap.size (w.heap.size + 1) 22 5 1 (fun (pre : List (Nat × Nat)) => (snds pre).length) (fun (pre : List (Nat × Nat)) => u8s (snds pre)) (fun _ _ => True)) _)) (ownFrom_pure _ _)) (Own.from (boxed_own _ _ _) _)) (ownFrom_below (Nat.le_refl _) (by omega)))
    (fun c => OwnFrom.and (OwnFrom.and (OwnFrom.and (Own.from (boxed_own _ _ (fun (pre : List (Nat × Nat)) => Value.int .i64 N)) _) (Own.from (holdsRow_own w.heap.size (w.heap.size + 1) 22 5 1 (fun (pre : List (Nat × Nat)) => (snds pre.dropLast).length) (fun (pre : List (Nat × Nat)) => u8s (snds pre.dropLast)) (fun _ _ => True)) _)) (ownFrom_pure _ _)) (ownFrom_below (Nat.le_refl _) (by omega)))
    ⟨⟨⟨⟨bN, _, bS, hrow0, trivial⟩, (fun x h => by cases h)⟩, by simpa using bP⟩, hB0⟩
    (fun x a' W => a' = { tmps := #[.pointer a, .int .i64 N, undef, .pointer (some ⟨w.heap.size, 0, none⟩), .slice none 0 0, .pointer (some ⟨w.heap.size + 1, 0, none⟩), .int .i64 (x.1 : Int), .int .u8 (x.2 : Int), .pointer a, .func (.func 56) #[] #[.pointer (some ⟨w.heap.size + 1 + 1, 0, none⟩)], .int .i64 (x.1 : Int), .int .u8 (x.2 : Int), undef, undef, undef, undef, undef, undef, undef, undef], defers := [] })
    (fun x a' => ownFrom_pure _ (fun _ : Unit => _))
    ?assign ?body ?done ?stop
  case assign =>
    rintro l pre x W K hI hK
    dsimp only [encs]
    gi_wp2
    exact hK _ _ ((KeepsOthers.refl _).from _) (Kq.refl _ _ _) hI (by simp)
  case body =>
    rintro l pre x a' W hl ⟨rr, hr⟩ ⟨⟨⟨⟨hN, v, hv, hrow, -⟩, hbl⟩, hP⟩, hB⟩ rfl hlt
    have cN := hN.cell
    have cL := hv.cell
    have hsW := hB.size
    by_cases he : N ≤ (x.1 : Int)
    · have hd : decide (N ≤ (x.1 : Int)) = true := decide_eq_true he
      have HX := Lib.hid (And.intro hN (And.intro hv (And.intro hrow (And.intro hbl (And.intro he hB)))))
      clear hN hv hrow hbl hP hB he hlt
      gi_wp2
      exact ⟨(KeepsOthers.refl _).from _, ⟨⟨HX.out.1, v, HX.out.2.1, by rw [List.dropLast_concat]; exact HX.out.2.2.1, trivial⟩, rfl, pre, x, rfl, HX.out.2.2.2.1, HX.out.2.2.2.2.1⟩, HX.out.2.2.2.2.2⟩
    · have hd : decide (N ≤ (x.1 : Int)) = false := decide_eq_false he
      have hlen : (snds pre).length ≤ 64 := by rw [snds_len]; omega
      obtain ⟨v', w2, hrun, hown', hgrow, -⟩ := run_append_own (P := Try.prog) (w := W.alloc (.cells #[.int .u8 (x.2 : Int)] 5)) w.heap.size 22 22 5 i0 (.int .u8 0) 1 1 Try.underlying22 hi hz0 hz1 hz2 rfl (by decide) v (snds pre).length (u8s (snds pre)) (hrow.alloc _) ⟨W.heap.size, 0, none⟩ 1 1 [.int .u8 (x.2 : Int)] rfl
        (by intro j u hj; have hj0 : j = 0 := (by cases j with | zero => rfl | succ j => simp at hj); subst hj0; simp at hj; subst hj; simp [Addr.add]) (by simp [Value.oneCell']) (by unfold maxLen; omega) (by omega) (by simp; omega)
      obtain ⟨g', cap', rfl⟩ := ownsRow_succ hown'
      have hrun' : (appO #[22, 22] 22 #[v, .slice (some ⟨W.heap.size, 0, none⟩) 1 1]).run Try.prog (W.alloc (.cells #[.int .u8 (x.2 : Int)] 5)) = .ok (.slice (some ⟨g', 0, none⟩) ((snds pre).length + 1) cap') w2 := hrun
      clear hrun
      have hkeep : ∀ (C : Nat) (t : TypeId) (u : Value), t ≠ 5 → C ≠ w.heap.size + 1 → Boxed W C t u → Boxed (w2.setCell ⟨w.heap.size + 1, 0, none⟩ (.slice (some ⟨g', 0, none⟩) ((snds pre).length + 1) cap')) C t u := fun C t u ht hne h =>
        Boxed.other (Boxed.kept (h.alloc _) hgrow (h.not_row ht hrow)) hne _
      obtain ⟨hv1, hv2, hr2, hk2, hb2⟩ := hv.appended (by decide) hrow hsW (by omega) hown' hgrow
      have hc1 := hv1.cell
      have hf1 := hv1.frozen
      have hbl2 : below N (pre ++ [x]) := fun y hy => by
        rcases List.mem_append.1 hy with h | h
        · exact hbl y h
        · rw [List.mem_singleton] at h; subst h; omega
      have hls : (snds (pre ++ [x])).length = (snds pre).length + 1 := by rw [snds_len, snds_len]; simp
      have hr3 : (w2.setCell ⟨w.heap.size + 1, 0, none⟩ (.slice (some ⟨g', 0, none⟩) ((snds pre).length + 1) cap')).ownsRow w.heap.size 5 1 (.slice (some ⟨g', 0, none⟩) ((snds pre).length + 1) cap') (snds (pre ++ [x])).length (u8s (snds (pre ++ [x]))) := by
        rw [hls, snds_app, ← u8s_app]
        exact hr2
      have HV := Lib.hid (And.intro hv2 (And.intro hr3 (And.intro hk2 hb2)))
      have HX := Lib.hid (And.intro (hkeep _ _ _ (by decide) (by omega) hN) (And.intro (hkeep _ _ _ (by decide) (by omega) hP) (And.intro hbl2 hB)))
      have HKp := Lib.hid hkeep
      clear hv2 hr2 hr3 hk2 hb2 hown' hgrow hN hP hbl hbl2 hB hkeep hls he hlt hv hrow
      gi_wp2
      exact ⟨HV.out.2.2.1.from _, ⟨HV.out.2.2.2, fun u hu => HKp.out _ _ u (by decide) (by omega) hu⟩, ⟨⟨⟨HX.out.1, _, HV.out.1, HV.out.2.1, trivial⟩, HX.out.2.2.1⟩, HX.out.2.1⟩, HX.out.2.2.2.trans HV.out.2.2.2⟩
  case done =>
    rintro D ys W hD rfl ⟨⟨⟨⟨hN, v, hv, hrow, -⟩, hbl⟩, hP⟩, hB⟩ hK
    have cL := hv.cell
    have ht : snds (prs xs xs.length) = xs.take N.toNat := by
      rw [snds_prs xs _ (Nat.le_refl _), List.take_length]
      refine (List.take_of_length_le ?_).symm
      cases hxl : xs.length with
      | zero => omega
      | succ m =>
        have := hbl (m, xs[m]?.getD 0) (by rw [hxl, prs_succ]; simp)
        dsimp only at this
        omega
    rw [ht] at hrow
    have HR := Lib.hid hrow
    have HB := Lib.hid hB
    clear hrow hN hv hbl hP hB ht
    gi_wp2
    rw [Exit.noGoto_ret]
    refine ⟨by simp, .inl ⟨_, _, rfl, run_takeDeferred hK, ?_⟩⟩
    refine ⟨v, ?_, HB.out.trans (belowK_b (w := w) (Nat.le_refl _) W D _ _ (by omega) hK rfl rfl), _, rfl, ownsRow_putObj HR.out (.deferred none) hK rfl⟩
    simp [results, go_sem]
  case stop =>
    rintro D c pre W hD ⟨k, hk, hpre⟩ ⟨⟨⟨hN, v, hv, hrow, -⟩, rfl, ini, x, rfl, hbl, hx⟩, hB⟩ hK
    have cL := hv.cell
    rw [List.dropLast_concat] at hrow
    have ht : snds ini = xs.take N.toNat := by
      cases k with
      | zero => simp [prs_zero] at hpre
      | succ k =>
        rw [prs_succ] at hpre
        obtain ⟨h1, h2⟩ := List.append_inj' hpre rfl
        injection h2 with h2
        subst h2
        rw [h1, snds_prs xs k (by omega)]
        dsimp only at hx
        congr 1
        cases hk0 : k with
        | zero => omega
        | succ m =>
          have := hbl (m, xs[m]?.getD 0) (by rw [h1, hk0, prs_succ]; simp)
          dsimp only at this
          omega
    rw [ht] at hrow
    have HR := Lib.hid hrow
    have HB := Lib.hid hB
    clear hrow hN hv hbl hx hpre hB ht
    gi_wp2
    rw [Exit.noGoto_ret]
    refine ⟨by simp, .inl ⟨_, _, rfl, run_takeDeferred hK, ?_⟩⟩
    refine ⟨v, ?_, HB.out.trans (belowK_b (w := w) (Nat.le_refl _) W D _ _ (by omega) hK rfl rfl), _, rfl, ownsRow_putObj HR.out (.deferred none) hK rfl⟩
    simp [results, go_sem]
theorem peek_any (a : Option Addr) (xs : List Nat) (N : Int) (w : World) (hM : Tells w.heap.size w a xs) :
    Calls Try.prog 51 #[.pointer a, .int .i64 N] w fun e w' => Below w.heap.size w w' ∧ ∃ r, e = .returned r ∧ w'.ownsRow w.heap.size 5 1 r (xs.take N.toNat).length (u8s (xs.take N.toNat)) := (callsIn_wide (n := 4)).1 (peek_in 4 (Nat.le_refl _) a xs N w hM)
theorem tells_ring {w : World} {p C : Nat} {xs : List Nat} (h : Rg w p C xs) : Tells w.heap.size w (some ⟨p, 0, none⟩) xs := .inr ⟨p, C, rfl, h.lt, h⟩
theorem tells_none (w : World) : Tells w.heap.size w none [] := .inl ⟨rfl, rfl⟩
theorem tells_len {w : World} {a : Option Addr} {xs : List Nat} (h : Tells w.heap.size w a xs) : Calls Try.prog 39 #[.pointer a] w fun e w' => e = .returned (.int .i64 (xs.length : Int)) ∧ w = w' := by
  rcases h with ⟨rfl, rfl⟩ | ⟨p, C, rfl, hp, hr⟩
  · exact len_nil w
  · exact len_any w p C xs hr
theorem all_any (a : Option Addr) (xs : List Nat) (w : World) (hM : Tells w.heap.size w a xs) :
    Calls Try.prog 46 #[.pointer a] w fun e w' => Below w.heap.size w w' ∧ ∃ r, e = .returned r ∧ w'.ownsRow w.heap.size 5 1 r xs.length (u8s xs) := by
  have HL := Lib.hid (tells_len hM)
  have hp := peek_any a xs (xs.length : Int) w hM
  rw [Int.toNat_natCast, List.take_length] at hp
  have HP := Lib.hid hp
  clear hM hp
  go_enter Try.func46, Try.ntmps46
  go_wp2_with (first | (go_at_call 39; (with_reducible refine HL.out.mono ?_); rintro e w1 ⟨rfl, rfl⟩) | (go_at_call 51; (with_reducible refine HP.out.mono ?_); rintro e w1 ⟨hb, r, rfl, hr⟩))
  go_ret
  exact ⟨hb, _, rfl, hr⟩
theorem row_form {w : World} {base : Nat} {e : TypeId} {size : Nat} {v : Value} {n : Nat} {xs : List Value} (h : w.ownsRow base e size v n xs) : ∃ ad cap, v = .slice ad n cap := by
  rcases h.2 with ⟨h1, h2⟩ | ⟨g, cap, cur, h1, _⟩
  · subst h2; exact ⟨none, 0, h1⟩
  · exact ⟨_, _, h1⟩
/-- A row outlives what is done ahead of its block. -/
theorem own_kp {S : Nat → Prop} {w w' : World} {base : Nat} {e : TypeId} {size : Nat} {v : Value} {n : Nat} {xs : List Value} (h : w.ownsRow base e size v n xs) (hk : Kp S w w') (hS : ∀ j, S j → j < base) : w'.ownsRow base e size v n xs := by
  refine ⟨h.1, ?_⟩
  rcases h.2 with h2 | ⟨g, cap, cur, hv, hg, hh, h3⟩
  · exact .inl h2
  · have hlt : g < w.heap.size := (Array.getElem?_eq_some_iff.1 hh).1
    exact .inr ⟨g, cap, cur, hv, hg, (hk.block g hlt (fun e => by have := hS g e; omega)).trans hh, h3⟩
theorem Lay.take {cs : Array Value} {f C : Nat} {xs : List Nat} (h : Lay cs f C xs) (m : Nat) (hm : m ≤ xs.length) :
    Lay ((cs.setIfInBounds 64 (.int .i64 (((f + m) % 64 : Nat) : Int))).setIfInBounds 65 (.int .i64 ((xs.length : Int) - (m : Int)))) ((f + m) % 64) C (xs.drop m) := by
  have hs := h.size
  refine ⟨by simp [hs], fun j hj2 => ?_, ?_, ?_, ?_, Nat.mod_lt _ (by omega), h.hC, by have := h.hx; simp; omega, fun i hi => ?_⟩
  · rw [Array.getElem?_setIfInBounds, if_neg (by omega), Array.getElem?_setIfInBounds, if_neg (by omega)]
    exact h.byte j hj2
  · rw [Array.getElem?_setIfInBounds, if_neg (by omega), Array.getElem?_setIfInBounds, if_pos rfl, if_pos (by omega)]
  · rw [Array.getElem?_setIfInBounds, if_pos rfl, if_pos (by simp [hs])]
    congr 2
    rw [List.length_drop]
    omega
  · rw [Array.getElem?_setIfInBounds, if_neg (by omega), Array.getElem?_setIfInBounds, if_neg (by omega)]; exact h.c66
  · simp at hi
    rw [Array.getElem?_setIfInBounds, if_neg (by omega), Array.getElem?_setIfInBounds, if_neg (by omega), show ((f + m) % 64 + i) % 64 = (f + (m + i)) % 64 by omega, h.at_ (m + i) (by omega), List.getElem?_drop]
theorem read_nil (w : World) (N : Int) :
    Calls Try.prog 40 #[.pointer none, .int .i64 N] w fun e w' => Below w.heap.size w w' ∧ ∃ r, e = .returned r ∧ w'.ownsRow w.heap.size 5 1 r 0 [] := by
  have hp := peek_any none [] N w (tells_none w)
  rw [List.take_nil] at hp
  have HP := Lib.hid hp
  clear hp
  go_enter Try.func40, Try.ntmps40
  go_wp2_with (first | (go_at_call 51; (with_reducible refine HP.out.mono ?_); rintro e w1 ⟨hb, r, rfl, hr⟩; obtain ⟨ad, cap, rfl⟩ := row_form hr; replace hr := Lib.hid hr; dsimp only [List.length_nil]))
  go_ret
  exact ⟨hb, _, rfl, hr.out⟩
set_option maxHeartbeats 1000000 in
theorem read_any (w : World) (p C : Nat) (xs : List Nat) (N : Int) (h : Rg w p C xs) :
    Calls Try.prog 40 #[.pointer (some ⟨p, 0, none⟩), .int .i64 N] w fun e w' => Kp (fun j => j = p) w w' ∧ Rg w' p C (xs.drop N.toNat) ∧ ∃ r, e = .returned r ∧ w'.ownsRow w.heap.size 5 1 r (xs.take N.toNat).length (u8s (xs.take N.toNat)) := by
  have hp := peek_any (some ⟨p, 0, none⟩) xs N w (tells_ring h)
  have hplt := h.lt
  obtain ⟨m, hm⟩ : ∃ m, (xs.take N.toNat).length = m := ⟨_, rfl⟩
  have hmx : m ≤ xs.length := by rw [← hm, List.length_take]; exact Nat.min_le_right _ _
  have hdr : xs.drop N.toNat = xs.drop m := by
    rw [← hm, List.length_take]
    rcases Nat.le_total N.toNat xs.length with h | h
    · rw [Nat.min_eq_left h]
    · rw [Nat.min_eq_right h, List.drop_eq_nil_of_le h, List.drop_length]
  rw [hm] at hp
  rw [hdr, hm]
  have HP := Lib.hid hp
  generalize xs.take N.toNat = zs at *
  clear hp hm hdr
  by_cases h0 : m = 0
  · subst h0
    have HM : Hid (∀ w1, Below w.heap.size w w1 → Rg w1 p C (xs.drop 0)) := Lib.hid (fun w1 hb => by rw [List.drop_zero]; exact h.below hb)
    clear h hmx
    go_enter Try.func40, Try.ntmps40
    go_wp2_with (first | (go_at_call 51; (with_reducible refine HP.out.mono ?_); rintro e w1 ⟨hb, r, rfl, hr⟩; obtain ⟨ad, cap, rfl⟩ := row_form hr; replace hr := Lib.hid hr))
    go_ret
    exact ⟨.of_below hb, HM.out _ hb, _, rfl, hr.out⟩
  · obtain ⟨hC, hxC⟩ := h.cap_le
    obtain ⟨cs, f, hb0, hl0⟩ := h
    have HB0 := Lib.hid (And.intro hb0 hl0)
    have hm0 : (0 : Int) < (m : Int) := by omega
    have hm64 : (m : Int) ≤ 64 := by omega
    have HMX := Lib.hid hmx
    clear hb0 hl0 hmx
    go_enter Try.func40, Try.ntmps40
    go_wp2_with (first | (go_at_call 51; (with_reducible refine HP.out.mono ?_); rintro e w1 ⟨hb, r, rfl, hr⟩; obtain ⟨ad, cap, rfl⟩ := row_form hr; refine Hid.out ?_))
    refine Lib.hid ?_
    obtain ⟨hb0, hl0⟩ := HB0.out
    have hb1 : Blk w1 p cs 83 := hb0.below hb
    have hpl := place_at w1 p cs f m hb1 hl0.c64 hl0.hf (by omega)
    have hput := Lay.take hl0 m HMX.out
    obtain ⟨j, hj⟩ : ∃ j, (f + m) % 64 = j := ⟨_, rfl⟩
    rw [hj] at hpl hput
    have c64 := (hb1.cell 64).trans hl0.c64
    have f64 := hb1.free 64
    have hb2 := hb1.set 64 (.int .i64 (j : Int))
    have c65 : (w1.setCell ⟨p, 64, none⟩ (.int .i64 (j : Int))).cell? ⟨p, 65, none⟩ = some (.int .i64 (xs.length : Int)) := by
      rw [hb2.cell 65, Array.getElem?_setIfInBounds, if_neg (by omega)]
      exact hl0.c65
    have f65 := hb2.free 65
    have k2 : Kp (fun j => j = p) w1 ((w1.setCell ⟨p, 64, none⟩ (.int .i64 (j : Int))).setCell ⟨p, 65, none⟩ (.int .i64 ((xs.length : Int) - (m : Int)))) := ((Kp.set (S := fun j => j = p) w1 p 64 _ rfl).trans (Kp.set (S := fun j => j = p) _ p 65 _ rfl) (fun _ h => .inl h))
    have hxI : (xs.length : Int) ≤ 64 := by omega
    have hmI : (m : Int) ≤ (xs.length : Int) := by have := HMX.out; omega
    have HE : Hid (Kp (fun j => j = p) w ((w1.setCell ⟨p, 64, none⟩ (.int .i64 (j : Int))).setCell ⟨p, 65, none⟩ (.int .i64 ((xs.length : Int) - (m : Int)))) ∧ Blk ((w1.setCell ⟨p, 64, none⟩ (.int .i64 (j : Int))).setCell ⟨p, 65, none⟩ (.int .i64 ((xs.length : Int) - (m : Int)))) p _ 83 ∧ _ ∧ ((w1.setCell ⟨p, 64, none⟩ (.int .i64 (j : Int))).setCell ⟨p, 65, none⟩ (.int .i64 ((xs.length : Int) - (m : Int)))).ownsRow w.heap.size 5 1 (.slice ad m cap) m (u8s zs)) :=
      Lib.hid (And.intro ((Kp.of_below hb).trans k2 (fun j h => .inl h)) (And.intro (hb2.set 65 (.int .i64 ((xs.length : Int) - (m : Int)))) (And.intro hput (own_kp hr k2 (fun j e => by omega)))))
    have HPL := Lib.hid hpl
    generalize xs.length = L at *
    clear hput k2 hb hb0 hl0 hb1 hb2 hr hpl hj h0
    go_wp2_with (go_at_call 50; (with_reducible refine HPL.out.mono ?_); rintro e w9 ⟨rfl, rfl⟩)
    go_ret
    exact ⟨HE.out.1, ⟨_, _, HE.out.2.1, HE.out.2.2.1⟩, _, rfl, HE.out.2.2.2⟩
end Go.Proofs.Ytfpdbcjnhgddoaa.Rgp
