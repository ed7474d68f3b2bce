/-
  List: the signals of bits, collected.
-/
import Derived.Test.YtlhhgapimhpgnaaSge
import Derived.Deep.AppendSrc
namespace Go.Proofs.Ytlhhgapimhpgnaa.Sgf
open Go Go.RowKit Go.Shelf Kit Bk Sga Sgb Sgc Sgd Sge
set_option linter.unusedVariables false
attribute [local go_sem] Oper.semAt_some

def appO (ts : Array TypeId) (ty : TypeId) (vs : Array Value) : Sem Value := Builtin.append_ ts ty vs
theorem app_wrap (ts : Array TypeId) (ty : TypeId) (vs : Array Value) : Builtin.append_ ts ty vs = appO ts ty vs := rfl

theorem signals_in (n : Nat) (d : Nat) (w : World) :
    CallsIn Fence.wide n Try.prog 33 #[uv d] w fun e w' => e = .returned (.func (.func 40) #[] #[.pointer (some ⟨w.heap.size, 0, none⟩)]) ∧ w' = w.alloc (.cells #[uv d] 22) := by
  refine callsIn_of_wp Try.func33 rfl trivial ?_ rfl
  simp only [Try.ntmps33, List.size_toArray, List.length_cons, List.length_nil, Nat.reduceAdd, Nat.reduceSub, Array.replicate_succ, Array.replicate_zero, List.push_toArray, List.append_toArray, List.nil_append, List.cons_append]
  gi_wp2
  go_ret
  exact ⟨rfl, rfl⟩
/-- All of the bits come, rising, or a first part of them. n₀: what lay there when the loop's function began. -/
theorem signals_stops (enc : Nat → Array Value) (henc : ∀ x, x ≤ 15 → enc x = encs x) (n : Nat) (hn : 1 ≤ n) (Bb n₀ d : Nat) (hd : d < 4294967296) (w : World) (hn₀ : n₀ ≤ w.heap.size) (hB : Boxed w Bb 22 (uv d)) :
    SeqStopsK Fence.wide n Try.prog 40 #[.pointer (some ⟨Bb, 0, none⟩)] enc (Kq n₀ Bb) (fun ys => ys = sgs d 15) (fun pre => ∃ k, k ≤ 15 ∧ pre = sgs d k) 15 w := fun l J Jx W hW hJ _ hY hJ0 =>
  signals1_in enc henc n hn l Bb n₀ d hd J Jx W hJ hY (Nat.le_trans hn₀ hW.size) ((hW.block Bb hB.lt).trans hB) hJ0

/-- Numbers as cells. -/
def ints (l : List Nat) : List Value := l.map fun (x : Nat) => Value.int .i64 (x : Int)
theorem infoI : (Try.prog.info? 3).map (fun i => (i.zero, i.size, i.bytes)) = some (some (.int .i64 0), 1, 8) := by kernel_rfl
attribute [local go_sem ↓] app_wrap
theorem info_parts' {T : TypeId} {z : Option Value} {s b : Nat} (h : (Try.prog.info? T).map (fun i => (i.zero, i.size, i.bytes)) = some (z, s, b)) : ∃ i, Try.prog.info? T = some i ∧ i.zero = z ∧ i.size = s ∧ i.bytes = b := by
  cases hi : Try.prog.info? T with
  | none => rw [hi] at h; cases h
  | some i =>
    rw [hi] at h
    simp at h
    exact ⟨i, rfl, h.1, h.2.1, h.2.2⟩

set_option maxRecDepth 100000 in
set_option maxHeartbeats 2000000 in
theorem seq_in (n : Nat) (hn : 3 ≤ n) (Bb d : Nat) (hd : d < 4294967296) (w : World) (hB : Boxed w Bb 22 (uv d)) :
    CallsIn Fence.wide n Try.prog 39 #[.slice none 0 0, .func (.func 40) #[] #[.pointer (some ⟨Bb, 0, none⟩)]] w fun e w' => Below w.heap.size w w' ∧ ∃ u, e = .returned u ∧ w'.ownsRow w.heap.size 3 1 u (sgs d 15).length (ints (sgs d 15)) := by
  obtain ⟨i0, hi, hz0, hz1, hz2⟩ := info_parts' infoI
  have hBlt := hB.lt
  refine callsIn_of_wp_marks Try.func39 rfl trivial ?_ rfl
  simp only [Try.ntmps39, List.size_toArray, List.length_cons, List.length_nil, Nat.reduceAdd, Nat.reduceSub, Array.replicate_succ, Array.replicate_zero, List.push_toArray, List.append_toArray, List.nil_append, List.cons_append]
  gi_wp2
  have bS := Boxed.new w 33 (.slice none 0 0)
  have bP := hB.alloc (.cells #[.slice none 0 0] 33)
  have hB0 := (Below.refl w.heap.size w).alloc (Nat.le_refl _) (.cells #[.slice none 0 0] 33)
  have hsz : (w.alloc (.cells #[.slice none 0 0] 33)).heap.size = w.heap.size + 1 := by simp
  have hrow0 := World.ownsRow_nil (w.alloc (.cells #[.slice none 0 0] 33)) w.heap.size 3 1
  obtain ⟨W0, hW0⟩ : ∃ W0, w.alloc (.cells #[.slice none 0 0] 33) = W0 := ⟨_, rfl⟩
  rw [hW0] at bS bP hB0 hsz hrow0 ⊢
  clear hW0
  refine wpIn_rangeFunc_ownH rfl (by omega) (gf := 40) (lb := #[.pointer (some ⟨Bb, 0, none⟩)]) rfl trivial (enters_of Try.func40 (by kernel_rfl) rfl)
    (signals_stops encs (fun _ _ => rfl) (n - 1) (by omega) Bb w.heap.size d hd W0 hB0.size bP) Kq.trans (Kq.put (by omega)) (Below.refl _ _) (fun _ => rfl)
    (fun pre W => ((∃ v, Boxed W w.heap.size 33 v ∧ W.ownsRow w.heap.size 3 1 v pre.length (ints pre) ∧ True) ∧ True) ∧ Below w.heap.size w W)
    (fun c pre W => False)
    (OwnFrom.and (OwnFrom.and (Own.from (holdsRow_own w.heap.size w.heap.size 33 3 1 (fun (pre : List Nat) => pre.length) (fun (pre : List Nat) => ints pre) (fun _ _ => True)) _) (ownFrom_pure _ (fun _ => True))) (ownFrom_below (Nat.le_refl _) (by omega)))
    (fun c => ownFrom_pure _ _)
    ⟨⟨⟨_, bS, hrow0, trivial⟩, trivial⟩, hB0⟩
    (fun x a' W => a' = { tmps := #[.slice none 0 0, .func (.func 40) #[] #[.pointer (some ⟨Bb, 0, none⟩)], .pointer (some ⟨w.heap.size, 0, none⟩), undef, .slice none 0 0, .int .i64 (x : Int), .func (.func 40) #[] #[.pointer (some ⟨Bb, 0, none⟩)], .int .i64 (x : Int), undef, undef, undef, undef, undef], defers := [] })
    (fun x a' => ownFrom_pure _ (fun _ : Unit => _))
    ?assign ?body ?done ?stop
  case assign =>
    rintro l pre x W K hI hK
    dsimp only [encs]
    gi_wp2
    exact hK _ _ ((KeepsOthers.refl _).from _) (Kq.refl _ _ _) hI (by simp)
  case body =>
    rintro l pre x a' W hl ⟨rr, hr⟩ ⟨⟨⟨v, hv, hrow, -⟩, -⟩, hB⟩ rfl hlt
    have cL := hv.cell
    have hsW := hB.size
    obtain ⟨v', w2, hrun, hown', hgrow, -⟩ := run_append_own (P := Try.prog) (w := W.alloc (.cells #[.int .i64 (x : Int)] 3)) w.heap.size 33 33 3 i0 (.int .i64 0) 1 8 Try.underlying33 hi hz0 hz1 hz2 rfl (by decide) v pre.length (ints pre) (hrow.alloc _) ⟨W.heap.size, 0, none⟩ 1 1 [.int .i64 (x : Int)] rfl
      (by intro j u hj; have hj0 : j = 0 := (by cases j with | zero => rfl | succ j => simp at hj); subst hj0; simp at hj; subst hj; simp [Addr.add]) (by simp [Value.oneCell']) (by unfold maxLen; omega) (by omega) (by simp; omega)
    obtain ⟨g', cap', rfl⟩ := ownsRow_succ hown'
    have hrun' : (appO #[33, 33] 33 #[v, .slice (some ⟨W.heap.size, 0, none⟩) 1 1]).run Try.prog (W.alloc (.cells #[.int .i64 (x : Int)] 3)) = .ok (.slice (some ⟨g', 0, none⟩) (pre.length + 1) cap') w2 := hrun
    clear hrun
    have hkeep : ∀ (C : Nat) (t : TypeId) (u : Value), t ≠ 3 → C ≠ w.heap.size → Boxed W C t u → Boxed (w2.setCell ⟨w.heap.size, 0, none⟩ (.slice (some ⟨g', 0, none⟩) (pre.length + 1) cap')) C t u := fun C t u ht hne h =>
      Boxed.other (Boxed.kept (h.alloc _) hgrow (h.not_row ht hrow)) hne _
    obtain ⟨hv1, hv2, hr2, hk2, hb2⟩ := hv.appended (by decide) hrow hsW (Nat.le_refl _) hown' hgrow
    have hc1 := hv1.cell
    have hf1 := hv1.frozen
    have HV := Lib.hid (And.intro hv2 (And.intro hr2 (And.intro hk2 hb2)))
    clear hv2 hr2 hk2 hb2 hown' hgrow
    gi_wp2
    exact ⟨HV.out.2.2.1.from _, ⟨HV.out.2.2.2, fun u hu => hkeep _ _ u (by decide) (by omega) hu⟩, ⟨⟨_, HV.out.1, by simpa [ints] using HV.out.2.1, trivial⟩, trivial⟩, hB.trans HV.out.2.2.2⟩
  case done =>
    rintro D ys W hD rfl ⟨⟨⟨v, hv, hrow, -⟩, -⟩, hB⟩ hK
    have cL := hv.cell
    have HR := Lib.hid hrow
    clear hrow
    gi_wp2
    refine ⟨by simp, .inl ⟨_, _, rfl, run_takeDeferred hK, ?_⟩⟩
    refine ⟨v, ?_, hB.trans (belowK_b (w := w) (Nat.le_refl _) W D _ _ (by omega) hK rfl rfl), _, rfl, ownsRow_putObj HR.out (.deferred none) hK rfl⟩
    simp [results, go_sem]
  case stop =>
    rintro D c pre W hD hm hF hK
    exact hF.elim
theorem collect_in (n : Nat) (hn : 4 ≤ n) (Bb d : Nat) (hd : d < 4294967296) (w : World) (hB : Boxed w Bb 22 (uv d)) :
    CallsIn Fence.wide n Try.prog 32 #[.func (.func 40) #[] #[.pointer (some ⟨Bb, 0, none⟩)]] w fun e w' => Below w.heap.size w w' ∧ ∃ u, e = .returned u ∧ w'.ownsRow w.heap.size 3 1 u (sgs d 15).length (ints (sgs d 15)) := by
  have HS := Lib.hid (seq_in (n - 1) (by omega) Bb d hd w hB)
  refine callsIn_of_wp Try.func32 rfl trivial ?_ rfl
  simp only [Try.ntmps32, List.size_toArray, List.length_cons, List.length_nil, Nat.reduceAdd, Nat.reduceSub, Array.replicate_succ, Array.replicate_zero, List.push_toArray, List.append_toArray, List.nil_append, List.cons_append]
  clear hB
  gi_wp2_with (first | (refine ⟨trivial, fun _ => (by omega), ?_⟩; gi_at_call 39; refine HS.out.mono ?_; rintro e w' ⟨hb, r, rfl, ho⟩))
  go_ret
  exact ⟨hb, _, rfl, ho⟩
theorem own_base {w : World} {b b' : Nat} {e : TypeId} {s : Nat} {v : Value} {n : Nat} {xs : List Value} (h : w.ownsRow b e s v n xs) (hb : b' ≤ b) : w.ownsRow b' e s v n xs := by
  refine ⟨h.1, ?_⟩
  rcases h.2 with h2 | ⟨g, cap, cur, hv, hg, hh, h3⟩
  · exact .inl h2
  · exact .inr ⟨g, cap, cur, hv, Nat.le_trans hb hg, hh, h3⟩
theorem list_any (w : World) (d : Nat) (hd : d < 4294967296) :
    Calls Try.prog 12 #[uv d] w fun e w' => Below w.heap.size w w' ∧ ∃ u, e = .returned u ∧ w'.ownsRow w.heap.size 3 1 u (sgs d 15).length (ints (sgs d 15)) := by
  have b1 := (Below.refl w.heap.size w).alloc (Nat.le_refl _) (.cells #[uv d] 22)
  have HA := Lib.hid ((callsIn_wide (n := 4)).1 (signals_in 4 d w))
  have HC := Lib.hid ((callsIn_wide (n := 4)).1 (collect_in 4 (Nat.le_refl _) w.heap.size d hd (w.alloc (.cells #[uv d] 22)) (Boxed.new w _ _)))
  have HB := Lib.hid b1
  clear b1
  go_enter Try.func12, Try.ntmps12
  go_wp2_with (first | (go_at_call 33; (with_reducible refine HA.out.mono ?_); rintro e w1 ⟨rfl, rfl⟩) | (go_at_call 32; (with_reducible refine HC.out.mono ?_); rintro e w1 ⟨hb, u, rfl, ho⟩))
  go_ret
  exact ⟨HB.out.trans (hb.mono HB.out.size), _, rfl, own_base ho HB.out.size⟩
end Go.Proofs.Ytlhhgapimhpgnaa.Sgf
