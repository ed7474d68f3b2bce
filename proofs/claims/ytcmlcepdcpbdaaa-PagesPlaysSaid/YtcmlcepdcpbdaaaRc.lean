/-
  Clear of the document's own table.
-/
import Derived.Test.YtcmlcepdcpbdaaaRg
namespace Go.Proofs.Ytcmlcepdcpbdaaa.Rc
open Go Go.RowKit Kit Bk Tm Ts Tc Ti Tl Th Td Tq Tr Tn En Ov Gd Ho Pt Rg
set_option linter.unusedVariables false
attribute [local go_sem ↓] app_wrap

/-- One more entry. -/
theorem app_m (wr : World) (base : Nat) (v : Value) (l : List (Nat × En)) (x : Nat × En) (hrow : wr.ownsRow base 59 6 v l.length (mcells l)) (hb : base ≤ wr.heap.size) (hl : l.length ≤ 200) :
    ∃ v' w2, (appO #[33, 33] 33 #[v, .slice (some ⟨wr.heap.size, 0, none⟩) 1 1]).run Try.prog (wr.alloc (.cells #[.int .i64 (x.1 : Int), .int .i64 x.2.f, .bool x.2.w, .bool x.2.s, .bool x.2.c, .bool x.2.d] 59)) = .ok v' w2 ∧ w2.ownsRow base 59 6 v' (l ++ [x]).length (mcells (l ++ [x])) ∧ Below base wr w2 := by
  obtain ⟨i0, hi, hz0, hz1, hz2⟩ := info_parts info59
  obtain ⟨v', w2, hrun, hown', hgrow, -⟩ := run_append_own (P := Try.prog) (w := wr.alloc (.cells #[.int .i64 (x.1 : Int), .int .i64 x.2.f, .bool x.2.w, .bool x.2.s, .bool x.2.c, .bool x.2.d] 59)) base 33 33 59 i0 (.agg #[.int .i64 0, .int .i64 0, .bool false, .bool false, .bool false, .bool false]) 6 24 Try.underlying33 hi hz0 hz1 hz2 rfl (by decide) v l.length (mcells l) (hrow.alloc _) ⟨wr.heap.size, 0, none⟩ 1 1 (mcell x) rfl
      (lit6 _ _ _ _ _ _ _ _) (by simp [mcell, Value.oneCell']) (by unfold maxLen; omega) (by omega) (by simp; omega)
  refine ⟨v', w2, hrun, ?_, ?_⟩
  · rw [List.length_append, mcells_app]
    exact hown'
  · exact ((Below.refl _ _).alloc hb _).grown hgrow (by simp; omega) (fun r e => by
      rcases hrow.2 with ⟨e2, _⟩ | ⟨g2, cap2, cur2, e2, hbs, _⟩
      · rw [e2] at e; cases e
      · rw [e2] at e; cases e; exact hbs)
theorem ents_clear (T : Nat → Option En) (k : Nat) : ∀ n, ents (up T k none) n = (ents T n).filter (fun x => decide (x.1 ≠ k))
  | 0 => rfl
  | n + 1 => by
    have ih := ents_clear T k n
    by_cases e : n = k
    · subst e
      rw [ents_none (up_same _ _ _), ih]
      cases hx : T n with
      | none => rw [ents_none hx]
      | some y => rw [ents_some hx, List.filter_append]; simp
    · have hu := up_other T k n none e
      cases hx : T n with
      | none => rw [ents_none hx, ents_none (hu.trans hx), ih]
      | some y => rw [ents_some hx, ents_some (hu.trans hx), List.filter_append, ih]; simp [e]
theorem row_form {w : World} {base : Nat} {e : TypeId} {size : Nat} {v : Value} {n : Nat} {xs : List Value} (h : w.ownsRow base e size v n xs) : ∃ ad cap, v = .slice ad n cap := by
  rcases h.2 with ⟨h1, h2⟩ | ⟨g, cap, cur, h1, _⟩
  · subst h2; exact ⟨none, 0, h1⟩
  · exact ⟨_, _, h1⟩
/-- All but those of a page. -/
def but (i : Int) (l : List (Nat × En)) : List (Nat × En) := l.filter fun x => !decide ((x.1 : Int) = i)
theorem but_no {i : Int} {l : List (Nat × En)} {x : Nat × En} (h : (x.1 : Int) = i) : but i (l ++ [x]) = but i l := by simp [but, List.filter_append, h]
theorem but_yes {i : Int} {l : List (Nat × En)} {x : Nat × En} (h : ¬ (x.1 : Int) = i) : but i (l ++ [x]) = but i l ++ [x] := by simp [but, List.filter_append, h]
theorem but_len (i : Int) (l : List (Nat × En)) : (but i l).length ≤ l.length := List.length_filter_le _ _
theorem but_ents (T : Nat → Option En) (i : Int) : but i (ents T 64) = ents (putI T i none) 64 := by
  unfold putI
  by_cases h : 0 ≤ i ∧ i < 64
  · rw [if_pos h, ents_clear]
    unfold but
    apply List.filter_congr
    rintro ⟨a, e⟩ ha
    have : ((a : Int) = i) ↔ a = i.toNat := by omega
    simp [this]
  · rw [if_neg h]
    unfold but
    rw [List.filter_eq_self]
    rintro ⟨a, e⟩ ha
    have := (ents_mem.1 ha).1
    simp
    omega
theorem take_snoc {α : Type} {L : List α} {k : Nat} (h : k < L.length) : L.take (k + 1) = L.take k ++ [L[k]] := by rw [List.take_add_one, List.getElem?_eq_getElem h]; rfl

set_option maxRecDepth 100000 in
set_option maxHeartbeats 4000000 in
theorem rclear_any (w : World) (q : Nat) (T : Nat → Option En) (hR : Rf w q T) (i : Int) :
    Calls Try.prog 13 #[.pointer (some ⟨q, 0, none⟩), .int .i64 i] w fun e w' => e = .returned (.tuple #[ev ((atI T i).getD z0), .bool (atI T i).isSome]) ∧ Kp (fun j => j = q) w w' ∧ Rf w' q (putI T i none) := by
  have hb0 : Below w.heap.size w (w.alloc (.cells #[.int .i64 0, .bool false, .bool false, .bool false, .bool false] 25)) := (Below.refl _ _).alloc (Nat.le_refl _) _
  have hR0 := hR.below hb0
  have hqlt := hR.lt
  have HG := Lib.hid (rget_any _ q T hR0 i)
  obtain ⟨⟨xf, xw, xs, xc, xd⟩, hx⟩ : ∃ x, (atI T i).getD z0 = x := ⟨_, rfl⟩
  obtain ⟨b, hbs⟩ : ∃ b, (atI T i).isSome = b := ⟨_, rfl⟩
  rw [hx, hbs] at HG ⊢
  have HR0 := Lib.hid hR0
  have HA0 : Hid (Blk (w.alloc (.cells #[.int .i64 0, .bool false, .bool false, .bool false, .bool false] 25)) w.heap.size #[.int .i64 0, .bool false, .bool false, .bool false, .bool false] 25) := Lib.hid (Blk.new _ _ _)
  have HB0 := Lib.hid hb0
  have HQ := Lib.hid hqlt
  clear hR hR0 hb0 hx hbs hqlt
  go_enter Try.func13, Try.ntmps13
  go_wp2_with (first | (go_at_call 32; (with_reducible refine HG.out.mono ?_); rintro e w1 ⟨rfl, hb⟩; refine Hid.out ?_))
  refine Lib.hid ?_
  have hbo : Below w1.heap.size w1 (w1.alloc (.cells #[.int .i64 xf, .bool xw, .bool xs, .bool xc, .bool xd] 25)) := (Below.refl _ _).alloc (Nat.le_refl _) _
  have HR3 := Lib.hid ((HR0.out.below hb).below hbo)
  have HA3 := Lib.hid ((HA0.out.below hb).below hbo)
  have HX3 : Hid (Blk (w1.alloc (.cells #[.int .i64 xf, .bool xw, .bool xs, .bool xc, .bool xd] 25)) w1.heap.size #[.int .i64 xf, .bool xw, .bool xs, .bool xc, .bool xd] 25) := Lib.hid (Blk.new _ _ _)
  have hb1 := HB0.out.trans (hb.mono HB0.out.size)
  have HB3 := Lib.hid (hb1.trans (hbo.mono hb1.size))
  clear hb hbo hb1 HR0 HA0 HB0
  go_wp2
  generalize w1.alloc (.cells #[.int .i64 xf, .bool xw, .bool xs, .bool xc, .bool xd] 25) = w3 at *
  obtain ⟨v, h1, h2⟩ := HR3.out
  have HRd := Lib.hid h2
  obtain ⟨_, ad, cap, rfl, hc1, hc2, _⟩ := h2
  have HQc := Lib.hid h1
  have hle := ents_len T 64
  have HBut := Lib.hid (but_ents T i)
  obtain ⟨L, hL⟩ : ∃ L, ents T 64 = L := ⟨_, rfl⟩
  rw [hL] at HRd hc1 HQc hle HBut
  obtain ⟨N, hN⟩ : ∃ N, L.length = N := ⟨_, rfl⟩
  have HN := Lib.hid hN
  rw [hN] at hc1 HQc hle HRd
  have hNi : (N : Int) ≤ 64 := by omega
  clear h1 hL hN
  have hcq := HQc.out.cell 0
  go_loopw [8, 9] (fun a c wr => ∃ j : Nat, j ≤ N ∧ c = .int .i64 (j : Int) ∧ wr.ownsRow w3.heap.size 59 6 a (but i (L.take j)).length (mcells (but i (L.take j))) ∧ Below w3.heap.size w3 wr) (fun _ c _ => N - (intOf c).toNat)
  case atStart => exact ⟨0, Nat.zero_le _, rfl, World.ownsRow_nil _ _ _ _, Below.refl _ _⟩
  case round =>
    obtain ⟨j, hj, rfl, hrow, hbr⟩ := hrel
    have cq := (hbr.cell (p := ⟨q, 0, none⟩) HQc.out.lt).trans hcq
    by_cases hlt : j < N
    · have hlt2 : j < L.length := by rw [HN.out]; omega
      obtain ⟨⟨q2, e2⟩, hq2⟩ : ∃ x, L[j] = x := ⟨_, rfl⟩
      have ht := take_snoc hlt2
      rw [hq2] at ht
      have hRa := Rd.below HRd.out hbr
      rw [← HN.out] at hRa
      obtain ⟨g, cap', he, _, _, c0, c1, c2, c3, c4, c5⟩ := Rd.at_ hRa hlt2 hq2
      rw [HN.out] at he
      cases he
      have hjN : (j : Int) < (N : Int) := by omega
      by_cases heq : (q2 : Int) = i
      · have hne : ((q2 : Int) == i) = true := beq_iff_eq.2 heq
        have hbb : but i (L.take (j + 1)) = but i (L.take j) := by rw [ht]; exact but_no heq
        have HO := Lib.hid (And.intro hrow hbr)
        rw [← hbb] at HO
        clear hRa hq2 hlt2 ht heq hbb hrow hbr c1 c2 c3 c4 c5 hcq
        go_wp2
        go_roundw
        case rel => exact ⟨j + 1, by omega, by go_num, HO.out.1, HO.out.2⟩
        case measure => simp [intOf]; omega
      · have hne : ((q2 : Int) == i) = false := beq_eq_false_iff_ne.2 heq
        have hbb : but i (L.take (j + 1)) = but i (L.take j) ++ [(q2, e2)] := by rw [ht]; exact but_yes heq
        obtain ⟨v', w2, hrun, hown, hbel⟩ := app_m wr w3.heap.size _ (but i (L.take j)) (q2, e2) hrow hbr.size (by have := but_len i (L.take j); rw [List.length_take] at this; omega)
        rw [← hbb] at hown
        have HO := Lib.hid (And.intro hown (hbr.trans hbel))
        obtain ⟨ef, ew, es, ec, ed⟩ := e2
        dsimp only at c1 c2 c3 c4 c5 hrun
        clear hRa hq2 hlt2 ht heq hbb hrow hbr hown hbel hcq
        go_wp2
        go_roundw
        case rel => exact ⟨j + 1, by omega, by go_num, HO.out.1, HO.out.2⟩
        case measure => simp [intOf]; omega
    · obtain rfl : j = N := by omega
      have hfin : but i (L.take j) = ents (putI T i none) 64 := by rw [← HBut.out, ← HN.out, List.take_length]
      rw [hfin] at hrow
      obtain ⟨ad', cap', rfl⟩ := row_form hrow
      obtain ⟨hRf, hkq⟩ := Rf.put (HR3.out.below hbr) (Rd.of_own hrow)
      have hAr := (HA3.out.below hbr).kept hkq (fun e => by have := HQ.out; omega)
      have hXr := (HX3.out.below hbr).kept hkq (fun e => by have := HR3.out.lt; have := HQ.out; have := HB3.out.size; have h5 := HX3.out; exact (Blk.ne HX3.out HQc.out (by decide)) e)
      have HRf := Lib.hid hRf
      have HKq := Lib.hid ((Kp.of_below HB3.out).trans ((Kp.of_below hbr).trans hkq (fun _ e => .inl e)) (fun _ e => .inl e))
      have fq := (HQc.out.below hbr).free 0
      have a0 := hAr.cell 0
      have a1 := hAr.cell 1
      have a2 := hAr.cell 2
      have a3 := hAr.cell 3
      have a4 := hAr.cell 4
      have f0 := hAr.free 0
      have f1 := hAr.free 1
      have f2 := hAr.free 2
      have f3 := hAr.free 3
      have f4 := hAr.free 4
      have y0 := hXr.cell 0
      have y1 := hXr.cell 1
      have y2 := hXr.cell 2
      have y3 := hXr.cell 3
      have y4 := hXr.cell 4
      have HAr := Lib.hid hAr
      clear hfin hrow hbr hRf hkq hAr hXr hcq
      go_wp2
      have hF := set5 HAr.out (.int .i64 xf) (.bool xw) (.bool xs) (.bool xc) (.bool xd)
      have g0 := hF.cell 0
      have g1 := hF.cell 1
      have g2 := hF.cell 2
      have g3 := hF.cell 3
      have g4 := hF.cell 4
      exact bodyPost_ret (v := .tuple #[.agg #[.int .i64 xf, .bool xw, .bool xs, .bool xc, .bool xd], .bool b]) (by simp [results, Try.results13, go_sem, g0, g1, g2, g3, g4]) rfl ⟨rfl, HKq.out.trans (set5_kp _ _ _ _ _ _ _) (fun j e => .inr (by omega)), HRf.out.kept (set5_kp _ _ _ _ _ _ _) (by have := HQ.out; omega) (fun g cs hg => hg.ne HAr.out (by decide))⟩
end Go.Proofs.Ytcmlcepdcpbdaaa.Rc
