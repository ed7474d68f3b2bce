/-
  Dirty, Clean of the document's own table; its Same of numbers.
-/
import Derived.Test.YtcmlcepdcpbdaaaRc
import Derived.Test.YtcmlcepdcpbdaaaLw
namespace Go.Proofs.Ytcmlcepdcpbdaaa.Rd2
open Go Go.RowKit Kit Bk Tm Ts Tc Ti Tl Th Td Tq Tr Tn En Ov Gd Ho Pt Rg Rc Lw
set_option linter.unusedVariables false
attribute [local go_sem ↓] app_wrap

/-- One more number. -/
theorem app_i (wr : World) (base : Nat) (v : Value) (l : List Nat) (x : Nat) (hrow : wr.ownsRow base 3 1 v l.length (ints l)) (hb : base ≤ wr.heap.size) (hl : l.length ≤ 200) :
    ∃ v' w2, (appO #[53, 53] 53 #[v, .slice (some ⟨wr.heap.size, 0, none⟩) 1 1]).run Try.prog (wr.alloc (.cells #[.int .i64 (x : Int)] 3)) = .ok v' w2 ∧ w2.ownsRow base 3 1 v' (l ++ [x]).length (ints (l ++ [x])) ∧ Below base wr w2 := by
  obtain ⟨i0, hi, hz0, hz1, hz2⟩ := info_parts info3
  obtain ⟨v', w2, hrun, hown', hgrow, -⟩ := run_append_own (P := Try.prog) (w := wr.alloc (.cells #[.int .i64 (x : Int)] 3)) base 53 53 3 i0 (.int .i64 0) 1 8 Try.underlying53 hi hz0 hz1 hz2 rfl (by decide) v l.length (ints l) (hrow.alloc _) ⟨wr.heap.size, 0, none⟩ 1 1 [.int .i64 (x : Int)] rfl
      (by intro j u hj; have hj0 : j = 0 := (by cases j with | zero => rfl | succ j => simp at hj); subst hj0; simp at hj; subst hj; simp [Addr.add]) (by simp [Value.oneCell']) (by unfold maxLen; omega) (by omega) (by simp; omega)
  refine ⟨v', w2, hrun, ?_, ?_⟩
  · rw [List.length_append]
    simpa [ints] using hown'
  · exact ((Below.refl _ _).alloc hb _).grown hgrow (by simp; omega) (fun r e => by
      rcases hrow.2 with ⟨e2, _⟩ | ⟨g2, cap2, cur2, e2, hbs, _⟩
      · rw [e2] at e; cases e
      · rw [e2] at e; cases e; exact hbs)
set_option maxRecDepth 100000 in
set_option maxHeartbeats 4000000 in
theorem rdirty_any (w : World) (q : Nat) (T : Nat → Option En) (hR : Rf w q T) :
    Calls Try.prog 33 #[.pointer (some ⟨q, 0, none⟩)] w fun e w' => Below w.heap.size w w' ∧ ∃ r, e = .returned r ∧ Rd w' 3 r 1 (dty T).length (ints (dty T)) := by
  obtain ⟨v, h1, h2⟩ := hR
  have HRd := Lib.hid h2
  obtain ⟨_, ad, cap, rfl, hc1, hc2, _⟩ := h2
  have HQc := Lib.hid h1
  have hle := ents_len T 64
  have HD : Hid (pgs (fun x => x.d) (ents T 64) = dty T) := Lib.hid rfl
  obtain ⟨L, hL⟩ : ∃ L, ents T 64 = L := ⟨_, rfl⟩
  rw [hL] at HRd hc1 HQc hle HD
  obtain ⟨N, hN⟩ : ∃ N, L.length = N := ⟨_, rfl⟩
  have HN := Lib.hid hN
  rw [hN] at hc1 HQc hle HRd
  have hNi : (N : Int) ≤ 64 := by omega
  clear h1 hL hN
  have hcq := HQc.out.cell 0
  go_enter Try.func33, Try.ntmps33
  go_wp2
  go_loopw [3, 4] (fun a c wr => ∃ j : Nat, j ≤ N ∧ c = .int .i64 (j : Int) ∧ wr.ownsRow w.heap.size 3 1 a (pgs (fun x => x.d) (L.take j)).length (ints (pgs (fun x => x.d) (L.take j))) ∧ Below w.heap.size w wr) (fun _ c _ => N - (intOf c).toNat)
  case atStart => exact ⟨0, Nat.zero_le _, rfl, World.ownsRow_nil _ _ _ _, Below.refl _ _⟩
  case round =>
    obtain ⟨j, hj, rfl, hrow, hbr⟩ := hrel
    have cq := (hbr.cell (p := ⟨q, 0, none⟩) HQc.out.lt).trans hcq
    by_cases hlt : j < N
    · have hlt2 : j < L.length := by rw [HN.out]; omega
      obtain ⟨⟨q2, e2⟩, hq2⟩ : ∃ x, L[j] = x := ⟨_, rfl⟩
      have ht := take_snoc hlt2
      rw [hq2] at ht
      have hRa := Rd.below HRd.out hbr
      rw [← HN.out] at hRa
      obtain ⟨g, cap', he, _, _, c0, c1, c2, c3, c4, c5⟩ := Rd.at_ hRa hlt2 hq2
      rw [HN.out] at he
      cases he
      have hjN : (j : Int) < (N : Int) := by omega
      have c5' : wr.cell? ⟨g, j * 6 + 1 + 4, none⟩ = some (.bool e2.d) := c5
      cases hd : e2.d with
      | false =>
        rw [hd] at c5'
        have hbb : pgs (fun x => x.d) (L.take (j + 1)) = pgs (fun x => x.d) (L.take j) := by rw [ht]; exact pgs_no (x := (q2, e2)) hd
        have HO := Lib.hid (And.intro hrow hbr)
        rw [← hbb] at HO
        clear hRa hq2 hlt2 ht hbb hrow hbr c1 c2 c3 c4 c5 hcq hd
        go_wp2
        go_roundw
        case rel => exact ⟨j + 1, by omega, by go_num, HO.out.1, HO.out.2⟩
        case measure => simp [intOf]; omega
      | true =>
        rw [hd] at c5'
        have hbb : pgs (fun x => x.d) (L.take (j + 1)) = pgs (fun x => x.d) (L.take j) ++ [q2] := by rw [ht]; exact pgs_yes (x := (q2, e2)) hd
        obtain ⟨v', w2, hrun, hown, hbel⟩ := app_i wr w.heap.size _ (pgs (fun x => x.d) (L.take j)) q2 hrow hbr.size (by have := pgs_len (fun x => x.d) (L.take j); rw [List.length_take] at this; omega)
        rw [← hbb] at hown
        have HO := Lib.hid (And.intro hown (hbr.trans hbel))
        clear hRa hq2 hlt2 ht hbb hrow hbr hown hbel hcq c1 c2 c3 c4 c5 hd
        go_wp2
        go_roundw
        case rel => exact ⟨j + 1, by omega, by go_num, HO.out.1, HO.out.2⟩
        case measure => simp [intOf]; omega
    · obtain rfl : j = N := by omega
      rw [← HN.out, List.take_length, HD.out] at hrow
      have HO := Lib.hid (And.intro hrow hbr)
      clear hrow hbr hcq
      go_wp2
      go_ret
      exact ⟨HO.out.2, _, rfl, Rd.of_own HO.out.1⟩

def cl (l : List (Nat × En)) : List (Nat × En) := l.map fun x => (x.1, und x.2)
theorem cl_app (l : List (Nat × En)) (x : Nat × En) : cl (l ++ [x]) = cl l ++ [(x.1, und x.2)] := by simp [cl]
theorem cl_len (L : List (Nat × En)) (j : Nat) : (cl (L.take j)).length ≤ j := by
  unfold cl
  rw [List.length_map, List.length_take]
  omega
theorem cl_ents (T : Nat → Option En) : ∀ n, cl (ents T n) = ents (cln T) n
  | 0 => rfl
  | n + 1 => by
    have ih := cl_ents T n
    cases hx : T n with
    | none =>
      have hr : cln T n = none := by unfold cln; rw [hx]; rfl
      rw [ents_none hx, ents_none hr, ih]
    | some x =>
      have hr : cln T n = some (und x) := by unfold cln; rw [hx]; rfl
      rw [ents_some hx, ents_some hr, cl_app, ih]
set_option maxRecDepth 100000 in
set_option maxHeartbeats 4000000 in
theorem rclean_any (w : World) (q : Nat) (T : Nat → Option En) (hR : Rf w q T) :
    Calls Try.prog 15 #[.pointer (some ⟨q, 0, none⟩)] w fun e w' => e = .returned (.int .i64 ((dty T).length : Int)) ∧ Kp (fun j => j = q) w w' ∧ Rf w' q (cln T) := by
  have HDi := Lib.hid (rdirty_any w q T hR)
  have HR := Lib.hid hR
  have hdl := dty_len T
  obtain ⟨D, hD⟩ : ∃ D, (dty T).length = D := ⟨_, rfl⟩
  rw [hD] at HDi hdl ⊢
  have hDi : (D : Int) ≤ 64 := by omega
  clear hR hD
  go_enter Try.func15, Try.ntmps15
  go_wp2_with (first | (go_at_call 33; (with_reducible refine HDi.out.mono ?_); rintro e w3 ⟨hb3, r, rfl, hr3⟩; refine Hid.out ?_))
  refine Lib.hid ?_
  have HB3 := Lib.hid hb3
  have HR3 := Lib.hid (HR.out.below hb3)
  obtain ⟨_, rad, rcap, rfl, _⟩ := hr3
  clear hb3 HR HDi
  go_wp2
  obtain ⟨v, h1, h2⟩ := HR3.out
  have HRd := Lib.hid h2
  obtain ⟨_, ad, cap, rfl, hc1, hc2, _⟩ := h2
  have HQc := Lib.hid h1
  have hle := ents_len T 64
  have HCl := Lib.hid (cl_ents T 64)
  obtain ⟨L, hL⟩ : ∃ L, ents T 64 = L := ⟨_, rfl⟩
  rw [hL] at HRd hc1 HQc hle HCl
  obtain ⟨N, hN⟩ : ∃ N, L.length = N := ⟨_, rfl⟩
  have HN := Lib.hid hN
  rw [hN] at hc1 HQc hle HRd
  have hNi : (N : Int) ≤ 64 := by omega
  clear h1 hL hN
  have hcq := HQc.out.cell 0
  go_loopw [4, 5] (fun a c wr => ∃ j : Nat, j ≤ N ∧ c = .int .i64 (j : Int) ∧ wr.ownsRow w3.heap.size 59 6 a (cl (L.take j)).length (mcells (cl (L.take j))) ∧ Below w3.heap.size w3 wr) (fun _ c _ => N - (intOf c).toNat)
  case atStart => exact ⟨0, Nat.zero_le _, rfl, World.ownsRow_nil _ _ _ _, Below.refl _ _⟩
  case round =>
    obtain ⟨j, hj, rfl, hrow, hbr⟩ := hrel
    have cq := (hbr.cell (p := ⟨q, 0, none⟩) HQc.out.lt).trans hcq
    by_cases hlt : j < N
    · have hlt2 : j < L.length := by rw [HN.out]; omega
      obtain ⟨⟨q2, e2⟩, hq2⟩ : ∃ x, L[j] = x := ⟨_, rfl⟩
      have ht := take_snoc hlt2
      rw [hq2] at ht
      have hRa := Rd.below HRd.out hbr
      rw [← HN.out] at hRa
      obtain ⟨g, cap', he, _, _, c0, c1, c2, c3, c4, c5⟩ := Rd.at_ hRa hlt2 hq2
      rw [HN.out] at he
      cases he
      have hjN : (j : Int) < (N : Int) := by omega
      have hbb : cl (L.take (j + 1)) = cl (L.take j) ++ [(q2, und e2)] := by rw [ht]; exact cl_app _ _
      have hbo := (Below.refl wr.heap.size wr).alloc (Nat.le_refl _) (.cells #[.int .i64 (q2 : Int), .int .i64 e2.f, .bool e2.w, .bool e2.s, .bool e2.c, .bool false] 59)
      have hbr2 := hbr.trans (hbo.mono hbr.size)
      obtain ⟨v', w2, hrun, hown, hbel⟩ := app_m (wr.alloc (.cells #[.int .i64 (q2 : Int), .int .i64 e2.f, .bool e2.w, .bool e2.s, .bool e2.c, .bool false] 59)) w3.heap.size _ (cl (L.take j)) (q2, und e2) (row_below hrow hbo) hbr2.size (Nat.le_trans (cl_len _ j) (by omega))
      rw [← hbb] at hown
      have HO := Lib.hid (And.intro hown (hbr2.trans hbel))
      obtain ⟨ef, ew, es, ec, ed⟩ := e2
      simp only [World.size_alloc, und] at hrun
      dsimp only at c1 c2 c3 c4 c5 hrun
      clear hRa hq2 hlt2 ht hbb hrow hbr hown hbel hcq hbo hbr2
      go_wp2
      trace_state
      go_roundw
      case rel => exact ⟨j + 1, by omega, by go_num, HO.out.1, HO.out.2⟩
      case measure => simp [intOf]; omega
    · obtain rfl : j = N := by omega
      rw [← HN.out, List.take_length, HCl.out] at hrow
      obtain ⟨ad', cap', rfl⟩ := row_form hrow
      obtain ⟨hRf, hkq⟩ := Rf.put (HR3.out.below hbr) (Rd.of_own hrow)
      have fq := (HQc.out.below hbr).free 0
      have HRf := Lib.hid hRf
      have HK := Lib.hid ((Kp.of_below (S := fun j => j = q) HB3.out).trans ((Kp.of_below (S := fun j => j = q) hbr).trans hkq (fun _ e => .inl e)) (fun _ e => .inl e))
      clear hrow hbr hRf hkq hcq
      go_wp2
      go_ret
      exact ⟨rfl, HK.out, HRf.out⟩
end Go.Proofs.Ytcmlcepdcpbdaaa.Rd2
