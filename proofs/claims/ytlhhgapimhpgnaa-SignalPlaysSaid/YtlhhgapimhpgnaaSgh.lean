/-
  Wakes; the law's post; alive.
-/
import Derived.Test.YtlhhgapimhpgnaaSgg
namespace Go.Proofs.Ytlhhgapimhpgnaa.Sgh
open Go Go.RowKit Go.Shelf Kit Bk Sga Sgb Sgc Sgd Sge Sgf Sgg
set_option linter.unusedVariables false
attribute [local go_sem ↓] lds_wrap sts_wrap eqv_wrap nev_wrap

def wk (s : Sg) : Bool := isS (nN s : Nat)
set_option maxHeartbeats 1000000 in
theorem wakes_any (w : World) (s : Sg) (hs : s.Ok) :
    Calls Try.prog 13 #[cv s] w fun e w' => e = .returned (.bool (wk s)) ∧ Below w.heap.size w w' := by
  obtain ⟨h1, h2⟩ := one_box w s
  have l0 := h1.ld
  have HB := Lib.hid h2
  have HN := Lib.hid (fun w => next_any w s hs)
  have HI := Lib.hid (fun w => isSignal_any w (nN s : Nat))
  clear h1 h2 hs
  unfold wk
  generalize nN s = n at *
  generalize nB s = b at *
  generalize nS s = t at *
  go_enter Try.func13, Try.ntmps13
  go_wp2_with (first | (go_at_call 19; (with_reducible refine (HN.out _).mono ?_); rintro e w1 ⟨rfl, hb1⟩; obtain ⟨w2, h2, v2, d2, s2⟩ := V.made w1 t; have HD := Lib.hid ((HB.out.trans (hb1.mono HB.out.size)).trans (d2.mono (HB.out.trans (hb1.mono HB.out.size)).size)); clear hb1 v2 d2 s2) | (go_at_call 34; (with_reducible refine (HI.out _).mono ?_); rintro e w3 ⟨rfl, rfl⟩))
  go_ret
  exact ⟨rfl, HD.out⟩

/-- Signals with some posted. -/
def ps (s : Sg) : List Int → Sg
  | [] => s
  | n :: r => ps (pS s n) r
theorem ps_app (s : Sg) (l : List Int) (n : Int) : ps s (l ++ [n]) = pS (ps s l) n := by
  induction l generalizing s with
  | nil => rfl
  | cons a r ih => exact ih (pS s a)
theorem ps_ok {s : Sg} (h : s.Ok) (l : List Int) : (ps s l).Ok := by
  induction l generalizing s with
  | nil => exact h
  | cons a r ih => exact ih (pS_ok h a)
/-- A slice of numbers that is read. -/
def Nr (w : World) (v : Value) (l : List Int) : Prop :=
  ∃ a c, v = .slice a l.length c ∧ l.length ≤ c ∧ c ≤ maxLen ∧ ∀ i (h : i < l.length), ∃ g o, a = some ⟨g, o, none⟩ ∧ g < w.heap.size ∧ w.cell? ⟨g, o + i, none⟩ = some (.int .i64 l[i])
theorem Nr.below {w w' : World} {v : Value} {l : List Int} (h : Nr w v l) (hb : Below w.heap.size w w') : Nr w' v l := by
  obtain ⟨a, c, h1, h2, h3, h4⟩ := h
  refine ⟨a, c, h1, h2, h3, fun i hi => ?_⟩
  obtain ⟨g, o, k1, k2, k3⟩ := h4 i hi
  exact ⟨g, o, k1, Nat.lt_of_lt_of_le k2 hb.size, (hb.cell (p := ⟨g, o + i, none⟩) k2).trans k3⟩
set_option maxRecDepth 100000 in
set_option maxHeartbeats 4000000 in
theorem post_all (w : World) (s : Sg) (hs : s.Ok) (v : Value) (l : List Int) (hl : Nr w v l) (hll : l.length ≤ 100000) :
    Calls Try.prog 20 #[cv s, v] w fun e w' => e = .returned (cv (ps s l)) ∧ Below w.heap.size w w' := by
  have HL := Lib.hid hl
  obtain ⟨a, c, rfl, hc1, hc2, hl4⟩ := hl
  have A0 := Lib.hid (at0 w s)
  have HP := Lib.hid (fun w t (ht : Sg.Ok t) n => post_any w t ht n)
  have hlI : (l.length : Int) ≤ 100000 := by omega
  have H4 := Lib.hid hl4
  clear hc1 hc2 hl4
  go_enter Try.func20, Try.ntmps20
  go_wp2
  obtain ⟨W0, hW0⟩ : ∃ W0, (w.alloc (.cells (cs s) 25)).alloc (.cells zcs 25) = W0 := ⟨_, rfl⟩
  rw [hW0] at A0 ⊢
  clear hW0
  go_loopw [9] (fun i wr => ∃ k : Nat, k ≤ l.length ∧ i = .int .i64 (k : Int) ∧ At w (ps s (l.take k)) wr) (fun i _ => l.length - (intOf i).toNat)
  case atStart => exact ⟨0, Nat.zero_le _, rfl, A0.out⟩
  case round =>
    obtain ⟨k, hk, rfl, hA⟩ := hrel
    by_cases hlt : k < l.length
    · have hltI : (k : Int) < (l.length : Int) := by omega
      obtain ⟨g, o, rfl, hg, hc⟩ := H4.out k hlt
      have hck := (hA.d.cell (p := ⟨g, o + k, none⟩) hg).trans hc
      have hok := ps_ok hs (l.take k)
      have l1 := hA.a.ld
      have e1 : ps s (l.take (k + 1)) = pS (ps s (l.take k)) l[k] := by
        rw [List.take_succ_eq_append_getElem hlt]
        exact ps_app _ _ _
      have HP1 := Lib.hid (fun w => HP.out w _ hok l[k])
      have H1 := Lib.hid (And.intro hA e1)
      clear hok e1 hA HP hc hg
      generalize ps s (l.take k) = t at *
      generalize l[k] = n at *
      generalize pS t n = u at *
      generalize pE t n = x at *
      go_wp2_with (first | (go_at_call 22; (with_reducible refine (HP1.out _).mono ?_); rintro e w1 ⟨rfl, hb1⟩; have A1 := H1.out.1.below hb1; obtain ⟨w2, h2, v2, k2, s2⟩ := A1.a.st u; have A2 : At w u w2 := ⟨v2, A1.z.kept k2 (by omega), A1.d.trans (k2.below A1.d.size (fun j e => by omega))⟩; have H2 := Lib.hid A2; clear A1 A2 v2 k2 s2 hb1))
      go_roundw
      case rel => exact ⟨k + 1, by omega, by go_num, by rw [H1.out.2]; exact H2.out⟩
      case measure => simp [intOf]; omega
    · obtain rfl : k = l.length := by omega
      rw [List.take_length] at hA
      obtain ⟨l1, w2, l2, v2, d2⟩ := hA.tail
      have H2 := Lib.hid (And.intro v2 d2)
      clear hA v2 d2 HP
      go_wp2
      refine bodyPost_ret (v := cv (ps s l)) ?_ rfl ⟨rfl, H2.out.2⟩
      exact res_s rfl _ _ (w.heap.size + 1) _ rfl H2.out.1
theorem nr_one (w : World) (a : Int) : Nr (w.alloc (.cells #[.int .i64 a] 3)) (.slice (some ⟨w.heap.size, 0, none⟩) 1 1) [a] := by
  have h := Blk.new w #[.int .i64 a] 3
  refine ⟨_, 1, rfl, Nat.le_refl _, by unfold maxLen; omega, fun i hi => ⟨_, _, rfl, by simp, ?_⟩⟩
  have hi : i < 1 := hi
  obtain rfl : i = 0 := by omega
  exact h.cell 0
theorem nr_two (w : World) (a b : Int) : Nr (w.alloc (.cells #[.int .i64 a, .int .i64 b] 3)) (.slice (some ⟨w.heap.size, 0, none⟩) 2 2) [a, b] := by
  have h := Blk.new w #[.int .i64 a, .int .i64 b] 3
  refine ⟨_, 2, rfl, Nat.le_refl _, by unfold maxLen; omega, fun i hi => ⟨_, _, rfl, by simp, ?_⟩⟩
  have hi : i < 2 := hi
  have : i = 0 ∨ i = 1 := by omega
  rcases this with rfl | rfl
  · exact h.cell 0
  · exact h.cell 1
set_option maxRecDepth 100000 in
set_option maxHeartbeats 1000000 in
theorem alive_any (w : World) :
    Calls Try.prog 24 #[] w fun e w' => e = .returned (.bool true) ∧ Below w.heap.size w w' := by
  have B1 := (Below.refl w.heap.size w).alloc (Nat.le_refl _) (.cells #[.int .i64 12, .int .i64 5] 3)
  have hok := ps_ok z0_ok [12, 5]
  have HP : Hid (Calls Try.prog 20 #[.agg zcs, .slice (some ⟨w.heap.size, 0, none⟩) 2 2] (w.alloc (.cells #[.int .i64 12, .int .i64 5] 3)) fun e w' => e = .returned (cv (ps z0 [12, 5])) ∧ Below (w.alloc (.cells #[.int .i64 12, .int .i64 5] 3)).heap.size (w.alloc (.cells #[.int .i64 12, .int .i64 5] 3)) w') := Lib.hid (post_all _ z0 z0_ok _ _ (nr_two w 12 5) (by decide))
  have HN := Lib.hid (fun w => next_any w _ hok)
  have e1 : nN (ps z0 [12, 5]) = 5 := by decide
  have e2 : nB (ps z0 [12, 5]) = 1 := by decide
  have e3 : (nS (ps z0 [12, 5])).p = 4096 := by decide
  have e4 : (nS (ps z0 [12, 5])).b = false := by decide
  rw [e1, e2] at HN
  generalize nS (ps z0 [12, 5]) = t at *
  generalize ps z0 [12, 5] = s at *
  have HB := Lib.hid B1
  clear B1 hok e1 e2
  go_enter Try.func24, Try.ntmps24
  go_wp2_with (first | (go_at_call 20; (with_reducible refine HP.out.mono ?_); rintro e w1 ⟨rfl, hb1⟩; have D1 := Lib.hid (HB.out.trans (hb1.mono HB.out.size)); clear hb1) | (go_at_call 19; (with_reducible refine (HN.out _).mono ?_); rintro e w3 ⟨rfl, hb3⟩; have D3 := D1.out.trans (hb3.mono D1.out.size); obtain ⟨w4, h4, v4, d4, s4⟩ := V.made w3 t; have c4 := v4.p0; have b4 := v4.b18; rw [e3] at c4; rw [e4] at b4; have D4 := Lib.hid (D3.trans (d4.mono D3.size)); clear D3 v4 d4 s4 hb3))
  trace_state
  go_ret
  exact ⟨rfl, D4.out⟩
end Go.Proofs.Ytlhhgapimhpgnaa.Sgh
