/-
  A futex: leave, Gone, Wait.
-/
import Derived.Test.YtpfnjeicenhciaaFtf
namespace Go.Proofs.Ytpfnjeicenhciaa.Ftg
open Go Go.RowKit Kit Bk Fta Ftb Ftc Ftd Fte Ftf
set_option linter.unusedVariables false

/-- What a call on a futex may turn: its block and its row. -/
def fr (f r : Nat) : Nat → Prop := fun j => j = f ∨ j = r
theorem leave_nil (w : World) (c : Value) : Calls Try.prog 31 #[.pointer none, c] w fun e w' => (∃ v, e = .returned v) ∧ w = w' := by
  go_enter Try.func31, Try.ntmps31
  go_wp2
  go_end0
  exact ⟨⟨_, rfl⟩, rfl⟩
set_option maxHeartbeats 1000000 in
theorem leave_any (w : World) (f r : Nat) (L : List Wt) (F b : Nat) (d : Wt → Bool) (h : Lx 26 w f r L) (hg : Goes w r F b d) (hF : F = 32 ∨ F = 34) :
    Calls Try.prog 31 #[.pointer (some ⟨f, 0, none⟩), .func (.func F) #[] #[.pointer (some ⟨b, 0, none⟩)]] w fun e w' => (∃ v, e = .returned v) ∧ Kp (fr f r) w w' ∧ Lx 26 w' f r (stay d L) := by
  have hro := h.row
  obtain ⟨v, h1, h2⟩ := h
  have hne : L ≠ [] → f ≠ r := fun hL e => by
    subst e
    rcases h2.2 with ⟨e1, -⟩ | ⟨n, c, e1⟩
    · obtain ⟨a, c, e2, _⟩ := h2.form
      rw [e1] at e2
      injection e2 with _ e2 _
      exact hL (List.eq_nil_of_length_eq_zero e2.symm)
    · subst e1
      obtain ⟨_, _, cs, hc⟩ := own_lt h2.1
      exact absurd (hc.inj h1).2 (by decide)
  have c0 : w.cell? ⟨f, 0, none⟩ = some v := h1.cell 0
  have hn2 : Wr w v f r L → ∀ (x : Value) (w1 : World) (M : List Wt), Wr w1 x f r M → Blk w1 f #[v] 26 → Kp (fr f r) w w1 → Kp (fr f r) w (w1.setCell ⟨f, 0, none⟩ x) ∧ Lx 26 (w1.setCell ⟨f, 0, none⟩ x) f r M := fun hv x w1 M hx hb hk => by
    refine ⟨hk.trans (Kp.set (S := fr f r) w1 f 0 x (.inl rfl)) (fun _ e => .inl e), x, hb.set 0 x, ?_⟩
    refine ⟨own_kept hx.1 (Kp.set (S := fun j => j = f) w1 f 0 x rfl) (fun g n c e => ?_), hx.2⟩
    rintro rfl
    subst e
    obtain ⟨_, _, cs, hc⟩ := own_lt hx.1
    exact absurd (hc.inj hb).2 (by decide)
  have HD := Lib.hid (delete_any w v f r L F b d h2 hg hF)
  have HN := Lib.hid (And.intro (hn2 h2) (And.intro hne h1))
  have hfm := h2.form
  obtain ⟨va, vc, rfl, -⟩ := hfm
  clear hro h1 h2 hne hg hn2
  rcases hF with rfl | rfl
  all_goals
    go_enter Try.func31, Try.ntmps31
    go_wp2_with (go_at_call 40; (with_reducible refine HD.out.mono ?_); rintro e w1 ⟨⟨v', rfl, hx⟩, hk⟩; have hb1 := HN.out.2.2.kept hk (fun e => HN.out.2.1 e.2 e.1); have f1 : w1.frozen? ⟨f, 0, none⟩ = false := hb1.free 0; have d0 := hb1.cell 0; have HE := Lib.hid (HN.out.1 v' w1 _ hx hb1 (hk.mono (fun _ _ e => .inr e.1))); obtain ⟨xa, xc, rfl⟩ := own_form hx.1; clear hx hk hb1)
    go_end0
    exact ⟨⟨_, rfl⟩, HE.out⟩

theorem gone_nil (w : World) (q : Int) : Calls Try.prog 14 #[.pointer none, .int .i64 q] w fun e w' => e = .returned (.bool false) ∧ Below w.heap.size w w' := by
  have hb1 := (Below.refl w.heap.size w).alloc (Nat.le_refl _) (.cells #[.int .i64 q] 3)
  have HB := Lib.hid hb1
  clear hb1
  go_enter Try.func14, Try.ntmps14
  go_wp2_with (first | (go_at_call 17; (with_reducible refine (key_nil _ _).mono ?_); rintro e w1 ⟨rfl, hb⟩; have hbw := HB.out.trans (hb.mono HB.out.size); replace hbw := Lib.hid hbw; clear hb) | (go_at_call 31; (with_reducible refine (leave_nil _ _).mono ?_); rintro e w2 ⟨⟨v, rfl⟩, rfl⟩))
  go_ret
  exact ⟨rfl, hbw.out.alloc hbw.out.size _⟩
set_option maxHeartbeats 1000000 in
theorem gone_any (w : World) (f r : Nat) (L : List Wt) (q : Int) (h : Lx 26 w f r L) :
    Calls Try.prog 14 #[.pointer (some ⟨f, 0, none⟩), .int .i64 q] w fun e w' => e = .returned (.bool (fkB L q)) ∧ Kp (fr f r) w w' ∧ Lx 26 w' f r (stay (eqq q) L) := by
  have hb1 := (Below.refl w.heap.size w).alloc (Nat.le_refl _) (.cells #[.int .i64 q] 3)
  have hbox := Blk.new w #[.int .i64 q] 3
  have HK := Lib.hid (key_any _ f r L q (h.below hb1))
  have HL := Lib.hid (And.intro (h.below hb1) (And.intro hb1 (And.intro hbox h)))
  generalize fkB L q = z at *
  generalize fkK L q = k at *
  clear hb1 hbox h
  go_enter Try.func14, Try.ntmps14
  go_wp2_with (first | (go_at_call 17; (with_reducible refine HK.out.mono ?_); rintro e w1 ⟨rfl, hb⟩; replace hb := Lib.hid hb; have hb2 := Lib.hid ((Below.refl w1.heap.size w1).alloc (Nat.le_refl _) (.cells #[.int .i64 k.p, .int .i64 k.f, .int .i64 k.o] 31)); have hl2 := Lib.hid ((HL.out.1.below hb.out).below hb2.out); have hx2 := Lib.hid ((HL.out.2.2.1.below hb.out).below hb2.out)) | (go_at_call 31; (with_reducible refine (leave_any _ f r L _ _ (eqq q) hl2.out (goes_pid _ r w.heap.size q hx2.out (by have := HL.out.2.2.2.lt; omega)) (.inr rfl)).mono ?_); rintro e w2 ⟨⟨v, rfl⟩, hk3, hl3⟩; replace hk3 := Lib.hid hk3; replace hl3 := Lib.hid hl3))
  go_ret
  refine ⟨rfl, ?_, hl3.out⟩
  have q1 := HL.out.2.1.trans (hb.out.mono HL.out.2.1.size)
  have q2 := q1.trans (hb2.out.mono q1.size)
  exact (kp_below q2).trans hk3.out (fun _ e => .inl e)
end Go.Proofs.Ytpfnjeicenhciaa.Ftg
