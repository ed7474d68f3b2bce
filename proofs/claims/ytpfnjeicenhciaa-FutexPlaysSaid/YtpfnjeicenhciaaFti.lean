/-
  A futex: Wait.
-/
import Derived.Test.YtpfnjeicenhciaaFth
import Derived.Deep.RegionLawGrows
namespace Go.Proofs.Ytpfnjeicenhciaa.Fti
open Go Go.RowKit Kit Bk Fta Ftb Ftc Ftd Fte Ftf Ftg Fth
set_option linter.unusedVariables false
attribute [local go_sem ↓] app_wrap

/-- What Wait answers, and what it leaves. -/
def wtE (L : List Wt) (q : Int) (k : Ky) : Int := if mayK k = true ∧ 1 ≤ q then (if fkB L q = true then 110 else 0) else 2
def wtL (L : List Wt) (q : Int) (k : Ky) : List Wt := if wtE L q k = 0 then L ++ [⟨q, k⟩] else L
theorem wt_bad {L : List Wt} {q : Int} {k : Ky} (h : ¬ (mayK k = true ∧ 1 ≤ q)) : wtE L q k = 2 ∧ wtL L q k = L := by
  have e : wtE L q k = 2 := by unfold wtE; rw [if_neg h]
  exact ⟨e, by unfold wtL; rw [e]; rfl⟩
theorem wt_old {L : List Wt} {q : Int} {k : Ky} (h : mayK k = true ∧ 1 ≤ q) (h2 : fkB L q = true) : wtE L q k = 110 ∧ wtL L q k = L := by
  have e : wtE L q k = 110 := by unfold wtE; rw [if_pos h, if_pos h2]
  exact ⟨e, by unfold wtL; rw [e]; rfl⟩
theorem wt_new {L : List Wt} {q : Int} {k : Ky} (h : mayK k = true ∧ 1 ≤ q) (h2 : fkB L q = false) : wtE L q k = 0 ∧ wtL L q k = L ++ [⟨q, k⟩] := by
  have e : wtE L q k = 0 := by unfold wtE; rw [if_pos h, h2]; rfl
  exact ⟨e, by unfold wtL; rw [e]; rfl⟩

theorem wait_nil (w : World) (q : Int) (k : Ky) : Calls Try.prog 9 #[.pointer none, .int .i64 q, kv k] w fun e w' => e = .returned (.int .i64 1) ∧ Below w.heap.size w w' := by
  have hb1 := (Below.refl w.heap.size w).alloc (Nat.le_refl _) (.cells #[.int .i64 k.p, .int .i64 k.f, .int .i64 k.o] 31)
  have HB := Lib.hid hb1
  clear hb1
  go_enter Try.func9, Try.ntmps9
  go_wp2_with (go_at_call 17; (with_reducible refine (key_nil _ _).mono ?_); rintro e w1 ⟨rfl, hb⟩; have hbw := HB.out.trans (hb.mono HB.out.size); replace hbw := Lib.hid hbw; clear hb)
  go_ret
  exact ⟨rfl, hbw.out.alloc hbw.out.size _⟩
set_option maxRecDepth 100000 in
set_option maxHeartbeats 2000000 in
theorem wait_new (w : World) (f r : Nat) (L : List Wt) (q : Int) (k : Ky) (h : Lx 26 w f r L) (hll : L.length ≤ 90000) (hok : mayK k = true) (hq : 1 ≤ q) (hno : fkB L q = false) :
    Calls Try.prog 9 #[.pointer (some ⟨f, 0, none⟩), .int .i64 q, kv k] w fun e w' => e = .returned (.int .i64 0) ∧ ∃ r', Kp (fr f r) w w' ∧ Lx 26 w' f r' (L ++ [⟨q, k⟩]) ∧ (r' = r ∨ w.heap.size ≤ r') := by
  have b1 := (Below.refl w.heap.size w).alloc (Nat.le_refl _) (.cells #[.int .i64 k.p, .int .i64 k.f, .int .i64 k.o] 31)
  have hbox := Blk.new w #[.int .i64 k.p, .int .i64 k.f, .int .i64 k.o] 31
  have HK := Lib.hid (key_any _ f r L q (h.below b1))
  have hck : ckE k = 0 := ckE_ok.2 hok
  have HC : Hid (∀ W : World, Calls Try.prog 21 #[kv k] W fun e w' => e = .returned (.int .i64 0) ∧ Below W.heap.size W w') := Lib.hid (fun W => by
    have := check_any W k
    rw [hck] at this
    exact this)
  have dq : decide (q < 1) = false := decide_eq_false (by omega)
  rw [hno] at HK
  have HL := Lib.hid (And.intro b1 (And.intro hbox (And.intro (h.below b1) h)))
  generalize fkK L q = K at *
  clear b1 hbox h hok hck hno hq
  go_enter Try.func9, Try.ntmps9
  go_wp2_with (first | (go_at_call 17; (with_reducible refine HK.out.mono ?_); rintro e w1 ⟨rfl, hb⟩; have hb2 := (Below.refl w1.heap.size w1).alloc (Nat.le_refl _) (.cells #[.int .i64 K.p, .int .i64 K.f, .int .i64 K.o] 31); have hbx := (HL.out.2.1.below hb).below hb2; have e0 := hbx.cell 0; have e1 := hbx.cell 1; have e2 := hbx.cell 2; have HB2 := Lib.hid (And.intro hb hb2); clear hb hb2 hbx) | (go_at_call 21; (with_reducible refine (HC.out _).mono ?_); rintro e w3 ⟨rfl, hb3⟩; have HB3 := Lib.hid hb3; clear hb3))
  have q1 := HL.out.1.trans (HB2.out.1.mono HL.out.1.size)
  have q2 := q1.trans (HB2.out.2.mono q1.size)
  have q3 := q2.trans (HB3.out.mono q2.size)
  have hL3 := HL.out.2.2.2.below q3
  have hbx3 := ((HL.out.2.1.below HB2.out.1).below HB2.out.2).below HB3.out
  obtain ⟨v, h1, h2⟩ := id hL3
  have c0 : w3.cell? ⟨f, 0, none⟩ = some v := h1.cell 0
  have c0a : ∀ o, (w3.alloc o).cell? ⟨f, 0, none⟩ = some v := fun o => (World.cell?_alloc_lt w3 o _ h1.lt).trans c0
  have c0d : ∀ o, (w3.drew.alloc o).cell? ⟨f, 0, none⟩ = some v := fun o => (World.cell?_alloc_lt w3.drew o _ h1.lt).trans c0
  have k0 : w3.cell? ⟨w.heap.size, 0, none⟩ = some (.int .i64 k.p) := hbx3.cell 0
  have k1 : w3.cell? ⟨w.heap.size, 1, none⟩ = some (.int .i64 k.f) := hbx3.cell 1
  have k2 : w3.cell? ⟨w.heap.size, 2, none⟩ = some (.int .i64 k.o) := hbx3.cell 2
  obtain ⟨v', w4, g1, g2, g3, g4⟩ := app_one w3.drew 0 v L ⟨q, k⟩ (own_below h2.1 (Below.refl _ _).drew) hll (Nat.zero_le _)
  obtain ⟨va, vc, rfl⟩ := own_form h2.1
  obtain ⟨xa, xc, rfl⟩ := own_form g2
  have hlen : (L ++ [(⟨q, k⟩ : Wt)]).length = L.length + 1 := by simp
  have g1' : (appO #[24, 24] 24 #[.slice va L.length vc, .slice (some ⟨w3.heap.size, 0, none⟩) 1 1]).run Try.prog (w3.alloc (.cells #[.int .i64 q, .int .i64 k.p, .int .i64 k.f, .int .i64 k.o] 51)).drew = .ok (.slice xa (L ++ [(⟨q, k⟩ : Wt)]).length xc) w4 := g1
  have hb4 : Kp (fun j => some j = (Value.slice va L.length vc).ownBlock) w3 w4 := (Kp.of_below ((Below.refl w3.heap.size w3).drew.alloc (Nat.le_refl _) _)).trans (Kp.of_grown g3) (fun j e => .inl e)
  have hrv : ∀ j, some j = (Value.slice va L.length vc).ownBlock → j = r ∧ j ≠ f := fun j e => by
    rcases h2.2 with ⟨e1, -⟩ | ⟨n, c, e1⟩
    · rw [e1] at e; simp [Value.ownBlock] at e
    · rw [e1] at e
      simp [Value.ownBlock] at e
      refine ⟨e, fun e2 => ?_⟩
      subst e2
      subst e
      obtain ⟨_, _, cs, hc⟩ := own_lt (by rw [e1] at h2; exact h2.1)
      exact absurd (hc.inj h1).2 (by decide)
  have hb4f := h1.kept hb4 (fun e => (hrv f e).2 rfl)
  have f4 : w4.frozen? ⟨f, 0, none⟩ = false := hb4f.free 0
  have d4 : w4.cell? ⟨f, 0, none⟩ = some (.slice va L.length vc) := hb4f.cell 0
  have HE : Hid (∃ r', Kp (fr f r) w (w4.setCell ⟨f, 0, none⟩ (.slice xa (L ++ [(⟨q, k⟩ : Wt)]).length xc)) ∧ Lx 26 (w4.setCell ⟨f, 0, none⟩ (.slice xa (L ++ [(⟨q, k⟩ : Wt)]).length xc)) f r' (L ++ [⟨q, k⟩]) ∧ (r' = r ∨ w.heap.size ≤ r')) := Lib.hid (by
    have hkf := Kp.set (S := fr f r) w4 f 0 (.slice xa (L ++ [(⟨q, k⟩ : Wt)]).length xc) (.inl rfl)
    have hkw : Kp (fr f r) w w4 := (kp_below q3).trans (hb4.mono (fun j _ e => .inr (hrv j e).1)) (fun _ e => .inl e)
    obtain ⟨r', n1, n2⟩ : ∃ r', Wr w4 (.slice xa (L ++ [(⟨q, k⟩ : Wt)]).length xc) f r' (L ++ [⟨q, k⟩]) ∧ (r' = r ∨ w.heap.size ≤ r') := by
      rcases g2.2 with ⟨e1, e0⟩ | ⟨g, cap, cur, e1, hg, hh, g5⟩
      · omega
      · injection e1 with e2 e3 e4
        subst e2
        subst e4
        refine ⟨g, ⟨⟨g2.1, .inr ⟨g, _, cur, rfl, hg, hh, g5⟩⟩, .inr ⟨_, _, rfl⟩⟩, ?_⟩
        rcases g4 with g4 | g4
        · left
          exact (hrv g g4).1
        · right
          simp [Value.ownBlock] at g4
          have := q3.size
          omega
    refine ⟨r', hkw.trans hkf (fun _ e => .inl e), ⟨_, hb4f.set 0 _, ?_⟩, n2⟩
    refine ⟨own_kept n1.1 (Kp.set (S := fun j => j = f) w4 f 0 _ rfl) (fun g n c e => ?_), n1.2⟩
    rintro rfl
    obtain ⟨_, _, cs, hc⟩ := own_lt (by have := n1.1; rw [e] at this; exact this)
    exact absurd (hc.inj hb4f).2 (by decide))
  clear g1 g2 g3 g4 hb4 hrv hb4f h1 h2 hbx3 hL3 q1 q2 q3 hlen
  generalize (L ++ [(⟨q, k⟩ : Wt)]).length = n4 at *
  go_region
  go_wp2
  go_ret
  exact ⟨rfl, HE.out⟩
set_option maxHeartbeats 1000000 in
theorem wait_old (w : World) (f r : Nat) (L : List Wt) (q : Int) (k : Ky) (h : Lx 26 w f r L) (hok : mayK k = true) (hq : 1 ≤ q) (hno : fkB L q = true) :
    Calls Try.prog 9 #[.pointer (some ⟨f, 0, none⟩), .int .i64 q, kv k] w fun e w' => e = .returned (.int .i64 110) ∧ Below w.heap.size w w' := by
  have b1 := (Below.refl w.heap.size w).alloc (Nat.le_refl _) (.cells #[.int .i64 k.p, .int .i64 k.f, .int .i64 k.o] 31)
  have hbox := Blk.new w #[.int .i64 k.p, .int .i64 k.f, .int .i64 k.o] 31
  have HK := Lib.hid (key_any _ f r L q (h.below b1))
  have hck : ckE k = 0 := ckE_ok.2 hok
  have HC : Hid (∀ W : World, Calls Try.prog 21 #[kv k] W fun e w' => e = .returned (.int .i64 0) ∧ Below W.heap.size W w') := Lib.hid (fun W => by
    have := check_any W k
    rw [hck] at this
    exact this)
  have dq : decide (q < 1) = false := decide_eq_false (by omega)
  rw [hno] at HK
  have HL := Lib.hid (And.intro b1 hbox)
  generalize fkK L q = K at *
  clear b1 hbox h hok hck hno hq
  go_enter Try.func9, Try.ntmps9
  go_wp2_with (first | (go_at_call 17; (with_reducible refine HK.out.mono ?_); rintro e w1 ⟨rfl, hb⟩; have hb2 := (Below.refl w1.heap.size w1).alloc (Nat.le_refl _) (.cells #[.int .i64 K.p, .int .i64 K.f, .int .i64 K.o] 31); have hbx := (HL.out.2.below hb).below hb2; have e0 := hbx.cell 0; have e1 := hbx.cell 1; have e2 := hbx.cell 2; have HB2 := Lib.hid (And.intro hb hb2); clear hb hb2 hbx) | (go_at_call 21; (with_reducible refine (HC.out _).mono ?_); rintro e w3 ⟨rfl, hb3⟩; have HB3 := Lib.hid hb3; clear hb3))
  go_ret
  have q1 := HL.out.1.trans (HB2.out.1.mono HL.out.1.size)
  have q2 := q1.trans (HB2.out.2.mono q1.size)
  exact ⟨rfl, q2.trans (HB3.out.mono q2.size)⟩
set_option maxHeartbeats 1000000 in
theorem wait_bad (w : World) (f r : Nat) (L : List Wt) (q : Int) (k : Ky) (h : Lx 26 w f r L) (hok : ¬ (mayK k = true ∧ 1 ≤ q)) :
    Calls Try.prog 9 #[.pointer (some ⟨f, 0, none⟩), .int .i64 q, kv k] w fun e w' => e = .returned (.int .i64 2) ∧ Below w.heap.size w w' := by
  have b1 := (Below.refl w.heap.size w).alloc (Nat.le_refl _) (.cells #[.int .i64 k.p, .int .i64 k.f, .int .i64 k.o] 31)
  have hbox := Blk.new w #[.int .i64 k.p, .int .i64 k.f, .int .i64 k.o] 31
  have HK := Lib.hid (key_any _ f r L q (h.below b1))
  have HC := fun W => check_any W k
  have HL := Lib.hid (And.intro b1 hbox)
  generalize fkK L q = K at *
  generalize fkB L q = Z at *
  clear b1 hbox h
  by_cases hm : mayK k = true
  · have hck : ckE k = 0 := ckE_ok.2 hm
    rw [hck] at HC
    replace HC := Lib.hid HC
    have dq : decide (q < 1) = true := decide_eq_true (Int.not_le.1 fun e => hok ⟨hm, e⟩)
    clear hck hm hok
    go_enter Try.func9, Try.ntmps9
    go_wp2_with (first | (go_at_call 17; (with_reducible refine HK.out.mono ?_); rintro e w1 ⟨rfl, hb⟩; have hb2 := (Below.refl w1.heap.size w1).alloc (Nat.le_refl _) (.cells #[.int .i64 K.p, .int .i64 K.f, .int .i64 K.o] 31); have hbx := (HL.out.2.below hb).below hb2; have e0 := hbx.cell 0; have e1 := hbx.cell 1; have e2 := hbx.cell 2; have HB2 := Lib.hid (And.intro hb hb2); clear hb hb2 hbx) | (go_at_call 21; (with_reducible refine (HC.out _).mono ?_); rintro e w3 ⟨rfl, hb3⟩; have HB3 := Lib.hid hb3; clear hb3))
    go_ret
    have q1 := HL.out.1.trans (HB2.out.1.mono HL.out.1.size)
    have q2 := q1.trans (HB2.out.2.mono q1.size)
    exact ⟨rfl, q2.trans (HB3.out.mono q2.size)⟩
  · have hck : ckE k = 2 := by unfold ckE; rw [if_neg hm]
    rw [hck] at HC
    replace HC := Lib.hid HC
    clear hck hm hok
    go_enter Try.func9, Try.ntmps9
    go_wp2_with (first | (go_at_call 17; (with_reducible refine HK.out.mono ?_); rintro e w1 ⟨rfl, hb⟩; have hb2 := (Below.refl w1.heap.size w1).alloc (Nat.le_refl _) (.cells #[.int .i64 K.p, .int .i64 K.f, .int .i64 K.o] 31); have hbx := (HL.out.2.below hb).below hb2; have e0 := hbx.cell 0; have e1 := hbx.cell 1; have e2 := hbx.cell 2; have HB2 := Lib.hid (And.intro hb hb2); clear hb hb2 hbx) | (go_at_call 21; (with_reducible refine (HC.out _).mono ?_); rintro e w3 ⟨rfl, hb3⟩; have HB3 := Lib.hid hb3; clear hb3))
    go_ret
    have q1 := HL.out.1.trans (HB2.out.1.mono HL.out.1.size)
    have q2 := q1.trans (HB2.out.2.mono q1.size)
    exact ⟨rfl, q2.trans (HB3.out.mono q2.size)⟩
theorem wait_any (w : World) (f r : Nat) (L : List Wt) (q : Int) (k : Ky) (h : Lx 26 w f r L) (hll : L.length ≤ 90000) :
    Calls Try.prog 9 #[.pointer (some ⟨f, 0, none⟩), .int .i64 q, kv k] w fun e w' => e = .returned (.int .i64 (wtE L q k)) ∧ ∃ r', Kp (fr f r) w w' ∧ Lx 26 w' f r' (wtL L q k) ∧ (r' = r ∨ w.heap.size ≤ r') := by
  by_cases hok : mayK k = true ∧ 1 ≤ q
  · cases hz : fkB L q with
    | true =>
      obtain ⟨e1, e2⟩ := wt_old hok hz
      rw [e1, e2]
      refine (wait_old w f r L q k h hok.1 hok.2 hz).mono ?_
      rintro e w' ⟨rfl, hb⟩
      exact ⟨rfl, r, kp_below hb, h.below hb, .inl rfl⟩
    | false =>
      obtain ⟨e1, e2⟩ := wt_new hok hz
      rw [e1, e2]
      exact wait_new w f r L q k h hll hok.1 hok.2 hz
  · obtain ⟨e1, e2⟩ := wt_bad (L := L) hok
    rw [e1, e2]
    refine (wait_bad w f r L q k h hok).mono ?_
    rintro e w' ⟨rfl, hb⟩
    exact ⟨rfl, r, kp_below hb, h.below hb, .inl rfl⟩
end Go.Proofs.Ytpfnjeicenhciaa.Fti
