/-
  The document's own descriptors: New, Get, set, Put, Set, Close, Dup.
-/
import Derived.Test.YtmdldehdlggpkaaJq
namespace Go.Proofs.Ytmdldehdlggpkaa.Js
open Go Go.RowKit Kit Bk Jp Jm Ji Jo Ju Jd Je Jr Jq
set_option linter.unusedVariables false
attribute [local go_sem ↓] app_wrap

/-- The document's descriptors in block v. -/
def Rd (w : World) (v : Nat) (D : Nat → Nat) : Prop :=
  ∃ g cap cs, Blk w v #[.slice (some ⟨g, 0, none⟩) 8 cap] 41 ∧ 8 ≤ cap ∧ cap ≤ maxLen ∧ Blk w g cs 3 ∧ ∀ i : Nat, i < 8 → cs[i]? = some (.int .i64 (gD D i))
theorem Rd.kept {S : Nat → Prop} {w w' : World} {v : Nat} {D : Nat → Nat} (h : Rd w v D) (hk : Kp S w w') (hp : ¬ S v) (hS : ∀ g cs, Blk w g cs 3 → ¬ S g) : Rd w' v D := by
  obtain ⟨g, cap, cs, h1, h2, h3, h4, h5⟩ := h
  exact ⟨g, cap, cs, h1.kept hk hp, h2, h3, h4.kept hk (hS g cs h4), h5⟩
theorem Rd.below {w w' : World} {v : Nat} {D : Nat → Nat} (h : Rd w v D) (hb : Below w.heap.size w w') : Rd w' v D := h.kept (S := fun _ => False) (.of_below hb) (fun e => e) (fun _ _ _ e => e)
theorem Rd.lt {w : World} {v : Nat} {D : Nat → Nat} (h : Rd w v D) : v < w.heap.size := by
  obtain ⟨g, cap, cs, h1, _⟩ := h
  exact h1.lt
/-- What it holds as a row. -/
theorem Rd.row {w : World} {v : Nat} {D : Nat → Nat} (h : Rd w v D) : ∃ g cap, Blk w v #[.slice (some ⟨g, 0, none⟩) 8 cap] 41 ∧ Ir w (.slice (some ⟨g, 0, none⟩) 8 cap) 8 (fun i => gD D i) := by
  obtain ⟨g, cap, cs, h1, h2, h3, h4, h5⟩ := h
  exact ⟨g, cap, h1, _, cap, rfl, h2, h3, .inr ⟨g, cs, rfl, h4, h5⟩⟩
def gl (D : Nat → Nat) : List Value := (List.range 8).map fun i => Value.int .i64 (gD D (i : Nat))
theorem gl_len (D : Nat → Nat) : (gl D).length = 8 := by simp [gl]
theorem gl_at (D : Nat → Nat) (i : Nat) (h : i < 8) : (gl D)[i]? = some (.int .i64 (gD D i)) := by simp [gl, h]
theorem gl_one (D : Nat → Nat) : ∀ u ∈ gl D, u.oneCell' = true := by
  intro u hu
  simp only [gl, List.mem_map] at hu
  obtain ⟨i, _, rfl⟩ := hu
  rfl
theorem rget_any (w : World) (v : Nat) (D : Nat → Nat) (h : Rd w v D) (i : Int) :
    Calls Try.prog 21 #[.pointer (some ⟨v, 0, none⟩), .int .i64 i] w fun e w' => e = .returned (.int .i64 (gD D i)) ∧ w = w' := by
  by_cases h0 : i < 0
  · have d0 : decide (i < 0) = true := decide_eq_true h0
    rw [gD_out (by omega)]
    clear h h0
    go_enter Try.func21, Try.ntmps21
    go_wp2
    go_ret
    exact ⟨rfl, rfl⟩
  · have d0 : decide (i < 0) = false := decide_eq_false h0
    by_cases h1 : 7 < i
    · have d1 : decide (7 < i) = true := decide_eq_true h1
      rw [gD_out (by omega)]
      clear h h0 h1
      go_enter Try.func21, Try.ntmps21
      go_wp2
      go_ret
      exact ⟨rfl, rfl⟩
    · have d1 : decide (7 < i) = false := decide_eq_false h1
      obtain ⟨k, rfl⟩ := Int.eq_ofNat_of_zero_le (show 0 ≤ i by omega)
      obtain ⟨g, cap, cs, g1, g2, g3, g4, g5⟩ := h
      have c0 : w.cell? ⟨v, 0, none⟩ = some (.slice (some ⟨g, 0, none⟩) 8 cap) := g1.cell 0
      have c1 := (g4.cell k).trans (g5 k (by omega))
      have hk : (k : Int) < 8 := by omega
      generalize gD D (k : Int) = G at *
      clear g1 g4 g5 h0 h1
      go_enter Try.func21, Try.ntmps21
      go_wp2
      go_ret
      exact ⟨rfl, rfl⟩
set_option maxHeartbeats 1000000 in
theorem set_any (w : World) (v : Nat) (D : Nat → Nat) (h : Rd w v D) (k : Nat) (hk : k < 8) (z : Int) (x : Nat) (hx : (x : Int) - 1 = z) :
    Calls Try.prog 50 #[.pointer (some ⟨v, 0, none⟩), .int .i64 (k : Int), .int .i64 z] w fun e w' => (∃ r, e = .returned r) ∧ Kp (fun j => j = v) w w' ∧ Rd w' v (up D k x) := by
  obtain ⟨i0, hi, hz0, hz1, hz2⟩ := info_parts info3
  obtain ⟨g, cap, cs, g1, g2, g3, g4, g5⟩ := h
  have c0 : w.cell? ⟨v, 0, none⟩ = some (.slice (some ⟨g, 0, none⟩) 8 cap) := g1.cell 0
  have hnews : ∀ j u, (gl D)[j]? = some u → w.cell? ((⟨g, 0, none⟩ : Addr).add j) = some u := by
    intro j u hj
    have hjm : j < 8 := by rw [← gl_len D]; exact (List.getElem?_eq_some_iff.1 hj).1
    rw [gl_at D j hjm] at hj
    cases hj
    rw [Addr.add_mid, Nat.zero_add]
    exact (g4.cell j).trans (g5 j hjm)
  obtain ⟨v', w2, hrun, hown, hgr, -⟩ := run_append_own_at (P := Try.prog) (w := w) w.heap.size 38 38 3 i0 (.int .i64 0) 1 8 Try.underlying38 hi hz0 hz1 hz2 rfl (by decide) (.slice none 0 0) 0 [] (World.ownsRow_nil _ _ _ _) ⟨g, 0, none⟩ 8 cap (gl D) (by rw [gl_len])
    hnews (gl_one _) (by unfold maxLen; omega) (by omega) (Nat.le_refl _)
  have hrun' : (appO #[38, 38] 38 #[.slice none 0 0, .slice (some ⟨g, 0, none⟩) 8 cap]).run Try.prog w = .ok v' w2 := hrun
  have hB2 : Below w.heap.size w w2 := (Below.refl _ _).grown hgr (Nat.le_refl _) (fun r e => by cases e)
  rw [Nat.zero_add, List.nil_append] at hown
  obtain ⟨_, ⟨e9, h0⟩ | ⟨y, cap2, cur2, rfl, hg2, hb2, hn2, hm2, hz2', ht2⟩⟩ := hown
  · omega
  have hcur : ∀ i, i < 8 → cur2[i]? = some (.int .i64 (gD D i)) := fun i hi => by
    have := congrArg (fun l => l[i]?) ht2
    simp only [List.getElem?_take, Nat.mul_one, hi, if_true, Array.getElem?_toList] at this
    rw [this]
    exact gl_at _ _ hi
  have hvlt := g1.lt
  replace hb2 : Blk w2 y cur2 3 := hb2
  have c1 := (hb2.cell k).trans (hcur k hk)
  have f1 := hb2.free k
  have hv2 : Blk w2 v #[.slice (some ⟨g, 0, none⟩) 8 cap] 41 := (hB2.block v hvlt).trans g1
  have hb3 := hb2.set k (.int .i64 z)
  have k3 : Kp (fun j => j = y) w2 (w2.setCell ⟨y, k, none⟩ (.int .i64 z)) := Kp.set _ _ _ _ rfl
  have hv3 := hv2.kept k3 (hv2.ne hb2 (by decide))
  generalize hW3 : w2.setCell ⟨y, k, none⟩ (.int .i64 z) = W3 at *
  have c3 : W3.cell? ⟨v, 0, none⟩ = some (.slice (some ⟨g, 0, none⟩) 8 cap) := hv3.cell 0
  have f3 := hv3.free 0
  have hv4 : Blk (W3.setCell ⟨v, 0, none⟩ (.slice (some ⟨y, 0, none⟩) 8 cap2)) v #[.slice (some ⟨y, 0, none⟩) 8 cap2] 41 := by simpa using hv3.set 0 (.slice (some ⟨y, 0, none⟩) 8 cap2)
  have k4 : Kp (fun j => j = v) W3 (W3.setCell ⟨v, 0, none⟩ (.slice (some ⟨y, 0, none⟩) 8 cap2)) := Kp.set _ _ _ _ rfl
  have hb4 := hb3.kept k4 (hb3.ne hv3 (by decide))
  generalize hW4 : W3.setCell ⟨v, 0, none⟩ (.slice (some ⟨y, 0, none⟩) 8 cap2) = W4 at *
  have HE : Hid (Kp (fun j => j = v) w W4 ∧ Rd W4 v (up D k x)) := Lib.hid ⟨((Kp.of_below hB2).trans k3 (fun j e => .inr (by omega))).trans k4 (fun _ e => .inl e), y, cap2, _, hv4, hn2, hm2, hb4, fun i hi => by
    rw [Array.getElem?_setIfInBounds]
    by_cases e : k = i
    · subst e
      rw [if_pos rfl, if_pos (by omega), gD_nat hk, up_same, hx]
    · rw [if_neg e, hcur i hi, gD_nat hi, gD_nat hi, up_other _ _ _ _ (Ne.symm e)]⟩
  have hk2 : (k : Int) < 8 := by omega
  generalize gD D (k : Int) = G at *
  clear hrun hgr hB2 hb2 ht2 hnews hz0 hz1 hz2 hi hz2' g1 g4 g5 hcur hv2 hb3 k3 hv3 hv4 k4 hb4
  go_enter Try.func50, Try.ntmps50
  go_wp2
  go_end0
  exact ⟨⟨_, rfl⟩, HE.out.1, HE.out.2⟩
/-- Numbers that may not be: too small or too great. -/
theorem mayN_or {n : Int} (h : ¬ mayN n) : n < 0 ∨ (¬ n < 0 ∧ 63 < n) := by unfold mayN at h; omega
theorem gD_neg {D : Nat → Nat} {k : Nat} (hk : k < 8) : decide (gD D (k : Int) < 0) = decide (D k = 0) := decide_eq_decide.2 (by rw [gD_nat hk]; omega)
set_option maxRecDepth 100000 in
set_option maxHeartbeats 1000000 in
theorem rput_any (w : World) (v : Nat) (D : Nat → Nat) (h : Rd w v D) (n : Int) :
    Calls Try.prog 38 #[.pointer (some ⟨v, 0, none⟩), .int .i64 n] w fun e w' => e = .returned (.tuple #[.int .i64 (pN D n), .int .i64 (pE D n)]) ∧ Kp (fun j => j = v) w w' ∧ Rd w' v (pD D n) := by
  by_cases hm : mayN n
  · have d0 : decide (n < 0) = false := decide_eq_false (by have := hm.1; omega)
    have d1 : decide (63 < n) = false := decide_eq_false (by have := hm.2; omega)
    have hle := lst_le D 8
    obtain ⟨g, cap, cs, g1, g2, g3, g4, g5⟩ := id h
    have c0 : w.cell? ⟨v, 0, none⟩ = some (.slice (some ⟨g, 0, none⟩) 8 cap) := g1.cell 0
    have hc : ∀ k : Nat, k < 8 → w.cell? ⟨g, k, none⟩ = some (.int .i64 (gD D k)) := fun k hk => (g4.cell k).trans (g5 k hk)
    clear g1 g4 g5
    by_cases hl : lst D 8 = 8
    · have e1 : pE D n = 102 := by unfold pE; rw [if_pos hm, if_pos hl]
      have e2 : pN D n = 0 := by unfold pN; rw [if_neg (fun e => e.2 hl)]
      have e3 : pD D n = D := by unfold pD; rw [if_neg (fun e => e.2 hl)]
      rw [e1, e2, e3]
      have hlow : ∀ k, k < 8 → D k ≠ 0 := fun k hk => lst_low D 8 k (by omega)
      have HE := Lib.hid h
      clear h hm hl e1 e2 e3 hle
      go_enter Try.func38, Try.ntmps38
      go_wp2
      go_loop [6] (fun i => ∃ k : Nat, k ≤ 8 ∧ i = .int .i64 (k : Int)) (fun i => 8 - (intOf i).toNat)
      case atStart => exact ⟨0, Nat.zero_le _, rfl⟩
      case round =>
        obtain ⟨k, hk, rfl⟩ := hrel
        by_cases hlt : k < 8
        · have c1 := hc k hlt
          have hk2 : (k : Int) < 8 := by omega
          have hd : decide (gD D (k : Int) < 0) = false := by rw [gD_neg hlt]; exact decide_eq_false (hlow k hlt)
          generalize gD D (k : Int) = G at *
          clear hc hlow
          go_wp2
          go_round
          case rel => exact ⟨k + 1, by omega, by go_num⟩
          case measure => simp [intOf]; omega
        · obtain rfl : k = 8 := by omega
          go_wp2
          go_ret2
          exact ⟨rfl, Kp.refl _ _, HE.out⟩
    · have e1 : pE D n = 0 := by unfold pE; rw [if_pos hm, if_neg hl]
      have e2 : pN D n = (lst D 8 : Int) := by unfold pN; rw [if_pos ⟨hm, hl⟩]
      have e3 : pD D n = up D (lst D 8) (n.toNat + 1) := by unfold pD; rw [if_pos ⟨hm, hl⟩]
      rw [e1, e2, e3]
      have hlow : ∀ k, k < lst D 8 → D k ≠ 0 := fun k hk => lst_low D 8 k hk
      have hat := lst_at D 8 (by omega)
      have HS := Lib.hid (set_any w v D h (lst D 8) (by omega) n (n.toNat + 1) (by have := hm.1; omega))
      generalize up D (lst D 8) (n.toNat + 1) = D2 at *
      obtain ⟨m, hmm⟩ : ∃ m, lst D 8 = m := ⟨_, rfl⟩
      rw [hmm] at hl hle hlow hat HS ⊢
      have hmi : (m : Int) < 8 := by omega
      clear h hm e1 e2 e3 hmm
      go_enter Try.func38, Try.ntmps38
      go_wp2
      go_loop [6] (fun i => ∃ k : Nat, k ≤ m ∧ i = .int .i64 (k : Int)) (fun i => 8 - (intOf i).toNat)
      case atStart => exact ⟨0, Nat.zero_le _, rfl⟩
      case round =>
        obtain ⟨k, hk, rfl⟩ := hrel
        have c1 := hc k (by omega)
        have hk2 : (k : Int) < 8 := by omega
        by_cases hlt : k < m
        · have hd : decide (gD D (k : Int) < 0) = false := by rw [gD_neg (by omega)]; exact decide_eq_false (hlow k hlt)
          generalize gD D (k : Int) = G at *
          clear hc hlow hat
          go_wp2
          go_round
          case rel => exact ⟨k + 1, by omega, by go_num⟩
          case measure => simp [intOf]; omega
        · obtain rfl : k = m := by omega
          have hd : decide (gD D (k : Int) < 0) = true := by rw [gD_neg (by omega)]; exact decide_eq_true hat
          generalize gD D (k : Int) = G at *
          clear hc hlow hat hl hle
          go_wp2_with (go_at_call 50; (with_reducible refine HS.out.mono ?_); rintro e w1 ⟨⟨r, rfl⟩, hk1, hs1⟩; replace hk1 := Lib.hid hk1; replace hs1 := Lib.hid hs1)
          go_ret2
          exact ⟨rfl, hk1.out, hs1.out⟩
  · have e1 : pE D n = 2 := by unfold pE; rw [if_neg hm]
    have e2 : pN D n = 0 := by unfold pN; rw [if_neg (fun e => hm e.1)]
    have e3 : pD D n = D := by unfold pD; rw [if_neg (fun e => hm e.1)]
    rw [e1, e2, e3]
    have HE := Lib.hid h
    rcases mayN_or hm with h1 | ⟨h1, h2⟩
    · have d0 : decide (n < 0) = true := decide_eq_true h1
      clear h hm e1 e2 e3 h1
      go_enter Try.func38, Try.ntmps38
      go_wp2
      go_ret2
      exact ⟨rfl, Kp.refl _ _, HE.out⟩
    · have d0 : decide (n < 0) = false := decide_eq_false h1
      have d1 : decide (63 < n) = true := decide_eq_true h2
      clear h hm e1 e2 e3 h1 h2
      go_enter Try.func38, Try.ntmps38
      go_wp2
      go_ret2
      exact ⟨rfl, Kp.refl _ _, HE.out⟩
set_option maxHeartbeats 1000000 in
theorem rset_any (w : World) (v : Nat) (D : Nat → Nat) (h : Rd w v D) (fd n : Int) :
    Calls Try.prog 39 #[.pointer (some ⟨v, 0, none⟩), .int .i64 fd, .int .i64 n] w fun e w' => e = .returned (.int .i64 (tE D fd n)) ∧ Kp (fun j => j = v) w w' ∧ Rd w' v (tD D fd n) := by
  by_cases hm : mayN n
  · have d0 : decide (n < 0) = false := decide_eq_false (by have := hm.1; omega)
    have d1 : decide (63 < n) = false := decide_eq_false (by have := hm.2; omega)
    by_cases hf : 0 ≤ fd ∧ fd < 8
    · have d2 : decide (fd < 0) = false := decide_eq_false (by omega)
      have d3 : decide (7 < fd) = false := decide_eq_false (by omega)
      obtain ⟨k, rfl⟩ := Int.eq_ofNat_of_zero_le hf.1
      have hk : k < 8 := by omega
      obtain ⟨g, cap, cs, g1, g2, g3, g4, g5⟩ := id h
      have c0 : w.cell? ⟨v, 0, none⟩ = some (.slice (some ⟨g, 0, none⟩) 8 cap) := g1.cell 0
      have c1 := (g4.cell k).trans (g5 k hk)
      clear g1 g4 g5
      have hk2 : (k : Int) < 8 := hf.2
      by_cases hg : gD D (k : Int) = -1
      · have e1 : tE D (k : Int) n = 0 := by unfold tE; rw [if_pos hm, if_pos ⟨hf, hg⟩]
        have e2 : tD D (k : Int) n = up D k (n.toNat + 1) := by unfold tD; rw [if_pos ⟨hm, hf, hg⟩]; rfl
        rw [e1, e2]
        rw [hg] at c1
        have HS := Lib.hid (set_any w v D h k hk n (n.toNat + 1) (by have := hm.1; omega))
        generalize up D k (n.toNat + 1) = D2 at *
        clear h hm hf e1 e2 hg
        go_enter Try.func39, Try.ntmps39
        go_wp2_with (go_at_call 50; (with_reducible refine HS.out.mono ?_); rintro e w1 ⟨⟨r, rfl⟩, hk1, hs1⟩; replace hk1 := Lib.hid hk1; replace hs1 := Lib.hid hs1)
        go_ret
        exact ⟨rfl, hk1.out, hs1.out⟩
      · have e1 : tE D (k : Int) n = 103 := by unfold tE; rw [if_pos hm, if_neg (fun e => hg e.2)]
        have e2 : tD D (k : Int) n = D := by unfold tD; rw [if_neg (fun e => hg e.2.2)]
        rw [e1, e2]
        have hd : decide (0 ≤ gD D (k : Int)) = true := decide_eq_true (by rw [gD_nat hk] at hg ⊢; omega)
        have HE := Lib.hid h
        generalize gD D (k : Int) = G at *
        clear h hm hf e1 e2 hg
        go_enter Try.func39, Try.ntmps39
        go_wp2
        go_ret
        exact ⟨rfl, Kp.refl _ _, HE.out⟩
    · have e1 : tE D fd n = 103 := by unfold tE; rw [if_pos hm, if_neg (fun e => hf e.1)]
      have e2 : tD D fd n = D := by unfold tD; rw [if_neg (fun e => hf e.2.1)]
      rw [e1, e2]
      have HE := Lib.hid h
      by_cases h1 : fd < 0
      · have d2 : decide (fd < 0) = true := decide_eq_true h1
        clear h hm hf e1 e2 h1
        go_enter Try.func39, Try.ntmps39
        go_wp2
        go_ret
        exact ⟨rfl, Kp.refl _ _, HE.out⟩
      · have d2 : decide (fd < 0) = false := decide_eq_false h1
        have d3 : decide (7 < fd) = true := decide_eq_true (by omega)
        clear h hm hf e1 e2 h1
        go_enter Try.func39, Try.ntmps39
        go_wp2
        go_ret
        exact ⟨rfl, Kp.refl _ _, HE.out⟩
  · have e1 : tE D fd n = 2 := by unfold tE; rw [if_neg hm]
    have e2 : tD D fd n = D := by unfold tD; rw [if_neg (fun e => hm e.1)]
    rw [e1, e2]
    have HE := Lib.hid h
    rcases mayN_or hm with h1 | ⟨h1, h2⟩
    · have d0 : decide (n < 0) = true := decide_eq_true h1
      clear h hm e1 e2 h1
      go_enter Try.func39, Try.ntmps39
      go_wp2
      go_ret
      exact ⟨rfl, Kp.refl _ _, HE.out⟩
    · have d0 : decide (n < 0) = false := decide_eq_false h1
      have d1 : decide (63 < n) = true := decide_eq_true h2
      clear h hm e1 e2 h1 h2
      go_enter Try.func39, Try.ntmps39
      go_wp2
      go_ret
      exact ⟨rfl, Kp.refl _ _, HE.out⟩
theorem gD_lt {D : Nat → Nat} {fd : Int} (hg : gD D fd ≠ -1) : decide (gD D fd < 0) = false := by
  obtain ⟨j, rfl, hj, hz, e⟩ := gD_some hg
  rw [e]
  exact decide_eq_false (by omega)
theorem rclose_any (w : World) (v : Nat) (D : Nat → Nat) (h : Rd w v D) (fd : Int) :
    Calls Try.prog 40 #[.pointer (some ⟨v, 0, none⟩), .int .i64 fd] w fun e w' => e = .returned (.tuple #[.int .i64 (cN D fd), .int .i64 (cE D fd)]) ∧ Kp (fun j => j = v) w w' ∧ Rd w' v (cD D fd) := by
  have HG := rget_any w v D h fd
  by_cases hg : gD D fd = -1
  · have e1 : cE D fd = 103 := by unfold cE; rw [if_pos hg]
    have e2 : cN D fd = 0 := by unfold cN; rw [if_pos hg]
    have e3 : cD D fd = D := by unfold cD; rw [if_pos hg]
    rw [e1, e2, e3]
    rw [hg] at HG
    have HF := Lib.hid h
    have HG2 := Lib.hid HG
    clear h hg e1 e2 e3 HG
    go_enter Try.func40, Try.ntmps40
    go_wp2_with (go_at_call 21; (with_reducible refine HG2.out.mono ?_); rintro e w1 ⟨rfl, rfl⟩)
    go_ret2
    exact ⟨rfl, Kp.refl _ _, HF.out⟩
  · have e1 : cE D fd = 0 := by unfold cE; rw [if_neg hg]
    have e2 : cN D fd = gD D fd := by unfold cN; rw [if_neg hg]
    have e3 : cD D fd = up D fd.toNat 0 := by unfold cD; rw [if_neg hg]
    rw [e1, e2, e3]
    have hd := gD_lt hg
    obtain ⟨k, rfl, hk, hz, -⟩ := gD_some hg
    rw [show Int.toNat (k : Int) = k by omega]
    have HS := Lib.hid (set_any w v D h k hk (-1) 0 rfl)
    have HG2 := Lib.hid HG
    generalize up D k 0 = D2 at *
    generalize gD D (k : Int) = G at *
    clear h hg e1 e2 e3 HG hz
    go_enter Try.func40, Try.ntmps40
    go_wp2_with (first | (go_at_call 21; (with_reducible refine HG2.out.mono ?_); rintro e w1 ⟨rfl, rfl⟩) | (go_at_call 50; (with_reducible refine HS.out.mono ?_); rintro e w1 ⟨⟨r, rfl⟩, hk1, hs1⟩; replace hk1 := Lib.hid hk1; replace hs1 := Lib.hid hs1))
    go_ret2
    exact ⟨rfl, hk1.out, hs1.out⟩
theorem rdup_any (w : World) (v : Nat) (D : Nat → Nat) (h : Rd w v D) (fd : Int) :
    Calls Try.prog 41 #[.pointer (some ⟨v, 0, none⟩), .int .i64 fd] w fun e w' => e = .returned (.tuple #[.int .i64 (uN D fd), .int .i64 (uE D fd)]) ∧ Kp (fun j => j = v) w w' ∧ Rd w' v (uD D fd) := by
  have HG := rget_any w v D h fd
  by_cases hg : gD D fd = -1
  · have e1 : uE D fd = 103 := by unfold uE; rw [if_pos hg]
    have e2 : uN D fd = 0 := by unfold uN; rw [if_pos hg]
    have e3 : uD D fd = D := by unfold uD; rw [if_pos hg]
    rw [e1, e2, e3]
    rw [hg] at HG
    have HF := Lib.hid h
    have HG2 := Lib.hid HG
    clear h hg e1 e2 e3 HG
    go_enter Try.func41, Try.ntmps41
    go_wp2_with (go_at_call 21; (with_reducible refine HG2.out.mono ?_); rintro e w1 ⟨rfl, rfl⟩)
    go_ret2
    exact ⟨rfl, Kp.refl _ _, HF.out⟩
  · have e1 : uE D fd = pE D (gD D fd) := by unfold uE; rw [if_neg hg]
    have e2 : uN D fd = pN D (gD D fd) := by unfold uN; rw [if_neg hg]
    have e3 : uD D fd = pD D (gD D fd) := by unfold uD; rw [if_neg hg]
    rw [e1, e2, e3]
    have hd := gD_lt hg
    have HP := Lib.hid (rput_any w v D h (gD D fd))
    have HG2 := Lib.hid HG
    generalize pE D (gD D fd) = E at *
    generalize pN D (gD D fd) = N at *
    generalize pD D (gD D fd) = D2 at *
    generalize gD D fd = G at *
    clear h hg e1 e2 e3 HG
    go_enter Try.func41, Try.ntmps41
    go_wp2_with (first | (go_at_call 21; (with_reducible refine HG2.out.mono ?_); rintro e w1 ⟨rfl, rfl⟩) | (go_at_call 38; (with_reducible refine HP.out.mono ?_); rintro e w1 ⟨rfl, hk1, hs1⟩; replace hk1 := Lib.hid hk1; replace hs1 := Lib.hid hs1))
    go_ret2
    exact ⟨rfl, hk1.out, hs1.out⟩
theorem rnew_any (w : World) :
    Calls Try.prog 34 #[] w fun e w' => ∃ v, e = .returned (.pointer (some ⟨v, 0, none⟩)) ∧ Below w.heap.size w w' ∧ w.heap.size ≤ v ∧ Rd w' v (fun _ => 0) := by
  obtain ⟨M, hM⟩ : ∃ M : Array Value, #[.int .i64 (-1), .int .i64 (-1), .int .i64 (-1), .int .i64 (-1), .int .i64 (-1), .int .i64 (-1), .int .i64 (-1), .int .i64 (-1)] = M := ⟨_, rfl⟩
  have hb1 := (Below.refl w.heap.size w).alloc (Nat.le_refl _) (.cells M 3)
  have hb2 := hb1.alloc hb1.size (.cells #[.slice (some ⟨w.heap.size, 0, none⟩) 8 8] 41)
  have hr : Rd ((w.alloc (.cells M 3)).alloc (.cells #[.slice (some ⟨w.heap.size, 0, none⟩) 8 8] 41)) (w.heap.size + 1) (fun _ => 0) := by
    refine ⟨w.heap.size, 8, M, ?_, Nat.le_refl _, by unfold maxLen; omega, (Blk.new w M _).below ((Below.refl _ _).alloc (Nat.le_refl _) _), fun i hi => ?_⟩
    · have := Blk.new (w.alloc (.cells M 3)) #[.slice (some ⟨w.heap.size, 0, none⟩) 8 8] 41
      simpa using this
    · rw [gD_nat hi, ← hM]
      have : i = 0 ∨ i = 1 ∨ i = 2 ∨ i = 3 ∨ i = 4 ∨ i = 5 ∨ i = 6 ∨ i = 7 := by omega
      rcases this with rfl | rfl | rfl | rfl | rfl | rfl | rfl | rfl <;> rfl
  rw [← hM] at hb2 hr
  have HE := Lib.hid (And.intro hb2 hr)
  clear hM hb1 hb2 hr
  go_enter Try.func34, Try.ntmps34
  go_wp2
  go_ret
  exact ⟨w.heap.size + 1, by simp, HE.out.1, by omega, HE.out.2⟩
end Go.Proofs.Ytmdldehdlggpkaa.Js
