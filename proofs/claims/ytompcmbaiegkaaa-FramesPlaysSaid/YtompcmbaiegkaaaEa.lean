/-
  alive, Great, grown: the calls ahead of each law.
-/
import Derived.Test.YtompcmbaiegkaaaDc
namespace Go.Proofs.Ytompcmbaiegkaaa.Ea
open Go Go.RowKit Kit Fm Fo Fr Fw Fx Fy Fu Fv Gm Go2 Gr Gw Gn Da Db Dc
set_option linter.unusedVariables false

structure Opr where
  kind : Int
  k : Int
  off : Int
  n : Int
  xs : List Nat
/-- A call lies there. -/
def OpAt (w : World) (b o : Nat) (p : Opr) : Prop :=
  w.cell? ⟨b, o, none⟩ = some (.int .i64 p.kind) ∧ w.cell? ⟨b, o + 1, none⟩ = some (.int .i64 p.k) ∧ w.cell? ⟨b, o + 2, none⟩ = some (.int .i64 p.off) ∧ w.cell? ⟨b, o + 3, none⟩ = some (.int .i64 p.n) ∧
    (∃ bv, w.cell? ⟨b, o + 4, none⟩ = some bv ∧ Slc .u8 w bv p.xs) ∧ (Lit.int .i64 p.off).wf = true ∧ (Lit.int .i64 p.n).wf = true ∧ ∀ x ∈ p.xs, x < 256
def OpsAt (w : World) (v : Value) (ops : List Opr) : Prop :=
  ∃ a cap, v = .slice a ops.length cap ∧ ops.length ≤ cap ∧ cap ≤ maxLen ∧ (ops = [] ∨ ∃ b off, a = some ⟨b, off, none⟩ ∧ b < w.heap.size ∧ ∀ i (h : i < ops.length), OpAt w b (off + i * 5) ops[i])
/-- Calls that a law goes through. -/
def Fine (ops : List Opr) : Prop := ops.length ≤ 150 ∧ ∀ o ∈ ops, o.xs.length ≤ 100

theorem great_long (v : Value) (ops : List Opr) (w : World) (h : OpsAt w v ops) (hf : 150 < ops.length) :
    Calls Try.prog 10 #[v] w fun e w' => e = .returned (.int .i64 1) ∧ w = w' := by
  obtain ⟨a, cap, rfl, h1, h2, h3⟩ := h
  have d : decide ((150 : Int) < (ops.length : Int)) = true := decide_eq_true (by omega)
  clear h3 hf
  go_enter Try.func10, Try.ntmps10
  go_wp2
  go_ret
  exact ⟨rfl, rfl⟩
theorem great_fine (v : Value) (ops : List Opr) (w : World) (h : OpsAt w v ops) (hf : Fine ops) :
    Calls Try.prog 10 #[v] w fun e w' => e = .returned (.int .i64 0) ∧ w = w' := by
  obtain ⟨hf1, hf2⟩ := hf
  obtain ⟨a, cap, rfl, h1, h2, h3⟩ := h
  have d : decide ((150 : Int) < (ops.length : Int)) = false := decide_eq_false (by omega)
  have hl : (ops.length : Int) ≤ 150 := by omega
  go_enter Try.func10, Try.ntmps10
  go_wp2
  go_loop [9] (fun i => ∃ k : Nat, k ≤ ops.length ∧ i = .int .i64 (k : Int)) (fun i => ops.length - (intOf i).toNat)
  case atStart => exact ⟨0, Nat.zero_le _, rfl⟩
  case round =>
    obtain ⟨k, hk, rfl⟩ := hrel
    by_cases hlt : k < ops.length
    · rcases h3 with h0 | ⟨b, off, rfl, hb, h4⟩
      · subst h0; simp at hlt
      · obtain ⟨_, _, _, _, ⟨bv, c4, a2, cap2, rfl, _⟩, _⟩ := h4 k hlt
        have hx := hf2 _ (List.getElem_mem hlt)
        generalize ops[k].xs.length = L at *
        have d2 : decide ((100 : Int) < (L : Int)) = false := decide_eq_false (by omega)
        clear h4 hf2 hx
        go_wp2
        go_round
        case rel => exact ⟨k + 1, by omega, by go_num⟩
        case measure => simp [intOf]; omega
    · obtain rfl : k = ops.length := by omega
      clear h3 hf2
      go_wp2
      go_ret
      exact ⟨rfl, rfl⟩
theorem great_wide (v : Value) (ops : List Opr) (w : World) (h : OpsAt w v ops) (hf : ops.length ≤ 150) (m : Nat) (hm : m < ops.length) (hw : 100 < ops[m].xs.length) (hf2 : ∀ j (h : j < m), (ops[j]'(by omega)).xs.length ≤ 100) :
    Calls Try.prog 10 #[v] w fun e w' => e = .returned (.int .i64 1) ∧ w = w' := by
  obtain ⟨a, cap, rfl, h1, h2, h3⟩ := h
  have d : decide ((150 : Int) < (ops.length : Int)) = false := decide_eq_false (by omega)
  have hl : (ops.length : Int) ≤ 150 := by omega
  go_enter Try.func10, Try.ntmps10
  go_wp2
  go_loop [9] (fun i => ∃ k : Nat, k ≤ m ∧ i = .int .i64 (k : Int)) (fun i => m - (intOf i).toNat)
  case atStart => exact ⟨0, Nat.zero_le _, rfl⟩
  case round =>
    obtain ⟨k, hk, rfl⟩ := hrel
    rcases h3 with h0 | ⟨b, off, rfl, hb, h4⟩
    · subst h0; simp at hm
    · by_cases hlt : k < m
      · obtain ⟨_, _, _, _, ⟨bv, c4, a2, cap2, rfl, _⟩, _⟩ := h4 k (by omega)
        have hx := hf2 k hlt
        generalize (ops[k]'(by omega)).xs.length = L at *
        have d2 : decide ((100 : Int) < (L : Int)) = false := decide_eq_false (by omega)
        have hkl : (k : Int) < (ops.length : Int) := by omega
        clear h4 hf2 hx hw
        go_wp2
        go_round
        case rel => exact ⟨k + 1, by omega, by go_num⟩
        case measure => simp [intOf]; omega
      · obtain rfl : k = m := by omega
        obtain ⟨_, _, _, _, ⟨bv, c4, a2, cap2, rfl, _⟩, _⟩ := h4 k (by omega)
        generalize (ops[k]'(by omega)).xs.length = L at *
        have d2 : decide ((100 : Int) < (L : Int)) = true := decide_eq_true (by omega)
        have hkl : (k : Int) < (ops.length : Int) := by omega
        clear h4 hf2 hw
        go_wp2
        go_ret
        exact ⟨rfl, rfl⟩
theorem least_at (p : Nat → Prop) [∀ k, Decidable (p k)] (n : Nat) : (∀ k, k < n → ¬ p k) ∨ ∃ m, m < n ∧ p m ∧ ∀ k, k < m → ¬ p k := by
  induction n with
  | zero => exact .inl fun k hk => absurd hk (Nat.not_lt_zero _)
  | succ n ih =>
    rcases ih with h | ⟨m, h1, h2, h3⟩
    · by_cases hz : p n
      · exact .inr ⟨n, by omega, hz, h⟩
      · refine .inl fun k hk => ?_
        by_cases e : k = n
        · subst e; exact hz
        · exact h k (by omega)
    · exact .inr ⟨m, by omega, h2, h3⟩
theorem great_any (v : Value) (ops : List Opr) (w : World) (h : OpsAt w v ops) (hf : ¬ Fine ops) :
    Calls Try.prog 10 #[v] w fun e w' => e = .returned (.int .i64 1) ∧ w = w' := by
  by_cases hl : ops.length ≤ 150
  · rcases least_at (fun j => ∃ h : j < ops.length, 100 < ops[j].xs.length) ops.length with h1 | ⟨m, h1, ⟨_, h2⟩, h3⟩
    · refine absurd ⟨hl, fun o ho => ?_⟩ hf
      obtain ⟨j, hj, rfl⟩ := List.getElem_of_mem ho
      have := h1 j hj
      rcases Nat.lt_or_ge 100 ops[j].xs.length with h4 | h4
      · exact absurd ⟨hj, h4⟩ this
      · exact h4
    · refine great_wide v ops w h hl m h1 h2 (fun j hj => ?_)
      have := h3 j hj
      rcases Nat.lt_or_ge 100 (ops[j]'(by omega)).xs.length with h4 | h4
      · exact absurd ⟨by omega, h4⟩ this
      · exact h4
  · exact great_long v ops w h (by omega)

theorem new_lit (w : World) (n : Nat) (N : Int) (hN : N = (n : Int)) (hn : 1 ≤ n ∧ n ≤ 256) :
    Calls Try.prog 11 #[.int .i64 N] w fun e w' => Below w.heap.size w w' ∧ ∃ p b, e = .returned (.tuple #[.pointer (some ⟨p, 0, none⟩), .int .i64 0]) ∧ w.heap.size ≤ p ∧ w.heap.size ≤ b ∧ Mem w' p b n (fun _ => 0) (fun _ _ => 0) := by
  subst hN
  exact new_ok w n hn
theorem rnew_lit (w : World) (n : Nat) (N : Int) (hN : N = (n : Int)) (hn : 1 ≤ n ∧ n ≤ 256) :
    Calls Try.prog 12 #[.int .i64 N] w fun e w' => Below w.heap.size w w' ∧ ∃ q rr rb, e = .returned (.tuple #[.pointer (some ⟨q, 0, none⟩), .int .i64 0]) ∧ w.heap.size ≤ q ∧ w.heap.size ≤ rr ∧ w.heap.size ≤ rb ∧ RMem w' q rr rb n (fun _ => 0) (fun _ _ => 0) := by
  subst hN
  exact rnew_ok w n hn
/-- A memory of two frames, taken one by one. -/
theorem two_taken (w : World) (p b : Nat) (h : Mem w p b 2 (fun _ => 0) (fun _ _ => 0)) :
    ∃ W1 W2, Calls Try.prog 14 #[.pointer (some ⟨p, 0, none⟩)] w (fun e w' => e = .returned (.tuple #[.int .i64 0, .int .i64 0]) ∧ w' = W1) ∧ Calls Try.prog 14 #[.pointer (some ⟨p, 0, none⟩)] W1 (fun e w' => e = .returned (.tuple #[.int .i64 1, .int .i64 0]) ∧ w' = W2) ∧
      Calls Try.prog 14 #[.pointer (some ⟨p, 0, none⟩)] W2 (fun e w' => e = .returned (.tuple #[.int .i64 0, .int .i64 40]) ∧ W2 = w') ∧ Kp (fun j => j = b) w W2 ∧ Mem W2 p b 2 (up (up (fun _ => 0) 0 1) 1 1) (fun _ _ => 0) := by
  have m1 := h.setRef 0 1 (by omega) (by omega)
  have m2 := m1.setRef 1 1 (by omega) (by omega)
  refine ⟨_, _, take_ok w p b 2 _ _ h 0 (by omega) rfl (fun k hk => by omega), take_ok _ p b 2 _ _ m1 1 (by omega) rfl (fun k hk => by
    have hk0 : k = 0 := by omega
    subst hk0
    exact fun e => by simp [up] at e), take_full _ p b 2 _ _ m2 (fun k hk => ?_), ?_, m2⟩
  · unfold up
    split
    · omega
    · rw [if_pos (by omega)]; omega
  · exact (Kp.set (S := fun j => j = b) _ _ _ _ rfl).trans (Kp.set (S := fun j => j = b) _ _ _ _ rfl) (fun _ e => .inl e)
set_option maxHeartbeats 1000000 in
theorem alive_any (w : World) : Calls Try.prog 28 #[] w fun e w' => e = .returned (.bool true) ∧ Below w.heap.size w w' := by
  go_enter Try.func28, Try.ntmps28
  go_wp2_with (first | (go_at_call 11; (with_reducible refine (new_lit _ 2 2 rfl (by omega)).mono ?_); rintro e w1 ⟨b1, p, b, rfl, h1, h2, h3⟩; refine Hid.out ?_))
  refine Lib.hid ?_
  obtain ⟨W1, W2, t1, t2, t3, hk, _⟩ := two_taken w1 p b h3
  have HB := Lib.hid (b1.trans (hk.below b1.size (fun j e => by omega)))
  have T1 := Lib.hid t1
  have T2 := Lib.hid t2
  have T3 := Lib.hid t3
  clear t1 t2 t3 h3 b1 hk h1 h2
  go_wp2_with (first | (go_at_call 14; (first | ((with_reducible refine T1.out.mono ?_); rintro e w1 ⟨rfl, rfl⟩) | ((with_reducible refine T2.out.mono ?_); rintro e w1 ⟨rfl, rfl⟩) | ((with_reducible refine T3.out.mono ?_); rintro e w1 ⟨rfl, rfl⟩))))
  go_ret
  exact ⟨rfl, HB.out⟩

/-- A call of any kind. -/
theorem do_any (W0 w : World) (c p b q rr rb n : Nat) (R : Nat → Nat) (B B' : Nat → Nat → Nat) (h : St W0 w c p b q rr rb n R B B') (hc : c ≤ 900) (o : Opr) (v : Value) (hv : Slc .u8 W0 v o.xs) (hx : ∀ x ∈ o.xs, x < 256) (hl : o.xs.length ≤ 1000) (ho : (Lit.int .i64 o.off).wf = true) (hm : (Lit.int .i64 o.n).wf = true) :
    Calls Try.prog 16 #[.pointer (some ⟨p, 0, none⟩), .pointer (some ⟨q, 0, none⟩), .agg #[.int .i64 o.kind, .int .i64 o.k, .int .i64 o.off, .int .i64 o.n, v]] w (Did W0 w c p b q rr rb n) := by
  obtain ⟨kind, k, off, m, xs⟩ := o
  by_cases h0 : kind = 0
  · subst h0; exact do_take W0 w c p b q rr rb n R B B' h hc k off m v
  by_cases h1 : kind = 1
  · subst h1; exact do_share W0 w c p b q rr rb n R B B' h hc k off m v
  by_cases h2 : kind = 2
  · subst h2; exact do_drop W0 w c p b q rr rb n R B B' h hc k off m v
  by_cases h3 : kind = 3
  · subst h3; exact do_read W0 w c p b q rr rb n R B B' h hc k off m v ho hm
  by_cases h4 : kind = 4
  · subst h4; exact do_write W0 w c p b q rr rb n R B B' h hc k off m v xs hv hx hl ho
  by_cases h5 : kind = 5
  · subst h5; exact do_double W0 w c p b q rr rb n R B B' h hc k off m v
  exact do_none W0 w c p b q rr rb n R B B' h kind k off m v h0 h1 h2 h3 h4 h5

theorem St.start {W0 w1 w2 : World} {p b q rr rb n : Nat} (h1 : Below W0.heap.size W0 w1) (h2 : Below w1.heap.size w1 w2) (hp : W0.heap.size ≤ p) (hb : W0.heap.size ≤ b) (hq : w1.heap.size ≤ q) (hr : w1.heap.size ≤ rr) (hr2 : w1.heap.size ≤ rb) (hm : Mem w1 p b n (fun _ => 0) (fun _ _ => 0)) (hr3 : RMem w2 q rr rb n (fun _ => 0) (fun _ _ => 0)) :
    St W0 w2 0 p b q rr rb n (fun _ => 0) (fun _ _ => 0) (fun _ _ => 0) := by
  have := h1.size
  exact ⟨hm.below h2, hr3, ⟨fun _ _ _ _ _ => rfl, fun _ _ _ _ _ => rfl, fun _ => Nat.le_refl _⟩, ⟨hp, hb, by omega, by omega, by omega⟩, h1.trans (h2.mono h1.size)⟩

set_option maxRecDepth 100000 in
set_option maxHeartbeats 2000000 in
/-- A memory of 12 frames behind calls. -/
theorem grown_any (v : Value) (ops : List Opr) (w : World) (h : OpsAt w v ops) (hf : Fine ops) :
    Calls Try.prog 29 #[v] w fun e w' => ∃ p b q rr rb R B B', e = .returned (.pointer (some ⟨p, 0, none⟩)) ∧ St w w' 150 p b q rr rb 12 R B B' := by
  obtain ⟨hf1, hf2⟩ := hf
  obtain ⟨a, cap, rfl, h1, h2, h3⟩ := h
  have hl : (ops.length : Int) ≤ 150 := by omega
  have H3 := Lib.hid h3
  have HF2 := Lib.hid hf2
  clear h3 hf2
  go_enter Try.func29, Try.ntmps29
  go_wp2_with (first | (go_at_call 11; (with_reducible refine (new_lit _ 12 12 rfl (by omega)).mono ?_); rintro e w1 ⟨b1, p, b, rfl, hp1, hp2, hp3⟩; refine Hid.out ?_))
  refine Lib.hid ?_
  have HP := Lib.hid (And.intro b1 (And.intro hp1 (And.intro hp2 hp3)))
  clear b1 hp1 hp2 hp3
  go_wp2_with (first | (go_at_call 12; (with_reducible refine (rnew_lit _ 12 12 rfl (by omega)).mono ?_); rintro e w2 ⟨b2, q, rr, rb, rfl, hq1, hq2, hq3, hq4⟩; refine Hid.out ?_))
  refine Lib.hid ?_
  have HS := Lib.hid (St.start HP.out.1 b2 HP.out.2.1 HP.out.2.2.1 hq1 hq2 hq3 HP.out.2.2.2 hq4)
  clear b2 hq1 hq2 hq3 hq4
  go_wp2
  go_loopw [18] (fun i wr => ∃ j : Nat, j ≤ ops.length ∧ i = .int .i64 (j : Int) ∧ ∃ R B B', St w wr j p b q rr rb 12 R B B') (fun i _ => ops.length - (intOf i).toNat)
  case atStart => exact ⟨0, Nat.zero_le _, rfl, _, _, _, HS.out⟩
  case round =>
    obtain ⟨j, hj, rfl, R, B, B', hs⟩ := hrel
    by_cases hlt : j < ops.length
    · rcases H3.out with h0 | ⟨ba, off, rfl, hb, h4⟩
      · subst h0; simp at hlt
      · obtain ⟨c0, c1, c2, c3, ⟨bv, c4, hsl⟩, wf1, wf2, hx⟩ := h4 j hlt
        have hbel := hs.bel
        have d0 := (hbel.cell (p := ⟨ba, off + j * 5, none⟩) hb).trans c0
        have d1 := (hbel.cell (p := ⟨ba, off + j * 5 + 1, none⟩) hb).trans c1
        have d2 := (hbel.cell (p := ⟨ba, off + j * 5 + 2, none⟩) hb).trans c2
        have d3 := (hbel.cell (p := ⟨ba, off + j * 5 + 3, none⟩) hb).trans c3
        have d4 := (hbel.cell (p := ⟨ba, off + j * 5 + 4, none⟩) hb).trans c4
        have hd := do_any w wr j p b q rr rb 12 R B B' hs (by omega) ops[j] bv hsl hx (by have := HF2.out _ (List.getElem_mem hlt); omega) wf1 wf2
        have HD := Lib.hid hd
        generalize ops[j] = o at *
        clear hd hs hbel h4 c0 c1 c2 c3 c4 hsl wf1 wf2 hx
        go_wp2_with (first | (go_at_call 16; (with_reducible refine HD.out.mono ?_); rintro e w5 ⟨rfl, R1, B1, B1', hs5, -⟩; have HS5 := Lib.hid hs5; clear hs5))
        go_roundw
        case rel => exact ⟨j + 1, by omega, by go_num, _, _, _, HS5.out⟩
        case measure => simp [intOf]; omega
    · obtain rfl : j = ops.length := by omega
      have HS2 := Lib.hid hs
      clear hs
      go_wp2
      go_ret
      exact ⟨p, b, q, rr, rb, R, B, B', rfl, ⟨HS2.out.mem, HS2.out.ref, HS2.out.agr.mono hf1, HS2.out.lo, HS2.out.bel⟩⟩
end Go.Proofs.Ytompcmbaiegkaaa.Ea
