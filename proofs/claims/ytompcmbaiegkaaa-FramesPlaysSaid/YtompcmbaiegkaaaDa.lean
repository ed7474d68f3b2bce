/-
  A call of both memories, the frames' own and the document's: what both answer, and what both then hold.
-/
import Derived.Test.YtompcmbaiegkaaaGn
import Derived.Laws.BytesArg
namespace Go.Proofs.Ytompcmbaiegkaaa.Da
open Go Go.RowKit Kit Fm Fo Fr Fw Fx Fy Fu Fv Gm Go2 Gr Gw Gn
set_option linter.unusedVariables false

/-- Both memories hold the same: c calls at most have gone by. -/
structure Agr (n c : Nat) (R : Nat → Nat) (B B' : Nat → Nat → Nat) : Prop where
  same : ∀ k, k < n → R k ≠ 0 → ∀ i, i < 64 → B' k i = B k i
  zero : ∀ k, k < n → R k = 0 → ∀ i, i < 64 → B k i = 0
  few : ∀ k, R k ≤ c
theorem Agr.mono {n c c' : Nat} {R : Nat → Nat} {B B' : Nat → Nat → Nat} (h : Agr n c R B B') (hc : c ≤ c') : Agr n c' R B B' := ⟨h.same, h.zero, fun k => Nat.le_trans (h.few k) hc⟩
theorem Agr.ref {n c : Nat} {R : Nat → Nat} {B B' : Nat → Nat → Nat} (h : Agr n c R B B') (k v : Nat) (hk : R k ≠ 0) (hv : v ≠ 0) (hc : v ≤ c + 1) : Agr n (c + 1) (up R k v) B B' := by
  refine ⟨fun j hj hr => ?_, fun j hj hr => ?_, fun j => ?_⟩
  · by_cases e : j = k
    · subst e; exact h.same j hj hk
    · rw [up_other _ _ _ _ e] at hr; exact h.same j hj hr
  · by_cases e : j = k
    · subst e; rw [up_same] at hr; exact absurd hr hv
    · rw [up_other _ _ _ _ e] at hr; exact h.zero j hj hr
  · by_cases e : j = k
    · subst e; rw [up_same]; exact hc
    · rw [up_other _ _ _ _ e]; have := h.few j; omega
theorem Agr.gone {n c : Nat} {R : Nat → Nat} {B B' : Nat → Nat → Nat} (h : Agr n c R B B') (k : Nat) : Agr n (c + 1) (up R k 0) (up B k fun _ => 0) B' := by
  refine ⟨fun j hj hr => ?_, fun j hj hr => ?_, fun j => ?_⟩
  · by_cases e : j = k
    · subst e; rw [up_same] at hr; exact absurd rfl hr
    · rw [up_other _ _ _ _ e] at hr; rw [up_other _ _ _ _ e]; exact h.same j hj hr
  · by_cases e : j = k
    · subst e; intro i _; rw [up_same]
    · rw [up_other _ _ _ _ e] at hr; rw [up_other _ _ _ _ e]; exact h.zero j hj hr
  · by_cases e : j = k
    · subst e; rw [up_same]; omega
    · rw [up_other _ _ _ _ e]; have := h.few j; omega
/-- A frame taken, with bytes. -/
theorem Agr.took {n c : Nat} {R : Nat → Nat} {B B' : Nat → Nat → Nat} (h : Agr n c R B B') (k : Nat) (f f' : Nat → Nat) (hf : ∀ i, i < 64 → f' i = f i) : Agr n (c + 1) (up R k 1) (up B k f) (up B' k f') := by
  refine ⟨fun j hj hr => ?_, fun j hj hr => ?_, fun j => ?_⟩
  · by_cases e : j = k
    · subst e; rw [up_same, up_same]; exact hf
    · rw [up_other _ _ _ _ e] at hr; rw [up_other _ _ _ _ e, up_other _ _ _ _ e]; exact h.same j hj hr
  · by_cases e : j = k
    · subst e; rw [up_same] at hr; exact absurd hr (by decide)
    · rw [up_other _ _ _ _ e] at hr; rw [up_other _ _ _ _ e]; exact h.zero j hj hr
  · by_cases e : j = k
    · subst e; rw [up_same]; omega
    · rw [up_other _ _ _ _ e]; have := h.few j; omega
theorem Agr.wrote {n c : Nat} {R : Nat → Nat} {B B' : Nat → Nat → Nat} (h : Agr n c R B B') (k off : Nat) (xs : List Nat) (hk : k < n) (hr : R k ≠ 0) : Agr n (c + 1) R (up B k (wr (B k) off xs)) (up B' k (wr (B' k) off xs)) := by
  refine ⟨fun j hj hr => ?_, fun j hj hr2 => ?_, fun j => ?_⟩
  · by_cases e : j = k
    · subst e
      intro i hi
      rw [up_same, up_same]
      unfold wr
      split
      · rfl
      · exact h.same j hj hr i hi
    · rw [up_other _ _ _ _ e, up_other _ _ _ _ e]; exact h.same j hj hr
  · by_cases e : j = k
    · subst e; exact absurd hr2 hr
    · rw [up_other _ _ _ _ e]; exact h.zero j hj hr2
  · have := h.few j; omega

/-- The least frame that is free, if there is one. -/
theorem least_or (n : Nat) (R : Nat → Nat) : (∀ k, k < n → R k ≠ 0) ∨ ∃ m, m < n ∧ R m = 0 ∧ ∀ k, k < m → R k ≠ 0 := by
  induction n with
  | zero => exact .inl fun k hk => absurd hk (Nat.not_lt_zero _)
  | succ n ih =>
    rcases ih with h | ⟨m, h1, h2, h3⟩
    · by_cases hz : R n = 0
      · exact .inr ⟨n, by omega, hz, h⟩
      · refine .inl fun k hk => ?_
        by_cases e : k = n
        · subst e; exact hz
        · exact h k (by omega)
    · exact .inr ⟨m, by omega, h2, h3⟩

theorem take_both (p b q rr rb n c : Nat) (R : Nat → Nat) (B B' : Nat → Nat → Nat) (h : Agr n c R B B') (hc : c ≤ 1000) :
    ∃ (a g : Int) (R1 : Nat → Nat) (B1 B1' : Nat → Nat → Nat), (∀ W, Mem W p b n R B → Calls Try.prog 14 #[.pointer (some ⟨p, 0, none⟩)] W fun e w' => e = .returned (.tuple #[.int .i64 a, .int .i64 g]) ∧ Mem w' p b n R1 B1 ∧ Kp (fun j => j = b) W w') ∧
      (∀ W, RMem W q rr rb n R B' → Calls Try.prog 33 #[.pointer (some ⟨q, 0, none⟩)] W fun e w' => e = .returned (.tuple #[.int .i64 a, .int .i64 g]) ∧ RMem w' q rr rb n R1 B1' ∧ Kp (fun j => j = rr ∨ j = rb) W w') ∧ Agr n (c + 1) R1 B1 B1' := by
  rcases least_or n R with hf | ⟨m, h1, h2, h3⟩
  · refine ⟨0, 40, R, B, B', fun W hM => (take_full W p b n R B hM hf).mono fun e w' ⟨he, hw⟩ => ?_, fun W hM => (rtake_full W q rr rb n R B' hM hf).mono fun e w' ⟨he, hw⟩ => ?_, h.mono (by omega)⟩
    · subst hw; exact ⟨he, hM, Kp.refl _ _⟩
    · subst hw; exact ⟨he, hM, Kp.refl _ _⟩
  · refine ⟨m, 0, up R m 1, B, up B' m (fun _ => 0), fun W hM => (take_ok W p b n R B hM m h1 h2 h3).mono fun e w' ⟨he, hw⟩ => ?_, fun W hM => (rtake_ok W q rr rb n R B' hM m h1 h2 h3).mono fun e w' hh => hh, ?_⟩
    · subst hw; exact ⟨he, hM.setRef m 1 h1 (by omega), Kp.set _ _ _ _ rfl⟩
    · have hB : up B m (B m) = B := by
        funext j
        by_cases e : j = m
        · subst e; rw [up_same]
        · rw [up_other _ _ _ _ e]
      have := h.took m (B m) (fun _ => 0) (fun i hi => (h.zero m h1 h2 i hi).symm)
      rw [hB] at this
      exact this
theorem share_both (p b q rr rb n c : Nat) (R : Nat → Nat) (B B' : Nat → Nat → Nat) (h : Agr n c R B B') (hc : c ≤ 1000) (k : Int) :
    ∃ (g : Int) (R1 : Nat → Nat) (B1 B1' : Nat → Nat → Nat), (∀ W, Mem W p b n R B → Calls Try.prog 25 #[.pointer (some ⟨p, 0, none⟩), .int .i64 k] W fun e w' => e = .returned (.int .i64 g) ∧ Mem w' p b n R1 B1 ∧ Kp (fun j => j = b) W w') ∧
      (∀ W, RMem W q rr rb n R B' → Calls Try.prog 34 #[.pointer (some ⟨q, 0, none⟩), .int .i64 k] W fun e w' => e = .returned (.int .i64 g) ∧ RMem w' q rr rb n R1 B1' ∧ Kp (fun j => j = rr ∨ j = rb) W w') ∧ Agr n (c + 1) R1 B1 B1' := by
  by_cases hk : rf n R k = 0
  · refine ⟨41, R, B, B', fun W hM => (share_no W p b n R B hM k hk).mono fun e w' ⟨he, hw⟩ => ?_, fun W hM => (rshare_no W q rr rb n R B' hM k hk).mono fun e w' ⟨he, hw⟩ => ?_, h.mono (by omega)⟩
    · subst hw; exact ⟨he, hM, Kp.refl _ _⟩
    · subst hw; exact ⟨he, hM, Kp.refl _ _⟩
  · obtain ⟨j, rfl, hj, hr⟩ := rf_pos hk
    have hfew := h.few j
    refine ⟨0, up R j (R j + 1), B, B', fun W hM => (share_ok W p b n R B hM j hj hr).mono fun e w' ⟨he, hw⟩ => ?_, fun W hM => (rshare_ok W q rr rb n R B' hM j hj hr).mono fun e w' ⟨he, hw⟩ => ?_, h.ref j _ hr (by omega) (by omega)⟩
    · subst hw; exact ⟨he, hM.setRef j _ hj (by omega), Kp.set _ _ _ _ rfl⟩
    · subst hw; exact ⟨he, hM.setRef j _ hj (by omega), Kp.set _ _ _ _ (.inl rfl)⟩
theorem drop_both (p b q rr rb n c : Nat) (R : Nat → Nat) (B B' : Nat → Nat → Nat) (h : Agr n c R B B') (hc : c ≤ 1000) (k : Int) :
    ∃ (a g : Int) (R1 : Nat → Nat) (B1 B1' : Nat → Nat → Nat), (∀ W, Mem W p b n R B → Calls Try.prog 15 #[.pointer (some ⟨p, 0, none⟩), .int .i64 k] W fun e w' => e = .returned (.tuple #[.int .i64 a, .int .i64 g]) ∧ Mem w' p b n R1 B1 ∧ Kp (fun j => j = b) W w') ∧
      (∀ W, RMem W q rr rb n R B' → Calls Try.prog 35 #[.pointer (some ⟨q, 0, none⟩), .int .i64 k] W fun e w' => e = .returned (.tuple #[.int .i64 a, .int .i64 g]) ∧ RMem w' q rr rb n R1 B1' ∧ Kp (fun j => j = rr ∨ j = rb) W w') ∧ Agr n (c + 1) R1 B1 B1' := by
  by_cases hk : rf n R k = 0
  · refine ⟨0, 41, R, B, B', fun W hM => (drop_no W p b n R B hM k hk).mono fun e w' ⟨he, hw⟩ => ?_, fun W hM => (rdrop_no W q rr rb n R B' hM k hk).mono fun e w' ⟨he, hw⟩ => ?_, h.mono (by omega)⟩
    · subst hw; exact ⟨he, hM, Kp.refl _ _⟩
    · subst hw; exact ⟨he, hM, Kp.refl _ _⟩
  · obtain ⟨j, rfl, hj, hr⟩ := rf_pos hk
    have hfew := h.few j
    obtain ⟨r, hr1⟩ : ∃ r, R j = r + 1 := ⟨R j - 1, by omega⟩
    cases r with
    | zero =>
      refine ⟨0, 0, up R j 0, up B j (fun _ => 0), B', fun W hM => (drop_last W p b n R B hM j hj hr1).mono fun e w' ⟨he, hw⟩ => ?_, fun W hM => (rdrop_ok W q rr rb n R B' hM j hj 0 hr1).mono fun e w' ⟨he, hw⟩ => ?_, h.gone j⟩
      · subst hw
        exact ⟨he, Fo.Mem.dropped hM j hj, (Kp.set (S := fun j => j = b) _ _ _ _ rfl).trans (Kp.sets (S := fun j => j = b) b rfl _ _ _) (fun _ h => .inl h)⟩
      · subst hw; exact ⟨he, hM.setRef j _ hj (by omega), Kp.set _ _ _ _ (.inl rfl)⟩
    | succ r =>
      refine ⟨((r + 1 : Nat) : Int), 0, up R j (r + 1), B, B', fun W hM => (drop_many W p b n R B hM j hj r hr1).mono fun e w' ⟨he, hw⟩ => ?_, fun W hM => (rdrop_ok W q rr rb n R B' hM j hj (r + 1) hr1).mono fun e w' ⟨he, hw⟩ => ?_, h.ref j _ hr (by omega) (by omega)⟩
      · subst hw; exact ⟨he, hM.setRef j _ hj (by omega), Kp.set _ _ _ _ rfl⟩
      · subst hw; exact ⟨he, hM.setRef j _ hj (by omega), Kp.set _ _ _ _ (.inl rfl)⟩
theorem double_both (p b q rr rb n c : Nat) (R : Nat → Nat) (B B' : Nat → Nat → Nat) (h : Agr n c R B B') (hc : c ≤ 1000) (k : Int) :
    ∃ (a g : Int) (R1 : Nat → Nat) (B1 B1' : Nat → Nat → Nat), (∀ W, Mem W p b n R B → Calls Try.prog 27 #[.pointer (some ⟨p, 0, none⟩), .int .i64 k] W fun e w' => e = .returned (.tuple #[.int .i64 a, .int .i64 g]) ∧ Mem w' p b n R1 B1 ∧ Kp (fun j => j = b) W w') ∧
      (∀ W, RMem W q rr rb n R B' → Calls Try.prog 38 #[.pointer (some ⟨q, 0, none⟩), .int .i64 k] W fun e w' => e = .returned (.tuple #[.int .i64 a, .int .i64 g]) ∧ RMem w' q rr rb n R1 B1' ∧ Kp (fun j => j = rr ∨ j = rb) W w') ∧ Agr n (c + 1) R1 B1 B1' := by
  by_cases hk : rf n R k = 0
  · refine ⟨0, 41, R, B, B', fun W hM => (double_no W p b n R B hM k hk).mono fun e w' ⟨he, hw⟩ => ?_, fun W hM => (rdouble_no W q rr rb n R B' hM k hk).mono fun e w' ⟨he, hw⟩ => ?_, h.mono (by omega)⟩
    · subst hw; exact ⟨he, hM, Kp.refl _ _⟩
    · subst hw; exact ⟨he, hM, Kp.refl _ _⟩
  · obtain ⟨j, rfl, hj, hr⟩ := rf_pos hk
    rcases least_or n R with hf | ⟨m, h1, h2, h3⟩
    · refine ⟨0, 40, R, B, B', fun W hM => (double_full W p b n R B hM j hj hf).mono fun e w' ⟨he, hw⟩ => ?_, fun W hM => (rdouble_full W q rr rb n R B' hM j hj hf).mono fun e w' ⟨he, hw⟩ => ?_, h.mono (by omega)⟩
      · subst hw; exact ⟨he, hM, Kp.refl _ _⟩
      · subst hw; exact ⟨he, hM, Kp.refl _ _⟩
    · exact ⟨m, 0, up R m 1, up B m (B j), up B' m (B' j), fun W hM => double_ok W p b n R B hM j hj hr m h1 h2 h3, fun W hM => rdouble_ok W q rr rb n R B' hM j hj hr m h1 h2 h3, h.took m _ _ (h.same j hj hr)⟩
theorem u8f_ext {f f' : Nat → Nat} {m : Nat} (h : ∀ i, i < m → f i = f' i) : u8f f m = u8f f' m := by
  unfold u8f
  refine List.map_congr_left fun i hi => ?_
  rw [h i (by simpa using hi)]
theorem read_both (p b q rr rb n c : Nat) (R : Nat → Nat) (B B' : Nat → Nat → Nat) (h : Agr n c R B B') (k off m : Int) (ho : (Lit.int .i64 off).wf = true) (hm : (Lit.int .i64 m).wf = true) :
    ∃ (g : Int) (N : Nat) (f : Nat → Nat), N ≤ 64 ∧ (∀ W, Mem W p b n R B → Calls Try.prog 22 #[.pointer (some ⟨p, 0, none⟩), .int .i64 k, .int .i64 off, .int .i64 m] W fun e w' => Below W.heap.size W w' ∧ ∃ r, e = .returned (.tuple #[r, .int .i64 g]) ∧ w'.ownsRow W.heap.size 5 1 r N (u8f f N)) ∧
      (∀ W, RMem W q rr rb n R B' → Calls Try.prog 36 #[.pointer (some ⟨q, 0, none⟩), .int .i64 k, .int .i64 off, .int .i64 m] W fun e w' => Below W.heap.size W w' ∧ ∃ r, e = .returned (.tuple #[r, .int .i64 g]) ∧ w'.ownsRow W.heap.size 5 1 r N (u8f f N)) := by
  by_cases hk : rf n R k = 0
  · refine ⟨41, 0, fun _ => 0, Nat.zero_le _, fun W hM => (read_no W p b n R B hM k off m hk).mono fun e w' ⟨he, hw⟩ => ?_, fun W hM => (rread_no W q rr rb n R B' hM k off m hk).mono fun e w' ⟨he, hw⟩ => ?_⟩
    · subst hw; exact ⟨Below.refl _ _, _, he, World.ownsRow_nil _ _ _ _⟩
    · subst hw; exact ⟨Below.refl _ _, _, he, World.ownsRow_nil _ _ _ _⟩
  · obtain ⟨j, rfl, hj, hr⟩ := rf_pos hk
    by_cases hf : 0 ≤ off ∧ 0 ≤ m ∧ off + m ≤ 64
    · obtain ⟨o, rfl⟩ := Int.eq_ofNat_of_zero_le hf.1
      obtain ⟨l, rfl⟩ := Int.eq_ofNat_of_zero_le hf.2.1
      refine ⟨0, l, fun i => B j (o + i), by omega, fun W hM => read_ok W p b n R B hM j hj hr o l (by omega), fun W hM => ?_⟩
      rw [u8f_ext (f := fun i => B j (o + i)) (f' := fun i => B' j (o + i)) (fun i hi => (h.same j hj hr (o + i) (by omega)).symm)]
      exact rread_ok W q rr rb n R B' hM j hj hr o l (by omega)
    · refine ⟨2, 0, fun _ => 0, Nat.zero_le _, fun W hM => (read_arg W p b n R B hM j hj hr off m ho hm hf).mono fun e w' ⟨he, hw⟩ => ?_, fun W hM => (rread_arg W q rr rb n R B' hM j hj hr off m ho hm hf).mono fun e w' ⟨he, hw⟩ => ?_⟩
      · subst hw; exact ⟨Below.refl _ _, _, he, World.ownsRow_nil _ _ _ _⟩
      · subst hw; exact ⟨Below.refl _ _, _, he, World.ownsRow_nil _ _ _ _⟩
theorem write_both (p b q rr rb n c : Nat) (R : Nat → Nat) (B B' : Nat → Nat → Nat) (h : Agr n c R B B') (k off : Int) (ho : (Lit.int .i64 off).wf = true) (xs : List Nat) (hx : ∀ x ∈ xs, x < 256) (hl : xs.length ≤ 1000) :
    ∃ (g : Int) (B1 B1' : Nat → Nat → Nat), (∀ W v, Mem W p b n R B → Slc .u8 W v xs → Calls Try.prog 26 #[.pointer (some ⟨p, 0, none⟩), .int .i64 k, .int .i64 off, v] W fun e w' => e = .returned (.int .i64 g) ∧ Mem w' p b n R B1 ∧ Kp (fun j => j = b) W w') ∧
      (∀ W v, RMem W q rr rb n R B' → Slc .u8 W v xs → Calls Try.prog 37 #[.pointer (some ⟨q, 0, none⟩), .int .i64 k, .int .i64 off, v] W fun e w' => e = .returned (.int .i64 g) ∧ RMem w' q rr rb n R B1' ∧ Kp (fun j => j = rr ∨ j = rb) W w' ∧ ∀ g', Rws w' rb n g' → Rws W rb n g' ∨ W.heap.size ≤ g') ∧ Agr n (c + 1) R B1 B1' := by
  by_cases hk : rf n R k = 0
  · refine ⟨41, B, B', fun W v hM hv => ?_, fun W v hM hv => ?_, h.mono (by omega)⟩
    · obtain ⟨a, cap, rfl, _⟩ := hv
      exact (write_no W p b n R B hM k off a _ cap hk).mono fun e w' ⟨he, hw⟩ => by subst hw; exact ⟨he, hM, Kp.refl _ _⟩
    · obtain ⟨a, cap, rfl, _⟩ := hv
      exact (rwrite_no W q rr rb n R B' hM k off a _ cap hk).mono fun e w' ⟨he, hw⟩ => by subst hw; exact ⟨he, hM, Kp.refl _ _, fun _ h => .inl h⟩
  · obtain ⟨j, rfl, hj, hr⟩ := rf_pos hk
    by_cases hf : 0 ≤ off ∧ off + xs.length ≤ 64
    · obtain ⟨o, rfl⟩ := Int.eq_ofNat_of_zero_le hf.1
      exact ⟨0, _, _, fun W v hM hv => write_ok W p b n R B hM j hj hr o v xs hv hx (by omega), fun W v hM hv => rwrite_ok W q rr rb n R B' hM j hj hr o v xs hv hx (by omega), h.wrote j o xs hj hr⟩
    · refine ⟨2, B, B', fun W v hM hv => ?_, fun W v hM hv => ?_, h.mono (by omega)⟩
      · obtain ⟨a, cap, rfl, _⟩ := hv
        exact (write_arg W p b n R B hM j hj hr off ho a _ cap (by omega) hf).mono fun e w' ⟨he, hw⟩ => by subst hw; exact ⟨he, hM, Kp.refl _ _⟩
      · obtain ⟨a, cap, rfl, _⟩ := hv
        exact (rwrite_arg W q rr rb n R B' hM j hj hr off ho a _ cap (by omega) hf).mono fun e w' ⟨he, hw⟩ => by subst hw; exact ⟨he, hM, Kp.refl _ _, fun _ h => .inl h⟩
end Go.Proofs.Ytompcmbaiegkaaa.Da
