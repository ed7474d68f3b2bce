/-
  on: a table goes on by calls.
-/
import Derived.Test.YtcmlcepdcpbdaaaGd
namespace Go.Proofs.Ytcmlcepdcpbdaaa.On
open Go Go.RowKit Kit Bk Tm Ts Tc Ti Tl Th Td Tq Tr Tn En Ov Gd
set_option linter.unusedVariables false

/-- As Gs; and nothing but the table was turned since w0. -/
structure Gk (W0 w0 w : World) (p : Nat) (T : Nat → Option En) : Prop where
  st : Gs W0 w p T
  kp : Kp (fun j => j = p) w0 w
theorem Gk.step {W0 w0 w w' : World} {p : Nat} {T T' : Nat → Option En} (h : Gk W0 w0 w p T) (hk : Kp (fun j => j = p) w w') (hM : Mem w' p T') : Gk W0 w0 w' p T' := ⟨h.st.step hk hM, h.kp.trans hk (fun _ e => .inl e)⟩
theorem Gk.below {W0 w0 w w' : World} {p : Nat} {T : Nat → Option En} (h : Gk W0 w0 w p T) (hb : Below w.heap.size w w') : Gk W0 w0 w' p T := ⟨h.st.below hb, h.kp.trans (Kp.of_below (S := fun j => j = p) hb) (fun _ e => .inl e)⟩
set_option maxRecDepth 100000 in
set_option maxHeartbeats 2000000 in
theorem on_any (v : Value) (ops : List Opr) (w w0 : World) (p : Nat) (T0 : Nat → Option En) (h : OpsAt w v ops) (hf : ops.length ≤ 150) (h0 : Gs w w0 p T0) :
    Calls Try.prog 30 #[.pointer (some ⟨p, 0, none⟩), v] w0 fun e w' => (∃ k, e = .returned k) ∧ Gk w w0 w' p (acts T0 ops) := by
  obtain ⟨a, cap, rfl, h1, h2, h3⟩ := h
  have hl : (ops.length : Int) ≤ 150 := by omega
  have HS0 : Hid (Gk w w0 w0 p T0) := Lib.hid ⟨h0, Kp.refl _ _⟩
  have H3 := Lib.hid h3
  clear h3 h0
  go_enter Try.func30, Try.ntmps30
  go_wp2
  go_loopw [7] (fun i wr => ∃ j : Nat, j ≤ ops.length ∧ i = .int .i64 (j : Int) ∧ Gk w w0 wr p (acts T0 (ops.take j))) (fun i _ => ops.length - (intOf i).toNat)
  case atStart => exact ⟨0, Nat.zero_le _, rfl, HS0.out⟩
  case round =>
    obtain ⟨j, hj, rfl, hs⟩ := hrel
    by_cases hlt : j < ops.length
    · rcases H3.out with h0 | ⟨ba, off, rfl, hb, h4⟩
      · subst h0; simp at hlt
      · have ht : ops.take (j + 1) = ops.take j ++ [ops[j]] := by rw [List.take_add_one, List.getElem?_eq_getElem hlt]; rfl
        have hact : acts T0 (ops.take (j + 1)) = act (acts T0 (ops.take j)) ops[j] := by rw [ht, acts_app]
        have hop := OpAt.below (h4 j hlt) hs.st.bel hb
        obtain ⟨T', hT'⟩ : ∃ T', acts T0 (ops.take (j + 1)) = T' := ⟨_, rfl⟩
        rw [hT'] at hact
        have HT := Lib.hid hT'
        clear hT' ht
        generalize acts T0 (ops.take j) = T at *
        generalize ops[j] = o at *
        obtain ⟨kind, page, f, wr', s, c, d⟩ := o
        obtain ⟨c0, c1, c2, c3, c4, c5, c6⟩ := hop
        dsimp only at c0 c1 c2 c3 c4 c5 c6
        have hlti : (j : Int) < (ops.length : Int) := by omega
        clear h4
        by_cases k0 : kind = 0
        · subst k0
          have HC : Hid (∀ w', Below wr.heap.size wr w' → Calls Try.prog 10 #[.pointer (some ⟨p, 0, none⟩), .int .i64 page, .agg #[.int .i64 f, .bool wr', .bool s, .bool c, .bool d]] w' fun e w2 => (∃ k, e = .returned (.int .i64 k)) ∧ Gk w w0 w2 p T') := Lib.hid (fun w' hb' => (set_any w' p T (hs.below hb').st.mem page ⟨f, wr', s, c, d⟩).mono fun e w2 ⟨e1, e2, e3⟩ => ⟨⟨_, e1⟩, (hs.below hb').step e2 (by rw [hact]; exact e3)⟩)
          have HB : Hid (Below wr.heap.size wr wr.drew) := Lib.hid ((Below.refl _ _).drew)
          clear hs hact
          go_wp2
          go_region_with (go_at_call 10; (with_reducible refine (HC.out _ HB.out).mono ?_); rintro e w5 ⟨⟨k, rfl⟩, hs5⟩; have HS5 := Lib.hid hs5; clear hs5)
          all_goals go_wp2
          all_goals go_roundw
          all_goals first | (exact ⟨j + 1, by omega, by go_num, by rw [HT.out]; exact HS5.out⟩) | (simp [intOf]; omega)
        · have q0 : (kind == 0) = false := by simp [k0]
          by_cases k1 : kind = 1
          · subst k1
            have HC : Hid (∀ w', Below wr.heap.size wr w' → Calls Try.prog 12 #[.pointer (some ⟨p, 0, none⟩), .int .i64 page] w' fun e w2 => (∃ k, e = .returned k) ∧ Gk w w0 w2 p T') := Lib.hid (fun w' hb' => (clear_any w' p T (hs.below hb').st.mem page).mono fun e w2 ⟨e1, e2, e3⟩ => ⟨⟨_, e1⟩, (hs.below hb').step e2 (by rw [hact]; exact e3)⟩)
            have HB : Hid (Below wr.heap.size wr wr) := Lib.hid (Below.refl _ _)
            clear hs hact k0
            go_wp2_with (go_at_call 12; (with_reducible refine (HC.out _ HB.out).mono ?_); rintro e w5 ⟨⟨k, rfl⟩, hs5⟩; have HS5 := Lib.hid hs5; clear hs5)
            all_goals go_roundw
            all_goals first | (exact ⟨j + 1, by omega, by go_num, by rw [HT.out]; exact HS5.out⟩) | (simp [intOf]; omega)
          · have q1 : (kind == 1) = false := by simp [k1]
            by_cases k2 : kind = 2
            · subst k2
              have HC : Hid (∀ w', Below wr.heap.size wr w' → Calls Try.prog 14 #[.pointer (some ⟨p, 0, none⟩)] w' fun e w2 => (∃ k, e = .returned k) ∧ Gk w w0 w2 p T') := Lib.hid (fun w' hb' => (clean_any w' p T (hs.below hb').st.mem).mono fun e w2 ⟨e1, e2, e3⟩ => ⟨⟨_, e1⟩, (hs.below hb').step e2 (by rw [hact]; exact e3)⟩)
              have HB : Hid (Below wr.heap.size wr wr) := Lib.hid (Below.refl _ _)
              clear hs hact k0 k1
              go_wp2_with (go_at_call 14; (with_reducible refine (HC.out _ HB.out).mono ?_); rintro e w5 ⟨⟨k, rfl⟩, hs5⟩; have HS5 := Lib.hid hs5; clear hs5)
              all_goals go_roundw
              all_goals first | (exact ⟨j + 1, by omega, by go_num, by rw [HT.out]; exact HS5.out⟩) | (simp [intOf]; omega)
            · have q2 : (kind == 2) = false := by simp [k2]
              have HS5 : Hid (Gk w w0 wr p T') := Lib.hid (by rw [hact]; unfold act; rw [if_neg k0, if_neg k1, if_neg k2]; exact hs)
              clear hs hact k0 k1 k2
              go_wp2
              all_goals go_roundw
              all_goals first | (exact ⟨j + 1, by omega, by go_num, by rw [HT.out]; exact HS5.out⟩) | (simp [intOf]; omega)
    · obtain rfl : j = ops.length := by omega
      rw [List.take_length] at hs
      have HS2 := Lib.hid hs
      clear hs
      go_wp2
      go_end0
      exact ⟨⟨_, rfl⟩, HS2.out⟩
end Go.Proofs.Ytcmlcepdcpbdaaa.On
