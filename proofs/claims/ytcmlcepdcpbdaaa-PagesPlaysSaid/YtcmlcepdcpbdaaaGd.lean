/-
  grown, on: a table behind calls.
-/
import Derived.Test.YtcmlcepdcpbdaaaEn
import Derived.Test.YtcmlcepdcpbdaaaOv
import Derived.BigCall
namespace Go.Proofs.Ytcmlcepdcpbdaaa.Gd
open Go Go.RowKit Kit Bk Tm Ts Tc Ti Tl Th Td Tq Tr Tn En Ov
set_option linter.unusedVariables false

/-- What a call makes of a table. -/
def act (T : Nat → Option En) (o : Opr) : Nat → Option En := if o.kind = 0 then setI T o.page o.x else if o.kind = 1 then putI T o.page none else if o.kind = 2 then cln T else T
def acts (T : Nat → Option En) (l : List Opr) : Nat → Option En := l.foldl act T
theorem acts_app (T : Nat → Option En) (l : List Opr) (o : Opr) : acts T (l ++ [o]) = act (acts T l) o := by simp [acts]
/-- Entries that may be. -/
def Good (T : Nat → Option En) : Prop := ∀ k e, T k = some e → may e = true
theorem may_und (e : En) : may (und e) = may e := rfl
theorem good_none : Good (fun _ => none) := fun k e h => by cases h
theorem good_up {T : Nat → Option En} (h : Good T) (k : Nat) (x : Option En) (hx : ∀ e, x = some e → may e = true) : Good (up T k x) := fun j e he => by
  unfold up at he
  split at he
  · exact hx e he
  · exact h j e he
theorem good_set {T : Nat → Option En} (h : Good T) (i : Int) (x : En) : Good (setI T i x) := by
  unfold setI
  split
  · rename_i hk
    refine good_up h _ _ fun e he => ?_
    cases he
    unfold okS at hk
    simp only [Bool.and_eq_true] at hk
    exact hk.2
  · exact h
theorem good_put {T : Nat → Option En} (h : Good T) (i : Int) : Good (putI T i none) := by
  unfold putI
  split
  · exact good_up h _ _ fun e he => by cases he
  · exact h
theorem good_cln {T : Nat → Option En} (h : Good T) : Good (cln T) := fun k e he => by
  unfold cln at he
  cases hx : T k with
  | none => rw [hx] at he; cases he
  | some y =>
    rw [hx] at he
    cases he
    rw [may_und]
    exact h k y hx
theorem good_act {T : Nat → Option En} (h : Good T) (o : Opr) : Good (act T o) := by
  unfold act
  split
  · exact good_set h _ _
  · split
    · exact good_put h _
    · split
      · exact good_cln h
      · exact h
theorem good_acts : ∀ (l : List Opr) {T : Nat → Option En}, Good T → Good (acts T l)
  | [], _, h => h
  | o :: r, _, h => good_acts r (good_act h o)

/-- What stands before each call: the table in p, all below n₀ as it was. -/
structure Gs (W0 w : World) (p : Nat) (T : Nat → Option En) : Prop where
  bel : Below W0.heap.size W0 w
  lo : W0.heap.size ≤ p
  mem : Mem w p T
theorem Gs.step {W0 w w' : World} {p : Nat} {T T' : Nat → Option En} (h : Gs W0 w p T) (hk : Kp (fun j => j = p) w w') (hM : Mem w' p T') : Gs W0 w' p T' :=
  ⟨h.bel.trans (hk.below h.bel.size (fun j e => by have := h.lo; omega)), h.lo, hM⟩
theorem Gs.below {W0 w w' : World} {p : Nat} {T : Nat → Option En} (h : Gs W0 w p T) (hb : Below w.heap.size w w') : Gs W0 w' p T := ⟨h.bel.trans (hb.mono h.bel.size), h.lo, Mem.below h.mem hb⟩
theorem OpAt.below {W0 w : World} {b o : Nat} {p : Opr} (h : OpAt W0 b o p) (hb : Below W0.heap.size W0 w) (hlt : b < W0.heap.size) : OpAt w b o p := by
  obtain ⟨c0, c1, c2, c3, c4, c5, c6⟩ := h
  exact ⟨(hb.cell (p := ⟨b, o, none⟩) hlt).trans c0, (hb.cell (p := ⟨b, o + 1, none⟩) hlt).trans c1, (hb.cell (p := ⟨b, o + 2, none⟩) hlt).trans c2, (hb.cell (p := ⟨b, o + 2 + 1, none⟩) hlt).trans c3, (hb.cell (p := ⟨b, o + 2 + 2, none⟩) hlt).trans c4, (hb.cell (p := ⟨b, o + 2 + 3, none⟩) hlt).trans c5, (hb.cell (p := ⟨b, o + 2 + 4, none⟩) hlt).trans c6⟩
set_option maxRecDepth 100000 in
set_option maxHeartbeats 2000000 in
theorem grown_any (v : Value) (ops : List Opr) (w : World) (h : OpsAt w v ops) (hf : ops.length ≤ 150) :
    Calls Try.prog 28 #[v] w fun e w' => e = .returned (.pointer (some ⟨w.heap.size, 0, none⟩)) ∧ Gs w w' w.heap.size (acts (fun _ => none) ops) := by
  obtain ⟨a, cap, rfl, h1, h2, h3⟩ := h
  have hl : (ops.length : Int) ≤ 150 := by omega
  have hz := run_zeroT
  obtain ⟨hb, hm⟩ := new_zero w
  generalize zT = Z at *
  have HS0 : Hid (Gs w (w.alloc (.cells Z 31)) w.heap.size (fun _ => none)) := Lib.hid ⟨hb, Nat.le_refl _, hm⟩
  have H3 := Lib.hid h3
  clear h3 hb hm
  go_enter Try.func28, Try.ntmps28
  go_wp2
  go_loopw [9] (fun i wr => ∃ j : Nat, j ≤ ops.length ∧ i = .int .i64 (j : Int) ∧ Gs w wr w.heap.size (acts (fun _ => none) (ops.take j))) (fun i _ => ops.length - (intOf i).toNat)
  case atStart => exact ⟨0, Nat.zero_le _, rfl, HS0.out⟩
  case round =>
    obtain ⟨j, hj, rfl, hs⟩ := hrel
    by_cases hlt : j < ops.length
    · rcases H3.out with h0 | ⟨ba, off, rfl, hb, h4⟩
      · subst h0; simp at hlt
      · have ht : ops.take (j + 1) = ops.take j ++ [ops[j]] := by rw [List.take_add_one, List.getElem?_eq_getElem hlt]; rfl
        have hact : acts (fun _ => none) (ops.take (j + 1)) = act (acts (fun _ => none) (ops.take j)) ops[j] := by rw [ht, acts_app]
        have hop := OpAt.below (h4 j hlt) hs.bel hb
        obtain ⟨T', hT'⟩ : ∃ T', acts (fun _ => none) (ops.take (j + 1)) = T' := ⟨_, rfl⟩
        rw [hT'] at hact
        have HT := Lib.hid hT'
        clear hT' ht
        generalize acts (fun _ => none) (ops.take j) = T at *
        generalize ops[j] = o at *
        obtain ⟨kind, page, f, wr', s, c, d⟩ := o
        obtain ⟨c0, c1, c2, c3, c4, c5, c6⟩ := hop
        dsimp only at c0 c1 c2 c3 c4 c5 c6
        have hlti : (j : Int) < (ops.length : Int) := by omega
        clear h4
        by_cases k0 : kind = 0
        · subst k0
          have HC : Hid (∀ w', Below wr.heap.size wr w' → Calls Try.prog 10 #[.pointer (some ⟨w.heap.size, 0, none⟩), .int .i64 page, .agg #[.int .i64 f, .bool wr', .bool s, .bool c, .bool d]] w' fun e w2 => (∃ k, e = .returned (.int .i64 k)) ∧ Gs w w2 w.heap.size T') := Lib.hid (fun w' hb' => (set_any w' w.heap.size T (hs.below hb').mem page ⟨f, wr', s, c, d⟩).mono fun e w2 ⟨e1, e2, e3⟩ => ⟨⟨_, e1⟩, (hs.below hb').step e2 (by rw [hact]; exact e3)⟩)
          have HB : Hid (Below wr.heap.size wr wr.drew) := Lib.hid ((Below.refl _ _).drew)
          clear hs hact
          go_wp2
          go_region_with (go_at_call 10; (with_reducible refine (HC.out _ HB.out).mono ?_); rintro e w5 ⟨⟨k, rfl⟩, hs5⟩; have HS5 := Lib.hid hs5; clear hs5)
          all_goals go_wp2
          all_goals go_roundw
          all_goals first | (exact ⟨j + 1, by omega, by go_num, by rw [HT.out]; exact HS5.out⟩) | (simp [intOf]; omega)
        · have q0 : (kind == 0) = false := by simp [k0]
          by_cases k1 : kind = 1
          · subst k1
            have HC : Hid (∀ w', Below wr.heap.size wr w' → Calls Try.prog 12 #[.pointer (some ⟨w.heap.size, 0, none⟩), .int .i64 page] w' fun e w2 => (∃ k, e = .returned k) ∧ Gs w w2 w.heap.size T') := Lib.hid (fun w' hb' => (clear_any w' w.heap.size T (hs.below hb').mem page).mono fun e w2 ⟨e1, e2, e3⟩ => ⟨⟨_, e1⟩, (hs.below hb').step e2 (by rw [hact]; exact e3)⟩)
            have HB : Hid (Below wr.heap.size wr wr) := Lib.hid (Below.refl _ _)
            clear hs hact k0
            go_wp2_with (go_at_call 12; (with_reducible refine (HC.out _ HB.out).mono ?_); rintro e w5 ⟨⟨k, rfl⟩, hs5⟩; have HS5 := Lib.hid hs5; clear hs5)
            all_goals go_roundw
            all_goals first | (exact ⟨j + 1, by omega, by go_num, by rw [HT.out]; exact HS5.out⟩) | (simp [intOf]; omega)
          · have q1 : (kind == 1) = false := by simp [k1]
            by_cases k2 : kind = 2
            · subst k2
              have HC : Hid (∀ w', Below wr.heap.size wr w' → Calls Try.prog 14 #[.pointer (some ⟨w.heap.size, 0, none⟩)] w' fun e w2 => (∃ k, e = .returned k) ∧ Gs w w2 w.heap.size T') := Lib.hid (fun w' hb' => (clean_any w' w.heap.size T (hs.below hb').mem).mono fun e w2 ⟨e1, e2, e3⟩ => ⟨⟨_, e1⟩, (hs.below hb').step e2 (by rw [hact]; exact e3)⟩)
              have HB : Hid (Below wr.heap.size wr wr) := Lib.hid (Below.refl _ _)
              clear hs hact k0 k1
              go_wp2_with (go_at_call 14; (with_reducible refine (HC.out _ HB.out).mono ?_); rintro e w5 ⟨⟨k, rfl⟩, hs5⟩; have HS5 := Lib.hid hs5; clear hs5)
              all_goals go_roundw
              all_goals first | (exact ⟨j + 1, by omega, by go_num, by rw [HT.out]; exact HS5.out⟩) | (simp [intOf]; omega)
            · have q2 : (kind == 2) = false := by simp [k2]
              have HS5 : Hid (Gs w wr w.heap.size T') := Lib.hid (by rw [hact]; unfold act; rw [if_neg k0, if_neg k1, if_neg k2]; exact hs)
              clear hs hact k0 k1 k2
              go_wp2
              all_goals go_roundw
              all_goals first | (exact ⟨j + 1, by omega, by go_num, by rw [HT.out]; exact HS5.out⟩) | (simp [intOf]; omega)
    · obtain rfl : j = ops.length := by omega
      rw [List.take_length] at hs
      have HS2 := Lib.hid hs
      clear hs
      go_wp2
      go_ret
      exact ⟨rfl, HS2.out⟩
end Go.Proofs.Ytcmlcepdcpbdaaa.Gd
