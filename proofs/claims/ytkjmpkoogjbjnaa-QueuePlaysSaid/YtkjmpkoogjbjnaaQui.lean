/-
  Cut.
-/
import Derived.Test.YtkjmpkoogjbjnaaQuh
import Derived.Test.YtkjmpkoogjbjnaaShelfQ
namespace Go.Proofs.Ytkjmpkoogjbjnaa.Qui
open Go Go.RowKit Go.Shelf Kit Bk Qua Qub Quc Qud Que Quf Qug Quh
set_option linter.unusedVariables false
attribute [local go_sem ↓] app_wrap

/-- What a row holds, in the words of the library. -/
theorem Rw.holds {w : World} {g o : Nat} {cs : Array Value} {l : List Int} (hb : Blk w g cs 3) (h : ∀ i, i < l.length → cs[o + i]? = some (.int .i64 (l.getD i 0))) : Sort.Holds (Value.int .i64) w g o l.toArray := by
  intro j hj
  have hj' : j < l.length := by simpa using hj
  refine ⟨?_, hb.free _⟩
  rw [hb.cell, h j hj']
  congr 2
  simp [List.getD, hj']
theorem put_kp (w : World) (n g o : Nat) (d : Array Int) : Kp (fun j => j = g) w (Sort.putRow (Value.int .i64) (Sort.ahead w n) g o d) :=
  ⟨rfl, rfl, rfl, by simp [Sort.putRow, Sort.mapBlock, Sort.ahead], fun k hk hn => by
    simp only [Sort.putRow, Sort.mapBlock, Sort.ahead]
    rw [Array.getElem?_modify, if_neg (fun e => hn e.symm)]⟩
theorem put_blk (w : World) (n g o : Nat) (d : Array Int) {cs : Array Value} {T : TypeId} (h : Blk w g cs T) : Blk (Sort.putRow (Value.int .i64) (Sort.ahead w n) g o d) g (Sort.putCells (Value.int .i64) o d cs) T := by
  unfold Blk at h ⊢
  simp only [Sort.putRow, Sort.mapBlock, Sort.ahead]
  rw [Array.getElem?_modify, if_pos rfl, h]
  rfl
theorem put_at' (o : Nat) (d : Array Int) (cs : Array Value) (i : Nat) (hi : i < d.size) (hc : o + i < cs.size) : (Sort.putCells (Value.int .i64) o d cs)[o + i]? = some (.int .i64 (d[i]!)) := by
  simp [Sort.putCells, hc, hi]

theorem erase_is : ∀ {l : List Int} {p : Int} {i : Nat} (hi : i < l.length) (he : l.getD i 0 = p) (hn : ∀ j, j < i → l.getD j 0 ≠ p), l.erase p = l.take i ++ l.drop (i + 1)
  | [], _, _, hi, _, _ => absurd hi (by simp)
  | a :: r, p, 0, hi, he, hn => by
    have : a = p := by simpa using he
    subst this
    simp
  | a :: r, p, i + 1, hi, he, hn => by
    have h0 : a ≠ p := by have := hn 0 (by omega); simpa using this
    have ih := erase_is (l := r) (p := p) (i := i) (by simpa using hi) (by simpa using he) (fun j hj => by have := hn (j + 1) (by omega); simpa using this)
    rw [List.erase_cons_tail (by simpa using h0), ih]
    rfl
theorem erase_getD {l : List Int} {p : Int} {i j : Nat} (hi : i < l.length) (hj : j < l.length - 1) : (l.take i ++ l.drop (i + 1)).getD j 0 = ((l.take i ++ l.drop (i + 1) ++ List.replicate 1 0).toArray)[j]! := by
  have hlen : (l.take i ++ l.drop (i + 1)).length = l.length - 1 := by simp; omega
  rw [getElem!_pos _ j (by simp; omega)]
  rw [List.getElem_toArray, List.getElem_append_left (by omega)]
  simp [List.getD, List.getElem?_eq_getElem (show j < (l.take i ++ l.drop (i + 1)).length by omega)]

theorem delete_any (w : World) (v : Value) (G : Option Nat) (l : List Int) (p : Int) (i : Nat) (h : Rw w v G l) (hi : i < l.length) (he : l.getD i 0 = p) (hn : ∀ j, j < i → l.getD j 0 ≠ p) :
    Calls Try.prog 35 #[v, .int .i64 (i : Int), .int .i64 ((i : Int) + 1)] w fun e w' => ∃ a n c, e = .returned (.slice a n c) ∧ Rw w' (.slice a n c) G (l.erase p) ∧ Kp (fun j => some j = G) w w' := by
  obtain ⟨g, o, cap, cs, rfl, rfl, hb, h1, h2, h3, h4⟩ := h.some (by intro e; rw [e] at hi; simp at hi)
  have hd := Shl.slices_Delete_int g o cap i (i + 1) l w (Rw.holds hb h4) h1 (by unfold maxLen at h2; exact h2) (by omega) hi
  rw [show ((i + 1 : Nat) : Int) = (i : Int) + 1 by omega] at hd
  refine hd.mono ?_
  rintro e w' ⟨rfl, q, rfl⟩
  have hlen : (l.take i ++ l.drop (i + 1)).length = l.length - 1 := by simp; omega
  refine ⟨_, _, _, rfl, .inr ⟨g, o, cap, _, ?_, rfl, put_blk w q g o _ hb, ?_, h2, ?_, fun j hj => ?_⟩, (put_kp w q g o _).mono (fun j _ e => by rw [e])⟩
  · rw [erase_is hi he hn, hlen]
    congr 1
    omega
  · rw [erase_is hi he hn, hlen]; omega
  · simp [Sort.putCells]; omega
  · rw [erase_is hi he hn, hlen] at hj
    rw [erase_is hi he hn, erase_getD (p := p) hi hj]
    rw [show i + 1 - i = 1 by omega]
    exact put_at' o _ cs j (by simp; omega) (by omega)

theorem cut_nil (w : World) (p : Int) : Calls Try.prog 13 #[.pointer none, .int .i64 p] w fun e w' => e = .returned (.bool false) ∧ w = w' := by
  go_enter Try.func13, Try.ntmps13
  go_wp2_with (go_at_call 17; (with_reducible refine (where_nil _ _).mono ?_); rintro e w1 ⟨rfl, rfl⟩)
  go_ret
  exact ⟨rfl, rfl⟩
variable {w : World} {q c : Nat} {S : Nat → Prop} {l : Ls}
theorem cut_no (h : Qs w q S c l) (p : Int) (hk : whN c l p = none) : Calls Try.prog 13 #[pv q, .int .i64 p] w fun e w' => e = .returned (.bool false) ∧ w = w' := by
  have HW := where_any w q c S l p h
  rw [wh_eq_none hk] at HW
  replace HW := Lib.hid HW
  clear h hk
  go_enter Try.func13, Try.ntmps13
  go_wp2_with (go_at_call 17; (with_reducible refine HW.out.mono ?_); rintro e w1 ⟨rfl, rfl⟩)
  go_ret
  exact ⟨rfl, rfl⟩
set_option maxHeartbeats 1000000 in
theorem cut_yes (h : Qs w q S c l) (p : Int) (k : Nat) (hk : whN c l p = some k) : Calls Try.prog 13 #[pv q, .int .i64 p] w fun e w' => e = .returned (.bool true) ∧ ∃ S', Kp S w w' ∧ Qs w' q S' c (up l k ((l k).erase p)) ∧ ∀ j, S' j → S j ∨ w.heap.size ≤ j := by
  have HW := where_any w q c S l p h
  rw [wh_eq_some hk] at HW
  replace HW := Lib.hid HW
  obtain ⟨hkc, hmem⟩ := whN_in hk
  have hk8 : k < 8 := by have := h.c8; omega
  have hkI : (k : Int) < 8 := by omega
  have d0 : decide ((k : Int) < 0) = false := decide_eq_false (by omega)
  obtain ⟨vs, G, h⟩ := h
  obtain ⟨a, n, e, hn1, hn2⟩ := (h.row k hk8).form
  have HI := index_any w (vs k) (G k) (l k) p (h.row k hk8)
  rw [e] at HI
  replace HI : Hid (Calls Try.prog 34 #[.slice a (l k).length n, .int .i64 p] w fun e w' => (∃ i : Nat, e = .returned (.int .i64 (i : Int)) ∧ i < (l k).length ∧ (l k).getD i 0 = p ∧ ∀ j, j < i → (l k).getD j 0 ≠ p) ∧ w = w') := Lib.hid (HI.mono (by
    rintro e w' ⟨⟨z, rfl, hz⟩, rfl⟩
    rcases hz with ⟨_, hno⟩ | ⟨i, h1, rfl, h2, h3⟩
    · exact absurd hmem hno
    · exact ⟨⟨i, rfl, h1, h2, h3⟩, rfl⟩))
  have HD : Hid (∀ i : Nat, i < (l k).length → (l k).getD i 0 = p → (∀ j, j < i → (l k).getD j 0 ≠ p) → Calls Try.prog 35 #[.slice a (l k).length n, .int .i64 (i : Int), .int .i64 ((i : Int) + 1)] w.drew fun e w4 => ∃ xa xn xc, e = .returned (.slice xa xn xc) ∧ w4.cell? ⟨q, 1 + k, none⟩ = some (.slice a (l k).length n) ∧ w4.frozen? ⟨q, 1 + k, none⟩ = false ∧ Hid (∃ S', Kp S w (w4.setCell ⟨q, 1 + k, none⟩ (.slice xa xn xc)) ∧ Qs (w4.setCell ⟨q, 1 + k, none⟩ (.slice xa xn xc)) q S' c (up l k ((l k).erase p)) ∧ ∀ j, S' j → S j ∨ w.heap.size ≤ j)) := Lib.hid (by
    intro i hi he hno
    have hd : Below w.heap.size w w.drew := (Below.refl _ _).drew
    have := delete_any w.drew (vs k) (G k) (l k) p i ((h.below hd).row k hk8) hi he hno
    rw [e] at this
    refine this.mono ?_
    rintro e' w4 ⟨xa, xn, xc, rfl, hr, hkp⟩
    obtain ⟨g1, g2, S', g3, g4, g5⟩ := set_row (h.below hd) hk8 (.slice xa xn xc) (G k) _ hkp hr (.inl rfl)
    rw [e] at g1
    exact ⟨xa, xn, xc, rfl, g1, g2, Lib.hid ⟨S', (kp_below hd).trans g3 (fun _ e => .inl e), g4, g5⟩⟩)
  have ck := h.ck k hk8
  rw [e] at ck
  have hm60 : ∀ i : Nat, i < (l k).length → ((i : Int) + 1 ≤ 9223372036854775807) := fun i hi => by unfold maxLen at hn2; omega
  have HM := Lib.hid hm60
  generalize (l k).length = L at *
  clear h hk hmem e hn1 hn2 hm60
  go_enter Try.func13, Try.ntmps13
  go_wp2_with (first | (go_at_call 17; (with_reducible refine HW.out.mono ?_); rintro e w1 ⟨rfl, rfl⟩) | (go_at_call 34; (with_reducible refine HI.out.mono ?_); rintro e w1 ⟨⟨i, rfl, hi1, hi2, hi3⟩, rfl⟩; have hD := Lib.hid (HD.out i hi1 hi2 hi3); have hM := HM.out i hi1; clear hi1 hi2 hi3))
  have hMw : IntKind.wrap .i64 ((i : Int) + 1) = (i : Int) + 1 := by
    simp [IntKind.wrap, IntKind.bits, IntKind.signed]
    omega
  go_region_with (go_at_call 35; (with_reducible refine hD.out.mono ?_); rintro e w4 ⟨xa, xn, xc, rfl, d4, f4, HE⟩)
  go_wp2
  go_ret
  exact ⟨rfl, HE.out⟩
theorem cut_any (h : Qs w q S c l) (p : Int) : Calls Try.prog 13 #[pv q, .int .i64 p] w fun e w' => e = .returned (.bool (ctB c l p)) ∧ ∃ S', Kp S w w' ∧ Qs w' q S' c (ctL c l p) ∧ ∀ j, S' j → S j ∨ w.heap.size ≤ j := by
  unfold ctB ctL
  cases hk : whN c l p with
  | none =>
    refine (cut_no h p hk).mono ?_
    rintro e w' ⟨rfl, rfl⟩
    exact ⟨rfl, S, Kp.refl _ _, h, fun j hj => .inl hj⟩
  | some k => exact cut_yes h p k hk
end Go.Proofs.Ytkjmpkoogjbjnaa.Qui
