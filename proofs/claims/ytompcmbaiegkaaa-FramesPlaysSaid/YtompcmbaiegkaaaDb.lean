/-
  do: a call of both memories, of each kind.
-/
import Derived.Test.YtompcmbaiegkaaaDa
namespace Go.Proofs.Ytompcmbaiegkaaa.Db
open Go Go.RowKit Kit Fm Fo Fr Fw Fx Fy Fu Fv Gm Go2 Gr Gw Gn Da
set_option linter.unusedVariables false
attribute [local go_sem ↓] app_wrap

/-- The two memories as they lie: all of them was made since W0. -/
structure St (W0 w : World) (c p b q rr rb n : Nat) (R : Nat → Nat) (B B' : Nat → Nat → Nat) : Prop where
  mem : Mem w p b n R B
  ref : RMem w q rr rb n R B'
  agr : Agr n c R B B'
  lo : W0.heap.size ≤ p ∧ W0.heap.size ≤ b ∧ W0.heap.size ≤ q ∧ W0.heap.size ≤ rr ∧ W0.heap.size ≤ rb
  bel : Below W0.heap.size W0 w
theorem St.below {W0 w w' : World} {c p b q rr rb n : Nat} {R : Nat → Nat} {B B' : Nat → Nat → Nat} (h : St W0 w c p b q rr rb n R B B') (hb : Below w.heap.size w w') : St W0 w' c p b q rr rb n R B B' :=
  ⟨h.mem.below hb, h.ref.below hb, h.agr, h.lo, h.bel.trans (hb.mono h.bel.size)⟩
/-- A step of one memory, then of the other. -/
theorem St.step {W0 w w1 w2 : World} {c c' p b q rr rb n : Nat} {R R1 : Nat → Nat} {B B' B1 B1' : Nat → Nat → Nat} (h : St W0 w c p b q rr rb n R B B') (h1 : Mem w1 p b n R1 B1) (k1 : Kp (fun j => j = b) w w1) (h2 : RMem w2 q rr rb n R1 B1') (k2 : Kp (fun j => j = rr ∨ j = rb) w1 w2) (ha : Agr n c' R1 B1 B1') :
    St W0 w2 c' p b q rr rb n R1 B1 B1' := by
  have hr1 := h.ref.beside h.mem k1
  have hl := h.lo
  have hs := h.bel.size
  refine ⟨Mem.beside h1 hr1 k2, h2, ha, hl, ?_⟩
  exact (h.bel.trans (k1.below hs (fun j e => by omega))).trans (k2.below (Nat.le_trans hs k1.size) (fun j e => by rcases e with e | e <;> omega))
theorem kp3 {w w1 w2 : World} {b rr rb : Nat} (k1 : Kp (fun j => j = b) w w1) (k2 : Kp (fun j => j = rr ∨ j = rb) w1 w2) : Kp (fun j => j = b ∨ j = rr ∨ j = rb) w w2 :=
  (k1.mono (S' := fun j => j = b ∨ j = rr ∨ j = rb) (fun _ _ e => .inl e)).trans k2 (fun _ e => .inl (.inr e))

/-- What do leaves. -/
abbrev Did (W0 w : World) (c p b q rr rb n : Nat) (e : Ending) (w' : World) : Prop :=
  e = .returned (.bool true) ∧ ∃ R1 B1 B1', St W0 w' (c + 1) p b q rr rb n R1 B1 B1' ∧ Kp (fun j => j = b ∨ j = rr ∨ j = rb) w w'
theorem did {W0 w wb w1 w2 : World} {c p b q rr rb n : Nat} {R R1 : Nat → Nat} {B B' B1 B1' : Nat → Nat → Nat} (h : St W0 wb c p b q rr rb n R B B') (hb : Below w.heap.size w wb) (h1 : Mem w1 p b n R1 B1) (k1 : Kp (fun j => j = b) wb w1) (h2 : RMem w2 q rr rb n R1 B1') (k2 : Kp (fun j => j = rr ∨ j = rb) w1 w2) (ha : Agr n (c + 1) R1 B1 B1') :
    ∃ R1 B1 B1', St W0 w2 (c + 1) p b q rr rb n R1 B1 B1' ∧ Kp (fun j => j = b ∨ j = rr ∨ j = rb) w w2 :=
  ⟨R1, B1, B1', h.step h1 k1 h2 k2 ha, (Kp.of_below (S := fun j => j = b ∨ j = rr ∨ j = rb) hb).trans (kp3 k1 k2) (fun _ e => .inl e)⟩

set_option maxRecDepth 100000 in
set_option maxHeartbeats 2000000 in
theorem do_take (W0 w : World) (c p b q rr rb n : Nat) (R : Nat → Nat) (B B' : Nat → Nat → Nat) (h : St W0 w c p b q rr rb n R B B') (hc : c ≤ 900) (K O N : Int) (v : Value) :
    Calls Try.prog 16 #[.pointer (some ⟨p, 0, none⟩), .pointer (some ⟨q, 0, none⟩), .agg #[.int .i64 0, .int .i64 K, .int .i64 O, .int .i64 N, v]] w (Did W0 w c p b q rr rb n) := by
  have hb : Below w.heap.size w (w.alloc (.cells #[.int .i64 0, .int .i64 K, .int .i64 O, .int .i64 N, v] 33)) := (Below.refl _ _).alloc (Nat.le_refl _) _
  have HS := Lib.hid (h.below hb)
  have HB := Lib.hid hb
  obtain ⟨a, g, R1, B1, B1', hF, hR, hA⟩ := take_both p b q rr rb n c R B B' h.agr (by omega)
  have HF := Lib.hid hF
  have HR := Lib.hid hR
  clear h hb hF hR
  go_enter Try.func16, Try.ntmps16
  go_wp2_with (first | (go_at_call 14; (with_reducible refine (HF.out _ HS.out.mem).mono ?_); rintro e w1 ⟨rfl, h1, k1⟩) | (go_at_call 33; (with_reducible refine (HR.out _ (HS.out.ref.beside HS.out.mem k1)).mono ?_); rintro e w2 ⟨rfl, h2, k2⟩))
  go_ret
  exact ⟨rfl, did HS.out HB.out h1 k1 h2 k2 hA⟩
set_option maxRecDepth 100000 in
set_option maxHeartbeats 2000000 in
theorem do_share (W0 w : World) (c p b q rr rb n : Nat) (R : Nat → Nat) (B B' : Nat → Nat → Nat) (h : St W0 w c p b q rr rb n R B B') (hc : c ≤ 900) (K O N : Int) (v : Value) :
    Calls Try.prog 16 #[.pointer (some ⟨p, 0, none⟩), .pointer (some ⟨q, 0, none⟩), .agg #[.int .i64 1, .int .i64 K, .int .i64 O, .int .i64 N, v]] w (Did W0 w c p b q rr rb n) := by
  have hb : Below w.heap.size w (w.alloc (.cells #[.int .i64 1, .int .i64 K, .int .i64 O, .int .i64 N, v] 33)) := (Below.refl _ _).alloc (Nat.le_refl _) _
  have HS := Lib.hid (h.below hb)
  have HB := Lib.hid hb
  obtain ⟨g, R1, B1, B1', hF, hR, hA⟩ := share_both p b q rr rb n c R B B' h.agr (by omega) K
  have HF := Lib.hid hF
  have HR := Lib.hid hR
  have HX := Lib.hid (Blk.new w #[.int .i64 1, .int .i64 K, .int .i64 O, .int .i64 N, v] 33)
  have hbne : ¬ (w.heap.size = b) := fun e => by have := h.mem.lt; omega
  clear h hb hF hR
  go_enter Try.func16, Try.ntmps16
  go_wp2_with (first | (go_at_call 25; (with_reducible refine (HF.out _ HS.out.mem).mono ?_); rintro e w1 ⟨rfl, h1, k1⟩; refine Hid.out ?_))
  refine Lib.hid ?_
  have x1 := (HX.out.kept k1 hbne).cell 1
  go_wp2_with (first | (go_at_call 34; (with_reducible refine (HR.out _ (HS.out.ref.beside HS.out.mem k1)).mono ?_); rintro e w2 ⟨rfl, h2, k2⟩))
  go_ret
  exact ⟨rfl, did HS.out HB.out h1 k1 h2 k2 hA⟩
set_option maxRecDepth 100000 in
set_option maxHeartbeats 2000000 in
theorem do_drop (W0 w : World) (c p b q rr rb n : Nat) (R : Nat → Nat) (B B' : Nat → Nat → Nat) (h : St W0 w c p b q rr rb n R B B') (hc : c ≤ 900) (K O N : Int) (v : Value) :
    Calls Try.prog 16 #[.pointer (some ⟨p, 0, none⟩), .pointer (some ⟨q, 0, none⟩), .agg #[.int .i64 2, .int .i64 K, .int .i64 O, .int .i64 N, v]] w (Did W0 w c p b q rr rb n) := by
  have hb : Below w.heap.size w (w.alloc (.cells #[.int .i64 2, .int .i64 K, .int .i64 O, .int .i64 N, v] 33)) := (Below.refl _ _).alloc (Nat.le_refl _) _
  have HS := Lib.hid (h.below hb)
  have HB := Lib.hid hb
  obtain ⟨a, g, R1, B1, B1', hF, hR, hA⟩ := drop_both p b q rr rb n c R B B' h.agr (by omega) K
  have HF := Lib.hid hF
  have HR := Lib.hid hR
  have HX := Lib.hid (Blk.new w #[.int .i64 2, .int .i64 K, .int .i64 O, .int .i64 N, v] 33)
  have hbne : ¬ (w.heap.size = b) := fun e => by have := h.mem.lt; omega
  clear h hb hF hR
  go_enter Try.func16, Try.ntmps16
  go_wp2_with (first | (go_at_call 15; (with_reducible refine (HF.out _ HS.out.mem).mono ?_); rintro e w1 ⟨rfl, h1, k1⟩; refine Hid.out ?_))
  refine Lib.hid ?_
  have x1 := (HX.out.kept k1 hbne).cell 1
  go_wp2_with (first | (go_at_call 35; (with_reducible refine (HR.out _ (HS.out.ref.beside HS.out.mem k1)).mono ?_); rintro e w2 ⟨rfl, h2, k2⟩))
  go_ret
  exact ⟨rfl, did HS.out HB.out h1 k1 h2 k2 hA⟩
set_option maxRecDepth 100000 in
set_option maxHeartbeats 2000000 in
theorem do_double (W0 w : World) (c p b q rr rb n : Nat) (R : Nat → Nat) (B B' : Nat → Nat → Nat) (h : St W0 w c p b q rr rb n R B B') (hc : c ≤ 900) (K O N : Int) (v : Value) :
    Calls Try.prog 16 #[.pointer (some ⟨p, 0, none⟩), .pointer (some ⟨q, 0, none⟩), .agg #[.int .i64 5, .int .i64 K, .int .i64 O, .int .i64 N, v]] w (Did W0 w c p b q rr rb n) := by
  have hb : Below w.heap.size w (w.alloc (.cells #[.int .i64 5, .int .i64 K, .int .i64 O, .int .i64 N, v] 33)) := (Below.refl _ _).alloc (Nat.le_refl _) _
  have HS := Lib.hid (h.below hb)
  have HB := Lib.hid hb
  obtain ⟨a, g, R1, B1, B1', hF, hR, hA⟩ := double_both p b q rr rb n c R B B' h.agr (by omega) K
  have HF := Lib.hid hF
  have HR := Lib.hid hR
  have HX := Lib.hid (Blk.new w #[.int .i64 5, .int .i64 K, .int .i64 O, .int .i64 N, v] 33)
  have hbne : ¬ (w.heap.size = b) := fun e => by have := h.mem.lt; omega
  clear h hb hF hR
  go_enter Try.func16, Try.ntmps16
  go_wp2_with (first | (go_at_call 27; (with_reducible refine (HF.out _ HS.out.mem).mono ?_); rintro e w1 ⟨rfl, h1, k1⟩; refine Hid.out ?_))
  refine Lib.hid ?_
  have x1 := (HX.out.kept k1 hbne).cell 1
  go_wp2_with (first | (go_at_call 38; (with_reducible refine (HR.out _ (HS.out.ref.beside HS.out.mem k1)).mono ?_); rintro e w2 ⟨rfl, h2, k2⟩))
  go_ret
  exact ⟨rfl, did HS.out HB.out h1 k1 h2 k2 hA⟩
set_option maxRecDepth 100000 in
set_option maxHeartbeats 2000000 in
theorem do_none (W0 w : World) (c p b q rr rb n : Nat) (R : Nat → Nat) (B B' : Nat → Nat → Nat) (h : St W0 w c p b q rr rb n R B B') (x K O N : Int) (v : Value) (h0 : x ≠ 0) (h1 : x ≠ 1) (h2 : x ≠ 2) (h3 : x ≠ 3) (h4 : x ≠ 4) (h5 : x ≠ 5) :
    Calls Try.prog 16 #[.pointer (some ⟨p, 0, none⟩), .pointer (some ⟨q, 0, none⟩), .agg #[.int .i64 x, .int .i64 K, .int .i64 O, .int .i64 N, v]] w (Did W0 w c p b q rr rb n) := by
  have hb : Below w.heap.size w (w.alloc (.cells #[.int .i64 x, .int .i64 K, .int .i64 O, .int .i64 N, v] 33)) := (Below.refl _ _).alloc (Nat.le_refl _) _
  have HS := Lib.hid (h.below hb)
  have HB := Lib.hid hb
  have d0 : (x == 0) = false := by simpa using h0
  have d1 : (x == 1) = false := by simpa using h1
  have d2 : (x == 2) = false := by simpa using h2
  have d3 : (x == 3) = false := by simpa using h3
  have d4 : (x == 4) = false := by simpa using h4
  have d5 : (x == 5) = false := by simpa using h5
  clear h hb h0 h1 h2 h3 h4 h5
  go_enter Try.func16, Try.ntmps16
  go_wp2
  go_ret
  have hs := HS.out
  exact ⟨rfl, R, B, B', ⟨hs.mem, hs.ref, hs.agr.mono (by omega), hs.lo, hs.bel⟩, Kp.of_below (S := fun j => j = b ∨ j = rr ∨ j = rb) HB.out⟩
end Go.Proofs.Ytompcmbaiegkaaa.Db
