/-
  Fork, Thaw, New, Freeze.
-/
import Derived.Test.YtkjcjodhpcfjiaaTek
namespace Go.Proofs.Ytkjcjodhpcfjiaa.Tel
open Go Go.RowKit Go.Shelf Kit Bk Tea Teb Tec Ted Tee Tef Teg Teh Tei Tej Tek
set_option linter.unusedVariables false

variable {B : Nat} {w W : World} {q b : Nat} {v : Value} {rm : Nat} {L M : St} {S : List Bool} {p : Int}
/-- Fork: what it answers and leaves. -/
def fkR (rm : Nat) (L : St) (S : List Bool) (p : Int) : Int × Int := if (gt L p).st = 1 then (if L.length = rm ∨ 65535 < S.length then (0, 150) else ((S.length : Int), 0)) else (0, 2)
def fkL (rm : Nat) (L : St) (S : List Bool) (p : Int) : St := if (fkR rm L S p).2 = 0 then ins L (S.length : Int) ⟨p, 1, 0⟩ else L
def fkS (rm : Nat) (L : St) (S : List Bool) (p : Int) : List Bool := if (fkR rm L S p).2 = 0 then grw S S.length else S
theorem Okt.fork (h : Okt rm L S) (p : Int) : Okt rm (fkL rm L S p) (fkS rm L S p) := by
  unfold fkL fkS
  by_cases e : (fkR rm L S p).2 = 0
  · rw [if_pos e, if_pos e]
    unfold fkR at e
    by_cases h1 : (gt L p).st = 1
    · rw [if_pos h1] at e
      by_cases h2 : L.length = rm ∨ 65535 < S.length
      · rw [if_pos h2] at e; cases e
      · have := h.new (p := (S.length : Int)) (r := ⟨p, 1, 0⟩) h.next (by have := h.was; omega) (h.ok.there (p := p) (by omega)) (by dsimp only; omega) (by dsimp only; omega) (by have := h.len; omega)
        rwa [Int.toNat_natCast] at this
    · rw [if_neg h1] at e; cases e
  · rw [if_neg e, if_neg e]; exact h
set_option maxRecDepth 100000 in
set_option maxHeartbeats 4000000 in
theorem fork_any (h : Tb B w q b v rm L S) (ho : Okt rm L S) (hB : B ≤ w.heap.size) (hp : (Lit.int .i64 p).wf = true) :
    Calls Try.prog 10 #[pv q, .int .i64 p] w fun e w' => e = .returned (.tuple #[.int .i64 (fkR rm L S p).1, .int .i64 (fkR rm L S p).2]) ∧ ∃ v', Tb B w' q b v' rm (fkL rm L S p) (fkS rm L S p) ∧ Kp (fr q b v) w w' ∧ Mv v v' w.heap.size := by
  have hroom := ho.room
  have hlen := ho.len
  have hwas := ho.was
  have HN := Lib.hid (next_any h hroom.1)
  have HD := Lib.hid (made_any h hroom.1)
  have HS := Lib.hid (state_any h hp)
  have HF := Lib.hid (free_any h hroom hlen ho.ok.up)
  have HE : Hid (∃ v', Tb B w q b v' rm L S ∧ Kp (fr q b v) w w ∧ Mv v v' w.heap.size) := Lib.hid ⟨v, h, Kp.refl _ _, fun g e => .inl e⟩
  unfold fkL fkS fkR
  by_cases h1 : (gt L p).st = 1
  · rw [if_pos h1] at *
    have HT := Lib.hid (fun W (hb : Below w.heap.size w W) => put_any (h.below hb) ho.ok.up (by omega) hwas.2 (Nat.le_trans hB hb.size) S.length)
    have HF2 := Lib.hid (fun W (hb : Below w.heap.size w W) => h.below hb)
    rw [h1] at HS
    by_cases h2 : L.length = rm ∨ 65535 < S.length
    · rw [if_pos h2]
      rw [if_neg (by decide : ¬ ((0 : Int), (150 : Int)).2 = 0), if_neg (by decide : ¬ ((0 : Int), (150 : Int)).2 = 0)]
      by_cases h3 : L.length = rm
      · have d1 : rm - L.length = 0 := by omega
        rw [d1] at HF
        clear h ho hB h1 h2 h3 HT d1 hlen
        generalize nxt S = n at *
        go_enter Try.func10, Try.ntmps10
        go_wp2_with (first
          | (go_at_call 17; (with_reducible refine HN.out.mono ?_); rintro e w1 ⟨rfl, rfl⟩)
          | (go_at_call 26; (with_reducible refine HD.out.mono ?_); rintro e w1 ⟨rfl, rfl⟩)
          | (go_at_call 25; (with_reducible refine HS.out.mono ?_); rintro e w1 ⟨rfl, rfl⟩)
          | (go_at_call 20; (with_reducible refine HF.out.mono ?_); rintro e w1 ⟨rfl, hb⟩; have HB := Lib.hid hb; clear hb))
        go_ret2
        exact ⟨rfl, v, HF2.out _ HB.out, Kp.of_below HB.out, fun g e => .inl e⟩
      · have h4 : 65535 < S.length := h2.resolve_left h3
        have hn : nxt S = 0 := if_pos h4
        rw [hn] at HN
        have d1 : (((rm - L.length : Nat) : Int) == 0) = false := beq_eq_false_iff_ne.2 (by omega)
        have d2 : (rm - L.length == 0) = false := beq_eq_false_iff_ne.2 (by omega)
        clear h ho hB h1 h2 h3 HT hlen h4 hn
        generalize rm - L.length = z at *
        go_enter Try.func10, Try.ntmps10
        go_wp2_with (first
          | (go_at_call 17; (with_reducible refine HN.out.mono ?_); rintro e w1 ⟨rfl, rfl⟩)
          | (go_at_call 26; (with_reducible refine HD.out.mono ?_); rintro e w1 ⟨rfl, rfl⟩)
          | (go_at_call 25; (with_reducible refine HS.out.mono ?_); rintro e w1 ⟨rfl, rfl⟩)
          | (go_at_call 20; (with_reducible refine HF.out.mono ?_); rintro e w1 ⟨rfl, hb⟩; have HB := Lib.hid hb; clear hb))
        go_ret2
        exact ⟨rfl, v, HF2.out _ HB.out, Kp.of_below HB.out, fun g e => .inl e⟩
    · rw [if_neg h2]
      rw [if_pos (rfl : (((S.length : Int), (0 : Int)) : Int × Int).2 = 0), if_pos (rfl : (((S.length : Int), (0 : Int)) : Int × Int).2 = 0)]
      have hn : nxt S = S.length := if_neg (by omega)
      rw [hn] at HN
      have d1 : (((rm - L.length : Nat) : Int) == 0) = false := beq_eq_false_iff_ne.2 (by omega)
      have d2 : (rm - L.length == 0) = false := beq_eq_false_iff_ne.2 (by omega)
      have d3 : ((S.length : Int) == 0) = false := beq_eq_false_iff_ne.2 (by omega)
      have d4 : (S.length == 0) = false := beq_eq_false_iff_ne.2 (by omega)
      have HT2 : Hid (∀ W (hb : Below w.heap.size w W), Calls Try.prog 31 #[pv q, .int .i64 (S.length : Int), .agg #[.int .i64 p, .int .i64 1, .int .u32 0]] W fun e w' => (∃ x, e = .returned x) ∧ ∃ v', Tb B w' q b v' rm (ins L (S.length : Int) ⟨p, 1, 0⟩) (grw S S.length) ∧ Kp (fr q b v) W w' ∧ Mv v v' W.heap.size) := Lib.hid (fun W hb => HT.out W hb (by omega) ⟨p, 1, 0⟩)
      clear h ho hB h1 h2 HT hlen hn hwas
      generalize rm - L.length = z at *
      generalize ins L (S.length : Int) ⟨p, 1, 0⟩ = M at *
      generalize grw S S.length = T at *
      generalize S.length = n at *
      go_enter Try.func10, Try.ntmps10
      go_wp2_with (first
        | (go_at_call 17; (with_reducible refine HN.out.mono ?_); rintro e w1 ⟨rfl, rfl⟩)
        | (go_at_call 26; (with_reducible refine HD.out.mono ?_); rintro e w1 ⟨rfl, rfl⟩)
        | (go_at_call 25; (with_reducible refine HS.out.mono ?_); rintro e w1 ⟨rfl, rfl⟩)
        | (go_at_call 20; (with_reducible refine HF.out.mono ?_); rintro e w1 ⟨rfl, hb⟩; have HB := Lib.hid hb; clear hb)
        | (go_at_call 31; (with_reducible refine (HT2.out _ HB.out).mono ?_); rintro e w1 ⟨⟨x, rfl⟩, v', t1, t2, t3⟩; have HG := Lib.hid (And.intro t1 (And.intro t2 t3)); clear t1 t2 t3))
      go_ret2
      exact ⟨rfl, v', HG.out.1, (Kp.of_below (S := fr q b v) HB.out).trans HG.out.2.1 (fun _ e => .inl e), fun g e => (HG.out.2.2 g e).imp id (fun h => Nat.le_trans HB.out.size h)⟩
  · rw [if_neg h1]
    rw [if_neg (by decide : ¬ ((0 : Int), (2 : Int)).2 = 0), if_neg (by decide : ¬ ((0 : Int), (2 : Int)).2 = 0)]
    have d1 : ((gt L p).st != 1) = true := by simpa using h1
    clear h ho hB h1 hlen HF
    generalize (gt L p).st = z at *
    generalize nxt S = n at *
    go_enter Try.func10, Try.ntmps10
    go_wp2_with (first
      | (go_at_call 17; (with_reducible refine HN.out.mono ?_); rintro e w1 ⟨rfl, rfl⟩)
      | (go_at_call 26; (with_reducible refine HD.out.mono ?_); rintro e w1 ⟨rfl, rfl⟩)
      | (go_at_call 25; (with_reducible refine HS.out.mono ?_); rintro e w1 ⟨rfl, rfl⟩))
    go_ret2
    exact ⟨rfl, HE.out⟩
theorem fork_nil (w : World) (hp : (Lit.int .i64 p).wf = true) : Calls Try.prog 10 #[.pointer none, .int .i64 p] w fun e w' => e = .returned (.tuple #[.int .i64 0, .int .i64 1]) ∧ w = w' := by
  have HN := Lib.hid (next_nil w)
  have HD := Lib.hid (made_nil w)
  go_enter Try.func10, Try.ntmps10
  go_wp2_with (first
    | (go_at_call 17; (with_reducible refine HN.out.mono ?_); rintro e w1 ⟨rfl, rfl⟩)
    | (go_at_call 26; (with_reducible refine HD.out.mono ?_); rintro e w1 ⟨rfl, rfl⟩))
  go_ret2
  exact ⟨rfl, rfl⟩
end Go.Proofs.Ytkjcjodhpcfjiaa.Tel
