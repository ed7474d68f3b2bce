/-
  Thaw, New, Freeze.
-/
import Derived.Test.YtkjcjodhpcfjiaaTel
namespace Go.Proofs.Ytkjcjodhpcfjiaa.Tem
open Go Go.RowKit Go.Shelf Kit Bk Tea Teb Tec Ted Tee Tef Teg Teh Tei Tej Tek Tel
set_option linter.unusedVariables false

variable {B : Nat} {w W : World} {q b : Nat} {v : Value} {rm : Nat} {L M : St} {S : List Bool} {p : Int}
/-- Thaw: what it answers and leaves. -/
def thE (rm : Nat) (L : St) (S : List Bool) (p r st : Int) (su : Nat) : Int := if ft L p st su = true then myE rm L S p r else 2
def thM (rm : Nat) (L : St) (S : List Bool) (p r st : Int) (su : Nat) : St := if thE rm L S p r st su = 0 then (if (gt L p).st = 3 then thL L p st su else ins L p ⟨r, st, su⟩) else L
def thS (rm : Nat) (L : St) (S : List Bool) (p r st : Int) (su : Nat) : List Bool := if thE rm L S p r st su = 0 then (if (gt L p).st = 3 then S else grw S p.toNat) else S
theorem my_zero {rm : Nat} {L : St} {S : List Bool} {p r : Int} (h : Okt rm L S) (e : myE rm L S p r = 0) (hn : (gt L p).st ≠ 3) : un S p = true ∧ ((gt L r).st = 1 ∨ (gt L r).st = 3) ∧ L.length < rm := by
  unfold myE my at e
  have d1 : ((gt L p).st == 3) = false := by simpa using hn
  rw [d1, Bool.false_and, if_neg (by decide)] at e
  by_cases h2 : (!un S p || !((gt L r).st == 1 || (gt L r).st == 3)) = true
  · rw [if_pos h2] at e; cases e
  · rw [if_neg h2] at e
    by_cases h3 : (rm - L.length == 0) = true
    · rw [if_pos h3] at e; cases e
    · have h4 : rm - L.length ≠ 0 := by simpa using h3
      simp only [Bool.or_eq_true, Bool.not_eq_true', not_or, Bool.not_eq_false, beq_iff_eq] at h2
      exact ⟨h2.1, h2.2, by omega⟩
theorem ft_ok {st : Int} {su : Nat} (h : ft L p st su = true) : (st = 1 ∧ su = 0) ∨ (st = 2 ∧ kids L p = []) := by
  unfold ft at h
  by_cases h1 : st = 1
  · rw [if_pos h1] at h; exact .inl ⟨h1, by simpa using h⟩
  · rw [if_neg h1] at h
    by_cases h2 : st = 2
    · rw [if_pos h2] at h; exact .inr ⟨h2, List.eq_nil_of_length_eq_zero (by simpa using h)⟩
    · rw [if_neg h2] at h; cases h
theorem Okt.thaw (h : Okt rm L S) (p r st : Int) (su : Nat) (hsu : su < 4294967296) : Okt rm (thM rm L S p r st su) (thS rm L S p r st su) := by
  unfold thM thS
  by_cases e : thE rm L S p r st su = 0
  · rw [if_pos e, if_pos e]
    unfold thE at e
    by_cases hf : ft L p st su = true
    · rw [if_pos hf] at e
      have hk := ft_ok hf
      by_cases h3 : (gt L p).st = 3
      · rw [if_pos h3, if_pos h3]
        exact h.same (h.ok.thaw h3 (hk.imp id (fun hk => ⟨hk.1, hsu, hk.2⟩))) (Nat.le_of_eq (len_mp _ _)) (fun x hx => by rwa [thL, hs_mp] at hx)
      · rw [if_neg h3, if_neg h3]
        obtain ⟨a, c, d⟩ := my_zero h e h3
        obtain ⟨a1, a2⟩ := h.un a
        exact h.new (r := ⟨r, st, su⟩) a1 a2 (h.ok.there (p := r) (by omega)) (by dsimp only; omega) (by dsimp only; rcases hk with ⟨rfl, rfl⟩ | ⟨rfl, _⟩ <;> omega) d
    · rw [if_neg hf] at e; cases e
  · rw [if_neg e, if_neg e]; exact h
theorem hs_thL (L : St) (p st : Int) (su : Nat) (x : Int) : hs (thL L p st su) x = hs L x := hs_mp _ _ _
theorem gt_thL {L : St} {p st : Int} {su : Nat} {x : Int} (hx : hs L x = true) : gt (thL L p st su) x = if p = x then ⟨(gt L p).par, st, su⟩ else gt L x := by
  unfold thL
  rw [gt_mp, if_pos hx]
  unfold thF
  by_cases e : p = x
  · subst e; simp
  · rw [if_neg e, if_neg (Ne.symm e)]
set_option maxRecDepth 100000 in
set_option maxHeartbeats 4000000 in
theorem thaw_any {r st : Int} {su : Nat} (h : Tb B w q b v rm L S) (ho : Okt rm L S) (hB : B ≤ w.heap.size) (hp : (Lit.int .i64 p).wf = true) (hr : (Lit.int .i64 r).wf = true) (hsu : su < 4294967296) :
    Calls Try.prog 12 #[pv q, .int .i64 p, .int .i64 r, .int .i64 st, uv su] w fun e w' => e = .returned (.int .i64 (thE rm L S p r st su)) ∧ ∃ v', Tb B w' q b v' rm (thM rm L S p r st su) (thS rm L S p r st su) ∧ Kp (fr q b v) w w' ∧ Mv v v' w.heap.size := by
  have hll : L.length < 80000 := by have := ho.len; have := ho.room; omega
  have HM := Lib.hid (may_any h ho hp hr)
  have HD := Lib.hid (fun W (hb : Below w.heap.size w W) => made_any (h.below hb) ho.room.1)
  have HF := Lib.hid (fun W (hb : Below w.heap.size w W) => fits_any (p := p) (h.below hb) ho.ok hll st su)
  have HS := Lib.hid (fun W (hb : Below w.heap.size w W) => state_any (h.below hb) hp)
  have HE : Hid (∀ W (hb : Below w.heap.size w W), ∃ v', Tb B W q b v' rm L S ∧ Kp (fr q b v) w W ∧ Mv v v' w.heap.size) := Lib.hid (fun W hb => ⟨v, h.below hb, Kp.of_below hb, fun g e => .inl e⟩)
  unfold thM thS thE
  by_cases hf : ft L p st su = true
  · rw [if_pos hf]
    rw [hf] at HF
    by_cases he : myE rm L S p r = 0
    · rw [if_pos he, if_pos he]
      rw [he] at HM ⊢
      by_cases h3 : (gt L p).st = 3
      · rw [if_pos h3, if_pos h3]
        rw [h3] at HS
        have hin := ho.ok.there (p := p) (by omega)
        have HC := Lib.hid (fun W (hb : Below w.heap.size w W) => change_any (h.below hb) hll hp hin st su (ho.ok.up.mp (thF p st su)) (hs_thL L p st su) (fun x hx => gt_thL hx))
        have HK := Lib.hid (Kp.refl (fr q b v) w)
        clear h ho hf he h3 hin hll hr hsu
        go_enter Try.func12, Try.ntmps12
        go_wp2_with (first
          | (go_at_call 13; (with_reducible refine HM.out.mono ?_); rintro e w1 ⟨rfl, hb⟩; have HB := Lib.hid hb; clear hb)
          | (go_at_call 26; (with_reducible refine (HD.out _ HB.out).mono ?_); rintro e w2 ⟨rfl, rfl⟩)
          | (go_at_call 32; (with_reducible refine (HF.out _ HB.out).mono ?_); rintro e w3 ⟨rfl, hb⟩; have HB3 := Lib.hid (HB.out.trans (hb.mono HB.out.size)); clear hb HB)
          | (go_at_call 25; (with_reducible refine (HS.out _ HB3.out).mono ?_); rintro e w4 ⟨rfl, rfl⟩)
          | (go_at_call 29; (with_reducible refine (HC.out _ HB3.out).mono ?_); rintro e w5 ⟨⟨x, rfl⟩, t1, t2⟩; have HG := Lib.hid (And.intro t1 t2); clear t1 t2))
        go_ret
        exact ⟨rfl, v, HG.out.1, (Kp.of_below (S := fr q b v) HB3.out).trans HG.out.2 (fun j e => .inl (.inr (.inl e))), fun g e => .inl e⟩
      · rw [if_neg h3, if_neg h3]
        have d3 : ((gt L p).st == 3) = false := by simpa using h3
        obtain ⟨a, c, d⟩ := my_zero ho he h3
        obtain ⟨a1, a2⟩ := ho.un a
        obtain ⟨k, rfl⟩ : ∃ k : Nat, p = (k : Int) := ⟨p.toNat, by omega⟩
        have HC := Lib.hid (fun W (hb : Below w.heap.size w W) => put_any (h.below hb) ho.ok.up hll ho.was.2 (Nat.le_trans hB hb.size) k (by omega) ⟨r, st, su⟩)
        rw [Int.toNat_natCast]
        clear h ho hf he h3 hll hr hsu a c d a1 a2 hB
        generalize (gt L (k : Int)).st = z at *
        go_enter Try.func12, Try.ntmps12
        go_wp2_with (first
          | (go_at_call 13; (with_reducible refine HM.out.mono ?_); rintro e w1 ⟨rfl, hb⟩; have HB := Lib.hid hb; clear hb)
          | (go_at_call 26; (with_reducible refine (HD.out _ HB.out).mono ?_); rintro e w2 ⟨rfl, rfl⟩)
          | (go_at_call 32; (with_reducible refine (HF.out _ HB.out).mono ?_); rintro e w3 ⟨rfl, hb⟩; have HB3 := Lib.hid (HB.out.trans (hb.mono HB.out.size)); clear hb HB)
          | (go_at_call 25; (with_reducible refine (HS.out _ HB3.out).mono ?_); rintro e w4 ⟨rfl, rfl⟩)
          | (go_at_call 31; (with_reducible refine (HC.out _ HB3.out).mono ?_); rintro e w5 ⟨⟨x, rfl⟩, v', t1, t2, t3⟩; have HG := Lib.hid (And.intro t1 (And.intro t2 t3)); clear t1 t2 t3))
        go_ret
        exact ⟨rfl, v', HG.out.1, (Kp.of_below (S := fr q b v) HB3.out).trans HG.out.2.1 (fun _ e => .inl e), fun g e => (HG.out.2.2 g e).imp id (fun h => Nat.le_trans HB3.out.size h)⟩
    · rw [if_neg he, if_neg he]
      have d3 : (myE rm L S p r != 0) = true := by simpa using he
      clear h ho hf he hll hr hsu HS
      generalize myE rm L S p r = z at *
      go_enter Try.func12, Try.ntmps12
      go_wp2_with (first
        | (go_at_call 13; (with_reducible refine HM.out.mono ?_); rintro e w1 ⟨rfl, hb⟩; have HB := Lib.hid hb; clear hb)
        | (go_at_call 26; (with_reducible refine (HD.out _ HB.out).mono ?_); rintro e w2 ⟨rfl, rfl⟩)
        | (go_at_call 32; (with_reducible refine (HF.out _ HB.out).mono ?_); rintro e w3 ⟨rfl, hb⟩; have HB3 := Lib.hid (HB.out.trans (hb.mono HB.out.size)); clear hb HB))
      go_ret
      exact ⟨rfl, HE.out _ HB3.out⟩
  · rw [if_neg hf]
    rw [if_neg (by decide : ¬ (2 : Int) = 0), if_neg (by decide : ¬ (2 : Int) = 0)]
    have hf2 : ft L p st su = false := by simpa using hf
    rw [hf2] at HF
    clear h ho hf hf2 hll hr hsu HS
    generalize myE rm L S p r = z at *
    go_enter Try.func12, Try.ntmps12
    go_wp2_with (first
      | (go_at_call 13; (with_reducible refine HM.out.mono ?_); rintro e w1 ⟨rfl, hb⟩; have HB := Lib.hid hb; clear hb)
      | (go_at_call 26; (with_reducible refine (HD.out _ HB.out).mono ?_); rintro e w2 ⟨rfl, rfl⟩)
      | (go_at_call 32; (with_reducible refine (HF.out _ HB.out).mono ?_); rintro e w3 ⟨rfl, hb⟩; have HB3 := Lib.hid (HB.out.trans (hb.mono HB.out.size)); clear hb HB))
    go_ret
    exact ⟨rfl, HE.out _ HB3.out⟩

/-- New. -/
theorem new_no (n : Int) (hn : n < 1 ∨ 32 < n) (w : World) : Calls Try.prog 14 #[.int .i64 n] w fun e w' => e = .returned (.tuple #[.pointer none, .int .i64 2]) ∧ w = w' := by
  by_cases h1 : n < 1
  · have d1 : decide (n < 1) = true := decide_eq_true h1
    clear h1 hn
    go_enter Try.func14, Try.ntmps14
    go_wp2
    go_ret2
    exact ⟨rfl, rfl⟩
  · have d1 : decide (n < 1) = false := decide_eq_false h1
    have d2 : decide (32 < n) = true := decide_eq_true (by omega)
    clear h1 hn
    go_enter Try.func14, Try.ntmps14
    go_wp2
    go_ret2
    exact ⟨rfl, rfl⟩
def L1 : St := [(1, ⟨0, 1, 0⟩)]
theorem okt_one {rm : Nat} (h : 1 ≤ rm ∧ rm ≤ 32) : Okt rm L1 [false, true] :=
  ⟨ok_one, h, h.1, by decide, fun p hp => by
    have : p = 1 := by
      rw [L1, hs_cons, hs_nil, Bool.or_false] at hp
      exact (beq_iff_eq.1 hp).symm
    subst this
    rfl⟩
set_option maxRecDepth 100000 in
set_option maxHeartbeats 2000000 in
theorem new_any (n : Nat) (hn : 1 ≤ n ∧ n ≤ 32) (w : World) : Calls Try.prog 14 #[.int .i64 (n : Int)] w fun e w' => ∃ q b v, e = .returned (.tuple #[pv q, .int .i64 0]) ∧ Tb w.heap.size w' q b v n L1 [false, true] ∧ Below w.heap.size w w' := by
  have d1 : decide ((n : Int) < 1) = false := decide_eq_false (by omega)
  have d1' : decide (n < 1) = false := decide_eq_false (by omega)
  have d2 : decide (32 < (n : Int)) = false := decide_eq_false (by omega)
  have d2' : decide (32 < n) = false := decide_eq_false (by omega)
  have d3 : (n == 0) = false := beq_eq_false_iff_ne.2 (by omega)
  have hmk := run_makeMap (P := Try.prog) 62 w
  have b1 : Below w.heap.size w (w.alloc (.map #[] 0)) := (Below.refl _ _).alloc (Nat.le_refl _) _
  have b2 : Below w.heap.size w ((w.alloc (.map #[] 0)).alloc (.cells #[.int .i64 (n : Int), .map (some w.heap.size), .slice none 0 0] 65)) := b1.alloc b1.size _
  have m1 := (Mp.made w).below (((Below.refl _ _).alloc (Nat.le_refl _) (.cells #[.int .i64 (n : Int), .map (some w.heap.size), .slice none 0 0] 65)))
  have t1 : Tb w.heap.size ((w.alloc (.map #[] 0)).alloc (.cells #[.int .i64 (n : Int), .map (some w.heap.size), .slice none 0 0] 65)) (w.heap.size + 1) w.heap.size (.slice none 0 0) n [] [] := by
    have hb := Blk.new (w.alloc (.map #[] 0)) #[.int .i64 (n : Int), .map (some w.heap.size), .slice none 0 0] 65
    rw [World.size_alloc] at hb
    exact ⟨hb, m1, World.ownsRow_nil _ _ _ _, by omega⟩
  have HP : Hid (Calls Try.prog 31 #[pv (w.heap.size + 1), .int .i64 1, .agg #[.int .i64 0, .int .i64 1, .int .u32 0]] ((w.alloc (.map #[] 0)).alloc (.cells #[.int .i64 (n : Int), .map (some w.heap.size), .slice none 0 0] 65)) fun e w' => (∃ x, e = .returned x) ∧ ∃ v', Tb w.heap.size w' (w.heap.size + 1) w.heap.size v' n L1 [false, true] ∧ Kp (fr (w.heap.size + 1) w.heap.size (.slice none 0 0)) ((w.alloc (.map #[] 0)).alloc (.cells #[.int .i64 (n : Int), .map (some w.heap.size), .slice none 0 0] 65)) w' ∧ Mv (.slice none 0 0) v' ((w.alloc (.map #[] 0)).alloc (.cells #[.int .i64 (n : Int), .map (some w.heap.size), .slice none 0 0] 65)).heap.size) := Lib.hid (put_any t1 List.Pairwise.nil (by decide) (by decide) b2.size 1 (by decide) ⟨0, 1, 0⟩)
  have HB := Lib.hid b2
  have HL := Lib.hid t1.fr_lo
  clear t1 m1 b1 b2 hn
  go_enter Try.func14, Try.ntmps14
  go_wp2_with (go_at_call 31; (with_reducible refine HP.out.mono ?_); rintro e w1 ⟨⟨x, rfl⟩, v', t1, t2, t3⟩; have HG := Lib.hid (And.intro t1 (And.intro t2 t3)); clear t1 t2 t3)
  go_ret2
  exact ⟨_, _, v', rfl, HG.out.1, HB.out.trans (HG.out.2.1.below HB.out.size HL.out)⟩
end Go.Proofs.Ytkjcjodhpcfjiaa.Tem
