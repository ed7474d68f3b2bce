/-
  May, Fork, Thaw, New.
-/
import Derived.Test.YtkjcjodhpcfjiaaTej
namespace Go.Proofs.Ytkjcjodhpcfjiaa.Tek
open Go Go.RowKit Go.Shelf Kit Bk Tea Teb Tec Ted Tee Tef Teg Teh Tei Tej
set_option linter.unusedVariables false

/-- A table's words: room, processes, which pids ever were. -/
structure Okt (rm : Nat) (L : St) (S : List Bool) : Prop where
  ok : Ok L
  room : 1 ≤ rm ∧ rm ≤ 32
  len : L.length ≤ rm
  was : 2 ≤ S.length ∧ S.length ≤ 65536
  there : ∀ p, hs L p = true → S[p.toNat]? = some true
variable {B : Nat} {w W : World} {q b : Nat} {v : Value} {rm : Nat} {L M : St} {S : List Bool} {p : Int}
theorem Okt.lt (h : Okt rm L S) (hp : hs L p = true) : p.toNat < S.length := (List.getElem?_eq_some_iff.1 (h.there p hp)).1
theorem Okt.un (h : Okt rm L S) (hu : un S p = true) : hs L p = false ∧ 1 ≤ p ∧ p ≤ 65535 := by
  unfold Tej.un at hu
  simp only [Bool.and_eq_true, Bool.or_eq_true, decide_eq_true_eq, Bool.not_eq_true'] at hu
  refine ⟨?_, hu.1⟩
  cases e : hs L p
  · rfl
  · have h1 := h.there p e
    have h2 := h.lt e
    rcases hu.2 with h3 | h3
    · omega
    · rw [h1] at h3; cases h3
theorem Okt.next (h : Okt rm L S) : hs L (S.length : Int) = false := by
  cases e : hs L (S.length : Int)
  · rfl
  · have := h.lt e; omega
theorem Okt.new (h : Okt rm L S) {r : Rc} (hn : hs L p = false) (hp : 1 ≤ p ∧ p ≤ 65535) (hr : hs L r.par = true) (hz : (gt L r.par).st ≠ 2) (hs1 : (1 ≤ r.st ∧ r.st ≤ 3) ∧ r.su < 4294967296 ∧ (r.st = 1 → r.su = 0)) (hl : L.length < rm) : Okt rm (ins L p r) (grw S p.toNat) := by
  refine ⟨h.ok.new (q := 0) hp hn hr hz hs1, h.room, by have := len_ins L p r; omega, by rw [grw_len]; have := h.was; omega, fun x hx => ?_⟩
  rw [hs_ins, Bool.or_eq_true, beq_iff_eq] at hx
  rw [grw_at]
  by_cases e : x.toNat = p.toNat
  · rw [if_pos e]
  · have hx2 : hs L x = true := hx.resolve_left (fun e2 => e (by rw [e2]))
    rw [if_neg e, if_pos (h.lt hx2), h.there x hx2]
theorem Okt.same (h : Okt rm L S) (ho : Ok M) (hl : M.length ≤ L.length) (hm : ∀ q, hs M q = true → hs L q = true) : Okt rm M S :=
  ⟨ho, h.room, Nat.le_trans hl h.len, h.was, fun p hp => h.there p (hm p hp)⟩

/-- May. -/
def my (x1 x2 x3 x4 x5 x6 : Bool) : Int := if (x1 && (x2 || x3)) = true then 0 else if (!x4 || !x5) = true then 153 else if x6 = true then 150 else 0
def myE (rm : Nat) (L : St) (S : List Bool) (p r : Int) : Int := my ((gt L p).st == 3) (r == (gt L p).par) (r == 0) (un S p) ((gt L r).st == 1 || (gt L r).st == 3) (rm - L.length == 0)
set_option maxRecDepth 100000 in
set_option maxHeartbeats 4000000 in
theorem may_any {r : Int} (h : Tb B w q b v rm L S) (ho : Okt rm L S) (hp : (Lit.int .i64 p).wf = true) (hr : (Lit.int .i64 r).wf = true) :
    Calls Try.prog 13 #[pv q, .int .i64 p, .int .i64 r] w fun e w' => e = .returned (.int .i64 (myE rm L S p r)) ∧ Below w.heap.size w w' := by
  have HD := Lib.hid (made_any h ho.room.1)
  have HS := Lib.hid (state_any h hp)
  have HP := Lib.hid (parent_any h hp)
  have HU := Lib.hid (unused_any (p := p) h)
  have HB := Lib.hid (bear_any h hr)
  have HF := Lib.hid (free_any h ho.room ho.len ho.ok.up)
  have d6 : (((rm - L.length : Nat) : Int) == 0) = (rm - L.length == 0) := by
    cases rm - L.length with
    | zero => rfl
    | succ n => simp; omega
  have HE := Lib.hid (Below.refl w.heap.size w)
  unfold myE
  clear h ho
  generalize hx1 : ((gt L p).st == 3) = x1 at *
  generalize hx2 : (r == (gt L p).par) = x2 at *
  generalize hx3 : (r == 0) = x3 at *
  generalize un S p = x4 at *
  generalize ((gt L r).st == 1 || (gt L r).st == 3) = x5 at *
  generalize hx6 : (rm - L.length == 0) = x6 at *
  generalize (gt L p).st = z1 at *
  generalize (gt L p).par = z2 at *
  generalize rm - L.length = z3 at *
  cases x1
  · as_aux_lemma =>
    cases x4
    · clear d6
      go_enter Try.func13, Try.ntmps13
      go_wp2_with (first
        | (go_at_call 26; (with_reducible refine HD.out.mono ?_); rintro e w1 ⟨rfl, rfl⟩)
        | (go_at_call 25; (with_reducible refine HS.out.mono ?_); rintro e w1 ⟨rfl, rfl⟩)
        | (go_at_call 24; (with_reducible refine HP.out.mono ?_); rintro e w1 ⟨rfl, rfl⟩)
        | (go_at_call 33; (with_reducible refine HU.out.mono ?_); rintro e w1 ⟨rfl, rfl⟩)
        | (go_at_call 34; (with_reducible refine HB.out.mono ?_); rintro e w1 ⟨rfl, rfl⟩)
        | (go_at_call 20; (with_reducible refine HF.out.mono ?_); rintro e w1 ⟨rfl, hb⟩; clear HE; have HE := Lib.hid hb; clear hb))
      go_ret
      exact ⟨rfl, HE.out⟩
    · cases x5
      · clear d6
        go_enter Try.func13, Try.ntmps13
        go_wp2_with (first
          | (go_at_call 26; (with_reducible refine HD.out.mono ?_); rintro e w1 ⟨rfl, rfl⟩)
          | (go_at_call 25; (with_reducible refine HS.out.mono ?_); rintro e w1 ⟨rfl, rfl⟩)
          | (go_at_call 24; (with_reducible refine HP.out.mono ?_); rintro e w1 ⟨rfl, rfl⟩)
          | (go_at_call 33; (with_reducible refine HU.out.mono ?_); rintro e w1 ⟨rfl, rfl⟩)
          | (go_at_call 34; (with_reducible refine HB.out.mono ?_); rintro e w1 ⟨rfl, rfl⟩)
          | (go_at_call 20; (with_reducible refine HF.out.mono ?_); rintro e w1 ⟨rfl, hb⟩; clear HE; have HE := Lib.hid hb; clear hb))
        go_ret
        exact ⟨rfl, HE.out⟩
      · cases x6
        · go_enter Try.func13, Try.ntmps13
          go_wp2_with (first
            | (go_at_call 26; (with_reducible refine HD.out.mono ?_); rintro e w1 ⟨rfl, rfl⟩)
            | (go_at_call 25; (with_reducible refine HS.out.mono ?_); rintro e w1 ⟨rfl, rfl⟩)
            | (go_at_call 24; (with_reducible refine HP.out.mono ?_); rintro e w1 ⟨rfl, rfl⟩)
            | (go_at_call 33; (with_reducible refine HU.out.mono ?_); rintro e w1 ⟨rfl, rfl⟩)
            | (go_at_call 34; (with_reducible refine HB.out.mono ?_); rintro e w1 ⟨rfl, rfl⟩)
            | (go_at_call 20; (with_reducible refine HF.out.mono ?_); rintro e w1 ⟨rfl, hb⟩; clear HE; have HE := Lib.hid hb; clear hb))
          go_ret
          exact ⟨rfl, HE.out⟩
        · go_enter Try.func13, Try.ntmps13
          go_wp2_with (first
            | (go_at_call 26; (with_reducible refine HD.out.mono ?_); rintro e w1 ⟨rfl, rfl⟩)
            | (go_at_call 25; (with_reducible refine HS.out.mono ?_); rintro e w1 ⟨rfl, rfl⟩)
            | (go_at_call 24; (with_reducible refine HP.out.mono ?_); rintro e w1 ⟨rfl, rfl⟩)
            | (go_at_call 33; (with_reducible refine HU.out.mono ?_); rintro e w1 ⟨rfl, rfl⟩)
            | (go_at_call 34; (with_reducible refine HB.out.mono ?_); rintro e w1 ⟨rfl, rfl⟩)
            | (go_at_call 20; (with_reducible refine HF.out.mono ?_); rintro e w1 ⟨rfl, hb⟩; clear HE; have HE := Lib.hid hb; clear hb))
          go_ret
          exact ⟨rfl, HE.out⟩
  · cases x2
    · cases x3
      · as_aux_lemma =>
        cases x4
        · clear d6
          go_enter Try.func13, Try.ntmps13
          go_wp2_with (first
            | (go_at_call 26; (with_reducible refine HD.out.mono ?_); rintro e w1 ⟨rfl, rfl⟩)
            | (go_at_call 25; (with_reducible refine HS.out.mono ?_); rintro e w1 ⟨rfl, rfl⟩)
            | (go_at_call 24; (with_reducible refine HP.out.mono ?_); rintro e w1 ⟨rfl, rfl⟩)
            | (go_at_call 33; (with_reducible refine HU.out.mono ?_); rintro e w1 ⟨rfl, rfl⟩)
            | (go_at_call 34; (with_reducible refine HB.out.mono ?_); rintro e w1 ⟨rfl, rfl⟩)
            | (go_at_call 20; (with_reducible refine HF.out.mono ?_); rintro e w1 ⟨rfl, hb⟩; clear HE; have HE := Lib.hid hb; clear hb))
          go_ret
          exact ⟨rfl, HE.out⟩
        · cases x5
          · clear d6
            go_enter Try.func13, Try.ntmps13
            go_wp2_with (first
              | (go_at_call 26; (with_reducible refine HD.out.mono ?_); rintro e w1 ⟨rfl, rfl⟩)
              | (go_at_call 25; (with_reducible refine HS.out.mono ?_); rintro e w1 ⟨rfl, rfl⟩)
              | (go_at_call 24; (with_reducible refine HP.out.mono ?_); rintro e w1 ⟨rfl, rfl⟩)
              | (go_at_call 33; (with_reducible refine HU.out.mono ?_); rintro e w1 ⟨rfl, rfl⟩)
              | (go_at_call 34; (with_reducible refine HB.out.mono ?_); rintro e w1 ⟨rfl, rfl⟩)
              | (go_at_call 20; (with_reducible refine HF.out.mono ?_); rintro e w1 ⟨rfl, hb⟩; clear HE; have HE := Lib.hid hb; clear hb))
            go_ret
            exact ⟨rfl, HE.out⟩
          · cases x6
            · go_enter Try.func13, Try.ntmps13
              go_wp2_with (first
                | (go_at_call 26; (with_reducible refine HD.out.mono ?_); rintro e w1 ⟨rfl, rfl⟩)
                | (go_at_call 25; (with_reducible refine HS.out.mono ?_); rintro e w1 ⟨rfl, rfl⟩)
                | (go_at_call 24; (with_reducible refine HP.out.mono ?_); rintro e w1 ⟨rfl, rfl⟩)
                | (go_at_call 33; (with_reducible refine HU.out.mono ?_); rintro e w1 ⟨rfl, rfl⟩)
                | (go_at_call 34; (with_reducible refine HB.out.mono ?_); rintro e w1 ⟨rfl, rfl⟩)
                | (go_at_call 20; (with_reducible refine HF.out.mono ?_); rintro e w1 ⟨rfl, hb⟩; clear HE; have HE := Lib.hid hb; clear hb))
              go_ret
              exact ⟨rfl, HE.out⟩
            · go_enter Try.func13, Try.ntmps13
              go_wp2_with (first
                | (go_at_call 26; (with_reducible refine HD.out.mono ?_); rintro e w1 ⟨rfl, rfl⟩)
                | (go_at_call 25; (with_reducible refine HS.out.mono ?_); rintro e w1 ⟨rfl, rfl⟩)
                | (go_at_call 24; (with_reducible refine HP.out.mono ?_); rintro e w1 ⟨rfl, rfl⟩)
                | (go_at_call 33; (with_reducible refine HU.out.mono ?_); rintro e w1 ⟨rfl, rfl⟩)
                | (go_at_call 34; (with_reducible refine HB.out.mono ?_); rintro e w1 ⟨rfl, rfl⟩)
                | (go_at_call 20; (with_reducible refine HF.out.mono ?_); rintro e w1 ⟨rfl, hb⟩; clear HE; have HE := Lib.hid hb; clear hb))
              go_ret
              exact ⟨rfl, HE.out⟩
      · as_aux_lemma =>
        go_enter Try.func13, Try.ntmps13
        go_wp2_with (first
          | (go_at_call 26; (with_reducible refine HD.out.mono ?_); rintro e w1 ⟨rfl, rfl⟩)
          | (go_at_call 25; (with_reducible refine HS.out.mono ?_); rintro e w1 ⟨rfl, rfl⟩)
          | (go_at_call 24; (with_reducible refine HP.out.mono ?_); rintro e w1 ⟨rfl, rfl⟩)
          | (go_at_call 33; (with_reducible refine HU.out.mono ?_); rintro e w1 ⟨rfl, rfl⟩)
          | (go_at_call 34; (with_reducible refine HB.out.mono ?_); rintro e w1 ⟨rfl, rfl⟩)
          | (go_at_call 20; (with_reducible refine HF.out.mono ?_); rintro e w1 ⟨rfl, hb⟩; clear HE; have HE := Lib.hid hb; clear hb))
        go_ret
        exact ⟨rfl, HE.out⟩
    · as_aux_lemma =>
      go_enter Try.func13, Try.ntmps13
      go_wp2_with (first
        | (go_at_call 26; (with_reducible refine HD.out.mono ?_); rintro e w1 ⟨rfl, rfl⟩)
        | (go_at_call 25; (with_reducible refine HS.out.mono ?_); rintro e w1 ⟨rfl, rfl⟩)
        | (go_at_call 24; (with_reducible refine HP.out.mono ?_); rintro e w1 ⟨rfl, rfl⟩)
        | (go_at_call 33; (with_reducible refine HU.out.mono ?_); rintro e w1 ⟨rfl, rfl⟩)
        | (go_at_call 34; (with_reducible refine HB.out.mono ?_); rintro e w1 ⟨rfl, rfl⟩)
        | (go_at_call 20; (with_reducible refine HF.out.mono ?_); rintro e w1 ⟨rfl, hb⟩; clear HE; have HE := Lib.hid hb; clear hb))
      go_ret
      exact ⟨rfl, HE.out⟩
end Go.Proofs.Ytkjcjodhpcfjiaa.Tek
