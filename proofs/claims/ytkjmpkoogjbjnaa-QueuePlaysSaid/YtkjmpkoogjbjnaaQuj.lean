/-
  Move, Rotate, Pick, List.
-/
import Derived.Test.YtkjmpkoogjbjnaaQui
namespace Go.Proofs.Ytkjmpkoogjbjnaa.Quj
open Go Go.RowKit Go.Shelf Kit Bk Qua Qub Quc Qud Que Quf Qug Quh Qui
set_option linter.unusedVariables false
attribute [local go_sem ↓] app_wrap

variable {w : World} {q c : Nat} {S : Nat → Prop} {l : Ls}
theorem ctL_len (c : Nat) (l : Ls) (p : Int) (k : Nat) : (ctL c l p k).length ≤ (l k).length := by
  unfold ctL
  cases whN c l p with
  | none => exact Nat.le_refl _
  | some i =>
    by_cases e : k = i
    · subst e; dsimp only; rw [up_same]; exact List.length_erase_le
    · dsimp only; rw [up_other _ _ _ _ e]; exact Nat.le_refl _
theorem move_no (h : Qs w q S c l) (hc : 1 ≤ c) (p : Int) (m : Nat) (hm : m < 4294967296) (hn : mvN c l p m) : Calls Try.prog 11 #[pv q, .int .i64 p, uv m] w fun e w' => e = .returned (.tuple #[.int .i64 0, .int .i64 130]) ∧ Below w.heap.size w w' := by
  have HC := Lib.hid (cores_any w h)
  have HW := where_any w q c S l p h
  have HM := may_any _ c m h.c8 hm (lens l) w (cs_qs h) (lens_qs h)
  have d0 : ((c : Int) == 0) = false := by simp; omega
  cases hk : whN c l p with
  | none =>
    rw [wh_eq_none hk] at HW
    replace HW := Lib.hid HW
    have HB := Lib.hid (Below.refl w.heap.size w)
    clear h hc hk hn HM
    go_enter Try.func11, Try.ntmps11
    go_wp2_with (first | (go_at_call 28; (with_reducible refine HC.out.mono ?_); rintro e w1 ⟨rfl, rfl⟩) | (go_at_call 17; (with_reducible refine HW.out.mono ?_); rintro e w1 ⟨rfl, rfl⟩))
    go_ret2
    exact ⟨rfl, HB.out⟩
  | some k =>
    rw [wh_eq_some hk] at HW
    replace HW := Lib.hid HW
    have hy : may c m = false := by
      rcases hn with hn | hn
      · rw [hk] at hn; cases hn
      · exact hn
    rw [hy] at HM
    replace HM := Lib.hid HM
    have d1 : decide ((k : Int) < 0) = false := decide_eq_false (by omega)
    clear h hc hk hn hy
    go_enter Try.func11, Try.ntmps11
    go_wp2_with (first | (go_at_call 28; (with_reducible refine HC.out.mono ?_); rintro e w1 ⟨rfl, rfl⟩) | (go_at_call 17; (with_reducible refine HW.out.mono ?_); rintro e w1 ⟨rfl, rfl⟩) | (go_at_call 19; (with_reducible refine HM.out.mono ?_); rintro e w1 ⟨rfl, hb⟩; replace hb := Lib.hid hb))
    go_ret2
    exact ⟨rfl, hb.out⟩
theorem move_some (h : Qs w q S c l) (hl : ∀ k, (l k).length ≤ 90000) (hc : 1 ≤ c) (p : Int) (m : Nat) (hm : m < 4294967296) (hn : ¬ mvN c l p m) : Calls Try.prog 11 #[pv q, .int .i64 p, uv m] w fun e w' => e = .returned (.tuple #[.int .i64 (if hasC c m (wh c l p) = true then wh c l p else plR c (ctL c l p) p (wh c l p) m), .int .i64 (if hasC c m (wh c l p) = true then 0 else plE c (ctL c l p) p m)]) ∧ ∃ S', Kp S w w' ∧ Qs w' q S' c (if hasC c m (wh c l p) = true then l else plL c (ctL c l p) p (wh c l p) m) ∧ ∀ j, S' j → S j ∨ w.heap.size ≤ j := by
  have HC := Lib.hid (cores_any w h)
  have HW := where_any w q c S l p h
  have HM := may_any _ c m h.c8 hm (lens l) w (cs_qs h) (lens_qs h)
  have d0 : ((c : Int) == 0) = false := by simp; omega
  obtain ⟨k, hk⟩ : ∃ k, whN c l p = some k := by
    cases hk : whN c l p with
    | none => exact absurd (.inl hk) hn
    | some k => exact ⟨k, rfl⟩
  have hy : may c m = true := by
    cases hy : may c m
    · exact absurd (.inr hy) hn
    · rfl
  rw [hy] at HM
  have hwk := wh_eq_some hk
  have HH : Hid (∀ w1, Below w.heap.size w w1 → Calls Try.prog 30 #[pv q, uv m, .int .i64 (wh c l p)] w1 fun e w' => e = .returned (.bool (hasC c m (wh c l p))) ∧ Below w1.heap.size w1 w') := Lib.hid (fun w1 hb => has_any _ c m h.c8 hm _ w1 (cs_qs (h.below hb)))
  have HT : Hid (∀ w1, Below w.heap.size w w1 → Calls Try.prog 13 #[pv q, .int .i64 p] w1 fun e w2 => (∃ b, e = .returned (.bool b)) ∧ Hid (Calls Try.prog 9 #[pv q, .int .i64 p, .int .i64 (wh c l p), uv m] w2 fun e w3 => e = .returned (.tuple #[.int .i64 (plR c (ctL c l p) p (wh c l p) m), .int .i64 (plE c (ctL c l p) p m)]) ∧ Hid (∃ S', Kp S w w3 ∧ Qs w3 q S' c (plL c (ctL c l p) p (wh c l p) m) ∧ ∀ j, S' j → S j ∨ w.heap.size ≤ j))) := Lib.hid (fun w1 hb => (cut_any (h.below hb) p).mono (by
    rintro e w2 ⟨rfl, S2, k2, q2, n2⟩
    refine ⟨⟨_, rfl⟩, Lib.hid ((place_any q2 (fun k => Nat.le_trans (ctL_len c l p k) (hl k)) hc p _ m hm).mono ?_)⟩
    rintro e w3 ⟨rfl, S3, k3, q3, n3⟩
    have hs := hb.size
    have hs2 := k2.size
    refine ⟨rfl, Lib.hid ⟨S3, (kp_below hb).trans (k2.trans k3 (fun j e => (n2 j e).elim .inl .inr)) (fun j e => .inl e), q3, fun j e => ?_⟩⟩
    rcases n3 j e with e | e
    · rcases n2 j e with e | e
      · exact .inl e
      · right; omega
    · right; omega))
  have HQ : Hid (∀ w1, Below w.heap.size w w1 → ∃ S', Kp S w w1 ∧ Qs w1 q S' c l ∧ ∀ j, S' j → S j ∨ w.heap.size ≤ j) := Lib.hid (fun w1 hb => ⟨S, kp_below hb, h.below hb, fun j e => .inl e⟩)
  have d1 : decide (wh c l p < 0) = false := decide_eq_false (by omega)
  replace HW := Lib.hid HW
  replace HM := Lib.hid HM
  cases hz : hasC c m (wh c l p)
  · rw [hz] at HH
    rw [if_neg (by decide), if_neg (by decide), if_neg (by decide)]
    generalize plR c (ctL c l p) p (wh c l p) m = R at *
    generalize plE c (ctL c l p) p m = E at *
    generalize plL c (ctL c l p) p (wh c l p) m = L at *
    generalize wh c l p = z at *
    clear h hl hc hn hk hy hwk hz HQ
    go_enter Try.func11, Try.ntmps11
    go_wp2_with (first | (go_at_call 28; (with_reducible refine HC.out.mono ?_); rintro e w1 ⟨rfl, rfl⟩) | (go_at_call 17; (with_reducible refine HW.out.mono ?_); rintro e w1 ⟨rfl, rfl⟩) | (go_at_call 19; (with_reducible refine HM.out.mono ?_); rintro e w1 ⟨rfl, hb⟩; replace hb := Lib.hid hb) | (go_at_call 30; (with_reducible refine (HH.out _ hb.out).mono ?_); rintro e w2 ⟨rfl, hb2⟩; replace hb2 := Lib.hid (hb.out.trans (hb2.mono hb.out.size))) | (go_at_call 13; (with_reducible refine (HT.out _ hb2.out).mono ?_); rintro e w3 ⟨⟨bb, rfl⟩, HP⟩) | (go_at_call 9; (with_reducible refine HP.out.mono ?_); rintro e w4 ⟨rfl, HE⟩))
    go_ret2
    exact ⟨rfl, HE.out⟩
  · rw [hz] at HH
    rw [if_pos rfl, if_pos rfl, if_pos rfl]
    generalize wh c l p = z at *
    clear h hl hc hn hk hy hwk hz HT
    go_enter Try.func11, Try.ntmps11
    go_wp2_with (first | (go_at_call 28; (with_reducible refine HC.out.mono ?_); rintro e w1 ⟨rfl, rfl⟩) | (go_at_call 17; (with_reducible refine HW.out.mono ?_); rintro e w1 ⟨rfl, rfl⟩) | (go_at_call 19; (with_reducible refine HM.out.mono ?_); rintro e w1 ⟨rfl, hb⟩; replace hb := Lib.hid hb) | (go_at_call 30; (with_reducible refine (HH.out _ hb.out).mono ?_); rintro e w2 ⟨rfl, hb2⟩; replace hb2 := Lib.hid (hb.out.trans (hb2.mono hb.out.size))))
    go_ret2
    exact ⟨rfl, HQ.out _ hb2.out⟩
theorem move_any (h : Qs w q S c l) (hl : ∀ k, (l k).length ≤ 90000) (hc : 1 ≤ c) (p : Int) (m : Nat) (hm : m < 4294967296) : Calls Try.prog 11 #[pv q, .int .i64 p, uv m] w fun e w' => e = .returned (.tuple #[.int .i64 (mvR c l p m), .int .i64 (mvE c l p m)]) ∧ ∃ S', Kp S w w' ∧ Qs w' q S' c (mvL c l p m) ∧ ∀ j, S' j → S j ∨ w.heap.size ≤ j := by
  unfold mvR mvE mvL
  by_cases hn : mvN c l p m
  · rw [if_pos hn, if_pos hn, if_pos hn]
    refine (move_no h hc p m hm hn).mono ?_
    rintro e w' ⟨rfl, hb⟩
    exact ⟨rfl, S, kp_below hb, h.below hb, fun j e => .inl e⟩
  · rw [if_neg hn, if_neg hn, if_neg hn]
    exact move_some h hl hc p m hm hn
end Go.Proofs.Ytkjmpkoogjbjnaa.Quj
