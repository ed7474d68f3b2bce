/-
  Place.
-/
import Derived.Test.YtkjmpkoogjbjnaaQug
namespace Go.Proofs.Ytkjmpkoogjbjnaa.Quh
open Go Go.RowKit Go.Shelf Kit Bk Qua Qub Quc Qud Que Quf Qug
set_option linter.unusedVariables false
attribute [local go_sem ↓] app_wrap

abbrev uv (m : Nat) : Value := .int .u32 (m : Int)
abbrev pv (q : Nat) : Value := .pointer (some ⟨q, 0, none⟩)
theorem place_none (w : World) (ad : Option Addr) (p z : Int) (m : Nat) (hC : Cs w.heap.size w ad 0) : Calls Try.prog 9 #[.pointer ad, .int .i64 p, .int .i64 z, uv m] w fun e w' => e = .returned (.tuple #[.int .i64 0, .int .i64 1]) ∧ w = w' := by
  have HC := Lib.hid (hC w (Below.refl _ _))
  clear hC
  go_enter Try.func9, Try.ntmps9
  go_wp2_with (go_at_call 28; (with_reducible refine HC.out.mono ?_); rintro e w1 ⟨rfl, rfl⟩)
  go_ret2
  exact ⟨rfl, rfl⟩
variable {w : World} {q c : Nat} {S : Nat → Prop} {l : Ls}
theorem place_arg (h : Qs w q S c l) (hc : 1 ≤ c) (p z : Int) (m : Nat) (hp : p < 1) : Calls Try.prog 9 #[pv q, .int .i64 p, .int .i64 z, uv m] w fun e w' => e = .returned (.tuple #[.int .i64 0, .int .i64 2]) ∧ w = w' := by
  have HC := Lib.hid (cores_any w h)
  have d0 : ((c : Int) == 0) = false := by simp; omega
  have d1 : decide (p < 1) = true := decide_eq_true hp
  clear h hp hc
  go_enter Try.func9, Try.ntmps9
  go_wp2_with (go_at_call 28; (with_reducible refine HC.out.mono ?_); rintro e w1 ⟨rfl, rfl⟩)
  go_ret2
  exact ⟨rfl, rfl⟩
theorem place_in (h : Qs w q S c l) (hc : 1 ≤ c) (p z : Int) (m k : Nat) (hp : 1 ≤ p) (hk : whN c l p = some k) : Calls Try.prog 9 #[pv q, .int .i64 p, .int .i64 z, uv m] w fun e w' => e = .returned (.tuple #[.int .i64 0, .int .i64 130]) ∧ w = w' := by
  have HC := Lib.hid (cores_any w h)
  have HW := where_any w q c S l p h
  rw [wh_eq_some hk] at HW
  replace HW := Lib.hid HW
  have d0 : ((c : Int) == 0) = false := by simp; omega
  have d1 : decide (p < 1) = false := decide_eq_false (by omega)
  have d2 : decide ((0 : Int) ≤ (k : Int)) = true := decide_eq_true (by omega)
  clear h hp hc hk
  go_enter Try.func9, Try.ntmps9
  go_wp2_with (first | (go_at_call 28; (with_reducible refine HC.out.mono ?_); rintro e w1 ⟨rfl, rfl⟩) | (go_at_call 17; (with_reducible refine HW.out.mono ?_); rintro e w1 ⟨rfl, rfl⟩))
  go_ret2
  exact ⟨rfl, rfl⟩
theorem place_no (h : Qs w q S c l) (hc : 1 ≤ c) (p z : Int) (m : Nat) (hm : m < 4294967296) (hp : 1 ≤ p) (hk : whN c l p = none) (hy : may c m = false) : Calls Try.prog 9 #[pv q, .int .i64 p, .int .i64 z, uv m] w fun e w' => e = .returned (.tuple #[.int .i64 0, .int .i64 130]) ∧ Below w.heap.size w w' := by
  have HC := Lib.hid (cores_any w h)
  have HW := where_any w q c S l p h
  rw [wh_eq_none hk] at HW
  replace HW := Lib.hid HW
  have HM := may_any _ c m h.c8 hm (lens l) w (cs_qs h) (lens_qs h)
  rw [hy] at HM
  replace HM := Lib.hid HM
  have d0 : ((c : Int) == 0) = false := by simp; omega
  have d1 : decide (p < 1) = false := decide_eq_false (by omega)
  clear h hp hc hk hy
  go_enter Try.func9, Try.ntmps9
  go_wp2_with (first | (go_at_call 28; (with_reducible refine HC.out.mono ?_); rintro e w1 ⟨rfl, rfl⟩) | (go_at_call 17; (with_reducible refine HW.out.mono ?_); rintro e w1 ⟨rfl, rfl⟩) | (go_at_call 19; (with_reducible refine HM.out.mono ?_); rintro e w1 ⟨rfl, hb⟩; replace hb := Lib.hid hb))
  go_ret2
  exact ⟨rfl, hb.out⟩
/-- What an append to queue k leaves. -/
theorem put_at (h : Qs w q S c l) (hl : ∀ k, (l k).length ≤ 90000) (p : Int) (k : Nat) (hk : k < 8) :
    ∃ (a : Option Addr) (n : Nat) (xa : Option Addr) (xn xc : Nat) (w4 : World), w.cell? ⟨q, 1 + k, none⟩ = some (.slice a (l k).length n) ∧ (appO #[44, 44] 44 #[.slice a (l k).length n, .slice (some ⟨w.heap.size, 0, none⟩) 1 1]).run Try.prog (w.alloc (.cells #[.int .i64 p] 3)) = .ok (.slice xa xn xc) w4 ∧
      w4.cell? ⟨q, 1 + k, none⟩ = some (.slice a (l k).length n) ∧ w4.frozen? ⟨q, 1 + k, none⟩ = false ∧ ∃ S', Kp S w (w4.setCell ⟨q, 1 + k, none⟩ (.slice xa xn xc)) ∧ Qs (w4.setCell ⟨q, 1 + k, none⟩ (.slice xa xn xc)) q S' c (up l k (l k ++ [p])) ∧ ∀ j, S' j → S j ∨ w.heap.size ≤ j := by
  obtain ⟨vs, G, h⟩ := h
  obtain ⟨a, n, e, _⟩ := (h.row k hk).form
  obtain ⟨v', w4, G', q1, q2, q3, q4⟩ := app_one w _ _ _ p (h.row k hk) (hl k)
  have hs := set_row h hk v' G' _ q3 q2 (q4.imp id fun e => ⟨_, e, Nat.le_succ _⟩)
  have ck := h.ck k hk
  obtain ⟨xa, xc, e2, _⟩ := q2.form
  rw [e2] at q1 hs
  rw [e] at q1 hs ck
  exact ⟨a, n, xa, _, xc, w4, ck, q1, hs⟩

set_option maxHeartbeats 1000000 in
theorem place_at (h : Qs w q S c l) (hl : ∀ k, (l k).length ≤ 90000) (hc : 1 ≤ c) (p : Int) (T m : Nat) (hm : m < 4294967296) (hp : 1 ≤ p) (hk : whN c l p = none) (hT : hasC c m (T : Int) = true) :
    Calls Try.prog 9 #[pv q, .int .i64 p, .int .i64 (T : Int), uv m] w fun e w' => e = .returned (.tuple #[.int .i64 (T : Int), .int .i64 0]) ∧ ∃ S', Kp S w w' ∧ Qs w' q S' c (up l T (l T ++ [p])) ∧ ∀ j, S' j → S j ∨ w.heap.size ≤ j := by
  have HC := Lib.hid (cores_any w h)
  have HW := where_any w q c S l p h
  rw [wh_eq_none hk] at HW
  replace HW := Lib.hid HW
  have hy : may c m = true := by
    obtain ⟨k, h1, h2, h3⟩ := hasC_iff.1 hT
    unfold may
    cases e : ws c m with
    | nil => have := ws_mem.2 ⟨h1, h2⟩; rw [e] at this; simp at this
    | cons a r => rfl
  have hT8 : T < 8 := by
    obtain ⟨k, h1, h2, h3⟩ := hasC_iff.1 hT
    have := h.c8
    omega
  have HM := may_any _ c m h.c8 hm (lens l) w (cs_qs h) (lens_qs h)
  rw [hy] at HM
  replace HM := Lib.hid HM
  have HH : Hid (∀ w1, Below w.heap.size w w1 → Calls Try.prog 30 #[pv q, uv m, .int .i64 (T : Int)] w1 fun e w' => e = .returned (.bool true) ∧ Below w1.heap.size w1 w') := Lib.hid (fun w1 hb => by
    have := has_any _ c m h.c8 hm (T : Int) w1 (cs_qs (h.below hb))
    rw [hT] at this
    exact this)
  have d0 : ((c : Int) == 0) = false := by simp; omega
  have d1 : decide (p < 1) = false := decide_eq_false (by omega)
  have hTI : (T : Int) < 8 := by omega
  clear hp hc hk hy hT
  go_enter Try.func9, Try.ntmps9
  go_wp2_with (first | (go_at_call 28; (with_reducible refine HC.out.mono ?_); rintro e w1 ⟨rfl, rfl⟩) | (go_at_call 17; (with_reducible refine HW.out.mono ?_); rintro e w1 ⟨rfl, rfl⟩) | (go_at_call 19; (with_reducible refine HM.out.mono ?_); rintro e w1 ⟨rfl, hb⟩; replace hb := Lib.hid hb) | (go_at_call 30; (with_reducible refine (HH.out _ hb.out).mono ?_); rintro e w5 ⟨rfl, hb2⟩; replace hb2 := Lib.hid hb2))
  have hb5 := hb.out.trans (hb2.out.mono hb.out.size)
  have h5 := (h.below hb5).below (Below.refl _ _).drew
  obtain ⟨a, n, xa, xn, xc, w4, ck, q1, d4, f4, S', hk4, hq4, hn4⟩ := put_at h5 hl p T hT8
  obtain ⟨vs, G, hv5⟩ := h5
  have hqlt : q < w5.heap.size := hv5.blk.lt
  have c0 : w5.cell? ⟨q, 1 + T, none⟩ = some (.slice a (l T).length n) := ck
  have c0a : ∀ o, (w5.alloc o).cell? ⟨q, 1 + T, none⟩ = some (.slice a (l T).length n) := fun o => (World.cell?_alloc_lt w5 o _ hqlt).trans c0
  have c0d : ∀ o, (w5.drew.alloc o).cell? ⟨q, 1 + T, none⟩ = some (.slice a (l T).length n) := fun o => (World.cell?_alloc_lt w5.drew o _ hqlt).trans c0
  have q1' : (appO #[44, 44] 44 #[.slice a (l T).length n, .slice (some ⟨w5.heap.size, 0, none⟩) 1 1]).run Try.prog (w5.alloc (.cells #[.int .i64 p] 3)).drew = .ok (.slice xa xn xc) w4 := q1
  have HE : Hid (∃ S', Kp S w (w4.setCell ⟨q, 1 + T, none⟩ (.slice xa xn xc)) ∧ Qs (w4.setCell ⟨q, 1 + T, none⟩ (.slice xa xn xc)) q S' c (up l T (l T ++ [p])) ∧ ∀ j, S' j → S j ∨ w.heap.size ≤ j) := Lib.hid ⟨S', (kp_below hb5).trans ((Kp.of_below (Below.refl _ _).drew).trans hk4 (fun _ e => .inl e)) (fun _ e => .inl e), hq4, fun j hj => (hn4 j hj).imp id fun e => Nat.le_trans hb5.size e⟩
  generalize (l T).length = n4 at *
  clear q1 hk4 hq4 hn4 ck hv5 hqlt hb5 h hl
  go_region
  go_wp2
  go_ret2
  exact ⟨rfl, HE.out⟩

set_option maxHeartbeats 1000000 in
theorem place_few (h : Qs w q S c l) (hl : ∀ k, (l k).length ≤ 90000) (hc : 1 ≤ c) (p z : Int) (T m : Nat) (hm : m < 4294967296) (hp : 1 ≤ p) (hk : whN c l p = none) (hz : hasC c m z = false) (hT : fewN c m (lens l) = some T) :
    Calls Try.prog 9 #[pv q, .int .i64 p, .int .i64 z, uv m] w fun e w' => e = .returned (.tuple #[.int .i64 (T : Int), .int .i64 0]) ∧ ∃ S', Kp S w w' ∧ Qs w' q S' c (up l T (l T ++ [p])) ∧ ∀ j, S' j → S j ∨ w.heap.size ≤ j := by
  have HC := Lib.hid (cores_any w h)
  have HW := where_any w q c S l p h
  rw [wh_eq_none hk] at HW
  replace HW := Lib.hid HW
  have hy : may c m = true := by rw [may_iff (n := lens l), hT]; rfl
  have hT8 : T < 8 := by
    have := (ws_mem.1 (few_some hT).1).1
    have := h.c8
    omega
  have HM := may_any _ c m h.c8 hm (lens l) w (cs_qs h) (lens_qs h)
  rw [hy] at HM
  replace HM := Lib.hid HM
  have HH : Hid (∀ w1, Below w.heap.size w w1 → Calls Try.prog 30 #[pv q, uv m, .int .i64 z] w1 fun e w' => e = .returned (.bool false) ∧ Below w1.heap.size w1 w') := Lib.hid (fun w1 hb => by
    have := has_any _ c m h.c8 hm z w1 (cs_qs (h.below hb))
    rw [hz] at this
    exact this)
  have HF : Hid (∀ w1, Below w.heap.size w w1 → Calls Try.prog 31 #[pv q, uv m] w1 fun e w' => e = .returned (.int .i64 (T : Int)) ∧ Below w1.heap.size w1 w') := Lib.hid (fun w1 hb => by
    have := fewest_any _ c m h.c8 hm (lens l) w1 (cs_qs (h.below hb)) (lens_qs (h.below hb))
    rw [few_eq_some hT] at this
    exact this)
  have d0 : ((c : Int) == 0) = false := by simp; omega
  have d1 : decide (p < 1) = false := decide_eq_false (by omega)
  have hTI : (T : Int) < 8 := by omega
  clear hp hc hk hy hT hz
  go_enter Try.func9, Try.ntmps9
  go_wp2_with (first | (go_at_call 28; (with_reducible refine HC.out.mono ?_); rintro e w1 ⟨rfl, rfl⟩) | (go_at_call 17; (with_reducible refine HW.out.mono ?_); rintro e w1 ⟨rfl, rfl⟩) | (go_at_call 19; (with_reducible refine HM.out.mono ?_); rintro e w1 ⟨rfl, hb⟩; replace hb := Lib.hid hb) | (go_at_call 30; (with_reducible refine (HH.out _ hb.out).mono ?_); rintro e w3 ⟨rfl, hb2⟩; have hb23 := hb.out.trans (hb2.mono hb.out.size); replace hb23 := Lib.hid hb23; clear hb2) | (go_at_call 31; (with_reducible refine (HF.out _ hb23.out).mono ?_); rintro e w5 ⟨rfl, hb4⟩; replace hb4 := Lib.hid hb4))
  have hb5 := hb23.out.trans (hb4.out.mono hb23.out.size)
  have h5 := (h.below hb5).below (Below.refl _ _).drew
  obtain ⟨a, n, xa, xn, xc, w4, ck, q1, d4, f4, S', hk4, hq4, hn4⟩ := put_at h5 hl p T hT8
  obtain ⟨vs, G, hv5⟩ := h5
  have hqlt : q < w5.heap.size := hv5.blk.lt
  have c0 : w5.cell? ⟨q, 1 + T, none⟩ = some (.slice a (l T).length n) := ck
  have c0a : ∀ o, (w5.alloc o).cell? ⟨q, 1 + T, none⟩ = some (.slice a (l T).length n) := fun o => (World.cell?_alloc_lt w5 o _ hqlt).trans c0
  have c0d : ∀ o, (w5.drew.alloc o).cell? ⟨q, 1 + T, none⟩ = some (.slice a (l T).length n) := fun o => (World.cell?_alloc_lt w5.drew o _ hqlt).trans c0
  have q1' : (appO #[44, 44] 44 #[.slice a (l T).length n, .slice (some ⟨w5.heap.size, 0, none⟩) 1 1]).run Try.prog (w5.alloc (.cells #[.int .i64 p] 3)).drew = .ok (.slice xa xn xc) w4 := q1
  have HE : Hid (∃ S', Kp S w (w4.setCell ⟨q, 1 + T, none⟩ (.slice xa xn xc)) ∧ Qs (w4.setCell ⟨q, 1 + T, none⟩ (.slice xa xn xc)) q S' c (up l T (l T ++ [p])) ∧ ∀ j, S' j → S j ∨ w.heap.size ≤ j) := Lib.hid ⟨S', (kp_below hb5).trans ((Kp.of_below (Below.refl _ _).drew).trans hk4 (fun _ e => .inl e)) (fun _ e => .inl e), hq4, fun j hj => (hn4 j hj).imp id fun e => Nat.le_trans hb5.size e⟩
  generalize (l T).length = n4 at *
  clear q1 hk4 hq4 hn4 ck hv5 hqlt hb5 h hl
  go_region
  go_wp2
  go_ret2
  exact ⟨rfl, HE.out⟩

theorem hasC_int {z : Int} {m : Nat} (h : hasC c m z = true) : ((z.toNat : Nat) : Int) = z := by
  obtain ⟨k, _, _, h3⟩ := hasC_iff.1 h
  omega
/-- Place, whatever is asked. -/
theorem place_any (h : Qs w q S c l) (hl : ∀ k, (l k).length ≤ 90000) (hc : 1 ≤ c) (p z : Int) (m : Nat) (hm : m < 4294967296) :
    Calls Try.prog 9 #[pv q, .int .i64 p, .int .i64 z, uv m] w fun e w' => e = .returned (.tuple #[.int .i64 (plR c l p z m), .int .i64 (plE c l p m)]) ∧ ∃ S', Kp S w w' ∧ Qs w' q S' c (plL c l p z m) ∧ ∀ j, S' j → S j ∨ w.heap.size ≤ j := by
  have same : ∀ E : Int, E ≠ 0 → plE c l p m = E → (Calls Try.prog 9 #[pv q, .int .i64 p, .int .i64 z, uv m] w fun e w' => e = .returned (.tuple #[.int .i64 0, .int .i64 E]) ∧ Below w.heap.size w w') →
      Calls Try.prog 9 #[pv q, .int .i64 p, .int .i64 z, uv m] w fun e w' => e = .returned (.tuple #[.int .i64 (plR c l p z m), .int .i64 (plE c l p m)]) ∧ ∃ S', Kp S w w' ∧ Qs w' q S' c (plL c l p z m) ∧ ∀ j, S' j → S j ∨ w.heap.size ≤ j := by
    intro E hE he hcall
    have e1 : plR c l p z m = 0 := by unfold plR; rw [he, if_neg hE]
    have e2 : plL c l p z m = l := by unfold plL; rw [he, if_neg hE]
    rw [e1, e2, he]
    refine hcall.mono ?_
    rintro e w' ⟨rfl, hb⟩
    exact ⟨rfl, S, kp_below hb, h.below hb, fun j hj => .inl hj⟩
  by_cases hp : p < 1
  · refine same 2 (by decide) (by unfold plE; rw [if_pos hp]) ((place_arg h hc p z m hp).mono ?_)
    rintro e w' ⟨rfl, rfl⟩
    exact ⟨rfl, Below.refl _ _⟩
  · cases hk : whN c l p with
    | some k =>
      refine same 130 (by decide) (by unfold plE; rw [if_neg hp, hk]; simp) ((place_in h hc p z m k (by omega) hk).mono ?_)
      rintro e w' ⟨rfl, rfl⟩
      exact ⟨rfl, Below.refl _ _⟩
    | none =>
      cases hy : may c m
      · exact same 130 (by decide) (by unfold plE; rw [if_neg hp, hk, hy]; simp) (place_no h hc p z m hm (by omega) hk hy)
      · have e0 : plE c l p m = 0 := by unfold plE; rw [if_neg hp, hk, hy]; simp
        have e1 : plR c l p z m = (plT c l z m : Int) := by unfold plR; rw [e0, if_pos rfl]
        have e2 : plL c l p z m = up l (plT c l z m) (l (plT c l z m) ++ [p]) := by unfold plL; rw [e0, if_pos rfl]
        rw [e0, e1, e2]
        cases hz : hasC c m z
        · rw [may_iff (n := lens l)] at hy
          obtain ⟨T, hT⟩ := Option.isSome_iff_exists.1 hy
          have e3 : plT c l z m = T := by unfold plT; rw [hz, hT]; rfl
          rw [e3]
          exact place_few h hl hc p z T m hm (by omega) hk hz hT
        · have e3 : plT c l z m = z.toNat := by unfold plT; rw [hz, if_pos rfl]
          have ez := hasC_int hz
          rw [e3]
          rw [← ez] at hz ⊢
          exact place_at h hl hc p _ m hm (by omega) hk hz
end Go.Proofs.Ytkjmpkoogjbjnaa.Quh
