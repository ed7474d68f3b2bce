/-
  Reap; Exit.
-/
import Derived.Test.YtkjcjodhpcfjiaaTeo
namespace Go.Proofs.Ytkjcjodhpcfjiaa.Tep
open Go Go.RowKit Go.Shelf Kit Bk Tea Teb Tec Ted Tee Tef Teg Teh Tei Tej Tek Tel Tem Ten Teo
set_option linter.unusedVariables false
attribute [local go_sem] Oper.semAt_some
attribute [local go_sem ↓] app_wrap

variable {B : Nat} {w W : World} {q b : Nat} {v : Value} {rm : Nat} {L M : St} {S : List Bool} {p : Int}
/-- Reap: what it leaves. -/
def rpL (L : St) (p : Int) : St := if (zb L p).2.2 = 0 then del L (zb L p).1 else L
theorem zb_ok (h : Up L) (e : (zb L p).2.2 = 0) : (gt L p).st = 1 ∧ hs L (zb L p).1 = true ∧ gt L (zb L p).1 = ⟨p, 2, (zb L p).2.1⟩ ∧ ∀ x, hs L x = true → (gt L x).par = p → (gt L x).st = 2 → (zb L p).1 ≤ x := by
  unfold zb at e ⊢
  by_cases h1 : (gt L p).st = 1
  · rw [if_pos h1] at e ⊢
    cases hf : zf L p with
    | none =>
      rw [hf] at e
      dsimp only at e
      split at e <;> cases e
    | some y =>
      dsimp only
      unfold zf at hf
      have hz2 := List.find?_some hf
      have hin := List.mem_of_find?_eq_some hf
      unfold kl at hin
      obtain ⟨hy, hpar⟩ := List.mem_filter.1 hin
      have hg := h.gt hy
      refine ⟨h1, hg.2, ?_, fun x hx hxp hxz => ?_⟩
      · rw [hg.1]
        obtain ⟨yp, ⟨a, c, d⟩⟩ := y
        simp only [beq_iff_eq] at hz2 hpar
        subst hz2 hpar
        rfl
      · have hxm : (x, gt L x) ∈ kl L p := List.mem_filter.2 ⟨mem_gt hx, by simpa using hxp⟩
        obtain ⟨_, i, hi, ey, hn⟩ := List.find?_eq_some_iff_getElem.1 hf
        obtain ⟨j, hj, ex⟩ := List.getElem_of_mem hxm
        have hup : Up (kl L p) := h.sub List.filter_sublist
        rcases Nat.lt_trichotomy j i with hji | rfl | hji
        · have := hn j hji
          rw [ex] at this
          simp [hxz] at this
        · rw [ex] at ey
          subst ey
          exact Int.le_refl _
        · have := List.pairwise_iff_getElem.1 hup i j hi hj hji
          rw [ey, ex] at this
          dsimp only at this
          omega
  · rw [if_neg h1] at e; cases e
theorem Okt.reap (h : Okt rm L S) (p : Int) : Okt rm (rpL L p) S := by
  unfold rpL
  by_cases e : (zb L p).2.2 = 0
  · rw [if_pos e]
    obtain ⟨_, h2, h3, _⟩ := zb_ok h.ok.up e
    exact h.same (h.ok.reap (by rw [h3])) (len_del _ _) (fun x hx => by rw [hs_del, Bool.and_eq_true] at hx; exact hx.2)
  · rw [if_neg e]; exact h
set_option maxRecDepth 100000 in
set_option maxHeartbeats 2000000 in
theorem reap_any (h : Tb B w q b v rm L S) (ho : Okt rm L S) (hp : (Lit.int .i64 p).wf = true) :
    Calls Try.prog 9 #[pv q, .int .i64 p] w fun e w' => e = .returned (.tuple #[.int .i64 (zb L p).1, uv (zb L p).2.1, .int .i64 (zb L p).2.2]) ∧ Tb B w' q b v rm (rpL L p) S ∧ Kp (fr q b v) w w' := by
  have HZ := Lib.hid (zombie_any h ho hp)
  unfold rpL
  by_cases e : (zb L p).2.2 = 0
  · rw [if_pos e]
    rw [e] at HZ ⊢
    obtain ⟨_, h2, _, _⟩ := zb_ok ho.ok.up e
    have hbd := ho.ok.pid _ h2
    have hwf := wf64 (p := (zb L p).1) (by omega)
    have HD := Lib.hid (fun W (hb : Below w.heap.size w W) => (h.below hb).map.del hwf ho.ok.up 0)
    have HT := Lib.hid (fun W (hb : Below w.heap.size w W) => h.below hb)
    have hw := h
    clear h ho e h2 hbd hwf hw
    generalize del L (zb L p).1 = M at *
    generalize (zb L p).1 = x at *
    generalize (zb L p).2.1 = y at *
    go_enter Try.func9, Try.ntmps9
    go_wp2_with (go_at_call 30; (with_reducible refine HZ.out.mono ?_); rintro e w1 ⟨rfl, hb⟩; have HB := Lib.hid hb; obtain ⟨w2, d1, d2, d3⟩ := HD.out w1 hb; have hc := (HT.out w1 hb).cell1; have HE := Lib.hid (And.intro (Tb.upd (HT.out w1 hb) d2 d3) ((Kp.of_below (S := fr q b v) hb).trans (d3.mono (fun j _ e => (.inr (.inl e) : fr q b v j))) (fun _ e => .inl e))); clear hb d2 d3)
    refine bodyPost_ret (results_tmp3 rfl _ _ _) rfl ?_
    exact ⟨rfl, HE.out.1, HE.out.2⟩
  · rw [if_neg e]
    have d1 : ((zb L p).2.2 == 0) = false := by simpa using e
    have HT := Lib.hid (fun W (hb : Below w.heap.size w W) => h.below hb)
    clear h ho e
    generalize (zb L p).2.2 = z at *
    generalize (zb L p).1 = x at *
    generalize (zb L p).2.1 = y at *
    go_enter Try.func9, Try.ntmps9
    go_wp2_with (go_at_call 30; (with_reducible refine HZ.out.mono ?_); rintro e w1 ⟨rfl, hb⟩; have HB := Lib.hid hb; clear hb)
    refine bodyPost_ret (results_tmp3 rfl _ _ _) rfl ?_
    exact ⟨rfl, HT.out _ HB.out, Kp.of_below HB.out⟩

/-- Exit. -/
def rpF (l : List Int) (x : Int) (r : Rc) : Rc := if x ∈ l then ⟨1, r.st, r.su⟩ else r
def orL (L : St) (l : List Int) : St := mp L (rpF l)
theorem hs_orL (L : St) (l : List Int) (x : Int) : hs (orL L l) x = hs L x := hs_mp _ _ _
theorem gt_orL {l : List Int} {x : Int} (hx : hs L x = true) : gt (orL L l) x = if x ∈ l then ⟨1, (gt L x).st, (gt L x).su⟩ else gt L x := by
  unfold orL
  rw [gt_mp, if_pos hx]
  rfl
theorem or_next (ho : Up L) {i : Nat} (hi : i < (kl L p).length) : (∀ x, hs (orL L ((kids L p).take (i + 1))) x = hs (orL L ((kids L p).take i)) x) ∧ ∀ x, hs (orL L ((kids L p).take i)) x = true → gt (orL L ((kids L p).take (i + 1))) x = if pd (kl L p) i = x then ⟨1, (rc (kl L p) i).st, (rc (kl L p) i).su⟩ else gt (orL L ((kids L p).take i)) x := by
  refine ⟨fun x => by rw [hs_orL, hs_orL], fun x hx => ?_⟩
  rw [hs_orL] at hx
  have hup : Up (kl L p) := ho.sub List.filter_sublist
  have hm : x ∈ (kids L p).take (i + 1) ↔ x ∈ (kids L p).take i ∨ x = pd (kl L p) i := by rw [kids_next hi, List.mem_append, List.mem_singleton]
  rw [gt_orL hx, gt_orL hx]
  by_cases e : pd (kl L p) i = x
  · rw [if_pos (hm.2 (.inr e.symm)), if_pos e]
    have h1 : (kl L p)[i] ∈ L := (List.mem_filter.1 (List.getElem_mem hi)).1
    have h2 := (ho.gt h1).1
    rw [← pd_at hi, e] at h2
    rw [h2, rc_at hi]
  · rw [if_neg e]
    by_cases e2 : x ∈ (kids L p).take i
    · rw [if_pos (hm.2 (.inl e2)), if_pos e2]
    · rw [if_neg (fun h => (hm.1 h).elim e2 (fun h => e h.symm)), if_neg e2]
/-- Who is looked at is not among those that were turned. -/
theorem or_look (ho : Up L) {k : Nat} (hk : k < L.length) : pd L k ∉ (kids L p).take (kc L p k) := by
  have e : (kids L p).take (kc L p k) = pids (kl (L.take k) p) := by
    have h1 : kl L p = kl (L.take k) p ++ kl (L.drop k) p := by rw [← kl_app, List.take_append_drop]
    rw [kids_kl, h1]
    unfold kc pids
    rw [List.map_append, List.take_append_of_le_length (by rw [List.length_map]; exact Nat.le_refl _), List.take_of_length_le (by rw [List.length_map]; exact Nat.le_refl _)]
  rw [e]
  intro hm
  obtain ⟨y, hy, e2⟩ := List.mem_map.1 hm
  have hy2 := (List.mem_filter.1 hy).1
  obtain ⟨j, hj, rfl⟩ := List.getElem_of_mem hy2
  rw [List.length_take] at hj
  rw [List.getElem_take, pd_at hk] at e2
  have := List.pairwise_iff_getElem.1 ho j k (by omega) hk (by omega)
  omega
theorem or_end (ho : Ok L) (hp : hs L p = true) (s : Nat) : (∀ x, hs (exL L p s) x = hs (orL L (kids L p)) x) ∧ ∀ x, hs (orL L (kids L p)) x = true → gt (exL L p s) x = if p = x then ⟨(gt (orL L (kids L p)) p).par, 2, s⟩ else gt (orL L (kids L p)) x := by
  have hk : ∀ x, hs L x = true → (x ∈ kids L p ↔ (gt L x).par = p) := fun x hx => by
    constructor
    · intro hm
      obtain ⟨y, hy, rfl⟩ := List.mem_map.1 hm
      obtain ⟨h1, h2⟩ := List.mem_filter.1 hy
      rw [(ho.up.gt h1).1]
      simpa using h2
    · intro e
      exact List.mem_map.2 ⟨_, List.mem_filter.2 ⟨mem_gt hx, by simpa using e⟩, rfl⟩
  have hn : (gt L p).par ≠ p := fun e => by
    obtain ⟨dp, _, _, d2, _⟩ := ho.depth
    have := d2 p hp
    rw [e] at this
    omega
  refine ⟨fun x => by rw [hs_orL, exL, hs_mp], fun x hx => ?_⟩
  rw [hs_orL] at hx
  rw [exL, gt_mp, if_pos hx, gt_orL hx, gt_orL hp, if_neg (fun h => hn ((hk p hp).1 h))]
  unfold exF
  by_cases e : x = p
  · subst e; rw [if_pos rfl, if_pos rfl]
  · rw [if_neg e, if_neg (Ne.symm e)]
    by_cases e2 : (gt L x).par = p
    · rw [if_pos e2, if_pos ((hk x hx).2 e2)]
    · rw [if_neg e2, if_neg (fun h => e2 ((hk x hx).1 h))]
theorem Okt.exit (h : Okt rm L S) (hz : fzB L p = true) {s : Nat} (hs1 : s < 4294967296) : Okt rm (exL L p s) S := by
  unfold fzB at hz
  simp only [Bool.and_eq_true, bne_iff_ne, beq_iff_eq] at hz
  exact h.same (h.ok.exit hz.2 hz.1 hs1) (Nat.le_of_eq (len_mp _ _)) (fun x hx => by rwa [exL, hs_mp] at hx)
end Go.Proofs.Ytkjcjodhpcfjiaa.Tep
