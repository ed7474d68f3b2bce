/-
  A map of wanted ticks; SleepWakes' plain words.
-/
import Derived.Test.YtpblnjphkgilfaaSls
namespace Go.Proofs.Ytpblnjphkgilfaa.Slt
open Go Go.RowKit Go.Shelf Kit Bk Sla Slb Slc Sld Sle Slf Slg Slh Sli Slj Slk Sll Sln Slo Slp Slq Slr Sls
open Go.Maps (Keyed)
set_option linter.unusedVariables false

theorem zeroI (w : World) : (zeroValue 3).run Try.prog w = .ok (.int .i64 0) w := by kernel_rfl
/-- The datum says what the list says. -/
def Al2 (D : DataW Unit) (L : St) : Prop := (∀ p : Int, Maps.has D (.int .i64 p) = slp L p) ∧ ∀ p : Int, D.atKey (.int .i64 p) (.lit (.int .i64 0)) = .lit (.int .i64 ((lft L p : Nat) : Int))
abbrev Ow2 (w : World) (b n : Nat) (D : DataW Unit) : Prop := w.ownsMap Try.prog 3 (plainElem Try.prog 3) b n D
theorem ow2_keys {w : World} {b n : Nat} {D : DataW Unit} {L : St} (h : Ow2 w b n D) (ha : Al2 D L) (hn : (pids L).Nodup) : (pids L).Perm (intKeys D) ∧ Maps.size D = L.length := by
  obtain ⟨es, hD, hpw, _⟩ := h.entries KI
  obtain ⟨es', hD', hk⟩ := h.keysOf
  obtain rfl : es = es' := by rw [hD] at hD'; simpa using hD'
  subst hD
  have hp : (pids L).Perm (intKeys (.map es)) := perm_intKeys hpw (fun p hp => by
    obtain ⟨key, hkey⟩ := hk p hp
    obtain ⟨x, _, hx, _⟩ := Maps.keyOf_i64 Try.underlying3 hkey
    exact ⟨x, hx⟩) hn (fun x => by rw [ha.1 x]; exact slp_mem.symm)
  refine ⟨hp, ?_⟩
  have := hp.length_eq
  simp [pids, intKeys] at this
  rw [Maps.size_eq, this]
theorem ow2_norm {w : World} {b n : Nat} {D : DataW Unit} {L : St} (h : Ow2 w b n D) (ha : Al2 D L) (hn : (pids L).Nodup) : Ow2 w b L.length D := by
  have hs := (ow2_keys h ha hn).2
  obtain ⟨es, clock, hb, F, _, hD⟩ := h
  refine ⟨es, clock, hb, F, ?_, hD⟩
  rw [← hs, hD]
  simp [Maps.size, length_sorted]
/-- A map with these entries. -/
def Mq (w : World) (b : Nat) (L : St) : Prop := ∃ D, Ow2 w b L.length D ∧ Al2 D L
theorem Mq.lt {w : World} {b : Nat} {L : St} (h : Mq w b L) : b < w.heap.size := by
  obtain ⟨D, h, _⟩ := h
  exact h.lt
theorem Mq.obj {w : World} {b : Nat} {L : St} (h : Mq w b L) : ∃ es clock, w.heap[b]? = some (.map es clock) := by
  obtain ⟨D, ⟨es, clock, h, _⟩, _⟩ := h
  exact ⟨es, clock, h⟩
theorem Mq.ne {w : World} {b g : Nat} {L : St} {cs : Array Value} {T : TypeId} (h : Mq w b L) (k : Blk w g cs T) : g ≠ b := fun e => by
  subst e
  obtain ⟨es, clock, h⟩ := h.obj
  rw [show w.heap[g]? = _ from k] at h
  cases h
theorem Mq.same {w w' : World} {b : Nat} {L : St} (h : Mq w b L) (e : w'.heap[b]? = w.heap[b]?) : Mq w' b L := by
  obtain ⟨D, ⟨es, clock, h1, h2⟩, h3⟩ := h
  exact ⟨D, ⟨es, clock, e.trans h1, h2⟩, h3⟩
theorem Mq.kept {S : Nat → Prop} {w w' : World} {b : Nat} {L : St} (h : Mq w b L) (hk : Kp S w w') (hS : ¬ S b) : Mq w' b L := h.same (hk.block b h.lt hS)
theorem Mq.below {w w' : World} {b : Nat} {L : St} (h : Mq w b L) (hb : Below w.heap.size w w') : Mq w' b L := h.same (hb.block b h.lt)
theorem al2_nil : Al2 (.map []) [] := ⟨fun _ => rfl, fun _ => rfl⟩
theorem Mq.made (w : World) : Mq (w.alloc (.map #[] 0)) w.heap.size [] := ⟨_, World.ownsMap_made w Try.prog 3 (plainElem Try.prog 3), al2_nil⟩
variable {w w' : World} {b : Nat} {L M : St} {p : Int}
theorem Mq.look1 (h : Mq w b L) (hp : (Lit.int .i64 p).wf = true) : (Instr.lookup 49 (.map (some b)) (.int .i64 p) false).run Try.prog w = .ok (.int .i64 ((lft L p : Nat) : Int)) w := by
  obtain ⟨D, h1, h2, h3⟩ := h
  obtain ⟨v, ps, q1, q2⟩ := h1.lookup KI Try.underlying49 (zeroI w) (zd := .lit (.int .i64 0)) (zp := []) (plainElem_int Try.underlying3 (by decide)) (keyI hp)
  obtain ⟨c, rfl, hc, hwc⟩ := plainElem_int_inv Try.underlying3 q2
  simp only [Prod.mk.injEq] at hc
  have hc := hc.1
  rw [h3 p] at hc
  simp at hc
  rw [q1, ← hc]
/-- A store. -/
theorem Mq.put (h : Mq w b L) (hl : L.length < 90000) (hp : (Lit.int .i64 p).wf = true) {n : Nat} (hn : n < 1000000) (hM : (pids M).Nodup) (m1 : ∀ q, slp M q = (p == q || slp L q)) (m2 : ∀ q, lft M q = if p = q then n else lft L q) :
    ∃ w', (Instr.mapUpdate 49 (.map (some b)) (.int .i64 p) (.int .i64 (n : Int))).run Try.prog w = .ok () w' ∧ Mq w' b M ∧ Kp (fun j => j = b) w w' := by
  obtain ⟨D, h1, h2, h3⟩ := h
  obtain ⟨w', q1, q2, q3⟩ := h1.update KI Try.underlying49 (by unfold maxLen; omega) (keyI hp) (plainElem_int (H := Unit) Try.underlying3 (wf64 (p := (n : Int)) ⟨by omega, by omega⟩))
  have ha : Al2 (D.put (.int .i64 p) (.lit (.int .i64 (n : Int)))) M := by
    refine ⟨fun q => ?_, fun q => ?_⟩
    · rw [m1 q]
      by_cases e : q = p
      · subst e; rw [Maps.has_put_same h1.isMap (isKey _)]; simp
      · rw [Maps.has_put_other (key_ne e), h2 q, show (p == q) = false from beq_eq_false_iff_ne.2 (Ne.symm e), Bool.false_or]
    · rw [m2 q]
      by_cases e : q = p
      · subst e; rw [Maps.atKey_put_same h1.isMap (isKey _), if_pos rfl]
      · rw [Maps.atKey_put_other (key_ne e), h3 q, if_neg (Ne.symm e)]
  exact ⟨w', q1, ⟨_, ow2_norm q2 ha hM, ha⟩, (Kp.of_grown q3).mono (fun j _ e => by cases e; rfl)⟩

theorem Mq.len (h : Mq w b L) (hn : (pids L).Nodup) (ty : TypeId) : (Builtin.len_ #[49] ty #[.map (some b)]).run Try.prog w = .ok (.int .i64 ((L.length : Nat) : Int)) w := by
  obtain ⟨D, h1, h2⟩ := h
  rw [h1.len Try.underlying49 ty, (ow2_keys h1 h2 hn).2]

/-- A pair's pid and ticks. -/
def pp (x : Pr) : Int := 1 + (x.1 : Int)
def pn (x : Pr) : Nat := 1 + x.2 % 60
def ad (l : List Pr) : St := l.foldl (fun L x => adL L (pp x) (pn x)) []
theorem ad_snoc (l : List Pr) (x : Pr) : ad (l ++ [x]) = adL (ad l) (pp x) (pn x) := by simp [ad]
theorem ad_next {l : List Pr} {i : Nat} (hi : i < l.length) : ad (l.take (i + 1)) = adL (ad (l.take i)) (pp l[i]) (pn l[i]) := by
  rw [List.take_succ_eq_append_getElem hi, ad_snoc]
theorem pn_lt (x : Pr) : 1 ≤ pn x ∧ pn x ≤ 60 := by unfold pn; omega
theorem ok_add (x : Pr) : ¬ (pp x < 1 ∨ pn x < 1) := by unfold pp pn; omega
/-- What holds of who was added: few ticks each, all that were handed in, each there. -/
theorem ad_all (l : List Pr) (hl : ∀ x ∈ l, x.1 < 256) : Ok (ad l) ∧ (∀ x ∈ ad l, x.2 ≤ 60) ∧ (∀ p, slp (ad l) p = true ↔ p ∈ l.map pp) ∧ (ad l).length ≤ l.length := by
  suffices H : ∀ (r : List Pr), (∀ x ∈ r, x.1 < 256) → Ok (ad r.reverse) ∧ (∀ x ∈ ad r.reverse, x.2 ≤ 60) ∧ (∀ p, slp (ad r.reverse) p = true ↔ p ∈ r.reverse.map pp) ∧ (ad r.reverse).length ≤ r.reverse.length by
    have := H l.reverse (fun x hx => hl x (List.mem_reverse.1 hx))
    simpa using this
  intro r
  induction r with
  | nil => intro _; exact ⟨ok_nil, by simp [ad], fun p => by simp [ad, slp], by simp [ad]⟩
  | cons x r ih =>
    intro hr
    obtain ⟨h1, h2, h3, h4⟩ := ih (fun y hy => hr y (List.mem_cons_of_mem _ hy))
    have hx := hr x List.mem_cons_self
    have hpx : pp x < 9223372036854775808 := by unfold pp; omega
    have hnx := pn_lt x
    rw [List.reverse_cons, ad_snoc]
    refine ⟨h1.adL hpx (by omega), fun y hy => ?_, fun p => ?_, ?_⟩
    · unfold adL at hy
      rw [if_neg (ok_add x)] at hy
      by_cases hs : slp (ad r.reverse) (pp x) = true
      · rw [if_pos hs] at hy; exact h2 y hy
      · rw [if_neg hs] at hy
        unfold ins at hy
        rcases List.mem_append.1 hy with hy | hy
        · exact h2 y (List.mem_filter.1 hy).1
        · rcases List.mem_cons.1 hy with rfl | hy
          · exact hnx.2
          · exact h2 y (List.mem_filter.1 hy).1
    · rw [List.map_append, List.mem_append, ← h3 p]
      unfold adL
      rw [if_neg (ok_add x)]
      by_cases hs : slp (ad r.reverse) (pp x) = true
      · rw [if_pos hs]
        constructor
        · exact .inl
        · rintro (h | h)
          · exact h
          · simp at h; subst h; exact hs
      · rw [if_neg hs, slp_ins]
        simp [Bool.or_eq_true]
        constructor
        · rintro (h | h)
          · exact .inr h.symm
          · exact .inl h
        · rintro (h | h)
          · exact .inr h
          · exact .inl h.symm
    · have := len_adL (ad r.reverse) (pp x) (pn x)
      rw [List.length_append, List.length_singleton]
      omega
/-- Those of some pids. -/
def tt (L : St) (ps : List Int) : St := L.filter fun x => ps.any fun p => p == x.1
theorem tt_nil (L : St) : tt L [] = [] := by unfold tt; simp
theorem slp_tt (L : St) (ps : List Int) (p : Int) : slp (tt L ps) p = ((ps.any fun q => q == p) && slp L p) := slp_filter (fun z => ps.any fun q => q == z) L p
theorem tt_ok {L : St} (h : Ok L) (ps : List Int) : Ok (tt L ps) := h.sub List.filter_sublist
theorem mem_lft {L : St} (ho : Ok L) {x : Sl} (hx : x ∈ L) : lft L x.1 = x.2 := by
  obtain ⟨A, R, rfl⟩ := List.append_of_mem hx
  have hn := ho.nodup
  have hp : pids (A ++ x :: R) = pids A ++ x.1 :: pids R := by simp [pids]
  rw [hp] at hn
  have hno : slp A x.1 = false := by
    cases e : slp A x.1
    · rfl
    · exact absurd rfl ((List.nodup_append.1 hn).2.2 _ (slp_mem.1 e) _ List.mem_cons_self)
  rw [lft_app, hno, lft_cons]
  simp
theorem tt_in {L : St} {ps : List Int} {p : Int} (h : (ps.any fun q => q == p) = true) : tt L (p :: ps) = tt L ps := by
  unfold tt
  apply List.filter_congr
  intro x hx
  rw [List.any_cons]
  by_cases e : p = x.1
  · subst e; rw [h]; simp
  · rw [show (p == x.1) = false from beq_eq_false_iff_ne.2 e, Bool.false_or]
theorem tt_new {L : St} (ho : Ok L) {ps : List Int} {p : Int} (hs : slp L p = true) (h : (ps.any fun q => q == p) = false) : tt L (p :: ps) = ins (tt L ps) p (lft L p) := by
  obtain ⟨x, hx, rfl⟩ := List.mem_map.1 (slp_mem.1 hs)
  rw [mem_lft ho hx]
  obtain ⟨A, R, rfl⟩ := List.append_of_mem hx
  obtain ⟨h1, h2, h3⟩ := List.pairwise_append.1 ho.up
  obtain ⟨h4, h5⟩ := List.pairwise_cons.1 h2
  have hA : ∀ y ∈ A, y.1 < x.1 := fun y hy => h3 y hy x List.mem_cons_self
  have e1 : tt (A ++ x :: R) ps = tt A ps ++ tt R ps := by
    unfold tt
    rw [List.filter_append, List.filter_cons, if_neg (by rw [h]; simp)]
  have hm : ∀ M : St, (∀ y ∈ M, y.1 ≠ x.1) → tt M (x.1 :: ps) = tt M ps := fun M hM => by
    unfold tt
    apply List.filter_congr
    intro y hy
    rw [List.any_cons, show (x.1 == y.1) = false from beq_eq_false_iff_ne.2 (Ne.symm (hM y hy)), Bool.false_or]
  have e2 : tt (A ++ x :: R) (x.1 :: ps) = tt A ps ++ x :: tt R ps := by
    have := hm A (fun y hy => by have := hA y hy; omega)
    have h6 := hm R (fun y hy => by have := h4 y hy; omega)
    rw [← this, ← h6]
    unfold tt
    rw [List.filter_append, List.filter_cons, if_pos (by simp)]
  rw [e1, e2]
  unfold ins
  have hA' : ∀ y ∈ tt A ps, y.1 < x.1 := fun y hy => hA y (List.mem_filter.1 hy).1
  have hR' : ∀ y ∈ tt R ps, x.1 < y.1 := fun y hy => h4 y (List.mem_filter.1 hy).1
  rw [(Slr.filter_lt hA' hR').1, (Slr.filter_lt hA' hR').2]
theorem tt_all {L : St} {ps : List Int} (h : ∀ x ∈ L, x.1 ∈ ps) : tt L ps = L := by
  unfold tt
  refine List.filter_eq_self.2 (fun x hx => ?_)
  rw [List.any_eq_true]
  exact ⟨x.1, h x hx, by simp⟩
/-- What an Add of one who is wanted leaves. -/
theorem tt_add {L : St} (ho : Ok L) {ps : List Int} {p : Int} (hs : slp L p = true) : adL (tt L ps) p (lft L p) = tt L (p :: ps) := by
  obtain ⟨x, hx, rfl⟩ := List.mem_map.1 (slp_mem.1 hs)
  have he := ho.each x hx
  have hl := mem_lft ho hx
  have hn : ¬ (x.1 < 1 ∨ lft L x.1 < 1) := by omega
  cases h : ps.any fun q => q == x.1
  · rw [tt_new ho hs h]
    exact (adE_new hn (by rw [slp_tt, h]; rfl)).2
  · rw [tt_in h]
    exact (adE_in hn (by rw [slp_tt, h, hs]; rfl)).2

/-- Those who sleep on behind j ticks. -/
def dz (L : St) (j : Nat) : St := (L.filter fun x => decide (j < x.2)).map fun x => (x.1, x.2 - j)
theorem dz_zero {L : St} (h : ∀ x ∈ L, 1 ≤ x.2) : dz L 0 = L := by
  unfold dz
  rw [List.filter_eq_self.2 (fun x hx => by have := h x hx; simp; omega)]
  simp
theorem tk_dz (L : St) (j : Nat) : tkW (dz L j) = fs (j + 1) L ∧ tkL (dz L j) = dz L (j + 1) := by
  unfold tkW tkL dz fs
  induction L with
  | nil => exact ⟨rfl, rfl⟩
  | cons x L ih =>
    obtain ⟨h1, h2⟩ := ih
    rcases Nat.lt_trichotomy x.2 (j + 1) with h | h | h
    · have e1 : decide (j < x.2) = false := decide_eq_false (by omega)
      have e2 : decide (j + 1 < x.2) = false := decide_eq_false (by omega)
      have e3 : (x.2 == j + 1) = false := beq_eq_false_iff_ne.2 (by omega)
      simp only [List.filter_cons, e1, e2, e3, Bool.false_eq_true, if_false]
      exact ⟨h1, h2⟩
    · have e1 : decide (j < x.2) = true := decide_eq_true (by omega)
      have e2 : decide (j + 1 < x.2) = false := decide_eq_false (by omega)
      have e3 : (x.2 == j + 1) = true := beq_iff_eq.2 h
      have e4 : (x.2 - j == 1) = true := beq_iff_eq.2 (by omega)
      have e5 : (x.2 - j != 1) = false := by rw [bne, e4]; rfl
      simp only [List.filter_cons, e1, e2, e3, e4, e5, Bool.false_eq_true, if_false, if_true, List.map_cons]
      exact ⟨by rw [h1], h2⟩
    · have e1 : decide (j < x.2) = true := decide_eq_true (by omega)
      have e2 : decide (j + 1 < x.2) = true := decide_eq_true (by omega)
      have e3 : (x.2 == j + 1) = false := beq_eq_false_iff_ne.2 (by omega)
      have e4 : (x.2 - j == 1) = false := beq_eq_false_iff_ne.2 (by omega)
      have e5 : (x.2 - j != 1) = true := by rw [bne, e4]; rfl
      simp only [List.filter_cons, e1, e2, e3, e4, e5, Bool.false_eq_true, if_false, if_true, List.map_cons]
      exact ⟨h1, by rw [h2, show x.2 - j - 1 = x.2 - (j + 1) by omega]⟩
/-- How many wake with the first j ticks. -/
def ct (L : St) (j : Nat) : Nat := (L.filter fun x => decide (x.2 ≤ j)).length
theorem ct_zero {L : St} (h : ∀ x ∈ L, 1 ≤ x.2) : ct L 0 = 0 := by
  unfold ct
  rw [List.filter_eq_nil_iff.2 (fun x hx => by have := h x hx; simp; omega)]
  rfl
theorem ct_next (L : St) (j : Nat) : ct L (j + 1) = ct L j + (fs (j + 1) L).length := by
  unfold ct fs
  rw [List.length_map]
  induction L with
  | nil => rfl
  | cons x L ih =>
    rcases Nat.lt_trichotomy x.2 (j + 1) with h | h | h
    · have e1 : decide (x.2 ≤ j) = true := decide_eq_true (by omega)
      have e2 : decide (x.2 ≤ j + 1) = true := decide_eq_true (by omega)
      have e3 : (x.2 == j + 1) = false := beq_eq_false_iff_ne.2 (by omega)
      simp only [List.filter_cons, e1, e2, e3, Bool.false_eq_true, if_false, if_true, List.length_cons]
      omega
    · have e1 : decide (x.2 ≤ j) = false := decide_eq_false (by omega)
      have e2 : decide (x.2 ≤ j + 1) = true := decide_eq_true (by omega)
      have e3 : (x.2 == j + 1) = true := beq_iff_eq.2 h
      simp only [List.filter_cons, e1, e2, e3, Bool.false_eq_true, if_false, if_true, List.length_cons]
      omega
    · have e1 : decide (x.2 ≤ j) = false := decide_eq_false (by omega)
      have e2 : decide (x.2 ≤ j + 1) = false := decide_eq_false (by omega)
      have e3 : (x.2 == j + 1) = false := beq_eq_false_iff_ne.2 (by omega)
      simp only [List.filter_cons, e1, e2, e3, Bool.false_eq_true, if_false]
      exact ih
theorem ct_end {L : St} (h : ∀ x ∈ L, x.2 ≤ 60) : ct L 60 = L.length ∧ dz L 60 = [] := by
  constructor
  · unfold ct
    rw [List.filter_eq_self.2 (fun x hx => by simpa using h x hx)]
  · unfold dz
    rw [List.filter_eq_nil_iff.2 (fun x hx => by have := h x hx; simp; omega)]
    rfl
theorem ct_le (L : St) (j : Nat) : ct L j ≤ L.length := List.length_filter_le _ _
/-- Who wakes is wanted then; they rise. -/
theorem fs_want {L : St} (ho : Ok L) {n k : Nat} (hk : k < (fs n L).length) : lft L (fs n L)[k] = n ∧ (Lit.int .i64 (fs n L)[k]).wf = true := by
  have hm := List.getElem_mem hk
  unfold fs at hm
  obtain ⟨x, hx, e⟩ := List.mem_map.1 hm
  obtain ⟨h1, h2⟩ := List.mem_filter.1 hx
  have h3 := ho.each x h1
  have e2 : (fs n L)[k] = x.1 := by rw [e]; rfl
  rw [e2]
  exact ⟨by rw [mem_lft ho h1]; simpa using h2, wf64 (by omega)⟩
theorem fs_up {L : St} (ho : Ok L) {n k : Nat} (hk : k + 1 < (fs n L).length) : (fs n L)[k]'(by omega) < (fs n L)[k + 1] := by
  have h : (fs n L).Pairwise (· < ·) := by
    unfold fs
    exact List.pairwise_map.2 ((ho.up.sublist List.filter_sublist).imp (fun h => h))
  exact List.pairwise_iff_getElem.1 h k (k + 1) (by omega) hk (Nat.lt_succ_self _)
end Go.Proofs.Ytpblnjphkgilfaa.Slt
