/-
  Plain words: how the document takes a line apart, letter by letter of what an instruction names, is how the plain word parses it.
-/
import Derived.Test.YtocbilaaklapkaaDoorRd
import Derived.Test.YtocbilaaklapkaaDoorRs
import Derived.Test.YtocbilaaklapkaaDoorRb0
namespace Go.Proofs.YtocbilaaklapkaaDoor.Tkp
open Go IsaM IsaN IsaO IsaR IsaI Ra Rb0 Rd
set_option linter.unusedVariables false

open Classical in
/-- The number that a text is the numeral of, ten bytes at most. -/
noncomputable def numOf (t : Tx) : Option Int := if h : ∃ x, Lib.itoa x = t ∧ t.length ≤ 10 then some h.choose else none
theorem itoa_inj {x y : Int} (h : Lib.itoa x = Lib.itoa y) : x = y := by
  by_cases hv : y < 0
  · obtain ⟨u, rfl⟩ : ∃ u : Nat, y = -(u : Int) := ⟨y.natAbs, by omega⟩
    rw [Lib.itoa_neg u (by omega)] at h
    obtain ⟨v, rfl, hd⟩ := itoa_minus h
    have h1 := dd_val u
    rw [hd, dd_val] at h1
    rw [h1]
  · obtain ⟨u, rfl⟩ := Int.eq_ofNat_of_zero_le (show 0 ≤ y by omega)
    rw [Lib.itoa_nonneg] at h
    obtain ⟨c, r, hd, hc⟩ := dd_first u
    obtain ⟨v, rfl, hv2⟩ := itoa_plus h (by
      rw [hd]
      intro e
      have := Option.some.inj e
      subst this
      exact absurd hc (by decide))
    have h1 := dd_val u
    rw [hv2, dd_val] at h1
    rw [h1]
theorem numOf_some {t : Tx} {v : Int} (h : numOf t = some v) : Lib.itoa v = t ∧ t.length ≤ 10 := by
  unfold numOf at h
  split at h
  · rename_i hx
    have := hx.choose_spec
    rw [Option.some.inj h] at this
    exact this
  · cases h
theorem numOf_mk {t : Tx} {v : Int} (h : Lib.itoa v = t) (hl : t.length ≤ 10) : numOf t = some v := by
  unfold numOf
  have hx : ∃ x, Lib.itoa x = t ∧ t.length ≤ 10 := ⟨v, h, hl⟩
  rw [dif_pos hx]
  exact congrArg some (itoa_inj (hx.choose_spec.1.trans h.symm))
theorem numOf_none {t : Tx} (h : ∀ x, Lib.itoa x = t → t.length ≤ 10 → False) : numOf t = none := by
  cases hn : numOf t with
  | none => rfl
  | some v => exact (h v (numOf_some hn).1 (numOf_some hn).2).elim
/-- What number's answer says. -/
theorem numR_of {t : Tx} {v : Int} {ok : Bool} (h : NumR t v ok) : (ok = true ∧ numOf t = some v) ∨ (ok = false ∧ numOf t = none) := by
  cases ok with
  | true => exact .inl ⟨rfl, numOf_mk (h.1 rfl).1 (h.1 rfl).2.2.2⟩
  | false => exact .inr ⟨rfl, numOf_none fun x hx hl => by have := h.2 x hx hl; cases this⟩
theorem itoa_short {v : Int} (h0 : -32768 ≤ v) (h1 : v ≤ 32768) : (Lib.itoa v).length ≤ 10 := by
  by_cases hv : v < 0
  · obtain ⟨u, rfl⟩ : ∃ u : Nat, v = -(u : Int) := ⟨v.natAbs, by omega⟩
    rw [Lib.itoa_neg u (by omega), List.length_cons]
    have := IsaO.dd_len 4 u (by omega)
    omega
  · obtain ⟨u, rfl⟩ := Int.eq_ofNat_of_zero_le (show 0 ≤ v by omega)
    rw [Lib.itoa_nonneg]
    have := IsaO.dd_len 4 u (by omega)
    omega
theorem whole_range {t : Tx} {v : Int} (h : whole t = some v) : -32768 ≤ v ∧ v ≤ 32768 := by
  unfold whole at h
  split at h
  · split at h
    · cases h
    · split at h
      · cases h
      · cases h; omega
  · split at h
    · cases h
    · split at h
      · cases h
      · cases h; omega
theorem whole_iff (t : Tx) (v : Int) : whole t = some v ↔ numOf t = some v ∧ -32768 ≤ v ∧ v ≤ 32768 := by
  constructor
  · intro h
    have hr := whole_range h
    have ht := whole_inv h
    exact ⟨numOf_mk ht.symm (by rw [ht]; exact itoa_short hr.1 hr.2), hr⟩
  · rintro ⟨h, h0, h1⟩
    rw [← (numOf_some h).1]
    exact whole_itoa h0 h1
theorem nm_none {t : Tx} (h : isNm t = true) : numOf t = none := numOf_none fun x hx _ => by
  rw [← hx, isNm_itoa] at h
  cases h

/-- What is known of a line when some of its letters are gone through. -/
abbrev Sta := (Int × Int × Int) × Tx
def setF (c : UInt8) (v : Int) (x : Int × Int × Int) : Int × Int × Int := if c = 97 then (v, x.2.1, x.2.2) else if c = 98 then (x.1, v, x.2.2) else (x.1, x.2.1, v)
noncomputable def rstep (k : Nat) (c : UInt8) (t : Tx) (s : Sta) : Option Sta :=
  match numOf t with
  | some v => some (setF c v s.1, s.2)
  | none => if c = 105 ∧ isJ k = true ∧ isNm t = true then some (s.1, t) else none
noncomputable def rfold (k : Nat) : List (UInt8 × Tx) → Sta → Option Sta
  | [], s => some s
  | (c, t) :: r, s => match rstep k c t s with
    | none => none
    | some s' => rfold k r s'
noncomputable def rtake (k : Nat) (st : List Tx) : Option Sta := if st.length = (nms k).length then rfold k ((nms k).zip st) ((0, 0, 0), []) else none

/-- One field, as a relation. -/
def Fl (j : Bool) (t : Tx) (v : Int) (l : Tx) : Prop := (numOf t = some v ∧ l = [] ∧ -32768 ≤ v ∧ v ≤ 32768) ∨ (j = true ∧ isNm t = true ∧ v = 0 ∧ l = t)
theorem eat_iff {m : Int} (hm : m ≠ 0) (j : Bool) (t : Tx) (r : List Tx) (v : Int) (l : Tx) (r' : List Tx) : eat m j (t :: r) = some (v, l, r') ↔ r' = r ∧ Fl j t v l := by
  unfold eat Fl
  rw [if_neg hm]
  simp only
  by_cases hc : (j && isNm t) = true
  · rw [if_pos hc]
    rw [Bool.and_eq_true] at hc
    have hn := nm_none hc.2
    constructor
    · intro h
      cases h
      exact ⟨rfl, .inr ⟨hc.1, hc.2, rfl, rfl⟩⟩
    · rintro ⟨rfl, ⟨h1, _⟩ | ⟨_, _, rfl, rfl⟩⟩
      · rw [hn] at h1; cases h1
      · rfl
  · rw [if_neg hc]
    cases hw : whole t with
    | none =>
      constructor
      · intro h; cases h
      · rintro ⟨rfl, ⟨h1, rfl, h2, h3⟩ | ⟨h1, h2, _⟩⟩
        · have := (whole_iff t v).2 ⟨h1, h2, h3⟩
          rw [hw] at this; cases this
        · rw [h1, h2] at hc; exact absurd rfl hc
    | some u =>
      have hu := (whole_iff t u).1 hw
      constructor
      · intro h
        cases h
        exact ⟨rfl, .inl ⟨hu.1, rfl, hu.2.1, hu.2.2⟩⟩
      · rintro ⟨rfl, ⟨h1, rfl, h2, h3⟩ | ⟨h1, h2, _⟩⟩
        · rw [hu.1] at h1; cases h1; rfl
        · rw [h1, h2] at hc; exact absurd rfl hc
theorem eat_zero (j : Bool) (st : List Tx) : eat 0 j st = some (0, [], st) := by unfold eat; rw [if_pos rfl]
theorem eat_nil {m : Int} (hm : m ≠ 0) (j : Bool) : eat m j [] = none := by unfold eat; rw [if_neg hm]

/-- A number that fits stands in its bounds. -/
theorem fl_fit {j : Bool} {t : Tx} {v : Int} (h : numOf t = some v) (h0 : -32768 ≤ v) (h1 : v ≤ 32768) : Fl j t v [] := .inl ⟨h, rfl, h0, h1⟩

noncomputable def stage (m : Int) (c : UInt8) (k : Nat) (st : List Tx) (s : Sta) : Option (Sta × List Tx) :=
  if m = 0 then some (s, st) else match st with
  | [] => none
  | t :: r => match rstep k c t s with
    | none => none
    | some s' => some (s', r)
theorem rfold_cons (k : Nat) (c : UInt8) (t : Tx) (r : List (UInt8 × Tx)) (s : Sta) : rfold k ((c, t) :: r) s = (rstep k c t s).bind (rfold k r) := by
  unfold rfold
  cases rstep k c t s <;> rfl
noncomputable def stages (k : Nat) (st : List Tx) : Option Sta := (stage (mA k) 97 k st ((0, 0, 0), [])).bind fun x => (stage (mB k) 98 k x.2 x.1).bind fun y => (stage (mI k) 105 k y.2 y.1).bind fun z => if z.2 = [] then some z.1 else none
theorem stage_zero (c : UInt8) (k : Nat) (st : List Tx) (s : Sta) : stage 0 c k st s = some (s, st) := by unfold stage; rw [if_pos rfl]
theorem stage_nil {m : Int} (hm : m ≠ 0) (c : UInt8) (k : Nat) (s : Sta) : stage m c k [] s = none := by unfold stage; rw [if_neg hm]
theorem stage_cons {m : Int} (hm : m ≠ 0) (c : UInt8) (k : Nat) (t : Tx) (r : List Tx) (s : Sta) : stage m c k (t :: r) s = (rstep k c t s).bind fun s' => some (s', r) := by
  unfold stage
  rw [if_neg hm]
  simp only
  cases rstep k c t s <;> rfl
theorem rfold_nil (k : Nat) : rfold k [] = fun s => some s := rfl
theorem rfold_consf (k : Nat) (c : UInt8) (t : Tx) (r : List (UInt8 × Tx)) : rfold k ((c, t) :: r) = fun s => (rstep k c t s).bind (rfold k r) := by
  funext s
  exact rfold_cons k c t r s
theorem rtake_stages (k : Nat) (st : List Tx) : rtake k st = stages k st := by
  by_cases hA : mA k = 0 <;> by_cases hB : mB k = 0 <;> by_cases hI : mI k = 0 <;>
    rcases st with _ | ⟨t1, _ | ⟨t2, _ | ⟨t3, _ | ⟨t4, r⟩⟩⟩⟩ <;>
    simp [rtake, nms, hA, hB, hI, stages, stage_zero, stage_nil, stage_cons, rfold_consf, rfold_nil, Option.bind_assoc]
theorem rtake_stage (k : Nat) (st : List Tx) (S : Sta) : rtake k st = some S ↔ ∃ s1 r1 s2 r2, stage (mA k) 97 k st ((0, 0, 0), []) = some (s1, r1) ∧ stage (mB k) 98 k r1 s1 = some (s2, r2) ∧ stage (mI k) 105 k r2 s2 = some (S, []) := by
  rw [rtake_stages]
  constructor
  · intro h
    unfold stages at h
    rw [Option.bind_eq_some_iff] at h
    obtain ⟨x, hx, h⟩ := h
    rw [Option.bind_eq_some_iff] at h
    obtain ⟨y, hy, h⟩ := h
    rw [Option.bind_eq_some_iff] at h
    obtain ⟨z, hz, h⟩ := h
    split at h
    · rename_i hr
      cases h
      refine ⟨x.1, x.2, y.1, y.2, hx, hy, ?_⟩
      rw [hz, ← hr]
    · cases h
  · rintro ⟨s1, r1, s2, r2, h1, h2, h3⟩
    unfold stages
    rw [h1, Option.bind_some, h2, Option.bind_some, h3, Option.bind_some]
    simp
theorem st97 {m : Int} {k : Nat} {st r : List Tx} {v y z : Int} {l tx : Tx} (h : eat m false st = some (v, l, r)) : stage m 97 k st ((0, y, z), tx) = some (((v, y, z), tx), r) := by
  unfold stage
  by_cases hm : m = 0
  · subst hm
    rw [eat_zero] at h
    cases h
    rw [if_pos rfl]
  · rw [if_neg hm]
    cases st with
    | nil => rw [eat_nil hm] at h; cases h
    | cons t q =>
      obtain ⟨rfl, ⟨h1, _⟩ | ⟨h1, _⟩⟩ := (eat_iff hm false t q v l r).1 h
      · simp [rstep, h1, setF]
      · cases h1
theorem st98 {m : Int} {k : Nat} {st r : List Tx} {v x z : Int} {l tx : Tx} (h : eat m false st = some (v, l, r)) : stage m 98 k st ((x, 0, z), tx) = some (((x, v, z), tx), r) := by
  unfold stage
  by_cases hm : m = 0
  · subst hm
    rw [eat_zero] at h
    cases h
    rw [if_pos rfl]
  · rw [if_neg hm]
    cases st with
    | nil => rw [eat_nil hm] at h; cases h
    | cons t q =>
      obtain ⟨rfl, ⟨h1, _⟩ | ⟨h1, _⟩⟩ := (eat_iff hm false t q v l r).1 h
      · simp [rstep, h1, setF]
      · cases h1
theorem st105 {m : Int} {k : Nat} {st r : List Tx} {v x y : Int} {l : Tx} (h : eat m (isJ k) st = some (v, l, r)) : stage m 105 k st ((x, y, 0), []) = some (((x, y, v), l), r) := by
  unfold stage
  by_cases hm : m = 0
  · subst hm
    rw [eat_zero] at h
    cases h
    rw [if_pos rfl]
  · rw [if_neg hm]
    cases st with
    | nil => rw [eat_nil hm] at h; cases h
    | cons t q =>
      obtain ⟨rfl, ⟨h1, rfl, _⟩ | ⟨h1, h2, rfl, rfl⟩⟩ := (eat_iff hm (isJ k) t q v l r).1 h
      · simp [rstep, h1, setF]
      · simp [rstep, nm_none h2, h1, h2]
theorem ts97 {m : Int} {k : Nat} {st r : List Tx} {y z : Int} {tx : Tx} {S : Sta} (h : stage m 97 k st ((0, y, z), tx) = some (S, r)) : ∃ v, S = ((v, y, z), tx) ∧ (-32768 ≤ v → v ≤ 32768 → eat m false st = some (v, [], r)) := by
  unfold stage at h
  by_cases hm : m = 0
  · subst hm
    rw [if_pos rfl] at h
    cases h
    exact ⟨0, rfl, fun _ _ => eat_zero _ _⟩
  · rw [if_neg hm] at h
    cases st with
    | nil => cases h
    | cons t q =>
      cases hn : numOf t with
      | none => simp [rstep, hn] at h
      | some v =>
        simp [rstep, hn, setF] at h
        obtain ⟨rfl, rfl⟩ := h
        exact ⟨v, rfl, fun h0 h1 => (eat_iff hm false t q v [] q).2 ⟨rfl, fl_fit hn h0 h1⟩⟩
theorem ts98 {m : Int} {k : Nat} {st r : List Tx} {x z : Int} {tx : Tx} {S : Sta} (h : stage m 98 k st ((x, 0, z), tx) = some (S, r)) : ∃ v, S = ((x, v, z), tx) ∧ (-32768 ≤ v → v ≤ 32768 → eat m false st = some (v, [], r)) := by
  unfold stage at h
  by_cases hm : m = 0
  · subst hm
    rw [if_pos rfl] at h
    cases h
    exact ⟨0, rfl, fun _ _ => eat_zero _ _⟩
  · rw [if_neg hm] at h
    cases st with
    | nil => cases h
    | cons t q =>
      cases hn : numOf t with
      | none => simp [rstep, hn] at h
      | some v =>
        simp [rstep, hn, setF] at h
        obtain ⟨rfl, rfl⟩ := h
        exact ⟨v, rfl, fun h0 h1 => (eat_iff hm false t q v [] q).2 ⟨rfl, fl_fit hn h0 h1⟩⟩
theorem ts105 {m : Int} {k : Nat} {st r : List Tx} {x y : Int} {S : Sta} (h : stage m 105 k st ((x, y, 0), []) = some (S, r)) : ∃ v l, S = ((x, y, v), l) ∧ (-32768 ≤ v → v ≤ 32768 → eat m (isJ k) st = some (v, l, r)) := by
  unfold stage at h
  by_cases hm : m = 0
  · subst hm
    rw [if_pos rfl] at h
    cases h
    exact ⟨0, [], rfl, fun _ _ => eat_zero _ _⟩
  · rw [if_neg hm] at h
    cases st with
    | nil => cases h
    | cons t q =>
      cases hn : numOf t with
      | none =>
        by_cases hc : isJ k = true ∧ isNm t = true
        · simp [rstep, hn, hc] at h
          obtain ⟨rfl, rfl⟩ := h
          exact ⟨0, t, rfl, fun _ _ => (eat_iff hm (isJ k) t q 0 t q).2 ⟨rfl, .inr ⟨hc.1, hc.2, rfl, rfl⟩⟩⟩
        · exfalso
          have e : rstep k 105 t ((x, y, 0), []) = none := by
            unfold rstep
            rw [hn]
            simp only
            rw [if_neg (fun e => hc ⟨e.2.1, e.2.2⟩)]
          simp only [e] at h
          cases h
      | some v =>
        simp [rstep, hn, setF] at h
        obtain ⟨rfl, rfl⟩ := h
        exact ⟨v, [], rfl, fun h0 h1 => (eat_iff hm (isJ k) t q v [] q).2 ⟨rfl, fl_fit hn h0 h1⟩⟩
theorem eats_iff (k : Nat) (st : List Tx) (a b i : Int) (l : Tx) : eats k st = some ((a, b, i), l) ↔ rtake k st = some ((a, b, i), l) ∧ Fits k a b i := by
  rw [rtake_stage]
  constructor
  · intro h
    have hF := eats_fits h
    unfold eats at h
    split at h
    · cases h
    · rename_i a' l1 s1 h1
      split at h
      · cases h
      · rename_i b' l2 s2 h2
        split at h
        · cases h
        · rename_i i' l3 s3 h3
          split at h
          · rename_i hc
            cases h
            obtain ⟨rfl, _⟩ := hc
            exact ⟨⟨_, _, _, _, st97 h1, st98 h2, st105 h3⟩, hF⟩
          · cases h
  · rintro ⟨⟨s1, r1, s2, r2, h1, h2, h3⟩, hF⟩
    have hb := hF.bd
    obtain ⟨v1, rfl, e1⟩ := ts97 h1
    obtain ⟨v2, rfl, e2⟩ := ts98 h2
    obtain ⟨v3, l3, hS, e3⟩ := ts105 h3
    cases hS
    unfold eats
    rw [e1 (by omega) (by omega)]
    simp only
    rw [e2 (by omega) (by omega)]
    simp only
    rw [e3 (by omega) (by omega)]
    simp only
    rw [if_pos ⟨trivial, hF⟩]
/-- A line is an instruction's just if the document takes it so. -/
theorem parse_rtake {s h : Tx} {st : List Tx} (hs : splitSp s = h :: st) : parse s = match opOf h with | none => none | some k => match rtake k st with | none => none | some ((a, b, i), l) => if Fits k a b i then some ((k, a, b, i), l) else none := by
  unfold parse parseL
  rw [hs]
  simp only
  cases opOf h with
  | none => rfl
  | some k =>
    simp only
    cases he : eats k st with
    | some x =>
      obtain ⟨⟨a, b, i⟩, l⟩ := x
      obtain ⟨h1, h2⟩ := (eats_iff k st a b i l).1 he
      rw [h1]
      simp only
      rw [if_pos h2]
    | none =>
      cases hr : rtake k st with
      | none => rfl
      | some x =>
        obtain ⟨⟨a, b, i⟩, l⟩ := x
        simp only
        rw [if_neg]
        intro hF
        have := (eats_iff k st a b i l).2 ⟨hr, hF⟩
        rw [he] at this
        cases this
end Go.Proofs.YtocbilaaklapkaaDoor.Tkp
