/-
  Plain words of layer 12: a process' signals, bits of words, what is delivered next. No program is mentioned here.
-/
import Derived.Test.YtlhhgapimhpgnaaBk
import Derived.Test.YtlhhgapimhpgnaaNums
namespace Go.Proofs.Ytlhhgapimhpgnaa.Sga
open Go Go.RowKit Kit Bk Nums
set_option linter.unusedVariables false

/-- A process' signals: pending, mask, handlers (16), busy. -/
structure Sg where
  p : Nat
  m : Nat
  h : Nat → Nat
  b : Bool
structure Sg.Ok (s : Sg) : Prop where
  p : s.p < 4294967296
  m : s.m < 4294967296
  h : ∀ j, s.h j < 4294967296
  z : ∀ j, 16 ≤ j → s.h j = 0
abbrev uv (x : Nat) : Value := .int .u32 (x : Int)
def cs (s : Sg) : Array Value := #[uv s.p, uv s.m, uv (s.h 0), uv (s.h 1), uv (s.h 2), uv (s.h 3), uv (s.h 4), uv (s.h 5), uv (s.h 6), uv (s.h 7), uv (s.h 8), uv (s.h 9), uv (s.h 10), uv (s.h 11), uv (s.h 12), uv (s.h 13), uv (s.h 14), uv (s.h 15), .bool s.b]
abbrev cv (s : Sg) : Value := .agg (cs s)
def setP (s : Sg) (p : Nat) : Sg := { s with p := p }
def setM (s : Sg) (m : Nat) : Sg := { s with m := m }
def setH (s : Sg) (k v : Nat) : Sg := { s with h := up s.h k v }
def setB (s : Sg) (b : Bool) : Sg := { s with b := b }
theorem lt16 {j : Nat} (h : j < 16) : j = 0 ∨ j = 1 ∨ j = 2 ∨ j = 3 ∨ j = 4 ∨ j = 5 ∨ j = 6 ∨ j = 7 ∨ j = 8 ∨ j = 9 ∨ j = 10 ∨ j = 11 ∨ j = 12 ∨ j = 13 ∨ j = 14 ∨ j = 15 := by omega
theorem cs_p (s : Sg) : (cs s)[0]? = some (uv s.p) := rfl
theorem cs_m (s : Sg) : (cs s)[1]? = some (uv s.m) := rfl
theorem cs_b (s : Sg) : (cs s)[18]? = some (.bool s.b) := rfl
theorem cs_h (s : Sg) {j : Nat} (h : j < 16) : (cs s)[2 + j]? = some (uv (s.h j)) := by
  rcases lt16 h with rfl | rfl | rfl | rfl | rfl | rfl | rfl | rfl | rfl | rfl | rfl | rfl | rfl | rfl | rfl | rfl <;> rfl
theorem cs_setP (s : Sg) (v : Nat) : (cs s).setIfInBounds 0 (uv v) = cs (setP s v) := rfl
theorem cs_setM (s : Sg) (v : Nat) : (cs s).setIfInBounds 1 (uv v) = cs (setM s v) := rfl
theorem cs_setB (s : Sg) (v : Bool) : (cs s).setIfInBounds 18 (.bool v) = cs (setB s v) := rfl
theorem cs_setH (s : Sg) {k : Nat} (v : Nat) (h : k < 16) : (cs s).setIfInBounds (2 + k) (uv v) = cs (setH s k v) := by
  rcases lt16 h with rfl | rfl | rfl | rfl | rfl | rfl | rfl | rfl | rfl | rfl | rfl | rfl | rfl | rfl | rfl | rfl <;> rfl
theorem cs_size (s : Sg) : (cs s).size = 19 := rfl
theorem cs_one (s : Sg) : (cs s).all (·.oneCell') = true := by simp [cs, Value.oneCell']
theorem sg_ext {s t : Sg} (hs : s.Ok) (ht : t.Ok) (hp : s.p = t.p) (hm : s.m = t.m) (hh : ∀ j, j < 16 → s.h j = t.h j) (hb : s.b = t.b) : s = t := by
  obtain ⟨p, m, h, b⟩ := s
  obtain ⟨p', m', h', b'⟩ := t
  dsimp only at hp hm hh hb
  subst hp hm hb
  have : h = h' := funext fun j => by
    by_cases hj : j < 16
    · exact hh j hj
    · rw [show h j = 0 from hs.z j (by omega), show h' j = 0 from ht.z j (by omega)]
  rw [this]
theorem cs_inj {s t : Sg} (hs : s.Ok) (ht : t.Ok) (h : cs s = cs t) : s = t := by
  have c : ∀ j : Nat, (cs s)[j]? = (cs t)[j]? := fun j => by rw [h]
  have nat : ∀ a b : Nat, some (uv a) = some (uv b) → a = b := fun a b e => by
    injection e with e
    injection e with _ e
    omega
  refine sg_ext hs ht (nat _ _ (c 0)) (nat _ _ (c 1)) (fun j hj => ?_) ?_
  · have := c (2 + j)
    rw [cs_h s hj, cs_h t hj] at this
    exact nat _ _ this
  · have := c 18
    rw [cs_b, cs_b] at this
    injection this with e
    injection e
theorem Ok.setP {s : Sg} (h : s.Ok) {p : Nat} (hp : p < 4294967296) : (setP s p).Ok := ⟨hp, h.m, h.h, h.z⟩
theorem Ok.setM {s : Sg} (h : s.Ok) {p : Nat} (hp : p < 4294967296) : (setM s p).Ok := ⟨h.p, hp, h.h, h.z⟩
theorem Ok.setB {s : Sg} (h : s.Ok) (b : Bool) : (setB s b).Ok := ⟨h.p, h.m, h.h, h.z⟩
theorem Ok.setH {s : Sg} (h : s.Ok) {k v : Nat} (hk : k < 16) (hv : v < 4294967296) : (setH s k v).Ok := ⟨h.p, h.m, fun j => by
  show up s.h k v j < _
  unfold up
  split
  · exact hv
  · exact h.h j, fun j hj => by
  show up s.h k v j = 0
  rw [up_other _ _ _ _ (by omega)]
  exact h.z j hj⟩
theorem setP_same (s : Sg) : setP s s.p = s := rfl
theorem setH_same (s : Sg) (k : Nat) : setH s k (s.h k) = s := by
  have : up s.h k (s.h k) = s.h := funext fun j => by
    unfold up
    split
    · rename_i h; rw [h]
    · rfl
  unfold setH
  rw [this]
theorem setH_setH (s : Sg) (k v v' : Nat) : setH (setH s k v) k v' = setH s k v' := by
  have : up (up s.h k v) k v' = up s.h k v' := funext fun j => by
    unfold up
    split <;> rfl
  unfold setH
  rw [show ({ s with h := up s.h k v } : Sg).h = up s.h k v from rfl, this]

/-- A signal's bit; has a word it; without it; with it. -/
def bt (n : Nat) : Nat := 2 ^ n
def hs (x n : Nat) : Bool := x.testBit n
/-- A word without another one's bits. -/
def nt (x c : Nat) : Nat := x &&& (4294967295 - c)
def clr (x n : Nat) : Nat := nt x (bt n)
def ad (x n : Nat) : Nat := x ||| bt n
theorem bt_pos (n : Nat) : 0 < bt n := Nat.two_pow_pos n
theorem bt_lt {n : Nat} (h : n < 32) : bt n < 4294967296 := Nat.pow_lt_pow_right (a := 2) (by decide) h
theorem hs_bt (n j : Nat) : hs (bt n) j = decide (n = j) := by unfold hs bt; rw [Nat.testBit_two_pow]
theorem hs_ge {x j : Nat} (hx : x < 4294967296) (h : 32 ≤ j) : hs x j = false := Nat.testBit_lt_two_pow (Nat.lt_of_lt_of_le hx (Nat.pow_le_pow_right (by decide) h : 2 ^ 32 ≤ 2 ^ j))
theorem hs_nt {x c : Nat} (hx : x < 4294967296) (hc : c < 4294967296) (j : Nat) : hs (nt x c) j = (hs x j && !hs c j) := by
  by_cases hj : j < 32
  · unfold hs nt
    rw [Nat.testBit_and, show 4294967295 - c = 2 ^ 32 - (c + 1) by omega, Nat.testBit_two_pow_sub_succ hc, decide_eq_true hj, Bool.true_and]
  · have h1 := hs_ge hx (by omega : 32 ≤ j)
    have h2 : hs (nt x c) j = false := hs_ge (Nat.lt_of_le_of_lt Nat.and_le_left hx) (by omega)
    rw [h1, h2, Bool.false_and]
theorem nt_lt {x : Nat} (hx : x < 4294967296) (c : Nat) : nt x c < 4294967296 := Nat.lt_of_le_of_lt Nat.and_le_left hx
theorem clr_lt {x : Nat} (hx : x < 4294967296) (n : Nat) : clr x n < 4294967296 := nt_lt hx _
theorem ad_lt {x n : Nat} (hx : x < 4294967296) (hn : n < 32) : ad x n < 4294967296 := Nat.or_lt_two_pow (n := 32) hx (bt_lt hn)
theorem hs_clr {x n : Nat} (hx : x < 4294967296) (hn : n < 32) (j : Nat) : hs (clr x n) j = (hs x j && !decide (n = j)) := by
  unfold clr
  rw [hs_nt hx (bt_lt hn), hs_bt]
theorem hs_ad (x n j : Nat) : hs (ad x n) j = (hs x j || decide (n = j)) := by
  unfold ad
  rw [← hs_bt]
  exact Nat.testBit_or _ _ _
theorem hs_and (x y j : Nat) : hs (x &&& y) j = (hs x j && hs y j) := Nat.testBit_and _ _ _
theorem hs_zero (j : Nat) : hs 0 j = false := Nat.zero_testBit j
theorem hs_eq {x y : Nat} (h : ∀ j, hs x j = hs y j) : x = y := Nat.eq_of_testBit_eq h
theorem hs_div (x n : Nat) : (x / 2 ^ n % 2 == 1) = hs x n := by
  unfold hs
  rw [Nat.testBit_eq_decide_div_mod_eq]
  by_cases h : x / 2 ^ n % 2 = 1 <;> simp [h]
theorem hs_most (j : Nat) : hs 65534 j = (decide (1 ≤ j) && decide (j ≤ 15)) := by
  by_cases hj : j < 16
  · rcases lt16 hj with rfl | rfl | rfl | rfl | rfl | rfl | rfl | rfl | rfl | rfl | rfl | rfl | rfl | rfl | rfl | rfl <;> decide
  · rw [show hs 65534 j = false from Nat.testBit_lt_two_pow (Nat.lt_of_lt_of_le (by decide : 65534 < 2 ^ 16) (Nat.pow_le_pow_right (by decide) (by omega)))]
    simp; omega
theorem hs_mask (j : Nat) : hs 65022 j = (decide (1 ≤ j) && decide (j ≤ 15) && !decide (j = 9)) := by
  by_cases hj : j < 16
  · rcases lt16 hj with rfl | rfl | rfl | rfl | rfl | rfl | rfl | rfl | rfl | rfl | rfl | rfl | rfl | rfl | rfl | rfl <;> decide
  · rw [show hs 65022 j = false from Nat.testBit_lt_two_pow (Nat.lt_of_lt_of_le (by decide : 65022 < 2 ^ 16) (Nat.pow_le_pow_right (by decide) (by omega)))]
    simp; omega
theorem hs_512 (j : Nat) : hs 512 j = decide (9 = j) := hs_bt 9 j
theorem and_self_iff {x c : Nat} : x &&& c = x ↔ ∀ j, hs x j = true → hs c j = true := by
  constructor
  · intro h j hj
    rw [← h, hs_and] at hj
    exact (Bool.and_eq_true_iff.1 hj).2
  · intro h
    refine hs_eq fun j => ?_
    rw [hs_and]
    cases hj : hs x j
    · rfl
    · rw [h j hj]; rfl
theorem and_bt (x n : Nat) : x &&& bt n = if hs x n then bt n else 0 := by
  refine hs_eq fun j => ?_
  rw [hs_and, hs_bt]
  by_cases h : n = j
  · subst h
    cases hx : hs x n <;> simp [hs_bt, hs_zero]
  · cases hx : hs x n <;> simp [hs_bt, hs_zero, h]
theorem field1 (x n : Nat) : field x n 1 = if hs x n then 1 else 0 := by
  unfold field
  rw [← hs_div]
  have : x / 2 ^ n % 2 ^ 1 < 2 := Nat.mod_lt _ (by decide)
  rw [Nat.pow_one] at *
  by_cases h : x / 2 ^ n % 2 = 1
  · simp [h]
  · have h0 : x / 2 ^ n % 2 = 0 := by omega
    simp [h0]
theorem clr_sub {x n : Nat} (hx : x < 4294967296) (hn : n < 32) : clr x n = if hs x n then x - bt n else x := by
  have h := clear_eq (w := x) (f := n) (n := 1) hx (by omega)
  rw [field1, show (2 ^ 1 - 1) * 2 ^ n = 2 ^ n by omega] at h
  unfold clr nt bt
  rw [h]
  split <;> simp
theorem ad_add {x n : Nat} (hx : x < 4294967296) (hn : n < 32) (h : hs x n = false) : ad x n = x + bt n := by
  have h1 := or_put (w := x) (f := n) (n := 1) (v := 1) hx (by omega) (by decide)
  unfold put at h1
  rw [field1, h, if_neg (by decide), Nat.zero_mul, Nat.sub_zero, Nat.one_mul] at h1
  exact h1
theorem hs_le {x n : Nat} (h : hs x n = true) : bt n ≤ x := Nat.ge_two_pow_of_testBit h
theorem ad_clr {x n : Nat} (hx : x < 4294967296) (hn : n < 32) : ad (clr x n) n = ad x n := by
  refine hs_eq fun j => ?_
  rw [hs_ad, hs_ad, hs_clr hx hn]
  by_cases h : n = j <;> simp [h]

/-- May signals be? -/
def may (s : Sg) : Bool := decide (s.p &&& 65534 = s.p) && decide (s.m &&& 65022 = s.m) && decide (s.h 0 = 0) && decide (s.h 9 = 0)
/-- What of signals may be. -/
def prop (s : Sg) : Sg := setH (setH (setM (setP s (s.p &&& 65534)) (s.m &&& 65022)) 0 0) 9 0
theorem and_lt {x : Nat} (hx : x < 4294967296) (c : Nat) : x &&& c < 4294967296 := Nat.lt_of_le_of_lt Nat.and_le_left hx
theorem prop_ok {s : Sg} (h : s.Ok) : (prop s).Ok := Ok.setH (Ok.setH (Ok.setM (Ok.setP h (and_lt h.p _)) (and_lt h.m _)) (by omega) (by omega)) (by omega) (by omega)
theorem may_prop {s : Sg} (h : s.Ok) : may s = true ↔ s = prop s := by
  unfold may
  simp only [Bool.and_eq_true, decide_eq_true_eq]
  constructor
  · rintro ⟨⟨⟨h1, h2⟩, h3⟩, h4⟩
    unfold prop
    rw [h1, h2]
    show s = setH (setH s 0 0) 9 0
    rw [show setH s 0 0 = s by have := setH_same s 0; rw [h3] at this; exact this]
    have := setH_same s 9
    rw [h4] at this
    exact this.symm
  · intro e
    refine ⟨⟨⟨?_, ?_⟩, ?_⟩, ?_⟩
    · exact (congrArg Sg.p e).symm
    · exact (congrArg Sg.m e).symm
    · exact (congrFun (congrArg Sg.h e) 0).trans rfl
    · exact (congrFun (congrArg Sg.h e) 9).trans rfl
theorem may_bits {s : Sg} : may s = true ↔ (∀ j, hs s.p j = true → 1 ≤ j ∧ j ≤ 15) ∧ (∀ j, hs s.m j = true → 1 ≤ j ∧ j ≤ 15 ∧ j ≠ 9) ∧ s.h 0 = 0 ∧ s.h 9 = 0 := by
  unfold may
  simp only [Bool.and_eq_true, decide_eq_true_eq, and_self_iff, hs_most, hs_mask, Bool.not_eq_true', decide_eq_false_iff_not]
  constructor
  · rintro ⟨⟨⟨h1, h2⟩, h3⟩, h4⟩
    exact ⟨h1, fun j hj => ⟨(h2 j hj).1.1, (h2 j hj).1.2, (h2 j hj).2⟩, h3, h4⟩
  · rintro ⟨h1, h2, h3, h4⟩
    exact ⟨⟨⟨h1, fun j hj => ⟨⟨(h2 j hj).1, (h2 j hj).2.1⟩, (h2 j hj).2.2⟩⟩, h3⟩, h4⟩
def ckE (s : Sg) : Int := if may s then 0 else 120

/-- Is that a signal? -/
def isS (n : Int) : Bool := decide (1 ≤ n) && decide (n ≤ 15)
theorem isS_iff {n : Int} : isS n = true ↔ 1 ≤ n ∧ n ≤ 15 := by simp [isS]
/-- May a mask be given? -/
def okm (m : Nat) : Bool := decide (nt m 65534 = 0)
theorem okm_bits {m : Nat} (hm : m < 4294967296) : okm m = true ↔ ∀ j, hs m j = true → 1 ≤ j ∧ j ≤ 15 := by
  unfold okm
  rw [decide_eq_true_eq]
  constructor
  · intro h j hj
    have : hs (nt m 65534) j = false := by rw [h, hs_zero]
    rw [hs_nt hm (by decide), hj, hs_most] at this
    simpa using this
  · intro h
    refine hs_eq fun j => ?_
    rw [hs_zero, hs_nt hm (by decide), hs_most]
    cases hj : hs m j
    · rfl
    · have := h j hj
      simp [this]

/-- What may be delivered; what becomes of one. -/
def dv (s : Sg) : Nat := if s.b then s.p &&& 512 else nt s.p s.m
def dl (s : Sg) (n : Nat) : Bool := hs (dv s) n
def ft (s : Sg) (n : Nat) : Nat := if s.h n = 1 ∨ (s.h n = 0 ∧ n = 12) then 0 else if s.h n = 0 then 1 else 2
theorem dl_eq {s : Sg} (hk : s.Ok) (hm : may s = true) (n : Nat) : dl s n = (hs s.p n && (decide (n = 9) || (!hs s.m n && !s.b))) := by
  have h9 : hs s.m 9 = false := by
    cases h : hs s.m 9
    · rfl
    · exact absurd rfl ((may_bits.1 hm).2.1 9 h).2.2
  unfold dl dv
  cases hb : s.b
  · rw [if_neg (by decide), hs_nt hk.p hk.m]
    by_cases h : n = 9
    · subst h; rw [h9]; simp
    · simp [h]
  · rw [if_pos rfl, hs_and, hs_512]
    by_cases h : n = 9
    · subst h; simp
    · simp [h, Ne.symm h]
theorem dv_lt {s : Sg} (hk : s.Ok) : dv s < 4294967296 := by
  unfold dv
  split
  · exact and_lt hk.p _
  · exact nt_lt hk.p _
/-- The first, up to the k-th, that is delivered and not ignored; what is pending when all up to the k-th are delivered. -/
def fst (s : Sg) : Nat → Nat
  | 0 => 0
  | k + 1 => if fst s k ≠ 0 then fst s k else if dl s (k + 1) = true ∧ ft s (k + 1) ≠ 0 then k + 1 else 0
def clrd (s : Sg) : Nat → Nat
  | 0 => s.p
  | k + 1 => if dl s (k + 1) then clr (clrd s k) (k + 1) else clrd s k
theorem clrd_lt {s : Sg} (hk : s.Ok) : ∀ k, clrd s k < 4294967296
  | 0 => hk.p
  | k + 1 => by
    unfold clrd
    split
    · exact clr_lt (clrd_lt hk k) _
    · exact clrd_lt hk k
theorem hs_clrd {s : Sg} (hk : s.Ok) : ∀ (k : Nat), k < 32 → ∀ j, hs (clrd s k) j = (hs s.p j && !(dl s j && decide (1 ≤ j) && decide (j ≤ k)))
  | 0, _, j => by
    show hs s.p j = _
    by_cases h : 1 ≤ j
    · simp [show ¬ j ≤ 0 by omega]
    · simp [h]
  | k + 1, hk2, j => by
    have ih := hs_clrd hk k (by omega) j
    unfold clrd
    by_cases hd : dl s (k + 1) = true
    · rw [if_pos hd, hs_clr (clrd_lt hk k) (by omega), ih]
      by_cases hj : k + 1 = j
      · subst hj; simp [hd]
      · by_cases hl : j ≤ k
        · simp [hj, hl, show j ≤ k + 1 by omega]
        · simp [hj, hl, show ¬ j ≤ k + 1 by omega]
    · rw [if_neg hd, ih]
      have hd : dl s (k + 1) = false := by simpa using hd
      by_cases hj : k + 1 = j
      · subst hj; simp [hd]
      · by_cases hl : j ≤ k
        · simp [hl, show j ≤ k + 1 by omega]
        · simp [hl, show ¬ j ≤ k + 1 by omega]
theorem fst_zero {s : Sg} : ∀ {k : Nat}, fst s k = 0 ↔ ∀ n, 1 ≤ n → n ≤ k → dl s n = true → ft s n = 0
  | 0 => ⟨fun _ n h1 h2 => by omega, fun _ => rfl⟩
  | k + 1 => by
    have ih := fst_zero (s := s) (k := k)
    unfold fst
    by_cases h : fst s k = 0
    · rw [if_neg (by simpa using h)]
      constructor
      · intro e n h1 h2 hd
        by_cases hn : n ≤ k
        · exact ih.1 h n h1 hn hd
        · obtain rfl : n = k + 1 := by omega
          by_cases hf : ft s (k + 1) = 0
          · exact hf
          · rw [if_pos ⟨hd, hf⟩] at e; omega
      · intro e
        rw [if_neg]
        rintro ⟨h1, h2⟩
        exact h2 (e _ (by omega) (Nat.le_refl _) h1)
    · rw [if_pos h]
      constructor
      · intro e; exact absurd e h
      · intro e
        exact absurd (ih.2 fun n h1 h2 => e n h1 (by omega)) h
theorem fst_some {s : Sg} : ∀ {k : Nat}, fst s k ≠ 0 → 1 ≤ fst s k ∧ fst s k ≤ k ∧ dl s (fst s k) = true ∧ ft s (fst s k) ≠ 0 ∧ ∀ j, 1 ≤ j → j < fst s k → dl s j = true → ft s j = 0
  | 0 => fun h => absurd rfl h
  | k + 1 => by
    intro h
    by_cases h0 : fst s k = 0
    · have e : fst s (k + 1) = if dl s (k + 1) = true ∧ ft s (k + 1) ≠ 0 then k + 1 else 0 := by
        conv => lhs; unfold fst
        rw [if_neg (by simpa using h0)]
      by_cases hd : dl s (k + 1) = true ∧ ft s (k + 1) ≠ 0
      · rw [if_pos hd] at e
        rw [e]
        exact ⟨by omega, Nat.le_refl _, hd.1, hd.2, fun j h1 h2 => fst_zero.1 h0 j h1 (by omega)⟩
      · rw [if_neg hd] at e; exact absurd e h
    · have e : fst s (k + 1) = fst s k := by
        conv => lhs; unfold fst
        rw [if_pos h0]
      rw [e]
      have := fst_some h0
      exact ⟨this.1, by omega, this.2.2⟩
theorem fst_up {s : Sg} {k : Nat} (h : fst s k ≠ 0) : ∀ d, fst s (k + d) = fst s k
  | 0 => rfl
  | d + 1 => by
    have := fst_up h d
    show (if fst s (k + d) ≠ 0 then fst s (k + d) else if dl s (k + d + 1) = true ∧ ft s (k + d + 1) ≠ 0 then k + d + 1 else 0) = _
    rw [if_pos (by rw [this]; exact h), this]
/-- What Next answers. -/
def nN (s : Sg) : Nat := if may s then fst s 15 else 0
def nB (s : Sg) : Nat := if nN s = 0 then 0 else ft s (nN s)
def nS (s : Sg) : Sg := if may s then (if nN s = 0 then setP s (clrd s 15) else setB (setP s (clrd s (nN s))) (s.b || nB s == 2)) else s
theorem nS_ok {s : Sg} (h : s.Ok) : (nS s).Ok := by
  unfold nS
  split
  · split
    · exact Ok.setP h (clrd_lt h _)
    · exact Ok.setB (Ok.setP h (clrd_lt h _)) _
  · exact h
/-- The signals of bits, up to the k-th, rising. -/
def sgs (d : Nat) : Nat → List Nat
  | 0 => []
  | k + 1 => sgs d k ++ (if hs d (k + 1) then [k + 1] else [])
theorem sgs_succ (d k : Nat) : sgs d (k + 1) = sgs d k ++ (if hs d (k + 1) then [k + 1] else []) := rfl
theorem sgs_yes {d k : Nat} (h : hs d (k + 1) = true) : sgs d (k + 1) = sgs d k ++ [k + 1] := by rw [sgs_succ, if_pos h]
theorem sgs_no {d k : Nat} (h : hs d (k + 1) = false) : sgs d (k + 1) = sgs d k := by rw [sgs_succ, if_neg (by simp [h])]; simp
theorem sgs_len (d : Nat) : ∀ k, (sgs d k).length ≤ k
  | 0 => Nat.le_refl _
  | k + 1 => by
    have := sgs_len d k
    cases h : hs d (k + 1)
    · rw [sgs_no h]; omega
    · rw [sgs_yes h]; simp; omega
theorem mem_sgs {d x : Nat} : ∀ {k : Nat}, x ∈ sgs d k ↔ 1 ≤ x ∧ x ≤ k ∧ hs d x = true
  | 0 => by
    simp [sgs]; omega
  | k + 1 => by
    have ih := mem_sgs (d := d) (x := x) (k := k)
    cases h : hs d (k + 1)
    · rw [sgs_no h, ih]
      constructor
      · rintro ⟨h1, h2, h3⟩; exact ⟨h1, by omega, h3⟩
      · rintro ⟨h1, h2, h3⟩
        refine ⟨h1, ?_, h3⟩
        by_cases e : x = k + 1
        · subst e; rw [h] at h3; cases h3
        · omega
    · rw [sgs_yes h, List.mem_append, List.mem_singleton, ih]
      constructor
      · rintro (⟨h1, h2, h3⟩ | rfl)
        · exact ⟨h1, by omega, h3⟩
        · exact ⟨by omega, Nat.le_refl _, h⟩
      · rintro ⟨h1, h2, h3⟩
        by_cases e : x = k + 1
        · exact .inr e
        · exact .inl ⟨h1, by omega, h3⟩
theorem sgs_last {d x : Nat} {ini : List Nat} : ∀ {k : Nat}, ini ++ [x] = sgs d k → ∃ j, j + 1 ≤ k ∧ x = j + 1 ∧ ini = sgs d j ∧ hs d x = true
  | 0, h => by simp [sgs] at h
  | k + 1, h => by
    cases hh : hs d (k + 1)
    · rw [sgs_no hh] at h
      obtain ⟨j, h1, h2⟩ := sgs_last h
      exact ⟨j, by omega, h2⟩
    · rw [sgs_yes hh] at h
      obtain ⟨h1, h2⟩ := List.append_inj' h rfl
      injection h2 with h2
      exact ⟨k, Nat.le_refl _, h2, h1, by rw [h2]; exact hh⟩
/-- A word without some. -/
def clrs (p : Nat) (l : List Nat) : Nat := l.foldl clr p
theorem clrs_app (p : Nat) (l : List Nat) (x : Nat) : clrs p (l ++ [x]) = clr (clrs p l) x := by simp [clrs]
theorem clrs_sgs (s : Sg) : ∀ k, clrs s.p (sgs (dv s) k) = clrd s k
  | 0 => rfl
  | k + 1 => by
    have ih := clrs_sgs s k
    unfold clrd dl
    cases h : hs (dv s) (k + 1)
    · rw [sgs_no h, ih]; rfl
    · rw [sgs_yes h, clrs_app, ih]; rfl
theorem clrs_lt {p : Nat} (hp : p < 4294967296) : ∀ l, clrs p l < 4294967296 := fun l => by
  induction l generalizing p with
  | nil => exact hp
  | cons a r ih => exact ih (clr_lt hp a)
/-- All are ignored: none is told. -/
theorem next_none {s : Sg} (hm : may s = true) (h : ∀ x ∈ sgs (dv s) 15, ft s x = 0) : nN s = 0 ∧ nB s = 0 ∧ nS s = setP s (clrs s.p (sgs (dv s) 15)) := by
  have h0 : fst s 15 = 0 := fst_zero.2 fun n h1 h2 h3 => h n (mem_sgs.2 ⟨h1, h2, h3⟩)
  have hn : nN s = 0 := by unfold nN; rw [if_pos hm, h0]
  refine ⟨hn, by unfold nB; rw [if_pos hn], ?_⟩
  unfold nS
  rw [if_pos hm, if_pos hn, clrs_sgs]
/-- The first that is not ignored is told. -/
theorem next_some {s : Sg} (hm : may s = true) {k x : Nat} {ini : List Nat} (hk : k ≤ 15) (he : ini ++ [x] = sgs (dv s) k) (h : ∀ y ∈ ini, ft s y = 0) (hx : ft s x ≠ 0) :
    nN s = x ∧ nB s = ft s x ∧ nS s = setB (setP s (clrs s.p (ini ++ [x]))) (s.b || ft s x == 2) := by
  obtain ⟨j, hj, rfl, rfl, hd⟩ := sgs_last he
  have h0 : fst s j = 0 := fst_zero.2 fun n h1 h2 h3 => h n (mem_sgs.2 ⟨h1, h2, h3⟩)
  have h1 : fst s (j + 1) = j + 1 := by
    conv => lhs; unfold fst
    rw [if_neg (by simpa using h0), if_pos ⟨hd, hx⟩]
  have h2 := fst_up (s := s) (k := j + 1) (by rw [h1]; omega) (15 - (j + 1))
  rw [show j + 1 + (15 - (j + 1)) = 15 by omega, h1] at h2
  have hn : nN s = j + 1 := by unfold nN; rw [if_pos hm, h2]
  have hb : nB s = ft s (j + 1) := by unfold nB; rw [if_neg (by omega), hn]
  refine ⟨hn, hb, ?_⟩
  unfold nS
  rw [if_pos hm, if_neg (by omega), hb, hn, ← clrs_sgs, sgs_yes hd]
end Go.Proofs.Ytlhhgapimhpgnaa.Sga
