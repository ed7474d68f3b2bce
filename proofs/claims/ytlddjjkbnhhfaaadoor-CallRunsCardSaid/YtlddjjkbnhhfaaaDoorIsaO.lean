/-
  Plain words: a line says its instruction, and the other way round.
-/
import Derived.Test.YtlddjjkbnhhfaaaDoorIsaI
namespace Go.Proofs.YtlddjjkbnhhfaaaDoor.IsaO
open Go IsaM IsaR IsaI
set_option linter.unusedVariables false

theorem u8_of {n : Nat} (h : n < 256) : (UInt8.ofNat n).toNat = n := by simp; omega
theorem dg (d : Nat) (h : d < 10) : isDg (UInt8.ofNat (48 + d)) = true := by
  unfold isDg
  rw [u8_of (by omega)]
  simp; omega
theorem dd_ne (u : Nat) : Lib.decDigits u ≠ [] := by rw [Lib.decDigits]; split <;> simp
theorem dd_one {u : Nat} (h : u < 10) : Lib.decDigits u = [UInt8.ofNat (48 + u)] := by rw [Lib.decDigits, dif_pos h]
theorem dd_more {u : Nat} (h : ¬ u < 10) : Lib.decDigits u = Lib.decDigits (u / 10) ++ [UInt8.ofNat (48 + u % 10)] := by rw [Lib.decDigits, dif_neg h]
theorem dd_all (u : Nat) : (Lib.decDigits u).all isDg = true := by
  induction u using Nat.strongRecOn with
  | ind u ih =>
    by_cases h : u < 10
    · rw [dd_one h, List.all_cons, List.all_nil, dg u h]; rfl
    · rw [dd_more h, List.all_append, ih (u / 10) (by omega), List.all_cons, List.all_nil, dg (u % 10) (by omega)]; rfl
theorem val_snoc (t : Tx) (c : UInt8) : val (t ++ [c]) = 10 * val t + (c.toNat - 48) := by unfold val; rw [List.foldl_append]; rfl
theorem dd_val (u : Nat) : val (Lib.decDigits u) = u := by
  induction u using Nat.strongRecOn with
  | ind u ih =>
    by_cases h : u < 10
    · rw [dd_one h]
      show 10 * 0 + ((UInt8.ofNat (48 + u)).toNat - 48) = u
      rw [u8_of (by omega)]; omega
    · rw [dd_more h, val_snoc, ih (u / 10) (by omega), u8_of (by omega)]; omega
theorem dd_len : ∀ (f u : Nat), u < 10 ^ (f + 1) → (Lib.decDigits u).length ≤ f + 1
  | 0, u, h => by rw [dd_one (by omega)]; simp
  | f + 1, u, h => by
    by_cases h10 : u < 10
    · rw [dd_one h10]; simp
    · rw [dd_more h10, List.length_append]
      have := dd_len f (u / 10) (by rw [Nat.pow_succ] at h; omega)
      simp; omega
theorem dd_head (u : Nat) : (Lib.decDigits u).head? = some 48 → Lib.decDigits u = [48] := by
  induction u using Nat.strongRecOn with
  | ind u ih =>
    intro h
    by_cases h10 : u < 10
    · rw [dd_one h10] at h ⊢
      rw [List.head?_cons] at h
      rw [Option.some.inj h]
    · exfalso
      rw [dd_more h10] at h
      have hne := dd_ne (u / 10)
      have h2 : (Lib.decDigits (u / 10)).head? = some 48 := by
        cases hd : Lib.decDigits (u / 10) with
        | nil => exact absurd hd hne
        | cons a r => rw [hd] at h; simpa using h
      have h3 := ih (u / 10) (by omega) h2
      have h4 := dd_val (u / 10)
      rw [h3] at h4
      have : val [48] = 0 := rfl
      omega
theorem dd_inv : ∀ (n : Nat) (t : Tx), t.length = n + 1 → t.all isDg = true → (t.head? = some 48 → t = [48]) → Lib.decDigits (val t) = t := by
  intro n
  induction n with
  | zero =>
    intro t hl ha _
    match t, hl with
    | [c], _ =>
      simp [isDg] at ha
      have hv : val [c] = c.toNat - 48 := by show 10 * 0 + (c.toNat - 48) = _; omega
      rw [hv, dd_one (by omega), show 48 + (c.toNat - 48) = c.toNat by omega]
      simp
  | succ n ih =>
    intro t hl ha hh
    have hne : t ≠ [] := by intro e; rw [e] at hl; simp at hl
    obtain ⟨r, c, rfl⟩ : ∃ r c, t = r ++ [c] := ⟨t.dropLast, t.getLast hne, (List.dropLast_concat_getLast hne).symm⟩
    rw [List.length_append] at hl
    simp at hl
    rw [List.all_append, Bool.and_eq_true] at ha
    have hrne : r ≠ [] := by intro e; rw [e] at hl; simp at hl
    have hr48 : r.head? ≠ some 48 := by
      intro e
      have h1 : (r ++ [c]).head? = some 48 := by
        cases r with
        | nil => exact absurd rfl hrne
        | cons a q => simpa using e
      have h2 := congrArg List.length (hh h1)
      simp at h2
      exact hrne h2
    have hi := ih r (by omega) ha.1 (fun e => absurd e hr48)
    have hv : val r ≠ 0 := by
      intro e
      rw [e, dd_one (by omega)] at hi
      apply hr48
      rw [← hi]
      rfl
    have hc := ha.2
    simp [isDg] at hc
    rw [val_snoc, dd_more (by omega), show (10 * val r + (c.toNat - 48)) / 10 = val r by omega, show 48 + (10 * val r + (c.toNat - 48)) % 10 = c.toNat by omega, hi]
    simp
theorem natOf_dd {u : Nat} (h : u ≤ 4294967295) : natOf (Lib.decDigits u) = some u := by
  unfold natOf
  have h10 := dd_len 9 u (by omega)
  rw [if_neg, dd_val, if_pos h]
  rintro (e | e | ⟨e, e2⟩ | e)
  · exact dd_ne u e
  · omega
  · exact e2 (dd_head u e)
  · rw [dd_all] at e; cases e
theorem natOf_inv {t : Tx} {n : Nat} (h : natOf t = some n) : t = Lib.decDigits n := by
  unfold natOf at h
  split at h
  · cases h
  · rename_i hc
    split at h
    · have e := Option.some.inj h
      subst e
      have hne : t ≠ [] := fun e => hc (.inl e)
      have ha : t.all isDg = true := by
        cases hx : t.all isDg with
        | true => rfl
        | false => exact absurd (.inr (.inr (.inr hx))) hc
      obtain ⟨m, hm⟩ : ∃ m, t.length = m + 1 := ⟨t.length - 1, by have := List.length_pos_iff.2 hne; omega⟩
      exact (dd_inv m t hm ha (fun e => Classical.byContradiction fun e2 => hc (.inr (.inr (.inl ⟨e, e2⟩))))).symm
    · cases h
theorem dd_first (u : Nat) : ∃ c r, Lib.decDigits u = c :: r ∧ isDg c = true := by
  have h := dd_all u
  cases hd : Lib.decDigits u with
  | nil => exact absurd hd (dd_ne u)
  | cons c r => rw [hd] at h; simp at h; exact ⟨c, r, rfl, h.1⟩
theorem whole_itoa {v : Int} (h0 : -32768 ≤ v) (h1 : v ≤ 32768) : whole (Lib.itoa v) = some v := by
  by_cases hv : v < 0
  · obtain ⟨u, rfl⟩ : ∃ u : Nat, v = -(u : Int) := ⟨v.natAbs, by omega⟩
    rw [Lib.itoa_neg u (by omega)]
    unfold whole
    simp only
    rw [natOf_dd (by omega)]
    simp only
    rw [if_neg (by omega)]
  · obtain ⟨u, rfl⟩ := Int.eq_ofNat_of_zero_le (show 0 ≤ v by omega)
    rw [Lib.itoa_nonneg]
    obtain ⟨c, r, hd, hc⟩ := dd_first u
    have hn := natOf_dd (u := u) (by omega)
    rw [hd] at hn ⊢
    unfold whole
    split
    · rename_i e
      injection e with e1 e2
      subst e1
      exact absurd hc (by decide)
    · rw [hn]
      simp only
      rw [if_neg (by omega)]
theorem whole_inv {t : Tx} {v : Int} (h : whole t = some v) : t = Lib.itoa v := by
  unfold whole at h
  split at h
  · rename_i r
    split at h
    · cases h
    · rename_i n hn
      split at h
      · cases h
      · cases h
        rw [Lib.itoa_neg n (by omega), natOf_inv hn]
  · split at h
    · cases h
    · rename_i n hn
      split at h
      · cases h
      · cases h
        rw [Lib.itoa_nonneg, natOf_inv hn]
theorem dg_let {c : UInt8} (h : isDg c = true) : isLet c = false := by
  unfold isDg at h
  unfold isLet
  simp at h ⊢
  omega
theorem isNm_itoa (v : Int) : isNm (Lib.itoa v) = false := by
  by_cases hv : v < 0
  · obtain ⟨u, rfl⟩ : ∃ u : Nat, v = -(u : Int) := ⟨v.natAbs, by omega⟩
    rw [Lib.itoa_neg u (by omega)]
    unfold isNm
    simp [isLet]
  · obtain ⟨u, rfl⟩ := Int.eq_ofNat_of_zero_le (show 0 ≤ v by omega)
    rw [Lib.itoa_nonneg]
    obtain ⟨c, r, hd, hc⟩ := dd_first u
    rw [hd]
    unfold isNm
    simp [dg_let hc]
theorem dd_nosp (u : Nat) : (32 : UInt8) ∉ Lib.decDigits u := fun h => by
  have := List.all_eq_true.1 (dd_all u) 32 h
  exact absurd this (by decide)
theorem itoa_nosp (v : Int) : (32 : UInt8) ∉ Lib.itoa v := by
  by_cases hv : v < 0
  · obtain ⟨u, rfl⟩ : ∃ u : Nat, v = -(u : Int) := ⟨v.natAbs, by omega⟩
    rw [Lib.itoa_neg u (by omega), List.mem_cons]
    rintro (h | h)
    · exact absurd h (by decide)
    · exact dd_nosp u h
  · obtain ⟨u, rfl⟩ := Int.eq_ofNat_of_zero_le (show 0 ≤ v by omega)
    rw [Lib.itoa_nonneg]
    exact dd_nosp u
theorem splitSp_cons (c : UInt8) (r : Tx) : splitSp (c :: r) = if c = 32 then [] :: splitSp r else match splitSp r with | [] => [[c]] | p :: q => (c :: p) :: q := rfl
theorem split_one : ∀ (p : Tx), (32 : UInt8) ∉ p → splitSp p = [p]
  | [], _ => rfl
  | c :: r, h => by
    rw [List.mem_cons, not_or] at h
    unfold splitSp
    rw [if_neg (fun e => h.1 e.symm), split_one r h.2]
theorem split_app : ∀ (p r : Tx), (32 : UInt8) ∉ p → splitSp (p ++ 32 :: r) = p :: splitSp r
  | [], r, _ => rfl
  | c :: p, r, h => by
    rw [List.mem_cons, not_or] at h
    rw [List.cons_append, splitSp_cons, if_neg (fun e => h.1 e.symm), split_app p r h.2]
def joinSp : List Tx → Tx
  | [] => []
  | [p] => p
  | p :: q => p ++ 32 :: joinSp q
theorem join_cons (p : Tx) {q : List Tx} (h : q ≠ []) : joinSp (p :: q) = p ++ 32 :: joinSp q := by
  cases q with
  | nil => exact absurd rfl h
  | cons a b => rfl
theorem join_split : ∀ (s : Tx), joinSp (splitSp s) = s
  | [] => rfl
  | c :: r => by
    have ih := join_split r
    unfold splitSp
    split
    · rename_i h
      rw [join_cons _ (splitSp_ne r), ih, h]; rfl
    · split
      · rename_i h; exact absurd h (splitSp_ne r)
      · rename_i p q h
        rw [h] at ih
        cases q with
        | nil => show c :: p = _; rw [← ih]; rfl
        | cons a b => show (c :: p) ++ 32 :: joinSp (a :: b) = _; rw [← ih]; rfl
theorem nm_fin : ∀ k : Fin 30, opOf (nm k.val) = some k.val ∧ (nm k.val).all (fun c => decide (c ≠ 32)) = true := by decide +kernel
theorem opOf_nm {k : Nat} (h : k < 30) : opOf (nm k) = some k := (nm_fin ⟨k, h⟩).1
theorem nm_nosp {k : Nat} (h : k < 30) : (32 : UInt8) ∉ nm k := fun e => by
  have := List.all_eq_true.1 (nm_fin ⟨k, h⟩).2 32 e
  simp at this
def arg (m v : Int) : List Tx := if m = 0 then [] else [Lib.itoa v]
theorem split_fld (p : Tx) (h : (32 : UInt8) ∉ p) (m v : Int) (r : Tx) : splitSp (p ++ fld m v ++ r) = if m = 0 then splitSp (p ++ r) else p :: splitSp (Lib.itoa v ++ r) := by
  unfold fld
  split
  · simp
  · rw [List.append_assoc, List.cons_append, split_app p _ h]
theorem split_line {k : Nat} (hk : k < 30) (a b i : Int) : splitSp (line k a b i) = nm k :: (arg (mA k) a ++ arg (mB k) b ++ arg (mI k) i) := by
  have key : ∀ (p : Tx), (32 : UInt8) ∉ p → ∀ m v, splitSp (p ++ fld m v) = p :: arg m v := fun p hp m v => by
    have := split_fld p hp m v []
    rw [List.append_nil] at this
    rw [this]
    unfold arg
    split
    · rw [List.append_nil, split_one p hp]
    · rw [List.append_nil, split_one _ (itoa_nosp v)]
  have key2 : ∀ (p : Tx), (32 : UInt8) ∉ p → ∀ m v m' v', splitSp (p ++ fld m v ++ fld m' v') = p :: (arg m v ++ arg m' v') := fun p hp m v m' v' => by
    rw [split_fld p hp m v]
    split
    · rename_i h; rw [key p hp]; unfold arg; rw [if_pos h]; rfl
    · rename_i h; rw [key _ (itoa_nosp v)]; unfold arg; rw [if_neg h]; rfl
  unfold line
  rw [List.append_assoc, List.append_assoc, ← List.append_assoc, split_fld _ (nm_nosp hk)]
  split
  · rename_i h
    rw [← List.append_assoc, key2 _ (nm_nosp hk)]; unfold arg; rw [if_pos h]; rfl
  · rename_i h
    rw [← List.append_assoc, key2 _ (itoa_nosp a)]; unfold arg; rw [if_neg h]; rfl
theorem eat_arg {m v : Int} {j : Bool} {r : List Tx} (h0 : -32768 ≤ v) (h1 : v ≤ 32768) (hm : m = 0 → v = 0) : eat m j (arg m v ++ r) = some (v, [], r) := by
  unfold eat arg
  split
  · rename_i h; rw [hm h]; rfl
  · show (if (j && isNm (Lib.itoa v)) = true then _ else match whole (Lib.itoa v) with | none => none | some v => some (v, [], r)) = _
    rw [isNm_itoa, Bool.and_false, if_neg (by simp), whole_itoa h0 h1]
theorem parse_line {k : Nat} {a b i : Int} (h : May k a b i) : parse (line k a b i) = some ((k, a, b, i), []) := by
  have hf := h.2
  have hk : k < 30 := by have := hf.k30; simpa using this
  have hF : Fits k a b i := by simpa using hf
  have hb := hF.bd
  have ha1 := hF.a1
  have hb1 := hF.b1
  have hi0 := hF.i0
  have hi1 := hF.i1
  have e1 : eat (mA k) false (arg (mA k) a ++ (arg (mB k) b ++ arg (mI k) i)) = some (a, [], arg (mB k) b ++ arg (mI k) i) := eat_arg (by omega) (by omega) (fun e => by omega)
  have e2 : eat (mB k) false (arg (mB k) b ++ arg (mI k) i) = some (b, [], arg (mI k) i) := eat_arg (by omega) (by omega) (fun e => by omega)
  have e3 : eat (mI k) (isJ k) (arg (mI k) i) = some (i, [], []) := by
    have := eat_arg (m := mI k) (v := i) (j := isJ k) (r := []) (by omega) (by omega) (fun e => by rw [e] at hi0 hi1; simp [lo] at hi0; omega)
    rwa [List.append_nil] at this
  unfold parse
  rw [split_line hk]
  unfold parseL
  simp only
  rw [opOf_nm hk]
  simp only
  unfold eats
  rw [List.append_assoc, e1]
  simp only
  rw [e2]
  simp only
  rw [e3]
  simp only
  rw [if_pos ⟨trivial, hF⟩]
theorem findFrom_nm (t : Tx) : ∀ (l : List Tx) (b k : Nat), findFrom t b l = some k → b ≤ k ∧ l[k - b]? = some t
  | [], b, k, h => by simp [findFrom] at h
  | n :: r, b, k, h => by
    unfold findFrom at h
    split at h
    · rename_i e
      simp at h
      subst h e
      simp
    · obtain ⟨h1, h2⟩ := findFrom_nm t r (b + 1) k h
      refine ⟨by omega, ?_⟩
      rw [show k - b = (k - (b + 1)) + 1 by omega, List.getElem?_cons_succ]
      exact h2
theorem opOf_inv {t : Tx} {k : Nat} (h : opOf t = some k) : t = nm k := by
  have := (findFrom_nm t nmT 0 k h).2
  unfold nm
  rw [List.getD_eq_getElem?_getD, show nmT[k]? = some t by simpa using this]
  rfl
theorem eat_inv {m v : Int} {j : Bool} {st r : List Tx} (h : eat m j st = some (v, [], r)) : st = arg m v ++ r ∧ (m = 0 → v = 0) := by
  unfold eat at h
  unfold arg
  split at h
  · rename_i hm
    cases h
    rw [if_pos hm]
    exact ⟨rfl, fun _ => rfl⟩
  · rename_i hm
    rw [if_neg hm]
    split at h
    · cases h
    · rename_i t q
      split at h
      · rename_i hc
        cases h
        rw [Bool.and_eq_true] at hc
        have := hc.2
        simp [isNm] at this
      · split at h
        · cases h
        · rename_i v' hw
          cases h
          rw [whole_inv hw]
          exact ⟨rfl, fun e => absurd e hm⟩
theorem eat_nolab {m v : Int} {st r : List Tx} {l : Tx} (h : eat m false st = some (v, l, r)) : l = [] := by
  unfold eat at h
  split at h
  · cases h; rfl
  · split at h
    · cases h
    · split at h
      · rename_i hc; simp at hc
      · split at h
        · cases h
        · cases h; rfl
theorem join_line (p : Tx) (m1 v1 m2 v2 m3 v3 : Int) : joinSp (p :: (arg m1 v1 ++ arg m2 v2 ++ arg m3 v3)) = p ++ fld m1 v1 ++ fld m2 v2 ++ fld m3 v3 := by
  unfold arg fld
  by_cases h1 : m1 = 0 <;> by_cases h2 : m2 = 0 <;> by_cases h3 : m3 = 0 <;> simp [h1, h2, h3, joinSp]
theorem line_parse {s : Tx} {k : Nat} {a b i : Int} (h : parse s = some ((k, a, b, i), [])) : s = line k a b i := by
  have hj := join_split s
  unfold parse at h
  cases hs : splitSp s with
  | nil => exact absurd hs (splitSp_ne s)
  | cons hd L =>
    rw [hs] at h hj
    unfold parseL at h
    simp only at h
    split at h
    · cases h
    · rename_i k' hop
      split at h
      · cases h
      · rename_i hea
        cases h
        unfold eats at hea
        split at hea
        · cases hea
        · rename_i a' l1 s1 h1
          split at hea
          · cases hea
          · rename_i b' l2 s2 h2
            split at hea
            · cases hea
            · rename_i i' l3 s3 h3
              split at hea
              · rename_i hF
                cases hea
                obtain rfl := eat_nolab h1
                obtain rfl := eat_nolab h2
                obtain ⟨rfl, _⟩ := eat_inv h1
                obtain ⟨rfl, _⟩ := eat_inv h2
                obtain ⟨rfl, _⟩ := eat_inv h3
                obtain ⟨rfl, _⟩ := hF
                rw [opOf_inv hop, List.append_nil, ← List.append_assoc, join_line] at hj
                exact hj.symm
              · cases hea
/-- Two lines that are one are one instruction's. -/
theorem line_inj {k k' : Nat} {a b i a' b' i' : Int} (h : May k a b i) (h' : May k' a' b' i') (e : line k a b i = line k' a' b' i') : k = k' ∧ a = a' ∧ b = b' ∧ i = i' := by
  have h1 := parse_line h
  rw [e, parse_line h'] at h1
  simp only [Option.some.injEq, Prod.mk.injEq] at h1
  exact ⟨h1.1.1.symm, h1.1.2.1.symm, h1.1.2.2.1.symm, h1.1.2.2.2.symm⟩
end Go.Proofs.YtlddjjkbnhhfaaaDoor.IsaO
