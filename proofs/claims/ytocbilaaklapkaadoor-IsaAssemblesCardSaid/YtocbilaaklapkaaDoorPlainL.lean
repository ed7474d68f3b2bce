/-
  Plain words: what List tells is assembled to the same words; labels between make no difference; jumps to labels before and behind.
-/
import Derived.Test.YtocbilaaklapkaaDoorTold
import Derived.Test.YtocbilaaklapkaaDoorIsaO
import Derived.Test.YtocbilaaklapkaaDoorIsaX
namespace Go.Proofs.YtocbilaaklapkaaDoor.PlainL
open Go IsaM IsaE IsaF IsaG IsaH IsaI IsaJ IsaB IsaK IsaQ IsaR IsaU IsaO Told
set_option linter.unusedVariables false

theorem idx_none : ∀ (t : Tx), (10 : UInt8) ∉ t → Lib.indexByte t 10 = -1
  | [], _ => rfl
  | b :: l, h => by
    rw [List.mem_cons, not_or] at h
    show (if (b == 10) = true then 0 else if (Lib.indexByte l 10 == -1) = true then -1 else Lib.indexByte l 10 + 1) = (-1 : Int)
    rw [if_neg (by simp; exact fun e => h.1 e.symm), idx_none l h.2]; rfl
theorem idx_at : ∀ (t r : Tx), (10 : UInt8) ∉ t → Lib.indexByte (t ++ 10 :: r) 10 = t.length
  | [], r, _ => rfl
  | b :: l, r, h => by
    rw [List.mem_cons, not_or] at h
    show (if (b == 10) = true then 0 else if (Lib.indexByte (l ++ 10 :: r) 10 == -1) = true then -1 else Lib.indexByte (l ++ 10 :: r) 10 + 1) = ((b :: l).length : Int)
    rw [if_neg (by simp; exact fun e => h.1 e.symm), idx_at l r h.2, if_neg (by simp)]
    simp
theorem endOf_at (t r : Tx) (h : (10 : UInt8) ∉ t) : endOf (t ++ 10 :: r) = t.length + 1 := by
  unfold endOf
  rw [idx_at t r h, if_neg (by omega)]
  simp
theorem rawN_enough : ∀ (n m : Nat) (t : Tx), t.length ≤ n → t.length ≤ m → rawN n t = rawN m t
  | 0, 0, t, _, _ => rfl
  | 0, m + 1, t, h, _ => by
    obtain rfl : t = [] := List.length_eq_zero_iff.1 (by omega)
    simp [rawN]
  | n + 1, 0, t, _, h => by
    obtain rfl : t = [] := List.length_eq_zero_iff.1 (by omega)
    simp [rawN]
  | n + 1, m + 1, t, h1, h2 => by
    unfold rawN
    split
    · rfl
    · rename_i hne
      have := endOf_pos hne
      rw [rawN_enough n m _ (by rw [List.length_drop]; omega) (by rw [List.length_drop]; omega)]
theorem rawL_cons (t r : Tx) (h : (10 : UInt8) ∉ t) : rawL (t ++ 10 :: r) = (t ++ [10]) :: rawL r := by
  unfold rawL
  have hl : (t ++ 10 :: r).length = (t.length + r.length) + 1 := by simp; omega
  rw [hl]
  show (if t ++ 10 :: r = [] then [] else _) = _
  rw [if_neg (by simp), endOf_at t r h]
  have e1 : (t ++ 10 :: r).take (t.length + 1) = t ++ [10] := by
    rw [List.take_append, List.take_of_length_le (by omega)]; simp
  have e2 : (t ++ 10 :: r).drop (t.length + 1) = r := by
    rw [List.drop_append, List.drop_of_length_le (by omega)]; simp
  rw [e1, e2, rawN_enough _ r.length r (by omega) (Nat.le_refl _)]
theorem rawL_nil : rawL [] = [] := rfl
/-- A line more at the text's head. -/
theorem walk_line (n : Nat) (t r : Tx) (h : (10 : UInt8) ∉ t) (p : PSt) : walkX (linesX n (rawL (t ++ 10 :: r))) p = match takeS n t p with | none => .inl n | some q => walkX (linesX (n + 1) (rawL r)) q := by
  rw [rawL_cons t r h]
  show walkX ((n, t ++ [10]) :: linesX (n + 1) (rawL r)) p = _
  rw [walkX_cons]
  have e : stepL n (t ++ [10]) p = takeS n t p := by
    unfold stepL cutL
    rw [if_pos (by simp), List.dropLast_concat]
    rfl
  rw [e]
  cases takeS n t p <;> rfl

theorem nm_chars : ∀ k : Fin 30, (nm k.val).all (fun c => decide (97 ≤ c.toNat ∧ c.toNat ≤ 122)) = true := by decide +kernel
/-- Letters, digits, blanks, and '-'. -/
def Ok (c : UInt8) : Prop := c = 32 ∨ c = 45 ∨ (48 ≤ c.toNat ∧ c.toNat ≤ 57) ∨ (97 ≤ c.toNat ∧ c.toNat ≤ 122)
theorem dd_ok (u : Nat) : ∀ c ∈ Lib.decDigits u, Ok c := fun c hc => by
  have := List.all_eq_true.1 (dd_all u) c hc
  simp [isDg] at this
  exact .inr (.inr (.inl this))
theorem itoa_ok (v : Int) : ∀ c ∈ Lib.itoa v, Ok c := by
  intro c hc
  by_cases hv : v < 0
  · obtain ⟨u, rfl⟩ : ∃ u : Nat, v = -(u : Int) := ⟨v.natAbs, by omega⟩
    rw [Lib.itoa_neg u (by omega), List.mem_cons] at hc
    rcases hc with rfl | hc
    · exact .inr (.inl rfl)
    · exact dd_ok u c hc
  · obtain ⟨u, rfl⟩ := Int.eq_ofNat_of_zero_le (show 0 ≤ v by omega)
    rw [Lib.itoa_nonneg] at hc
    exact dd_ok u c hc
theorem fld_ok (m v : Int) : ∀ c ∈ fld m v, Ok c := by
  intro c hc
  unfold fld at hc
  split at hc
  · simp at hc
  · rw [List.mem_cons] at hc
    rcases hc with rfl | hc
    · exact .inl rfl
    · exact itoa_ok v c hc
theorem line_ok {k : Nat} (hk : k < 30) (a b i : Int) : ∀ c ∈ line k a b i, Ok c := by
  intro c hc
  unfold line at hc
  simp only [List.mem_append] at hc
  rcases hc with ((hc | hc) | hc) | hc
  · have := List.all_eq_true.1 (nm_chars ⟨k, hk⟩) c hc
    simp at this
    exact .inr (.inr (.inr this))
  · exact fld_ok _ _ c hc
  · exact fld_ok _ _ c hc
  · exact fld_ok _ _ c hc
theorem word_ok : ∀ c ∈ wordP, Ok c := by
  intro c hc
  have : ∀ c ∈ wordP, c = 32 ∨ (97 ≤ c.toNat ∧ c.toNat ≤ 122) := by decide
  rcases this c hc with h | h
  · exact .inl h
  · exact .inr (.inr (.inr h))
theorem told_ok (n : Nat) : ∀ c ∈ toldT n, Ok c := by
  intro c hc
  unfold toldT at hc
  split at hc
  · rename_i h
    obtain ⟨k, hk, hm⟩ := op_nat h
    rw [hk] at hc
    have hf := hm.2.k30
    exact line_ok (by simpa using hf) _ _ _ c hc
  · rcases List.mem_append.1 hc with hc | hc
    · exact word_ok c hc
    · exact dd_ok n c hc
theorem ok_10 {t : Tx} (h : ∀ c ∈ t, Ok c) : (10 : UInt8) ∉ t := fun hc => by
  rcases h 10 hc with h | h | h | h
  · exact absurd h (by decide)
  · exact absurd h (by decide)
  · exact absurd h.1 (by decide)
  · exact absurd h.1 (by decide)
theorem ok_58 {t : Tx} (h : ∀ c ∈ t, Ok c) : t.getLast? ≠ some 58 := fun e => by
  rcases h 58 (List.mem_of_getLast? e) with h | h | h | h
  · exact absurd h (by decide)
  · exact absurd h (by decide)
  · exact absurd h.2 (by decide)
  · exact absurd h.1 (by decide)
/-- What is an instruction's is not said by its number. -/
theorem parse_noword {s : Tx} {x : Nat × Int × Int × Int} {l : Tx} (h : parse s = some (x, l)) : wordP.isPrefixOf s = false := by
  cases hp : wordP.isPrefixOf s with
  | false => rfl
  | true =>
    rw [List.isPrefixOf_iff_prefix] at hp
    obtain ⟨r, rfl⟩ := hp
    exfalso
    unfold parse at h
    rw [show wordP ++ r = [119, 111, 114, 100] ++ 32 :: r from rfl, split_app _ r (by decide)] at h
    unfold parseL at h
    simp only at h
    rw [show opOf [119, 111, 114, 100] = none by decide +kernel] at h
    cases h
theorem take_ins (n : Nat) {s : Tx} (p : PSt) {k : Nat} {a b i : Int} {l : Tx} (hp : parse s = some ((k, a, b, i), l)) (hs : s.getLast? ≠ some 58) (hl : p.words.length ≠ 512) : takeS n s p = some (addW (if l = [] then p else addJ p ⟨n, p.words.length, k, a, b, i, l⟩) (enc k a b i).toNat) := by
  unfold takeS
  rw [if_neg hs, if_neg (by rw [parse_noword hp]; simp), hp]
  simp only
  rw [if_neg hl]
theorem take_told (n x : Nat) (hx : x < 4294967296) (p : PSt) (hl : p.words.length ≠ 512) : takeS n (toldT x) p = some (addW p x) := by
  have h58 := ok_58 (told_ok x)
  unfold toldT at h58 ⊢
  split
  · rename_i h
    rw [if_pos h] at h58
    obtain ⟨k, hk, hm⟩ := op_nat h
    rw [hk, Int.toNat_natCast] at h58 ⊢
    rw [take_ins n p (parse_line hm) h58 hl, if_pos rfl]
    have e := enc_dec (w := (x : Int)) (by omega) (by omega)
    rw [hk] at e
    show some (addW p (enc (k : Int) _ _ _).toNat) = _
    rw [e]
    rfl
  · rename_i h
    rw [if_neg h] at h58
    unfold takeS
    rw [if_neg h58, if_pos (by rw [List.isPrefixOf_iff_prefix]; exact ⟨_, rfl⟩)]
    rw [show (wordP ++ Lib.decDigits x).drop 5 = Lib.decDigits x from rfl, natOf_dd (by omega)]
    simp only
    rw [if_neg hl]
def addWs (p : PSt) (l : List Nat) : PSt := { p with words := p.words ++ l }
theorem addWs_nil (p : PSt) : addWs p [] = p := by simp [addWs]
theorem addWs_cons (p : PSt) (x : Nat) (l : List Nat) : addWs (addW p x) l = addWs p (x :: l) := by simp [addWs, addW]
/-- Words' lines at the text's head. -/
theorem walk_list : ∀ (l : List Nat) (n : Nat) (r : Tx) (p : PSt), (∀ x ∈ l, x < 4294967296) → p.words.length + l.length ≤ 512 → walkX (linesX n (rawL (listT l ++ r))) p = walkX (linesX (n + l.length) (rawL r)) (addWs p l)
  | [], n, r, p, _, _ => by rw [addWs_nil]; rfl
  | x :: l, n, r, p, hx, hl => by
    have e : listT (x :: l) ++ r = toldT x ++ 10 :: (listT l ++ r) := by show (toldT x ++ 10 :: listT l) ++ r = _; simp
    rw [List.length_cons] at hl
    rw [e, walk_line n _ _ (ok_10 (told_ok x)), take_told n x (hx x (by simp)) p (by omega)]
    simp only
    rw [walk_list l (n + 1) r (addW p x) (fun y hy => hx y (by simp [hy])) (by show (p.words ++ [x]).length + _ ≤ _; rw [List.length_append]; simp; omega), addWs_cons, List.length_cons]
    congr 2
    omega

theorem asm_list (l : List Nat) (hx : ∀ x ∈ l, x < 4294967296) (hl : l.length ≤ 512) : asm (listT l) = .inr l := by
  have h := walk_list l 1 [] p0 hx (by simp [p0]; omega)
  rw [List.append_nil] at h
  unfold asm
  rw [h]
  show linkS (addWs p0 l).places (addWs p0 l).jumps (addWs p0 l).words = _
  simp [addWs, p0, linkS]
def firstT : Tx := [102, 105, 114, 115, 116, 58, 10]
def lastT : Tx := [108, 97, 115, 116, 58, 10]
theorem asm_labels (l : List Nat) (hx : ∀ x ∈ l, x < 4294967296) (hl : l.length ≤ 512) : asm (firstT ++ listT l ++ lastT) = .inr l := by
  have h1 : ∀ (r : Tx), walkX (linesX 1 (rawL (firstT ++ r))) p0 = walkX (linesX 2 (rawL r)) ⟨[], [([102, 105, 114, 115, 116], 0)], []⟩ := fun r => by
    rw [show firstT ++ r = [102, 105, 114, 115, 116, 58] ++ 10 :: r from rfl, walk_line 1 _ _ (by decide)]
    rw [show takeS 1 [102, 105, 114, 115, 116, 58] p0 = some ⟨[], [([102, 105, 114, 115, 116], 0)], []⟩ by kernel_rfl]
  have h3 : walkX (linesX (2 + l.length) (rawL lastT)) (addWs ⟨[], [([102, 105, 114, 115, 116], 0)], []⟩ l) = .inr ⟨l, [([108, 97, 115, 116], l.length), ([102, 105, 114, 115, 116], 0)], []⟩ := by
    rw [show lastT = [108, 97, 115, 116, 58] ++ 10 :: [] from rfl, walk_line _ _ _ (by decide)]
    rw [show takeS (2 + l.length) [108, 97, 115, 116, 58] (addWs ⟨[], [([102, 105, 114, 115, 116], 0)], []⟩ l) = some ⟨l, [([108, 97, 115, 116], l.length), ([102, 105, 114, 115, 116], 0)], []⟩ from rfl]
    rfl
  unfold asm
  rw [List.append_assoc, h1, walk_list l 2 lastT _ hx (by show 0 + l.length ≤ _; omega), h3]
  rfl

def xT : Tx := [120, 58, 10]
def jjT : Tx := [106, 97, 108, 32, 51, 32, 120, 10, 106, 109, 112, 32, 121, 10]
def yT : Tx := [121, 58, 10]
theorem asm_jumps (a b : List Nat) (ha : ∀ x ∈ a, x < 4294967296) (hb : ∀ x ∈ b, x < 4294967296) (hla : a.length ≤ 200) (hlb : b.length ≤ 200) :
    ∃ ws, asm (xT ++ listT a ++ jjT ++ listT b ++ yT) = .inr ws ∧ ws.length = a.length + b.length + 2 ∧ ws[a.length]? = some (encN 22 3 0 (-(a.length : Int) - 1)) ∧ ws[a.length + 1]? = some (encN 19 0 0 (b.length : Int)) := by
  obtain ⟨e1, he1⟩ : ∃ e1, (enc 22 3 0 0).toNat = e1 := ⟨_, rfl⟩
  obtain ⟨e2, he2⟩ : ∃ e2, (enc 19 0 0 0).toNat = e2 := ⟨_, rfl⟩
  have h1 : ∀ (r : Tx), walkX (linesX 1 (rawL (xT ++ r))) p0 = walkX (linesX 2 (rawL r)) ⟨[], [([120], 0)], []⟩ := fun r => by
    rw [show xT ++ r = [120, 58] ++ 10 :: r from rfl, walk_line 1 _ _ (by decide)]
    rw [show takeS 1 [120, 58] p0 = some ⟨[], [([120], 0)], []⟩ by kernel_rfl]
  have q1 : parse [106, 97, 108, 32, 51, 32, 120] = some ((22, 3, 0, 0), [120]) := by kernel_rfl
  have q2 : parse [106, 109, 112, 32, 121] = some ((19, 0, 0, 0), [121]) := by kernel_rfl
  have h2 : ∀ (n : Nat) (r : Tx), walkX (linesX n (rawL (jjT ++ r))) ⟨a, [([120], 0)], []⟩ = walkX (linesX (n + 1 + 1) (rawL r)) ⟨a ++ [e1] ++ [e2], [([120], 0)], [⟨n, a.length, 22, 3, 0, 0, [120]⟩, ⟨n + 1, a.length + 1, 19, 0, 0, 0, [121]⟩]⟩ := fun n r => by
    rw [show jjT ++ r = [106, 97, 108, 32, 51, 32, 120] ++ 10 :: ([106, 109, 112, 32, 121] ++ 10 :: r) from rfl, walk_line n _ _ (by decide), take_ins n _ q1 (by decide) (by show a.length ≠ 512; omega)]
    simp only
    rw [walk_line (n + 1) _ _ (by decide), take_ins (n + 1) _ q2 (by decide) (by rw [if_neg (by decide)]; show (a ++ [_]).length ≠ 512; rw [List.length_append]; simp; omega)]
    rw [if_neg (by decide), if_neg (by decide)]
    simp only [addW, addJ]
    rw [show ((22 : Nat) : Int) = 22 from rfl, show ((19 : Nat) : Int) = 19 from rfl, he1, he2]
    simp
  have h3 : ∀ n, walkX (linesX n (rawL yT)) ⟨a ++ [e1] ++ [e2] ++ b, [([120], 0)], [⟨2 + a.length, a.length, 22, 3, 0, 0, [120]⟩, ⟨2 + a.length + 1, a.length + 1, 19, 0, 0, 0, [121]⟩]⟩ = .inr ⟨a ++ [e1] ++ [e2] ++ b, [([121], (a ++ [e1] ++ [e2] ++ b).length), ([120], 0)], [⟨2 + a.length, a.length, 22, 3, 0, 0, [120]⟩, ⟨2 + a.length + 1, a.length + 1, 19, 0, 0, 0, [121]⟩]⟩ := fun n => by
    rw [show yT = [121, 58] ++ 10 :: [] from rfl, walk_line _ _ _ (by decide)]
    rfl
  have ht : xT ++ listT a ++ jjT ++ listT b ++ yT = xT ++ (listT a ++ (jjT ++ (listT b ++ yT))) := by simp
  have hlen : (a ++ [e1] ++ [e2] ++ b).length = a.length + b.length + 2 := by simp; omega
  have m1 : May (22 : Nat) 3 0 (immOf 0 a.length) := by
    refine ⟨by decide, ⟨by decide, by decide, by decide, by decide, by decide, ?_, ?_⟩⟩
    · show lo 32767 ≤ _; unfold lo immOf; simp; omega
    · show _ ≤ (32767 : Int); unfold immOf; omega
  have m2 : May (19 : Nat) 0 0 (immOf (a.length + b.length + 2) (a.length + 1)) := by
    refine ⟨by decide, ⟨by decide, by decide, by decide, by decide, by decide, ?_, ?_⟩⟩
    · show lo 32767 ≤ _; unfold lo immOf; simp; omega
    · show _ ≤ (32767 : Int); unfold immOf; omega
  have i1 : immOf 0 a.length = -(a.length : Int) - 1 := by unfold immOf; omega
  have i2 : immOf (a.length + b.length + 2) (a.length + 1) = (b.length : Int) := by unfold immOf; omega
  refine ⟨((a ++ [e1] ++ [e2] ++ b).set a.length (encN 22 3 0 (-(a.length : Int) - 1))).set (a.length + 1) (encN 19 0 0 (b.length : Int)), ?_, ?_, ?_, ?_⟩
  · unfold asm
    rw [ht, h1, walk_list a 2 _ _ ha (by show 0 + a.length ≤ _; omega)]
    rw [show addWs ⟨[], [([120], 0)], []⟩ a = (⟨a, [([120], 0)], []⟩ : PSt) from rfl, h2, walk_list b _ _ _ hb (by simp; omega)]
    rw [show ∀ (ws : List Nat) pl js, addWs ⟨ws, pl, js⟩ b = (⟨ws ++ b, pl, js⟩ : PSt) from fun _ _ _ => rfl, h3, hlen]
    simp only
    rw [linkS]
    simp only
    rw [show place [120] [([121], a.length + b.length + 2), ([120], 0)] = some 0 from rfl]
    simp only
    rw [if_pos m1, linkS]
    simp only
    rw [show place [121] [([121], a.length + b.length + 2), ([120], 0)] = some (a.length + b.length + 2) from rfl]
    simp only
    rw [if_pos m2, linkS, i1, i2]
  · rw [List.length_set, List.length_set]; exact hlen
  · rw [List.getElem?_set_ne (by omega), List.getElem?_set_self (by rw [hlen]; omega)]
  · rw [List.getElem?_set_self (by rw [List.length_set, hlen]; omega)]
end Go.Proofs.YtocbilaaklapkaaDoor.PlainL
