/-
  Plain words: the document assembles in two rounds through the lines; it comes to what taking and linking come to.
-/
import Derived.Test.YtocbilaaklapkaaDoorPlainL
import Derived.Test.YtocbilaaklapkaaDoorTkp
namespace Go.Proofs.YtocbilaaklapkaaDoor.Rp
open Go IsaM IsaE IsaF IsaG IsaH IsaI IsaJ IsaB IsaK IsaQ IsaR IsaU IsaO IsaN Told PlainL Tkp
set_option linter.unusedVariables false

/-- A text's parts between the bytes 10. -/
def spl : Tx → List Tx
  | [] => [[]]
  | c :: r => if c = 10 then [] :: spl r else match spl r with
    | [] => [[c]]
    | p :: q => (c :: p) :: q
theorem spl_cons (c : UInt8) (r : Tx) : spl (c :: r) = if c = 10 then [] :: spl r else match spl r with | [] => [[c]] | p :: q => (c :: p) :: q := rfl
theorem spl_one : ∀ (p : Tx), (10 : UInt8) ∉ p → spl p = [p]
  | [], _ => rfl
  | c :: r, h => by
    rw [List.mem_cons, not_or] at h
    unfold spl
    rw [if_neg (fun e => h.1 e.symm), spl_one r h.2]
theorem spl_app : ∀ (p r : Tx), (10 : UInt8) ∉ p → spl (p ++ 10 :: r) = p :: spl r
  | [], r, _ => rfl
  | c :: p, r, h => by
    rw [List.mem_cons, not_or] at h
    rw [List.cons_append, spl_cons, if_neg (fun e => h.1 e.symm), spl_app p r h.2]
theorem spl_ne (t : Tx) : spl t ≠ [] := by
  cases t with
  | nil => simp [spl]
  | cons c r => unfold spl; split; · simp
                split <;> simp
/-- Whole lines, and what is left behind the last byte 10. -/
def linesT (t : Tx) : List Tx := (spl t).dropLast
def restT (t : Tx) : Tx := (spl t).getLastD []
theorem cut10 (t : Tx) : (∃ p r, t = p ++ 10 :: r ∧ (10 : UInt8) ∉ p) ∨ (10 : UInt8) ∉ t := by
  induction t with
  | nil => exact .inr (by simp)
  | cons c t ih =>
    by_cases hc : c = 10
    · exact .inl ⟨[], t, by rw [hc]; rfl, by simp⟩
    · rcases ih with ⟨p, r, h1, h2⟩ | h
      · exact .inl ⟨c :: p, r, by rw [h1]; rfl, by rw [List.mem_cons, not_or]; exact ⟨fun e => hc e.symm, h2⟩⟩
      · exact .inr (by rw [List.mem_cons, not_or]; exact ⟨fun e => hc e.symm, h⟩)
theorem rawL_one (t : Tx) (h : (10 : UInt8) ∉ t) (hne : t ≠ []) : rawL t = [t] := by
  unfold rawL
  obtain ⟨n, hn⟩ : ∃ n, t.length = n + 1 := ⟨t.length - 1, by have := List.length_pos_iff.2 hne; omega⟩
  have he : endOf t = t.length := by
    unfold endOf
    rw [idx_none t h, if_pos (by omega)]
  rw [hn]
  show (if t = [] then [] else _) = _
  rw [if_neg hne, he, List.take_of_length_le (by omega), List.drop_of_length_le (by omega)]
  cases n <;> simp [rawN]
/-- One line more at the text's head, for both ways of cutting. -/
theorem lines_more (p r : Tx) (h : (10 : UInt8) ∉ p) : linesT (p ++ 10 :: r) = p :: linesT r ∧ restT (p ++ 10 :: r) = restT r := by
  unfold linesT restT
  rw [spl_app p r h]
  obtain ⟨a, b, hs⟩ : ∃ a b, spl r = a :: b := by
    cases hs : spl r with
    | nil => exact absurd hs (spl_ne r)
    | cons a b => exact ⟨a, b, rfl⟩
  rw [hs]
  exact ⟨rfl, rfl⟩
theorem lines_last (t : Tx) (h : (10 : UInt8) ∉ t) : linesT t = [] ∧ restT t = t := by
  unfold linesT restT
  rw [spl_one t h]
  exact ⟨rfl, rfl⟩

/-- The document's place of a name: the first of the list. -/
def fnd (t : Tx) : List (Tx × Nat) → Option Nat
  | [] => none
  | (s, n) :: r => if s = t then some n else fnd t r
theorem fnd_place (t : Tx) : ∀ l, fnd t l = place t l
  | [] => rfl
  | (s, n) :: r => by unfold fnd place; rw [fnd_place t r]
theorem fnd_snoc (t s : Tx) (n : Nat) : ∀ (l : List (Tx × Nat)), fnd t (l ++ [(s, n)]) = match fnd t l with | some q => some q | none => if s = t then some n else none
  | [] => by unfold fnd; rfl
  | (a, b) :: r => by
    show (if a = t then some b else fnd t (r ++ [(s, n)])) = _
    rw [fnd_snoc t s n r]
    show _ = match (if a = t then some b else fnd t r) with | some q => some q | none => _
    split <;> rfl

/-- Is it a word's number? -/
noncomputable def wordNo (t : Tx) : Option Nat := match numOf (t.drop 5) with
  | none => none
  | some v => if 0 ≤ v ∧ v < 4294967296 then some v.toNat else none
def isWord (t : Tx) : Bool := decide (5 < t.length) && (t.take 5 == wordP)
/-- The first round, at one line: places and how many words there are; none: it goes wrong. -/
noncomputable def one1 (l : Tx) (pl : List (Tx × Nat)) (n : Nat) : Option (List (Tx × Nat) × Nat) :=
  if l.getLast? = some 58 then (if isNm l.dropLast = true ∧ fnd l.dropLast pl = none then some (pl ++ [(l.dropLast, n)], n) else none)
  else if (if isWord l = true then (wordNo l).isSome else (parse l).isSome) = true ∧ n ≠ 512 then some (pl, n + 1) else none
noncomputable def round1 : Nat → List Tx → List (Tx × Nat) → Nat → Nat ⊕ (List (Tx × Nat) × Nat)
  | _, [], pl, n => .inr (pl, n)
  | m, l :: r, pl, n => match one1 l pl n with
    | none => .inl m
    | some x => round1 (m + 1) r x.1 x.2
/-- The second round, at one line: the words, or none: it goes wrong. -/
noncomputable def one2 (pl : List (Tx × Nat)) (l : Tx) (out : List Nat) : Option (List Nat) :=
  if l.getLast? = some 58 then some out
  else if isWord l = true then some (out ++ [(wordNo l).getD 0])
  else match parse l with
    | none => some out
    | some ((k, a, b, i), lb) => if lb = [] then some (out ++ [encN k a b i]) else match fnd lb pl with
      | none => none
      | some q => some (out ++ [encN k a b (immOf q out.length)])
noncomputable def round2 (pl : List (Tx × Nat)) : Nat → List Tx → List Nat → Nat ⊕ List Nat
  | _, [], out => .inr out
  | m, l :: r, out => match one2 pl l out with
    | none => .inl m
    | some o => round2 pl (m + 1) r o
/-- What the document's Assemble comes to. -/
noncomputable def rasm (t : Tx) : Nat ⊕ List Nat := match round1 1 (linesT t) [] 0 with
  | .inl m => .inl m
  | .inr x => if restT t ≠ [] then .inl ((linesT t).length + 1) else round2 x.1 1 (linesT t) []

theorem isWord_pre {t : Tx} (h : isWord t = true) : wordP.isPrefixOf t = true := by
  unfold isWord at h
  simp only [Bool.and_eq_true, decide_eq_true_eq, beq_iff_eq] at h
  rw [List.isPrefixOf_iff_prefix]
  exact ⟨t.drop 5, by rw [← h.2]; exact List.take_append_drop 5 t⟩
theorem pre_isWord {t : Tx} (h : wordP.isPrefixOf t = true) : isWord t = true ∨ t = wordP := by
  rw [List.isPrefixOf_iff_prefix] at h
  obtain ⟨r, rfl⟩ := h
  cases r with
  | nil => exact .inr (by simp)
  | cons c r => exact .inl (by unfold isWord; simp [wordP])
theorem natOf_num (t : Tx) : natOf t = match numOf t with | none => none | some v => if 0 ≤ v ∧ v < 4294967296 then some v.toNat else none := by
  cases hn : natOf t with
  | some n =>
    have ht := natOf_inv hn
    have hle : n ≤ 4294967295 := by
      unfold natOf at hn
      split at hn
      · cases hn
      · split at hn
        · have := Option.some.inj hn; omega
        · cases hn
    have hl : t.length ≤ 10 := by rw [ht]; exact IsaO.dd_len 9 n (by omega)
    rw [numOf_mk (v := (n : Int)) (by rw [Lib.itoa_nonneg, ht]) hl]
    simp only
    rw [if_pos ⟨by omega, by omega⟩]
    simp
  | none =>
    cases hm : numOf t with
    | none => rfl
    | some v =>
      simp only
      by_cases hv : 0 ≤ v ∧ v < 4294967296
      · obtain ⟨u, rfl⟩ := Int.eq_ofNat_of_zero_le hv.1
        have h := (numOf_some hm).1
        rw [Lib.itoa_nonneg] at h
        rw [← h, natOf_dd (by omega)] at hn
        cases hn
      · rw [if_neg hv]
theorem wordNo_nat (t : Tx) : wordNo t = natOf (t.drop 5) := by unfold wordNo; rw [natOf_num]
theorem parse_wordP : parse wordP = none := by kernel_rfl
theorem isW_parse {t : Tx} (h : isWord t = true) : parse t = none := by
  cases hp : parse t with
  | none => rfl
  | some x =>
    have := parse_noword (x := x.1) (l := x.2) hp
    rw [isWord_pre h] at this
    cases this

/-- The document's places, and ours, say the same. -/
def Sam (pl : List (Tx × Nat)) (p : PSt) (n : Nat) : Prop := (∀ t, fnd t pl = place t p.places) ∧ n = p.words.length
theorem one_take (m : Nat) (l : Tx) (pl : List (Tx × Nat)) (n : Nat) (p : PSt) (h : Sam pl p n) : (one1 l pl n = none ∧ takeS m l p = none) ∨ (∃ x q, one1 l pl n = some x ∧ takeS m l p = some q ∧ Sam x.1 q x.2) := by
  unfold one1 takeS
  by_cases h58 : l.getLast? = some 58
  · rw [if_pos h58, if_pos h58, h.1]
    cases hp : place l.dropLast p.places with
    | some q => exact .inl ⟨if_neg (fun e => by cases e.2), if_pos rfl⟩
    | none =>
      rw [if_neg (show ¬ (none : Option Nat).isSome = true by simp)]
      by_cases hn : isNm l.dropLast = true
      · rw [if_pos ⟨hn, rfl⟩, if_pos hn]
        refine .inr ⟨_, _, rfl, rfl, fun t => ?_, h.2⟩
        show fnd t (pl ++ [(l.dropLast, n)]) = place t ((l.dropLast, p.words.length) :: p.places)
        rw [fnd_snoc, h.1 t, h.2]
        show _ = if l.dropLast = t then some p.words.length else place t p.places
        by_cases ht : l.dropLast = t
        · subst ht
          rw [hp, if_pos rfl]
        · rw [if_neg ht, if_neg ht]
          cases place t p.places <;> rfl
      · rw [if_neg (fun e => hn e.1), if_neg hn]
        exact .inl ⟨rfl, rfl⟩
  · rw [if_neg h58, if_neg h58]
    by_cases hw : isWord l = true
    · rw [if_pos hw, if_pos (isWord_pre hw), wordNo_nat, h.2]
      cases hn : natOf (l.drop 5) with
      | none => exact .inl ⟨if_neg (fun e => by cases e.1), rfl⟩
      | some v =>
        simp only
        by_cases h5 : p.words.length = 512
        · rw [if_neg (fun e => e.2 h5), if_pos h5]; exact .inl ⟨rfl, rfl⟩
        · rw [if_pos ⟨rfl, h5⟩, if_neg h5]
          exact .inr ⟨_, _, rfl, rfl, h.1, by show _ = (p.words ++ [v]).length; rw [List.length_append]; rfl⟩
    · rw [if_neg hw]
      by_cases hw2 : wordP.isPrefixOf l = true
      · obtain rfl := (pre_isWord hw2).resolve_left hw
        rw [if_pos hw2, parse_wordP]
        rw [show natOf (wordP.drop 5) = none by decide]
        exact .inl ⟨if_neg (fun e => by cases e.1), rfl⟩
      · rw [if_neg hw2, h.2]
        cases hp : parse l with
        | none => exact .inl ⟨if_neg (fun e => by cases e.1), rfl⟩
        | some x =>
          obtain ⟨⟨k, a, b, i⟩, lb⟩ := x
          simp only
          by_cases h5 : p.words.length = 512
          · rw [if_neg (fun e => e.2 h5), if_pos h5]; exact .inl ⟨rfl, rfl⟩
          · rw [if_pos ⟨rfl, h5⟩, if_neg h5]
            refine .inr ⟨_, _, rfl, rfl, fun t => ?_, ?_⟩
            · rw [h.1 t]; split <;> rfl
            · split
              · show _ = (p.words ++ [_]).length; rw [List.length_append]; rfl
              · show _ = (p.words ++ [_]).length; rw [List.length_append]; rfl
/-- The raw lines of whole ones. -/
def rawOf (L : List Tx) : List Tx := L.map (· ++ [10])
theorem step_line (m : Nat) (l : Tx) (p : PSt) : stepL m (l ++ [10]) p = takeS m l p := by
  unfold stepL cutL
  rw [if_pos (by simp), List.dropLast_concat]
  rfl
theorem round_walk : ∀ (L : List Tx) (m : Nat) (pl : List (Tx × Nat)) (n : Nat) (p : PSt), Sam pl p n →
    (∃ e, round1 m L pl n = .inl e ∧ walkX (linesX m (rawOf L)) p = .inl e) ∨ (∃ x q, round1 m L pl n = .inr x ∧ walkX (linesX m (rawOf L)) p = .inr q ∧ Sam x.1 q x.2)
  | [], m, pl, n, p, h => .inr ⟨(pl, n), p, rfl, rfl, h⟩
  | l :: r, m, pl, n, p, h => by
    have hw : walkX (linesX m (rawOf (l :: r))) p = match takeS m l p with | none => .inl m | some q => walkX (linesX (m + 1) (rawOf r)) q := by
      show walkX ((m, l ++ [10]) :: linesX (m + 1) (rawOf r)) p = _
      rw [walkX_cons, step_line]
      cases takeS m l p <;> rfl
    rw [hw]
    unfold round1
    rcases one_take m l pl n p h with ⟨h1, h2⟩ | ⟨x, q, h1, h2, h3⟩
    · rw [h1, h2]; exact .inl ⟨m, rfl, rfl⟩
    · rw [h1, h2]
      exact round_walk r (m + 1) x.1 x.2 q h3
theorem rawL_lines : ∀ (n : Nat) (t : Tx), t.length ≤ n → rawL t = rawOf (linesT t) ++ (if restT t = [] then [] else [restT t])
  | n, t, hn => by
    rcases cut10 t with ⟨p, r, rfl, hp⟩ | h
    · cases n with
      | zero => simp at hn
      | succ n =>
        obtain ⟨e1, e2⟩ := lines_more p r hp
        rw [rawL_cons p r hp, e1, e2, rawL_lines n r (by simp at hn; omega)]
        rfl
    · obtain ⟨e1, e2⟩ := lines_last t h
      rw [e1, e2]
      by_cases hne : t = []
      · subst hne; rfl
      · rw [if_neg hne, rawL_one t h hne]; rfl
theorem rest_no10 : ∀ (n : Nat) (t : Tx), t.length ≤ n → (10 : UInt8) ∉ restT t
  | n, t, hn => by
    rcases cut10 t with ⟨p, r, rfl, hp⟩ | h
    · cases n with
      | zero => simp at hn
      | succ n =>
        rw [(lines_more p r hp).2]
        exact rest_no10 n r (by simp at hn; omega)
    · rw [(lines_last t h).2]; exact h
theorem linesX_app : ∀ (A B : List Tx) (m : Nat), linesX m (A ++ B) = linesX m A ++ linesX (m + A.length) B
  | [], B, m => rfl
  | a :: A, B, m => by
    show (m, a) :: linesX (m + 1) (A ++ B) = (m, a) :: (linesX (m + 1) A ++ _)
    rw [linesX_app A B (m + 1), List.length_cons, show m + 1 + A.length = m + (A.length + 1) by omega]

/-- How a walk goes on. -/
theorem walk_grow : ∀ (L : List Tx) (m : Nat) (p q : PSt), walkX (linesX m (rawOf L)) p = .inr q → (∃ W, q.words = p.words ++ W) ∧ (∃ J, q.jumps = p.jumps ++ J)
  | [], m, p, q, h => by cases h; exact ⟨⟨[], by simp⟩, ⟨[], by simp⟩⟩
  | l :: r, m, p, q, h => by
    have hw : walkX (linesX m (rawOf (l :: r))) p = match takeS m l p with | none => .inl m | some q => walkX (linesX (m + 1) (rawOf r)) q := by
      show walkX ((m, l ++ [10]) :: linesX (m + 1) (rawOf r)) p = _
      rw [walkX_cons, step_line]
      cases takeS m l p <;> rfl
    rw [hw] at h
    cases ht : takeS m l p with
    | none => rw [ht] at h; cases h
    | some p' =>
      rw [ht] at h
      obtain ⟨⟨W, hW⟩, ⟨J, hJ⟩⟩ := walk_grow r (m + 1) p' q h
      have h1 : (∃ W, p'.words = p.words ++ W) ∧ (∃ J, p'.jumps = p.jumps ++ J) := by
        unfold takeS at ht
        split at ht
        · split at ht
          · cases ht
          · split at ht
            · cases ht; exact ⟨⟨[], by simp [addP]⟩, ⟨[], by simp [addP]⟩⟩
            · cases ht
        · split at ht
          · split at ht
            · cases ht
            · split at ht
              · cases ht
              · cases ht; exact ⟨⟨_, rfl⟩, ⟨[], by simp [addW]⟩⟩
          · split at ht
            · cases ht
            · split at ht
              · cases ht
              · cases ht
                split
                · exact ⟨⟨_, rfl⟩, ⟨[], by simp [addW]⟩⟩
                · exact ⟨⟨_, rfl⟩, ⟨_, rfl⟩⟩
      obtain ⟨⟨W', hW'⟩, ⟨J', hJ'⟩⟩ := h1
      exact ⟨⟨W' ++ W, by rw [hW, hW', List.append_assoc]⟩, ⟨J' ++ J, by rw [hJ, hJ', List.append_assoc]⟩⟩
theorem jump_may {k : Nat} {a b i : Int} {s lb : Tx} (h : parse s = some ((k, a, b, i), lb)) (hl : lb ≠ []) {v : Int} (h0 : -32768 ≤ v) (h1 : v ≤ 32767) : May k a b v := by
  have hm := parse_fits h
  obtain ⟨c0, hf⟩ := hm
  have hF : Fits k a b i := by simpa using hf
  refine ⟨c0, ?_⟩
  have hk := hF.k30
  have hI : mI k = 32767 := by
    rcases mI_cases hk with e | e
    · exfalso
      unfold parse at h
      cases hs : splitSp s with
      | nil => exact splitSp_ne s hs
      | cons hd st =>
        rw [hs] at h
        unfold parseL at h
        simp only at h
        split at h
        · cases h
        · rename_i k' hop
          split at h
          · cases h
          · rename_i he
            cases h
            have h2 := ((Tkp.eats_iff k st a b i lb).1 he).1
            rw [rtake_stage] at h2
            obtain ⟨s1, r1, s2, r2, g1, g2, g3⟩ := h2
            obtain ⟨v1, rfl, _⟩ := ts97 g1
            obtain ⟨v2, rfl, _⟩ := ts98 g2
            rw [e, stage_zero] at g3
            cases g3
            exact hl rfl
    · exact e
  have : Fits k a b v := ⟨hk, hF.a0, hF.a1, hF.b0, hF.b1, by rw [hI]; unfold lo; rw [if_neg (by omega)]; exact h0, by rw [hI]; exact h1⟩
  simpa using this
theorem drop_app (A B : List Nat) : (A ++ B).drop A.length = B := by simp
theorem put_drop (o A W : List Nat) (x : Nat) : (o ++ [x]) ++ (A ++ [x] ++ W).drop (A ++ [x]).length = o ++ (A ++ [x] ++ W).drop A.length := by
  rw [drop_app, List.append_assoc A, drop_app]
  simp
theorem put_drop2 (o A W : List Nat) (x y : Nat) : (o ++ [y]) ++ (A ++ [x] ++ W).drop (A ++ [x]).length = o ++ [y] ++ W := by rw [drop_app]
/-- The second round is the linking. -/
theorem round_link (pl : List (Tx × Nat)) (hpl : ∀ t q, fnd t pl = some q → q ≤ 512) : ∀ (L : List Tx) (m : Nat) (p q : PSt) (out : List Nat), walkX (linesX m (rawOf L)) p = .inr q → q.words.length ≤ 512 → out.length = p.words.length →
    round2 pl m L out = linkS pl (q.jumps.drop p.jumps.length) (out ++ q.words.drop p.words.length)
  | [], m, p, q, out, h, _, _ => by cases h; simp [round2, linkS]
  | l :: r, m, p, q, out, h, hq, hout => by
    have hw : walkX (linesX m (rawOf (l :: r))) p = match takeS m l p with | none => .inl m | some q => walkX (linesX (m + 1) (rawOf r)) q := by
      show walkX ((m, l ++ [10]) :: linesX (m + 1) (rawOf r)) p = _
      rw [walkX_cons, step_line]
      cases takeS m l p <;> rfl
    rw [hw] at h
    cases ht : takeS m l p with
    | none => rw [ht] at h; cases h
    | some p' =>
      rw [ht] at h
      simp only at h
      obtain ⟨⟨W, hW⟩, ⟨J, hJ⟩⟩ := walk_grow r (m + 1) p' q h
      have ih := round_link pl hpl r (m + 1) p' q
      unfold round2 one2
      unfold takeS at ht
      by_cases h58 : l.getLast? = some 58
      · rw [if_pos h58] at ht ⊢
        split at ht
        · cases ht
        · split at ht
          · cases ht
            exact ih out h hq hout
          · cases ht
      · rw [if_neg h58] at ht ⊢
        by_cases hw5 : isWord l = true
        · rw [if_pos (isWord_pre hw5)] at ht
          rw [if_pos hw5, wordNo_nat]
          cases hn : natOf (l.drop 5) with
          | none => rw [hn] at ht; cases ht
          | some v =>
            rw [hn] at ht
            simp only at ht ⊢
            split at ht
            · cases ht
            · cases ht
              rw [show (some v).getD 0 = v from rfl, ih (out ++ [v]) h hq (by show _ = (p.words ++ [v]).length; simp [hout])]
              have e1 : (addW p v).words = p.words ++ [v] := rfl
              have e2 : (addW p v).jumps = p.jumps := rfl
              rw [e2, hW, e1, put_drop]
        · rw [if_neg hw5]
          have hnw : ¬ wordP.isPrefixOf l = true := fun e => by
            rcases pre_isWord e with h1 | h1
            · exact hw5 h1
            · subst h1
              rw [if_pos e, show natOf (wordP.drop 5) = none by decide] at ht
              cases ht
          rw [if_neg hnw] at ht
          cases hp : parse l with
          | none => rw [hp] at ht; cases ht
          | some x =>
            obtain ⟨⟨k, a, b, i⟩, lb⟩ := x
            rw [hp] at ht
            simp only at ht ⊢
            split at ht
            · cases ht
            · by_cases hlb : lb = []
              · subst hlb
                rw [if_pos rfl] at ht ⊢
                cases ht
                simp only
                rw [ih (out ++ [encN k a b i]) h hq (by show _ = (p.words ++ [_]).length; simp [hout])]
                have e1 : (addW p (enc k a b i).toNat).words = p.words ++ [encN k a b i] := rfl
                have e2 : (addW p (enc k a b i).toNat).jumps = p.jumps := rfl
                rw [e2, hW, e1, put_drop]
              · rw [if_neg hlb] at ht ⊢
                cases ht
                have e1 : (addW (addJ p ⟨m, p.words.length, k, a, b, i, lb⟩) (enc k a b i).toNat).words = p.words ++ [encN k a b i] := rfl
                have e2 : (addW (addJ p ⟨m, p.words.length, k, a, b, i, lb⟩) (enc k a b i).toNat).jumps = p.jumps ++ [⟨m, p.words.length, k, a, b, i, lb⟩] := rfl
                rw [e2] at hJ
                rw [e1] at hW
                have e3 : q.jumps.drop p.jumps.length = ⟨m, p.words.length, k, a, b, i, lb⟩ :: J := by
                  rw [hJ, List.append_assoc, List.drop_append, List.drop_of_length_le (Nat.le_refl _)]; simp
                have e3' : q.jumps.drop (p.jumps ++ [(⟨m, p.words.length, k, a, b, i, lb⟩ : Jmp)]).length = J := by
                  rw [hJ, List.drop_append, List.drop_of_length_le (Nat.le_refl _)]; simp
                have e4 : q.words.drop p.words.length = encN k a b i :: W := by
                  rw [hW, List.append_assoc, drop_app]; rfl
                have e4' : q.words.drop (p.words ++ [encN k a b i]).length = W := by
                  rw [hW, drop_app]
                rw [e3, e4, linkS]
                simp only
                rw [← fnd_place]
                cases hf : fnd lb pl with
                | none => rfl
                | some qq =>
                  simp only
                  have hqq := hpl lb qq hf
                  have hpw : p.words.length < q.words.length := by rw [hW]; simp
                  rw [if_pos (jump_may hp hlb (by unfold immOf; omega) (by unfold immOf; omega)), hout]
                  rw [ih (out ++ [encN k a b (immOf qq p.words.length)]) h hq (by rw [e1]; simp [hout]), e1, e2, e3', e4']
                  have e5 : (out ++ encN k a b i :: W).set p.words.length (encN k a b (immOf qq p.words.length)) = out ++ [encN k a b (immOf qq p.words.length)] ++ W := by
                    rw [← hout, List.set_append_right _ _ (by omega)]
                    simp
                  rw [e5]
theorem linesT_len (t : Tx) : (linesT t).length ≤ t.length := by
  have h : ∀ (t : Tx), (spl t).length ≤ t.length + 1 := by
    intro t
    induction t with
    | nil => simp [spl]
    | cons c r ih =>
      rw [spl_cons]
      split
      · simp; omega
      · split
        · simp
        · rename_i q qs hq
          rw [hq] at ih
          simp at ih ⊢
          omega
  unfold linesT
  rw [List.length_dropLast]
  have := h t
  omega
theorem walk_wf : ∀ (L : List Tx) (m : Nat) (p q : PSt) {n : Nat}, walkX (linesX m L) p = .inr q → Wf n p → m + L.length ≤ 1000000000 → 0 < m → Wf (n + L.length) q
  | [], m, p, q, n, h, w, _, _ => by cases h; exact w
  | l :: r, m, p, q, n, h, w, hm, h0 => by
    have hw : walkX (linesX m (l :: r)) p = match stepL m l p with | none => .inl m | some q => walkX (linesX (m + 1) r) q := rfl
    rw [hw] at h
    rw [List.length_cons] at hm
    cases ht : stepL m l p with
    | none => rw [ht] at h; cases h
    | some p' =>
      rw [ht] at h
      have := walk_wf r (m + 1) p' q h (stepL_wf ht w (by omega) h0) (by omega) (by omega)
      rw [List.length_cons, show n + (r.length + 1) = n + 1 + r.length by omega]
      exact this
theorem walk_512 : ∀ (L : List Tx) (m : Nat) (p q : PSt), walkX (linesX m (rawOf L)) p = .inr q → p.words.length ≤ 512 → q.words.length ≤ 512
  | [], m, p, q, h, hp => by cases h; exact hp
  | l :: r, m, p, q, h, hp => by
    have hw : walkX (linesX m (rawOf (l :: r))) p = match takeS m l p with | none => .inl m | some q => walkX (linesX (m + 1) (rawOf r)) q := by
      show walkX ((m, l ++ [10]) :: linesX (m + 1) (rawOf r)) p = _
      rw [walkX_cons, step_line]
      cases takeS m l p <;> rfl
    rw [hw] at h
    cases ht : takeS m l p with
    | none => rw [ht] at h; cases h
    | some p' =>
      rw [ht] at h
      refine walk_512 r (m + 1) p' q h ?_
      unfold takeS at ht
      split at ht
      · split at ht
        · cases ht
        · split at ht
          · cases ht; exact hp
          · cases ht
      · split at ht
        · split at ht
          · cases ht
          · split at ht
            · cases ht
            · cases ht; show (p.words ++ [_]).length ≤ 512; rw [List.length_append]; simp; omega
        · split at ht
          · cases ht
          · split at ht
            · cases ht
            · cases ht
              split
              · show (p.words ++ [_]).length ≤ 512; rw [List.length_append]; simp; omega
              · show (p.words ++ [_]).length ≤ 512; rw [List.length_append]; simp; omega
theorem link_pl (pl pl' : List (Tx × Nat)) (h : ∀ t, fnd t pl = place t pl') : ∀ (js : List Jmp) (ws : List Nat), linkS pl js ws = linkS pl' js ws
  | [], ws => rfl
  | j :: r, ws => by
    rw [linkS, linkS, ← fnd_place, h]
    cases place j.label pl' with
    | none => rfl
    | some q =>
      simp only
      split
      · exact link_pl pl pl' h r _
      · rfl
/-- THE DOCUMENT's TWO ROUNDS COME TO WHAT ASSEMBLING COMES TO. -/
theorem rasm_asm (t : Tx) (hl : t.length ≤ 100000) : rasm t = asm t := by
  unfold rasm asm
  rw [rawL_lines t.length t (Nat.le_refl _), linesX_app, walkX_app]
  have hS : Sam [] p0 0 := ⟨fun t => rfl, rfl⟩
  rcases round_walk (linesT t) 1 [] 0 p0 hS with ⟨e, h1, h2⟩ | ⟨x, q, h1, h2, h3⟩
  · rw [h1, h2]
  · rw [h1, h2]
    simp only
    by_cases hr : restT t = []
    · rw [if_neg (by simpa using hr), if_pos hr]
      show _ = match walkX [] q with | .inl n => (Sum.inl n : Nat ⊕ List Nat) | .inr p => linkS p.places p.jumps p.words
      rw [show walkX [] q = .inr q from rfl]
      simp only
      have hwf := walk_wf (rawOf (linesT t)) 1 p0 q h2 wf0 (by have := linesT_len t; rw [rawOf, List.length_map]; omega) (by omega)
      have h512 := walk_512 (linesT t) 1 p0 q h2 (by simp [p0])
      have hr := round_link x.1 (fun s n hs => by
        rw [h3.1] at hs
        exact Nat.le_trans (hwf.po s n hs) h512) (linesT t) 1 p0 q [] h2 h512 rfl
      rw [hr, link_pl x.1 q.places h3.1]
      simp [p0]
    · rw [if_pos hr, if_neg hr]
      have hno : cutL (restT t) = none := by
        unfold cutL
        rw [if_neg (fun e => rest_no10 t.length t (Nat.le_refl _) (List.mem_of_getLast? e))]
      have : (rawOf (linesT t)).length = (linesT t).length := by simp [rawOf]
      show _ = match walkX [(1 + (rawOf (linesT t)).length, restT t)] q with | .inl n => (Sum.inl n : Nat ⊕ List Nat) | .inr p => linkS p.places p.jumps p.words
      rw [walkX_cons]
      unfold stepL
      rw [hno]
      simp only [Option.bind_none]
      rw [this, Nat.add_comm]
end Go.Proofs.YtocbilaaklapkaaDoor.Rp
