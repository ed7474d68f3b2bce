/-
  Assembling, in plain words: line after line, then the jumps.
-/
import Derived.Test.YtlddjjkbnhhfaaaDoorIsaK
import Derived.Test.YtlddjjkbnhhfaaaDoorIsaQ
namespace Go.Proofs.YtlddjjkbnhhfaaaDoor.IsaU
open Go Go.RowKit Kit IsaM IsaT IsaL IsaC IsaE IsaN IsaD IsaA IsaW IsaS IsaP IsaR IsaB IsaF IsaG IsaH IsaI IsaJ IsaK IsaQ
set_option linter.unusedVariables false

def cutL (t : Tx) : Option Tx := if t.getLast? = some 10 then some t.dropLast else none
/-- One raw line more. -/
def stepL (n : Nat) (l : Tx) (p : PSt) : Option PSt := (cutL l).bind fun t => takeS n t p
def walkX : List (Nat × Tx) → PSt → Nat ⊕ PSt
  | [], p => .inr p
  | (n, l) :: r, p => match stepL n l p with
    | none => .inl n
    | some q => walkX r q
def p0 : PSt := ⟨[], [], []⟩
def nth (s : Tx) (k : Nat) : Nat × Tx := (num k, lineAt s k)
def linesX : Nat → List Tx → List (Nat × Tx)
  | _, [] => []
  | n, l :: r => (n, l) :: linesX (n + 1) r
/-- What a text says: its first line that goes wrong, or its words. -/
def asm (s : Tx) : Nat ⊕ List Nat := match walkX (linesX 1 (rawL s)) p0 with
  | .inl n => .inl n
  | .inr p => linkS p.places p.jumps p.words
theorem walkX_cons (n : Nat) (l : Tx) (r : List (Nat × Tx)) (p : PSt) : walkX ((n, l) :: r) p = match stepL n l p with | none => .inl n | some q => walkX r q := rfl
theorem walkX_app : ∀ (A B : List (Nat × Tx)) (p : PSt), walkX (A ++ B) p = match walkX A p with | .inl n => .inl n | .inr q => walkX B q
  | [], B, p => rfl
  | (n, l) :: A, B, p => by
    show walkX ((n, l) :: (A ++ B)) p = _
    rw [walkX_cons, walkX_cons]
    cases stepL n l p with
    | none => rfl
    | some q => exact walkX_app A B q
theorem linesX_at : ∀ (L : List Tx) (n k : Nat), (linesX n L)[k]? = L[k]?.map fun l => (n + k, l)
  | [], n, k => by simp [linesX]
  | l :: r, n, 0 => by simp [linesX]
  | l :: r, n, k + 1 => by
    unfold linesX
    rw [List.getElem?_cons_succ, List.getElem?_cons_succ, linesX_at r (n + 1) k]
    congr 1
    funext x
    rw [show n + 1 + k = n + (k + 1) by omega]
theorem nth_all (s : Tx) (h : s.length ≤ 100000) : (List.range (rawL s).length).map (nth s) = linesX 1 (rawL s) := by
  apply List.ext_getElem?
  intro k
  rw [linesX_at, List.getElem?_map]
  have hl := rawL_len s
  rcases Nat.lt_or_ge k (rawL s).length with hk | hk
  · rw [List.getElem?_range hk, List.getElem?_eq_getElem hk]
    simp only [Option.map_some, nth, lineAt, num]
    rw [List.getD_eq_getElem?_getD, List.getElem?_eq_getElem hk]
    simp
    omega
  · rw [List.getElem?_eq_none (by simpa using hk), List.getElem?_eq_none hk]
    rfl

structure Wf (n : Nat) (p : PSt) : Prop where
  jw : p.jumps.length ≤ p.words.length
  pn : p.places.length ≤ n
  jo : ∀ j ∈ p.jumps, JOk p j
  po : ∀ t q, place t p.places = some q → q ≤ p.words.length
  jp : ∀ j ∈ p.jumps, 0 < j.line
theorem wf0 : Wf 0 p0 := ⟨Nat.le_refl _, Nat.le_refl _, (fun j h => by simp [p0] at h), (fun t q h => by simp [p0, place] at h), (fun j h => by simp [p0] at h)⟩
theorem eat_lab {m : Int} {j : Bool} {L : List Tx} {v : Int} {l : Tx} {r : List Tx} (h : eat m j L = some (v, l, r)) : l.length ≤ 16 := by
  unfold eat at h
  split at h
  · cases h; simp
  · split at h
    · cases h
    · split at h
      · rename_i h2
        cases h
        rw [Bool.and_eq_true] at h2
        have h3 := h2.2
        unfold isNm at h3
        split at h3
        · simp
        · rw [Bool.and_eq_true] at h3
          simpa using h3.2
      · split at h
        · cases h
        · cases h; simp
theorem parse_lab {s : Tx} {x : Nat × Int × Int × Int} {l : Tx} (h : parse s = some (x, l)) : l.length ≤ 16 := by
  unfold parse parseL at h
  split at h
  · cases h
  · split at h
    · cases h
    · split at h
      · cases h
      · rename_i h2
        cases h
        unfold eats at h2
        split at h2
        · cases h2
        · split at h2
          · cases h2
          · split at h2
            · cases h2
            · rename_i h3
              split at h2
              · cases h2
                exact eat_lab h3
              · cases h2
theorem takeS_wf {n m : Nat} {s : Tx} {p q : PSt} (h : takeS m s p = some q) (w : Wf n p) (hm : m ≤ 1000000000) (hm0 : 0 < m) : Wf (n + 1) q := by
  have jm : ∀ {q : PSt}, p.words.length ≤ q.words.length → ∀ j ∈ p.jumps, JOk q j := fun hq j hj => ⟨Nat.lt_of_lt_of_le (w.jo j hj).pl hq, (w.jo j hj).ln, (w.jo j hj).lb⟩
  have hpn := w.pn
  have hjw := w.jw
  unfold takeS at h
  split at h
  · split at h
    · cases h
    · split at h
      · cases h
        refine ⟨w.jw, by show (_ :: p.places).length ≤ _; rw [List.length_cons]; omega, jm (Nat.le_refl _), fun t q hq => ?_, w.jp⟩
        unfold addP place at hq
        split at hq
        · cases hq; exact Nat.le_refl _
        · exact w.po t q hq
      · cases h
  · split at h
    · split at h
      · cases h
      · split at h
        · cases h
        · cases h
          refine ⟨by show p.jumps.length ≤ (p.words ++ [_]).length; rw [List.length_append]; omega, Nat.le_succ_of_le w.pn, jm (by show _ ≤ (p.words ++ [_]).length; rw [List.length_append]; omega), fun t q hq => ?_, w.jp⟩
          have := w.po t q hq
          show _ ≤ (p.words ++ [_]).length
          rw [List.length_append]; omega
    · split at h
      · cases h
      · rename_i k a b i l hp
        split at h
        · cases h
        · have hl := parse_lab hp
          cases h
          split
          · refine ⟨by show p.jumps.length ≤ (p.words ++ [_]).length; rw [List.length_append]; omega, Nat.le_succ_of_le w.pn, jm (by show _ ≤ (p.words ++ [_]).length; rw [List.length_append]; omega), fun t q hq => ?_, w.jp⟩
            have := w.po t q hq
            show _ ≤ (p.words ++ [_]).length
            rw [List.length_append]; omega
          · refine ⟨by show (p.jumps ++ [_]).length ≤ (p.words ++ [_]).length; rw [List.length_append, List.length_append]; simp; omega, Nat.le_succ_of_le w.pn, ?_, fun t q hq => ?_, fun j hj => (List.mem_append.1 (show j ∈ p.jumps ++ [_] from hj)).elim (w.jp j) (fun e => by rw [List.mem_singleton] at e; subst e; exact hm0)⟩
            · intro j hj
              rcases List.mem_append.1 (show j ∈ p.jumps ++ [_] from hj) with hj | hj
              · exact jm (by show _ ≤ (p.words ++ [_]).length; rw [List.length_append]; omega) j hj
              · rw [List.mem_singleton] at hj
                subst hj
                refine ⟨by show p.words.length < (p.words ++ [_]).length; rw [List.length_append]; simp, hm, by show l.length ≤ _; omega⟩
            · have := w.po t q hq
              show _ ≤ (p.words ++ [_]).length
              rw [List.length_append]; omega
theorem stepL_wf {n m : Nat} {s : Tx} {p q : PSt} (h : stepL m s p = some q) (w : Wf n p) (hm : m ≤ 1000000000) (hm0 : 0 < m) : Wf (n + 1) q := by
  unfold stepL at h
  cases hc : cutL s with
  | none => rw [hc] at h; cases h
  | some t => rw [hc] at h; exact takeS_wf h w hm hm0
theorem linkS_line : ∀ (pl : List (Tx × Nat)) (js : List Jmp) (ws : List Nat) (l : Nat), linkS pl js ws = .inl l → ∃ j ∈ js, j.line = l
  | pl, [], ws, l, h => by cases h
  | pl, j :: r, ws, l, h => by
    unfold linkS at h
    split at h
    · cases h; exact ⟨j, List.mem_cons_self, rfl⟩
    · split at h
      · obtain ⟨x, hx, e⟩ := linkS_line pl r _ l h
        exact ⟨x, List.mem_cons_of_mem _ hx, e⟩
      · cases h; exact ⟨j, List.mem_cons_self, rfl⟩
theorem linkS_len : ∀ (pl : List (Tx × Nat)) (js : List Jmp) (ws vs : List Nat), linkS pl js ws = .inr vs → vs.length = ws.length
  | pl, [], ws, vs, h => by cases h; rfl
  | pl, j :: r, ws, vs, h => by
    unfold linkS at h
    split at h
    · cases h
    · split at h
      · rw [linkS_len pl r _ vs h, List.length_set]
      · cases h
end Go.Proofs.YtlddjjkbnhhfaaaDoor.IsaU
