/-
  Plain words: a program of calls is assembled: for each call one word for its number, one for each of its arguments, and sys.
-/
import Derived.Test.YtlddjjkbnhhfaaaDoorCla
import Derived.Test.YtlddjjkbnhhfaaaDoorPlq
namespace Go.Proofs.YtlddjjkbnhhfaaaDoor.Cpa
open Go IsaM IsaF IsaB IsaK IsaQ IsaU IsaO Plq
open Cla (Cl mn ar liT lisT sysT callT progT isC mayC near okB tx)
set_option linter.unusedVariables false

/-- An instruction of two fields: its number, A, and Imm. -/
abbrev In := Nat × Nat × Int
def MayI (x : In) : Prop := May x.1 x.2.1 0 x.2.2
def lnI (x : In) : Tx := line x.1 x.2.1 0 x.2.2
def wdI (x : In) : Nat := (enc x.1 x.2.1 0 x.2.2).toNat
def textI : List In → Tx
  | [] => []
  | x :: r => lnI x ++ 10 :: textI r
theorem textI_app : ∀ a b, textI (a ++ b) = textI a ++ textI b
  | [], b => rfl
  | x :: r, b => by show lnI x ++ 10 :: textI (r ++ b) = (lnI x ++ 10 :: textI r) ++ textI b; rw [textI_app r b]; simp
theorem mayI_k {x : In} (h : MayI x) : x.1 < 30 := by have := h.2.k30; simpa using this
theorem walk_ins : ∀ (L : List In) (n : Nat) (p : PSt), (∀ x ∈ L, MayI x) → p.words.length + L.length ≤ 512 → walkX (linesX n (rawL (textI L))) p = .inr ⟨p.words ++ L.map wdI, p.places, p.jumps⟩
  | [], n, p, _, _ => by
    show Sum.inr p = _
    simp
  | x :: r, n, p, h, hl => by
    have hx := h x (by simp)
    have ho : ∀ c ∈ lnI x, Plq.Ok c := line_ok (mayI_k hx) (x.2.1 : Int) 0 x.2.2
    rw [List.length_cons] at hl
    show walkX (linesX n (rawL (lnI x ++ 10 :: textI r))) p = _
    rw [walk_line n (lnI x) _ (ok_10 ho), show IsaH.takeS n (lnI x) p = _ from take_ins n p (parse_line hx) (ok_58 ho) (by omega)]
    simp only
    rw [if_pos trivial, walk_ins r (n + 1) _ (fun y hy => h y (by simp [hy])) (by unfold addW; simp only [List.length_append, List.length_cons, List.length_nil]; omega)]
    unfold addW wdI
    simp
theorem asm_ins (L : List In) (h : ∀ x ∈ L, MayI x) (hl : L.length ≤ 512) : asm (textI L) = .inr (L.map wdI) := by
  unfold asm
  rw [walk_ins L 1 p0 h (by show 0 + _ ≤ _; omega)]
  show linkS [] [] ([] ++ L.map wdI) = _
  rw [List.nil_append]
  rfl

/-- A call's instructions. -/
def li (r w : Nat) : In := (1, r, (w : Int))
def sysI : In := (24, 0, 0)
def insC (x : Cl) : List In := li 0 x.n.toNat :: ((List.range (mn x.n.toNat)).map fun j => li (j + 1) (ar x j)) ++ [sysI]
def insL : List Cl → List In
  | [] => []
  | x :: r => insC x ++ insL r
theorem insL_app : ∀ a b, insL (a ++ b) = insL a ++ insL b
  | [], b => rfl
  | x :: r, b => by show insC x ++ insL (r ++ b) = (insC x ++ insL r) ++ insL b; rw [insL_app r b, List.append_assoc]
theorem insC_len (x : Cl) : (insC x).length = mn x.n.toNat + 2 := by simp [insC]
theorem lnI_li (r w : Nat) : lnI (li r w) ++ [10] = liT r w := by
  show (nm 1 ++ fld (mA 1) (r : Int) ++ fld (mB 1) 0 ++ fld (mI 1) (w : Int)) ++ [10] = _
  have h1 : fld (mA 1) (r : Int) = 32 :: Lib.decDigits r := by unfold fld; rw [if_neg (by decide), Lib.itoa_nonneg]
  have h2 : fld (mB 1) 0 = [] := by unfold fld; rw [if_pos (by decide)]
  have h3 : fld (mI 1) (w : Int) = 32 :: Lib.decDigits w := by unfold fld; rw [if_neg (by decide), Lib.itoa_nonneg]
  rw [h1, h2, h3]
  show ([108, 105] ++ 32 :: Lib.decDigits r ++ [] ++ 32 :: Lib.decDigits w) ++ [10] = [108, 105, 32] ++ Lib.decDigits r ++ [32] ++ Lib.decDigits w ++ [10]
  simp
theorem lnI_sys : lnI sysI ++ [10] = sysT := by decide +kernel
theorem lis_text (x : Cl) : ∀ i, textI ((List.range i).map fun j => li (j + 1) (ar x j)) = lisT x i
  | 0 => rfl
  | i + 1 => by
    rw [List.range_succ, List.map_append, textI_app, lis_text x i]
    show lisT x i ++ (lnI (li (i + 1) (ar x i)) ++ 10 :: []) = lisT x i ++ liT (i + 1) (ar x i)
    rw [← lnI_li]
theorem insC_text (x : Cl) : textI (insC x) = callT x := by
  unfold insC callT
  rw [textI_app]
  show (lnI (li 0 x.n.toNat) ++ 10 :: textI _) ++ (lnI sysI ++ 10 :: []) = _
  rw [lis_text, ← lnI_li, ← lnI_sys]
  simp
theorem insL_text : ∀ l, textI (insL l) = progT l
  | [] => rfl
  | x :: r => by show textI (insC x ++ insL r) = callT x ++ progT r; rw [textI_app, insC_text, insL_text r]
theorem may_li {r w : Nat} (hr : r ≤ 7) (hw : w ≤ 32767) : MayI (li r w) := by
  refine ⟨by show (0 : Int) ≤ ((1 : Nat) : Int); decide, ⟨by show ((1 : Nat) : Int).toNat < 30; decide, by show (0 : Int) ≤ (r : Int); omega, by show (r : Int) ≤ 7; omega, by show (0 : Int) ≤ 0; decide, by show (0 : Int) ≤ 0; decide, ?_, ?_⟩⟩
  · show lo 32767 ≤ (w : Int); unfold lo; simp <;> omega
  · show (w : Int) ≤ 32767; omega
theorem may_sys : MayI sysI := by show May _ _ _ _; decide +kernel
theorem near_at {x : Cl} (h : near x = true) {i : Nat} (hi : i < mn x.n.toNat) : ar x i ≤ 32767 := by
  have := List.all_eq_true.1 h i (by simpa using hi)
  simpa using this
theorem okB_and {x : Cl} (h : okB x = true) : mayC x = true ∧ near x = true := by unfold okB at h; rwa [Bool.and_eq_true] at h
theorem okB_num {x : Cl} (h : okB x = true) : ∃ k : Nat, x.n = k ∧ 1 ≤ k ∧ k < 23 := Cla.isC_nat (Cla.may_isC (okB_and h).1)
theorem insC_may {x : Cl} (h : okB x = true) : ∀ y ∈ insC x, MayI y := by
  obtain ⟨k, hk, h1, h2⟩ := okB_num h
  have h3 := Cla.mn3 h2
  intro y hy
  unfold insC at hy
  rw [List.mem_append, List.mem_cons, List.mem_map, List.mem_singleton] at hy
  rw [hk, Int.toNat_natCast] at hy
  rcases hy with (rfl | ⟨j, hj, rfl⟩) | rfl
  · exact may_li (by omega) (by omega)
  · rw [List.mem_range] at hj
    exact may_li (by omega) (near_at (okB_and h).2 (by rw [hk, Int.toNat_natCast]; exact hj))
  · exact may_sys
theorem insL_may : ∀ {l : List Cl}, l.all okB = true → ∀ y ∈ insL l, MayI y
  | [], _, y, hy => by simp [insL] at hy
  | x :: r, h, y, hy => by
    rw [List.all_cons, Bool.and_eq_true] at h
    rcases List.mem_append.1 (show y ∈ insC x ++ insL r from hy) with h1 | h1
    · exact insC_may h.1 y h1
    · exact insL_may h.2 y h1
theorem insL_len : ∀ {l : List Cl}, l.all okB = true → (insL l).length ≤ 5 * l.length
  | [], _ => by simp [insL]
  | x :: r, h => by
    rw [List.all_cons, Bool.and_eq_true] at h
    obtain ⟨k, hk, h1, h2⟩ := okB_num h.1
    have h3 := Cla.mn3 h2
    have h4 := insL_len h.2
    have h5 := insC_len x
    rw [hk, Int.toNat_natCast] at h5
    show (insC x ++ insL r).length ≤ _
    rw [List.length_append, List.length_cons]
    omega
/-- A program's words. -/
def wds (l : List Cl) : List Nat := (insL l).map wdI
theorem asm_prog {l : List Cl} (h : l.all okB = true) (hl : l.length ≤ 60) : asm (progT l) = .inr (wds l) := by
  have := insL_len h
  rw [← insL_text]
  exact asm_ins _ (insL_may h) (by omega)
theorem asm_nil : asm [] = .inr [] := rfl
/-- Where the i-th call's words begin. -/
def at_ (l : List Cl) (i : Nat) : Nat := (insL (l.take i)).length
theorem at_zero (l : List Cl) : at_ l 0 = 0 := rfl
theorem at_all (l : List Cl) : at_ l l.length = (wds l).length := by unfold at_ wds; rw [List.take_length, List.length_map]
theorem at_succ {l : List Cl} {i : Nat} {x : Cl} (h : l[i]? = some x) : at_ l (i + 1) = at_ l i + (mn x.n.toNat + 2) := by
  unfold at_
  rw [List.take_add_one, h, Option.toList_some, insL_app, List.length_append]
  show _ + (insC x ++ []).length = _
  rw [List.append_nil, insC_len]
theorem at_le (l : List Cl) (i : Nat) : at_ l i ≤ (wds l).length := by
  unfold at_ wds
  rw [List.length_map]
  have : insL l = insL (l.take i) ++ insL (l.drop i) := by rw [← insL_app, List.take_append_drop]
  rw [this, List.length_append]
  omega
theorem at_ins {l : List Cl} {i : Nat} {x : Cl} (h : l[i]? = some x) (j : Nat) (hj : j < (insC x).length) : (insL l)[at_ l i + j]? = (insC x)[j]? := by
  have hi : i < l.length := (List.getElem?_eq_some_iff.1 h).1
  have e : l = l.take i ++ x :: l.drop (i + 1) := by
    have := (List.getElem?_eq_some_iff.1 h).2
    rw [← this, List.getElem_cons_drop, List.take_append_drop]
  have e2 : insL l = insL (l.take i) ++ (insC x ++ insL (l.drop (i + 1))) := by
    conv => lhs; rw [e]
    rw [insL_app]
    rfl
  rw [e2]
  unfold at_
  rw [List.getElem?_append_right (by omega), Nat.add_sub_cancel_left, List.getElem?_append_left hj]
theorem ins_li0 (x : Cl) : (insC x)[0]? = some (li 0 x.n.toNat) := rfl
theorem ins_li (x : Cl) {j : Nat} (h : j < mn x.n.toNat) : (insC x)[j + 1]? = some (li (j + 1) (ar x j)) := by
  unfold insC
  rw [List.getElem?_append_left (by simp; omega), List.getElem?_cons_succ, List.getElem?_map, List.getElem?_range h]
  rfl
theorem ins_sys (x : Cl) : (insC x)[mn x.n.toNat + 1]? = some sysI := by
  unfold insC
  rw [List.getElem?_append_right (by simp)]
  simp
/-- What register j gets. -/
def wnt (x : Cl) (j : Nat) : Nat := if j = 0 then x.n.toNat else ar x (j - 1)
theorem word_li {l : List Cl} {i : Nat} {x : Cl} (h : l[i]? = some x) {j : Nat} (hj : j ≤ mn x.n.toNat) : (wds l)[at_ l i + j]? = some (wdI (li j (wnt x j))) := by
  unfold wds
  rw [List.getElem?_map, at_ins h j (by rw [insC_len]; omega)]
  cases j with
  | zero => rfl
  | succ j => rw [ins_li x (by omega)]; rfl
theorem word_sys {l : List Cl} {i : Nat} {x : Cl} (h : l[i]? = some x) : (wds l)[at_ l i + (1 + mn x.n.toNat)]? = some (wdI sysI) := by
  unfold wds
  rw [List.getElem?_map, at_ins h _ (by rw [insC_len]; omega), Nat.add_comm 1, ins_sys]
  rfl
theorem wdI_lt {x : In} (h : MayI x) : wdI x < 4294967296 := by
  have := enc_bd h
  unfold wdI
  omega
theorem wdI_cast {x : In} (h : MayI x) : ((wdI x : Nat) : Int) = enc x.1 x.2.1 0 x.2.2 := by
  have := enc_bd h
  unfold wdI
  omega
end Go.Proofs.YtlddjjkbnhhfaaaDoor.Cpa
