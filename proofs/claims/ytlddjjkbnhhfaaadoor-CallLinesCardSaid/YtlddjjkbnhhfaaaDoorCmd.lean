/-
  The document's own Read.
-/
import Derived.Test.YtlddjjkbnhhfaaaDoorCmc
import Derived.Test.YtlddjjkbnhhfaaaDoorCmb
import Derived.BigRegion
import Derived.Deep.RegionHeld
namespace Go.Proofs.YtlddjjkbnhhfaaaDoor.Cmd
open Go Go.RowKit Go.Shelf Kit IsaM Cla Clt Clf Bk Clh Cli Clg Clm Clo Clra Clrc Cma Cmb Cmc
set_option linter.unusedVariables false
attribute [local go_sem] Oper.semAt_some

theorem ext_to (s : ByteArray) (n : Nat) : s.extract 0 n = tx (s.data.toList.take n) := by
  apply ByteArray.ext
  apply Array.ext'
  rw [ByteArray.data_extract, Array.toList_extract]
  simp [List.extract_eq_take_drop, tx]
theorem at_drop (s : ByteArray) {j : Nat} (h : j < s.size) : s.data.toList.drop j = s[j] :: s.data.toList.drop (j + 1) := by
  have h' : j < s.data.toList.length := by simpa using h
  rw [List.drop_eq_getElem_cons h']
  rfl
theorem end_drop (s : ByteArray) {j : Nat} (h : s.size ≤ j) : s.data.toList.drop j = [] := List.drop_eq_nil_of_le (by simpa using h)
/-- The word's end, as far as one has looked. -/
def Hd (s : ByteArray) (a : Nat) : Prop := hd s.data.toList = s.data.toList.take a ++ hd (s.data.toList.drop a) ∧ tl s.data.toList = tl (s.data.toList.drop a)
theorem Hd.zero (s : ByteArray) : Hd s 0 := ⟨rfl, rfl⟩
theorem Hd.step {s : ByteArray} {a : Nat} (h : Hd s a) (ha : a < s.size) (hn : s[a].toNat ≠ 32) : Hd s (a + 1) := by
  have h2 : (s[a] != 32) = true := by
    rw [bne_iff_ne]
    intro e
    exact hn (by rw [e]; rfl)
  have e := at_drop s ha
  have ht : s.data.toList.take (a + 1) = s.data.toList.take a ++ [s[a]] := by
    have h' : a < s.data.toList.length := by simpa using ha
    rw [List.take_add_one, List.getElem?_eq_getElem h']
    rfl
  unfold Hd at *
  rw [e] at h
  unfold hd tl at *
  rw [List.takeWhile_cons, List.dropWhile_cons, h2, if_pos rfl, if_pos rfl] at h
  rw [ht, h.1, h.2, List.append_assoc]
  exact ⟨rfl, rfl⟩
theorem Hd.stop {s : ByteArray} {a : Nat} (h : Hd s a) (ha : a < s.size) (hn : s[a].toNat = 32) : hd s.data.toList = s.data.toList.take a ∧ tl s.data.toList = s.data.toList.drop a := by
  have h2 : (s[a] != 32) = false := by
    rw [bne_eq_false_iff_eq]
    exact UInt8.toNat_inj.1 hn
  have e := at_drop s ha
  unfold Hd at h
  rw [e] at h ⊢
  unfold hd tl at *
  rw [List.takeWhile_cons, List.dropWhile_cons, h2, if_neg (by simp), if_neg (by simp), List.append_nil] at h
  exact h
theorem Hd.fin {s : ByteArray} (h : Hd s s.size) : hd s.data.toList = s.data.toList.take s.size ∧ tl s.data.toList = s.data.toList.drop s.size := by
  unfold Hd at h
  rw [end_drop s (Nat.le_refl _)] at h ⊢
  unfold hd tl at *
  simpa using h
theorem ccs_set (c : Cl) {i : Nat} (h : i < 3) (v : Nat) : (ccs c).setIfInBounds (1 + i) (.int .u32 (v : Int)) = ccs (setA c i v) := by
  have : i = 0 ∨ i = 1 ∨ i = 2 := by omega
  rcases this with rfl | rfl | rfl <;> rfl
theorem wf_set {c : Cl} (h : Wf c) {i v : Nat} (hv : v < 4294967296) : Wf (setA c i v) := by
  unfold setA
  split
  · exact ⟨h.n, hv, h.b, h.c⟩
  · split
    · exact ⟨h.n, h.a, hv, h.c⟩
    · exact ⟨h.n, h.a, h.b, hv⟩
/-- What of a line is to be read yet, when i arguments are. -/
def St (s : ByteArray) (a i : Nat) (c : Cl) : Prop := rdA (3 - i) (s.data.toList.drop a) c = rdL s.data.toList
theorem St.fin {s : ByteArray} {a i : Nat} {c : Cl} (h : St s a i c) (he : 3 ≤ i ∨ s.size ≤ a) : rdL s.data.toList = some c := by
  unfold St at h
  rw [← h]
  rcases he with he | he
  · rw [show 3 - i = 0 by omega]; rfl
  · rw [end_drop s he]
    cases 3 - i <;> rfl
theorem St.next {s : ByteArray} {a i : Nat} {c : Cl} (h : St s a i c) (hi : i < 3) (ha : a < s.size) {v b : Nat} (hp : rdN (s.data.toList.drop (a + 1)) 0 = (v, s.data.toList.drop b)) :
    if 4294967295 < v then rdL s.data.toList = none else St s b (i + 1) (setA c i v) := by
  unfold St at *
  obtain ⟨j, hj⟩ : ∃ j, 3 - i = j + 1 := ⟨2 - i, by omega⟩
  have e : rdA (j + 1) (s.data.toList.drop a) c = if 4294967295 < v then none else rdA j (s.data.toList.drop b) (setA c i v) := by
    show (if s.data.toList.drop a = [] then some c else _) = _
    rw [if_neg (by rw [at_drop s ha]; simp), List.drop_drop, hp, show 2 - j = i by omega]
  rw [hj, e] at h
  rw [show 3 - (i + 1) = j by omega]
  split
  · rename_i hv; rw [if_pos hv] at h; exact h.symm
  · rename_i hv; rw [if_neg hv] at h; exact h
/-- The digits that are read yet. -/
def Dg (s : ByteArray) (a b v : Nat) : Prop := rdN (s.data.toList.drop b) v = rdN (s.data.toList.drop (a + 1)) 0
theorem Dg.step {s : ByteArray} {a b v : Nat} (h : Dg s a b v) (hb : b < s.size) (h1 : 48 ≤ s[b].toNat) (h2 : s[b].toNat ≤ 57) (h3 : v < 5000000000) : Dg s a (b + 1) (v * 10 + s[b].toNat - 48) := by
  unfold Dg at *
  rw [← h, at_drop s hb, rdN_go h1 h2 h3]
theorem Dg.stop {s : ByteArray} {a b v : Nat} (h : Dg s a b v) (hb : s.size ≤ b ∨ ∃ hlt : b < s.size, ¬ (48 ≤ s[b].toNat ∧ s[b].toNat ≤ 57 ∧ v < 5000000000)) : rdN (s.data.toList.drop (a + 1)) 0 = (v, s.data.toList.drop b) := by
  unfold Dg at *
  rw [← h]
  rcases hb with hb | ⟨hlt, hn⟩
  · rw [end_drop s hb]; rfl
  · rw [at_drop s hlt, rdN_stop hn]
theorem last_step {t : Tx} {k : Nat} (h1 : 1 ≤ k) : lastBy t k = if wd k = t then k else lastBy t (k - 1) := by
  obtain ⟨i, rfl⟩ : ∃ i, k = i + 1 := ⟨k - 1, by omega⟩
  rfl
theorem wf_nat {k : Nat} (h : k < 23) : Wf ⟨(k : Int), 0, 0, 0⟩ := by
  refine ⟨?_, by show 0 < 4294967296; omega, by show 0 < 4294967296; omega, by show 0 < 4294967296; omega⟩
  show (Lit.int .i64 (k : Int)).wf = true
  simp [Lit.wf, IntKind.min, IntKind.max, IntKind.signed, IntKind.bits]; omega
end Go.Proofs.YtlddjjkbnhhfaaaDoor.Cmd
