/-
  CallBack: plain facts, and what is answered of what may be.
-/
import Derived.Test.YtlddjjkbnhhfaaaDoorClw
import Derived.Test.YtlddjjkbnhhfaaaDoorClo
namespace Go.Proofs.YtlddjjkbnhhfaaaDoor.Clz
open Go Go.RowKit Go.Shelf Kit IsaM IsaS Cla Clt Clf Bk Clh Cli Clj Clg Cll Clm Cln Clp Clq Clw
open Clo (read_any)
set_option linter.unusedVariables false

theorem line_yes1 (x : Cl) (hw : Wf x) (hm : mayC x = true) (w : World) (hT : Rw w) (hP : Pow w) :
    Calls Tryd.prog 22 #[cv x] w fun e w' => e = .returned (.tuple #[.string (tx (lineT x)), .int .i64 0]) ∧ Below w.heap.size w w' := by
  have h := line_any x hw w hT hP
  rw [show lineR x = .tuple #[.string (tx (lineT x)), .int .i64 0] by unfold lineR; rw [hm]; rfl] at h
  exact h
theorem line_no1 (x : Cl) (hw : Wf x) (hm : mayC x = false) (w : World) (hT : Rw w) (hP : Pow w) :
    Calls Tryd.prog 22 #[cv x] w fun e w' => e = .returned (.tuple #[.string ⟨#[]⟩, .int .i64 160]) ∧ Below w.heap.size w w' := by
  have h := line_any x hw w hT hP
  rw [show lineR x = .tuple #[.string ⟨#[]⟩, .int .i64 160] by unfold lineR; rw [hm]; rfl] at h
  exact h
theorem line_zero (w : World) (hT : Rw w) (hP : Pow w) :
    Calls Tryd.prog 22 #[.agg #[.int .i64 0, .int .u32 0, .int .u32 0, .int .u32 0]] w fun e w' => e = .returned (.tuple #[.string ⟨#[]⟩, .int .i64 160]) ∧ Below w.heap.size w w' :=
  line_no1 zc ⟨by decide, by decide, by decide, by decide⟩ (by kernel_rfl) w hT hP
theorem read_yes (x : Cl) (s : ByteArray) (hs : s.size ≤ 1000) (hm : mayC x = true) (hw : Wf x) (he : lineT x = s.data.toList) (w : World) (hT : Rw w) (hP : Pow w) (hE : Ers w) (hM : Ml w) :
    Calls Tryd.prog 24 #[.string s] w fun e w' => e = .returned (.tuple #[cv x, .int .i64 0]) ∧ Below w.heap.size w w' :=
  (read_any s hs w hT hP hE hM).mono fun e w' ⟨h, hb⟩ => ⟨by
    rcases h with ⟨y, h1, h2, h3, h4⟩ | ⟨h1, _⟩
    · rw [h4, line_inj h1 hm (h3.trans he.symm)]
    · exact absurd he (h1 x hm hw), hb⟩
theorem read_no (s : ByteArray) (hs : s.size ≤ 1000) (hno : ∀ x : Cl, mayC x = true → Wf x → lineT x ≠ s.data.toList) (w : World) (hT : Rw w) (hP : Pow w) (hE : Ers w) (hM : Ml w) :
    Calls Tryd.prog 24 #[.string s] w fun e w' => e = .returned (.tuple #[.agg #[.int .i64 0, .int .u32 0, .int .u32 0, .int .u32 0], .int .i64 160]) ∧ Below w.heap.size w w' :=
  (read_any s hs w hT hP hE hM).mono fun e w' ⟨h, hb⟩ => ⟨by
    rcases h with ⟨y, h1, h2, h3, h4⟩ | ⟨_, h2⟩
    · exact absurd h3 (hno y h1 h2)
    · rw [h2]; rfl, hb⟩
theorem no_empty (x : Cl) (hm : mayC x = true) (hw : Wf x) : lineT x ≠ (⟨#[]⟩ : ByteArray).data.toList := fun e => by
  obtain ⟨k, hk, h1, h2⟩ := isC_nat (may_isC hm)
  have e2 : lineT x = [] := e
  unfold lineT at e2
  rw [hk, Int.toNat_natCast] at e2
  exact wd_ne ⟨k, h2⟩ h1 (List.append_eq_nil_iff.1 e2).1
theorem tx_empty (t : Tx) : (tx t).toList.isEmpty = (t == []) := by rw [tx_nil]; cases t <;> rfl
theorem answer_bd {n : Int} (hn : (Lit.int .i64 n).wf = true) : 0 ≤ answer n ∧ answer n < 4294967296 := by
  unfold answer
  cases h : isCd n with
  | false => simp
  | true => rw [if_pos rfl]; have := cd_one h; omega
theorem beq_iff {a b : Tx} {n m : Int} (h : a = b ↔ n = m) : (a == b) = (n == m) := by
  cases e : (n == m) with
  | true => rw [beq_iff_eq] at e ⊢; exact h.2 e
  | false => rw [beq_eq_false_iff_ne] at e ⊢; exact fun e2 => e (h.1 e2)
theorem name_facts (n m : Int) (h : nameT n ≠ []) : (byT (nameT n) : Int) = n ∧ (nameT n == nameT m) = (n == m) := by
  have hn : isC n = true := by
    cases e : isC n with
    | true => rfl
    | false => exact absurd (by unfold nameT; rw [e]; rfl) h
  obtain ⟨k, rfl, h1, h2⟩ := isC_nat hn
  have e1 : nameT (k : Int) = wd k := by unfold nameT; rw [hn, if_pos rfl, Int.toNat_natCast]
  refine ⟨by rw [e1, byT_wd h2], beq_iff ⟨fun e => ?_, fun e => by rw [e]⟩⟩
  have hm : isC m = true := by
    cases e2 : isC m with
    | true => rfl
    | false =>
      have : nameT m = [] := by unfold nameT; rw [e2]; rfl
      rw [this] at e
      exact absurd e h
  obtain ⟨j, rfl, h3, h4⟩ := isC_nat hm
  have e2 : nameT (j : Int) = wd j := by unfold nameT; rw [hm, if_pos rfl, Int.toNat_natCast]
  rw [e1, e2] at e
  have := wd_inj ⟨k, h2⟩ ⟨j, h4⟩ e
  simp at this
  omega
theorem code_facts (n m : Int) (h : codeT n ≠ []) : failed (answer n) = n ∧ (codeT n == codeT m) = (n == m) := by
  have hn : isCd n = true := by unfold isCd; simpa using h
  have hs := cd_some hn
  refine ⟨failed_answer hn, beq_iff ⟨fun e => ?_, fun e => by rw [e]⟩⟩
  have hm : isCd m = true := by unfold isCd; rw [← e]; simpa using h
  have ht := cd_some hm
  rw [hs.2.2.1, ht.2.2.1] at e
  have := cd_inj ⟨n.toNat, by omega⟩ ⟨m.toNat, by omega⟩ e hs.2.2.2
  simp at this
  omega
end Go.Proofs.YtlddjjkbnhhfaaaDoor.Clz
