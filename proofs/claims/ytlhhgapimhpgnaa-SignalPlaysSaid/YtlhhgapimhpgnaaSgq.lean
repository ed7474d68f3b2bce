/-
  Signals with some posted, in plain words; a slice that was made, read.
-/
import Derived.Test.YtlhhgapimhpgnaaSgi
namespace Go.Proofs.Ytlhhgapimhpgnaa.Sgq
open Go Go.RowKit Kit Bk Sga Sgb Sgc Sgd Sgf Sgg Sgh
set_option linter.unusedVariables false

def toI (l : List Nat) : List Int := l.map fun (n : Nat) => (n : Int)
theorem toI_app (l m : List Nat) : toI (l ++ m) = toI l ++ toI m := by simp [toI]
theorem toI_len (l : List Nat) : (toI l).length = l.length := by simp [toI]
theorem ps_two (s : Sg) (l m : List Int) : ps s (l ++ m) = ps (ps s l) m := by
  induction l generalizing s with
  | nil => rfl
  | cons a r ih => exact ih (pS s a)
theorem may_ad {s : Sg} (h : may s = true) {q : Nat} (h1 : 1 ≤ q) (h2 : q ≤ 15) : may (setP s (ad s.p q)) = true := by
  have hb := may_bits.1 h
  refine may_bits.2 ⟨fun j hj => ?_, hb.2⟩
  have hj : hs (ad s.p q) j = true := hj
  rw [hs_ad] at hj
  cases hp : hs s.p j
  · rw [hp, Bool.false_or, decide_eq_true_eq] at hj; omega
  · exact hb.1 j hp
theorem pS_ad {s : Sg} (h : may s = true) {q : Nat} (h1 : 1 ≤ q) (h2 : q ≤ 15) : pS s q = setP s (ad s.p q) := by
  unfold pS
  rw [h, isS_iff.2 ⟨by omega, by omega⟩]
  simp
/-- What is pending when some are posted. -/
theorem ps_bits : ∀ (l : List Nat) (s : Sg), s.Ok → may s = true → (∀ n ∈ l, 1 ≤ n ∧ n ≤ 15) →
    ∃ P, ps s (toI l) = setP s P ∧ P < 4294967296 ∧ may (setP s P) = true ∧ ∀ j, hs P j = (hs s.p j || decide (j ∈ l))
  | [], s, hk, hm, _ => ⟨s.p, rfl, hk.p, hm, fun j => by simp⟩
  | n :: r, s, hk, hm, hl => by
    obtain ⟨h1, h2⟩ := hl n (by simp)
    obtain ⟨P, e1, e2, e3, e4⟩ := ps_bits r (setP s (ad s.p n)) (Ok.setP hk (ad_lt hk.p (by omega))) (may_ad hm h1 h2) (fun m hm2 => hl m (by simp [hm2]))
    refine ⟨P, ?_, e2, e3, fun j => ?_⟩
    · show ps (pS s n) (toI r) = _
      rw [pS_ad hm h1 h2, e1]
      rfl
    · rw [e4 j]
      show (hs (ad s.p n) j || decide (j ∈ r)) = _
      rw [hs_ad]
      by_cases e : n = j
      · subst e; simp
      · simp [e, Ne.symm e]
theorem may_none {s : Sg} (h : may s = true) : may (setP s 0) = true := by
  have hb := may_bits.1 h
  refine may_bits.2 ⟨fun j hj => ?_, hb.2⟩
  have hj : hs 0 j = true := hj
  rw [hs_zero] at hj; cases hj
/-- Posted behind a Fork, they are as they were. -/
theorem ps_back {s : Sg} (hk : s.Ok) (h : may s = true) : ps (setP s 0) (toI (sgs s.p 15)) = s := by
  obtain ⟨P, e1, e2, e3, e4⟩ := ps_bits (sgs s.p 15) (setP s 0) (Ok.setP hk (by decide)) (may_none h) (fun n hn => ⟨(mem_sgs.1 hn).1, (mem_sgs.1 hn).2.1⟩)
  rw [e1]
  have : P = s.p := hs_eq fun j => by
    rw [e4]
    show (hs 0 j || _) = _
    rw [hs_zero, Bool.false_or]
    cases hp : hs s.p j
    · refine decide_eq_false fun e => ?_
      have := (mem_sgs.1 e).2.2
      rw [hp] at this; cases this
    · have := (may_bits.1 h).1 j hp
      exact decide_eq_true (mem_sgs.2 ⟨this.1, this.2, hp⟩)
  rw [this]
  rfl
/-- In which order, and how often, makes no difference. -/
theorem ps_order {s : Sg} (hk : s.Ok) (h : may s = true) {l m : List Nat} (hl : ∀ n ∈ l, 1 ≤ n ∧ n ≤ 15) (hm : ∀ n, n ∈ m ↔ n ∈ l) : ps s (toI l) = ps (ps s (toI m)) (toI l) := by
  rw [← ps_two, ← toI_app]
  obtain ⟨P, e1, e2, e3, e4⟩ := ps_bits l s hk h hl
  obtain ⟨Q, f1, f2, f3, f4⟩ := ps_bits (m ++ l) s hk h (fun n hn => by
    rcases List.mem_append.1 hn with h | h
    · exact hl n ((hm n).1 h)
    · exact hl n h)
  rw [e1, f1]
  congr 1
  refine hs_eq fun j => ?_
  rw [e4, f4]
  congr 1
  exact decide_eq_decide.2 (by simp [hm])
/-- Next of signals of which none is pending. -/
theorem next_zero {s : Sg} (hk : s.Ok) (h : may s = true) (hp : s.p = 0) : nN s = 0 ∧ nB s = 0 ∧ nS s = s := by
  have hd : ∀ n, dl s n = false := fun n => by rw [dl_eq hk h, hp, hs_zero]; rfl
  have h0 : fst s 15 = 0 := fst_zero.2 fun n h1 h2 h3 => by rw [hd] at h3; cases h3
  have hn : nN s = 0 := by unfold nN; rw [if_pos h, h0]
  refine ⟨hn, by unfold nB; rw [if_pos hn], ?_⟩
  unfold nS
  rw [if_pos h, if_pos hn]
  have : clrd s 15 = s.p := hs_eq fun j => by
    rw [hs_clrd hk 15 (by omega), hd]; simp
  rw [this]
  rfl
/-- A row of one's own of numbers reads as them. -/
theorem nr_own {w : World} {base : Nat} {u : Value} {l : List Nat} (h : w.ownsRow base 3 1 u l.length (ints l)) : Nr w u (toI l) := by
  have hr : ∀ i (hi : i < l.length), (ints l)[i]? = some (.int .i64 (l[i] : Int)) := fun i hi => by simp [ints, hi]
  rcases h.2 with ⟨rfl, h0⟩ | ⟨g, cap, cur, rfl, hg, hh, h3, h4, h5, h6⟩
  · have e : l = [] := List.eq_nil_of_length_eq_zero h0
    subst e
    exact ⟨none, 0, rfl, Nat.le_refl _, Nat.zero_le _, fun i hi => absurd hi (Nat.not_lt_zero _)⟩
  · refine ⟨_, cap, by rw [toI_len], by rw [toI_len]; exact h3, h4, fun i hi => ⟨g, 0, rfl, (Array.getElem?_eq_some_iff.1 hh).1, ?_⟩⟩
    have hi' : i < l.length := by rw [← toI_len]; exact hi
    have hc := h.cells (g := g) rfl i _ (hr i hi')
    rw [show (⟨g, 0 + i, none⟩ : Addr) = ⟨g, i, none⟩ by rw [Nat.zero_add]]
    have e : (toI l)[i] = (l[i] : Int) := by simp [toI]
    rw [e]
    rw [Addr.add_mid, Nat.zero_add] at hc
    exact hc
/-- A signal's number of any byte. -/
def sg (n : Nat) : Nat := 1 + n % 15
theorem sg_bd (n : Nat) : 1 ≤ sg n ∧ sg n ≤ 15 := by unfold sg; omega
theorem sg_eq (n : Nat) : 1 + (n : Int) % 15 = ((sg n : Nat) : Int) := by
  unfold sg
  omega
end Go.Proofs.Ytlhhgapimhpgnaa.Sgq
