/-
  Who waits where, in plain words; a line of those who wait, as it lies; keys held against each other; below, Check.
-/
import Derived.Test.YtpfnjeicenhciaaBk
import Derived.DeepKeys
namespace Go.Proofs.Ytpfnjeicenhciaa.Fta
open Go Go.RowKit Kit Bk
set_option linter.unusedVariables false

structure Ky where
  p : Int
  f : Int
  o : Int
deriving DecidableEq
structure Wt where
  q : Int
  k : Ky
deriving DecidableEq
instance : Inhabited Ky := ⟨⟨0, 0, 0⟩⟩
instance : Inhabited Wt := ⟨⟨0, ⟨0, 0, 0⟩⟩⟩
abbrev kv (k : Ky) : Value := .agg #[.int .i64 k.p, .int .i64 k.f, .int .i64 k.o]
abbrev wv (x : Wt) : Value := .agg #[.int .i64 x.q, .int .i64 x.k.p, .int .i64 x.k.f, .int .i64 x.k.o]
def wc (x : Wt) : List Value := [.int .i64 x.q, .int .i64 x.k.p, .int .i64 x.k.f, .int .i64 x.k.o]
def wcs (L : List Wt) : List Value := L.flatMap wc
theorem wcs_len (L : List Wt) : (wcs L).length = L.length * 4 := by
  induction L with
  | nil => rfl
  | cons a r ih => show (wc a ++ wcs r).length = _; rw [List.length_append, ih, List.length_cons]; simp [wc]; omega
theorem wcs_app (L M : List Wt) : wcs (L ++ M) = wcs L ++ wcs M := by simp [wcs]
theorem wcs_one (x : Wt) : wcs [x] = wc x := by simp [wcs]
theorem wcs_cell (L : List Wt) : ∀ (i : Nat) (h : i < L.length) (j : Nat), j < 4 → (wcs L)[i * 4 + j]? = (wc L[i])[j]? := by
  induction L with
  | nil => intro i h; simp at h
  | cons a r ih =>
    intro i h j hj
    show (wc a ++ wcs r)[i * 4 + j]? = _
    cases i with
    | zero => rw [List.getElem?_append_left (by simp [wc]; omega)]; simp
    | succ i =>
      rw [List.getElem?_append_right (by simp [wc]; omega)]
      have := ih i (by simpa using h) j hj
      rw [show (i + 1) * 4 + j - (wc a).length = i * 4 + j by simp [wc]; omega, this]
      rfl
theorem wcs_ones (L : List Wt) : ∀ u ∈ wcs L, u.oneCell' = true := by
  intro u hu
  simp only [wcs, List.mem_flatMap] at hu
  obtain ⟨x, _, hu⟩ := hu
  simp only [wc, List.mem_cons, List.not_mem_nil, or_false] at hu
  rcases hu with rfl | rfl | rfl | rfl <;> rfl

/-- A key of numbers that fit. -/
def kwf (k : Ky) : Prop := (Lit.int .i64 k.p).wf = true ∧ (Lit.int .i64 k.f).wf = true ∧ (Lit.int .i64 k.o).wf = true
/-- A number below another. -/
def bel (n m : Int) : Bool := decide (0 ≤ n) && decide (n < m)
/-- May a key be? -/
def mayK (k : Ky) : Bool := ((k.p == 0) && bel k.f 256 && bel k.o 64) || (decide (1 ≤ k.p) && (k.f == 0) && bel k.o 4096)
def ckE (k : Ky) : Int := if mayK k = true then 0 else 2
theorem ckE_ok {k : Ky} : ckE k = 0 ↔ mayK k = true := by unfold ckE; split <;> simp_all
theorem wf_i64 {a : Int} (h1 : -9223372036854775808 ≤ a) (h2 : a ≤ 9223372036854775807) : (Lit.int .i64 a).wf = true := by
  simp [Lit.wf, IntKind.min, IntKind.max, IntKind.signed, IntKind.bits]
  omega

/-- A slice of those who wait, in a block of its own, if any: block r, or (without any) f. -/
def Wr (w : World) (v : Value) (f r : Nat) (L : List Wt) : Prop :=
  w.ownsRow 0 51 4 v L.length (wcs L) ∧ ((v = .slice none 0 0 ∧ r = f) ∨ ∃ n c, v = .slice (some ⟨r, 0, none⟩) n c)
/-- Those who wait, in a struct of type T at block f, its row at block r. -/
def Lx (T : TypeId) (w : World) (f r : Nat) (L : List Wt) : Prop := ∃ v, Blk w f #[v] T ∧ Wr w v f r L
theorem own_lt {w : World} {base g n c m : Nat} {e : TypeId} {s : Nat} {xs : List Value} (h : w.ownsRow base e s (.slice (some ⟨g, 0, none⟩) n c) m xs) : base ≤ g ∧ g < w.heap.size ∧ ∃ cs, Blk w g cs e := by
  rcases h.2 with ⟨h0, _⟩ | ⟨g', cap, cur, h0, hg, hh, _⟩
  · cases h0
  · cases h0
    exact ⟨hg, (Array.getElem?_eq_some_iff.1 hh).1, cur, hh⟩
theorem own_kept {S : Nat → Prop} {w w' : World} {base : Nat} {e : TypeId} {s : Nat} {v : Value} {n : Nat} {xs : List Value} (h : w.ownsRow base e s v n xs) (hk : Kp S w w') (hS : ∀ g n' c, v = .slice (some ⟨g, 0, none⟩) n' c → ¬ S g) : w'.ownsRow base e s v n xs := by
  refine ⟨h.1, ?_⟩
  rcases h.2 with h2 | ⟨g, cap, cur, hv, hg, hh, h3⟩
  · exact .inl h2
  · exact .inr ⟨g, cap, cur, hv, hg, (hk.block g (Array.getElem?_eq_some_iff.1 hh).1 (hS _ _ _ hv)).trans hh, h3⟩
theorem Wr.kept {S : Nat → Prop} {w w' : World} {v : Value} {f r : Nat} {L : List Wt} (h : Wr w v f r L) (hk : Kp S w w') (hS : ¬ S r) : Wr w' v f r L := by
  refine ⟨own_kept h.1 hk (fun g n' c e => ?_), h.2⟩
  rcases h.2 with ⟨h2, _⟩ | ⟨n, c, h2⟩
  · rw [h2] at e; cases e
  · rw [h2] at e; cases e; exact hS
theorem Wr.below {w w' : World} {v : Value} {f r : Nat} {L : List Wt} (h : Wr w v f r L) (hb : Below w.heap.size w w') : Wr w' v f r L := ⟨own_below h.1 hb, h.2⟩
variable {T : TypeId} {w w' : World} {f r : Nat} {L : List Wt}
theorem Lx.kept {S : Nat → Prop} (h : Lx T w f r L) (hk : Kp S w w') (hf : ¬ S f) (hr : ¬ S r) : Lx T w' f r L := by
  obtain ⟨v, h1, h2⟩ := h
  exact ⟨v, h1.kept hk hf, h2.kept hk hr⟩
theorem Lx.below (h : Lx T w f r L) (hb : Below w.heap.size w w') : Lx T w' f r L := by
  obtain ⟨v, h1, h2⟩ := h
  exact ⟨v, h1.below hb, h2.below hb⟩
theorem Lx.lt (h : Lx T w f r L) : f < w.heap.size ∧ r < w.heap.size := by
  obtain ⟨v, h1, h2, ⟨_, rfl⟩ | ⟨n, c, rfl⟩⟩ := h
  · exact ⟨h1.lt, h1.lt⟩
  · exact ⟨h1.lt, (own_lt h2).2.1⟩
/-- The row's block is the struct's, or of those who wait. -/
theorem Lx.row (h : Lx T w f r L) : r = f ∨ ∃ cs, Blk w r cs 51 := by
  obtain ⟨v, h1, h2, ⟨_, rfl⟩ | ⟨n, c, rfl⟩⟩ := h
  · exact .inl rfl
  · exact .inr (own_lt h2).2.2
/-- A block of another type is neither. -/
theorem Lx.apart (h : Lx T w f r L) {g : Nat} {cs : Array Value} {U : TypeId} (hb : Blk w g cs U) (hU : U ≠ T) (hW : U ≠ 51) : ¬ (g = f ∨ g = r) := by
  rintro (rfl | rfl)
  · obtain ⟨v, h1, _⟩ := h
    exact hU (hb.inj h1).2
  · rcases h.row with rfl | ⟨ds, h2⟩
    · obtain ⟨v, h1, _⟩ := h
      exact hU (hb.inj h1).2
    · exact hW (hb.inj h2).2
/-- What is read of a line. -/
theorem Wr.form {v : Value} (h : Wr w v f r L) : ∃ a c, v = .slice a L.length c ∧ L.length ≤ c ∧ c ≤ maxLen ∧ (∀ i, i < L.length → a = some ⟨r, 0, none⟩) := by
  rcases h.1.2 with ⟨rfl, h0⟩ | ⟨g, cap, cur, rfl, hg, hh, h3, h4, h5, h6⟩
  · rw [h0]; exact ⟨none, 0, rfl, Nat.le_refl _, Nat.zero_le _, fun i hi => absurd hi (Nat.not_lt_zero _)⟩
  · refine ⟨_, cap, rfl, h3, h4, fun i hi => ?_⟩
    rcases h.2 with ⟨e, _⟩ | ⟨n, c, e⟩
    · cases e
    · cases e; rfl
theorem Wr.cells {v : Value} (h : Wr w v f r L) (i : Nat) (hi : i < L.length) :
    w.cell? ⟨r, i * 4, none⟩ = some (.int .i64 L[i].q) ∧ w.cell? ⟨r, i * 4 + 1, none⟩ = some (.int .i64 L[i].k.p) ∧ w.cell? ⟨r, i * 4 + 2, none⟩ = some (.int .i64 L[i].k.f) ∧ w.cell? ⟨r, i * 4 + 3, none⟩ = some (.int .i64 L[i].k.o) := by
  obtain ⟨a, c, rfl, _, _, ha⟩ := h.form
  obtain rfl := ha i hi
  have hc : ∀ j, j < 4 → w.cell? ⟨r, i * 4 + j, none⟩ = (wc L[i])[j]? := fun j hj => by
    rw [h.1.cellAt (i * 4 + j) (by omega), wcs_cell L i hi j hj]
  exact ⟨hc 0 (by omega), hc 1 (by omega), hc 2 (by omega), hc 3 (by omega)⟩

/-- Two keys held against each other. -/
theorem key_lits (k : Ky) (hk : kwf k) : Try.prog.keyLits 3 31 [.int .i64 k.p, .int .i64 k.f, .int .i64 k.o] = some [.int .i64 k.p, .int .i64 k.f, .int .i64 k.o] := by
  obtain ⟨h1, h2, h3⟩ := hk
  have hc : Try.prog.cellsOf 31 = 3 := by kernel_rfl
  have hc1 : Try.prog.cellsOf 3 = 1 := by kernel_rfl
  have hi : ∀ a : Int, (Lit.int .i64 a).wf = true → Try.prog.keyLits 2 3 [.int .i64 a] = some [.int .i64 a] := fun a ha => by
    rw [Program.keyLits.eq_def]
    simp only [Try.underlying3]
    simp [ha]
  rw [Program.keyLits.eq_def]
  simp only [Try.underlying31]
  rw [if_pos ⟨by rw [hc]; rfl, by kernel_rfl⟩]
  simp [hc1, hi _ h1, hi _ h2, hi _ h3]
theorem run_key (k k' : Ky) (hk : kwf k) (hk' : kwf k') (w : World) : (Op.equalIn 10000 31 (kv k) (kv k')).run Try.prog w = .ok (decide (k = k')) w := by
  have hf : ∀ a b c : Int, (Value.agg #[.int .i64 a, .int .i64 b, .int .i64 c]).formed Try.prog 31 = true := fun a b c => by
    unfold Value.formed
    rw [Try.underlying31]
    kernel_rfl
  obtain ⟨r, h1, h2⟩ := run_equalIn_deep (P := Try.prog) 9997 3 31 (by kernel_rfl) w 3 3 (kv k) (kv k') _ _ (hf _ _ _) (hf _ _ _) (key_lits k hk) (key_lits k' hk')
  rw [h1]
  congr 1
  rw [Bool.eq_iff_iff, h2]
  obtain ⟨a, b, c⟩ := k
  obtain ⟨a', b', c'⟩ := k'
  simp

theorem below_any (w : World) (n m : Int) :
    Calls Try.prog 38 #[.int .i64 n, .int .i64 m] w fun e w' => e = .returned (.bool (bel n m)) ∧ w = w' := by
  unfold bel
  by_cases h0 : 0 ≤ n
  · have d0 : decide (0 ≤ n) = true := decide_eq_true h0
    rw [d0, Bool.true_and]
    clear h0
    go_enter Try.func38, Try.ntmps38
    go_wp2
    go_ret
    exact ⟨rfl, rfl⟩
  · have d0 : decide (0 ≤ n) = false := decide_eq_false h0
    rw [d0, Bool.false_and]
    clear h0
    go_enter Try.func38, Try.ntmps38
    go_wp2
    go_ret
    exact ⟨rfl, rfl⟩
theorem check_any (w : World) (k : Ky) :
    Calls Try.prog 21 #[kv k] w fun e w' => e = .returned (.int .i64 (ckE k)) ∧ Below w.heap.size w w' := by
  have HB : Hid (Below w.heap.size w (w.alloc (.cells #[.int .i64 k.p, .int .i64 k.f, .int .i64 k.o] 31))) := Lib.hid ((Below.refl _ _).alloc (Nat.le_refl _) _)
  have HY := Lib.hid below_any
  unfold ckE mayK
  obtain ⟨p, f, o⟩ := k
  dsimp only at HB ⊢
  by_cases h0 : p = 0
  · subst h0
    have d4 : decide ((1 : Int) ≤ 0) = false := by decide
    have d0 : ((0 : Int) == 0) = true := rfl
    rw [d4, d0, Bool.true_and, Bool.false_and, Bool.false_and, Bool.or_false]
    obtain ⟨b2, h2⟩ : ∃ b, bel f 256 = b := ⟨_, rfl⟩
    obtain ⟨b3, h3⟩ : ∃ b, bel o 64 = b := ⟨_, rfl⟩
    rw [h2, h3]
    cases b2
    · rw [Bool.false_and, if_neg (by decide)]
      go_enter Try.func21, Try.ntmps21
      go_wp2_with (go_at_call 38; (with_reducible refine (HY.out _ _ _).mono ?_); rintro e w1 ⟨rfl, rfl⟩; first | rw [h2] | rw [h3])
      go_ret
      exact ⟨rfl, HB.out⟩
    · cases b3
      · rw [Bool.and_false, if_neg (by decide)]
        go_enter Try.func21, Try.ntmps21
        go_wp2_with (go_at_call 38; (with_reducible refine (HY.out _ _ _).mono ?_); rintro e w1 ⟨rfl, rfl⟩; first | rw [h2] | rw [h3])
        go_ret
        exact ⟨rfl, HB.out⟩
      · rw [Bool.and_true, if_pos rfl]
        go_enter Try.func21, Try.ntmps21
        go_wp2_with (go_at_call 38; (with_reducible refine (HY.out _ _ _).mono ?_); rintro e w1 ⟨rfl, rfl⟩; first | rw [h2] | rw [h3])
        go_ret
        exact ⟨rfl, HB.out⟩
  · have d0 : (p == 0) = false := by simpa using h0
    rw [d0, Bool.false_and, Bool.false_and, Bool.false_or]
    clear h0
    by_cases h1 : 1 ≤ p
    · have d1 : decide (1 ≤ p) = true := decide_eq_true h1
      rw [d1, Bool.true_and]
      clear h1
      by_cases hf : f = 0
      · subst hf
        rw [show ((0 : Int) == 0) = true from rfl, Bool.true_and]
        obtain ⟨b3, h3⟩ : ∃ b, bel o 4096 = b := ⟨_, rfl⟩
        rw [h3]
        cases b3
        · rw [if_neg (by decide)]
          go_enter Try.func21, Try.ntmps21
          go_wp2_with (go_at_call 38; (with_reducible refine (HY.out _ _ _).mono ?_); rintro e w1 ⟨rfl, rfl⟩; rw [h3])
          go_ret
          exact ⟨rfl, HB.out⟩
        · rw [if_pos rfl]
          go_enter Try.func21, Try.ntmps21
          go_wp2_with (go_at_call 38; (with_reducible refine (HY.out _ _ _).mono ?_); rintro e w1 ⟨rfl, rfl⟩; rw [h3])
          go_ret
          exact ⟨rfl, HB.out⟩
      · have df : (f == 0) = false := by simpa using hf
        rw [df, Bool.false_and, if_neg (by decide)]
        clear hf
        go_enter Try.func21, Try.ntmps21
        go_wp2
        go_ret
        exact ⟨rfl, HB.out⟩
    · have d1 : decide (1 ≤ p) = false := decide_eq_false h1
      rw [d1, Bool.false_and, Bool.false_and, if_neg (by decide)]
      clear h1
      go_enter Try.func21, Try.ntmps21
      go_wp2
      go_ret
      exact ⟨rfl, HB.out⟩
end Go.Proofs.Ytpfnjeicenhciaa.Fta
