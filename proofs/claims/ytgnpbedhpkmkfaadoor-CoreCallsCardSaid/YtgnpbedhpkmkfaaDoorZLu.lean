/-
  CoreSums' two told lines, in plain words: li and lui make any word.
-/
import Derived.Test.YtgnpbedhpkmkfaaDoorZSu
import Derived.Test.YtgnpbedhpkmkfaaDoorZPlq
namespace Go.Proofs.YtgnpbedhpkmkfaaDoor.Lu
open Go Go.RowKit Kit Bk CoM CoR CoB CoC CoW CoI CoE CoY Bytes3 IsaM IsaT IsaU IsaV Sm Ru Rw Ar Av Su
set_option linter.unusedVariables false

theorem word_0 (x y : Nat) (hx : x < 4294967296) : wordAt (allB [x, y]) 0 = x := by
  simp [allB, bs, b0, b1, b2, b3, wordAt, at_]
  omega
theorem word_4 (x y : Nat) (hy : y < 4294967296) : wordAt (allB [x, y]) 4 = y := by
  simp [allB, bs, b0, b1, b2, b3, wordAt, at_]
  omega
theorem fetch_of {pc : Int} {bs : CoM.Bs} {k a b : Nat} {i : Int} (hp : pc % 4 = 0) (hl : pc + 4 ≤ bs.length) (m : May k a b i) (hw : wordAt bs pc.toNat = (enc k a b i).toNat) : fetchP pc bs = .inr (k, a, b, i) := by
  obtain ⟨d1, d2, d3, d4⟩ := dec_enc m
  obtain ⟨c1, c2⟩ := enc_bd m
  have hm : mayB k a b i = true := decide_eq_true m
  unfold fetchP fetchW
  rw [if_pos ⟨hp, hl⟩, hw]
  simp only
  rw [Int.toNat_of_nonneg c1, d1, d2, d3, d4, if_pos hm]
  simp
theorem ex1 (i : Int) (s : St) (bs : CoM.Bs) : execP 1 5 0 i s bs = (setP (setR s 5 (m32 i)) (m32 (s.pc + 4)), 0, bs) := by kernel_rfl
theorem ex2 (i : Int) (s : St) (bs : CoM.Bs) : execP 2 5 0 i s bs = (setP (setR s 5 (m32 i % 65536 * 65536 + s.r 5 % 65536)) (m32 (s.pc + 4)), 0, bs) := by kernel_rfl
theorem may1 {i : Int} (h : -32768 ≤ i ∧ i ≤ 32767) : May (1 : Nat) (5 : Nat) (0 : Nat) i := by
  refine ⟨by decide, ⟨by decide, by decide, by decide, by decide, by decide, ?_, ?_⟩⟩
  · show lo 32767 ≤ _; unfold lo; simp; omega
  · show _ ≤ (32767 : Int); omega
theorem may2 {i : Int} (h : -32768 ≤ i ∧ i ≤ 32767) : May (2 : Nat) (5 : Nat) (0 : Nat) i := by
  refine ⟨by decide, ⟨by decide, by decide, by decide, by decide, by decide, ?_, ?_⟩⟩
  · show lo 32767 ≤ _; unfold lo; simp; omega
  · show _ ≤ (32767 : Int); omega
/-- The words of the two lines. -/
def ww (i j : Int) : List Nat := [(enc (1 : Nat) (5 : Nat) (0 : Nat) i).toNat, (enc (2 : Nat) (5 : Nat) (0 : Nat) j).toNat]
theorem asm_ww {i j : Int} (hi : -32768 ≤ i ∧ i ≤ 32767) (hj : -32768 ≤ j ∧ j ≤ 32767) : asm (line 1 5 0 i ++ 10 :: (line 2 5 0 j ++ 10 :: [])) = .inr (ww i j) := Plq.asm_two (may1 hi) (may2 hj)
theorem sum5 (a b i j : Int) (ha : 0 ≤ a ∧ a < 4294967296) (hi : -32768 ≤ i ∧ i ≤ 32767) (hj : -32768 ≤ j ∧ j ≤ 32767) (h1 : (i - a) % 65536 = 0) (h2 : (j - a / 65536) % 65536 = 0) : ∃ X b', Rw.Ends (zab a b) (allB (ww i j)) 2 X 2 0 b' ∧ X.r 5 = a := by
  have c1 := enc_bd (may1 hi)
  have c2 := enc_bd (may2 hj)
  have hl : (allB (ww i j)).length = 8 := allB_len _
  have f1 : fetchP 0 (allB (ww i j)) = .inr (1, 5, 0, i) := fetch_of (by decide) (by rw [hl]; decide) (may1 hi) (word_0 _ _ (by omega))
  have f2 : fetchP 4 (allB (ww i j)) = .inr (2, 5, 0, j) := fetch_of (by decide) (by rw [hl]; decide) (may2 hj) (word_4 _ _ (by omega))
  have e1 : sq (zab a b) (allB (ww i j)) 1 = (setP (setR (zab a b) 5 (m32 i)) (m32 (0 + 4)), 0, allB (ww i j)) := by
    show stepP (zab a b) (allB (ww i j)) = _
    unfold stepP
    rw [show (zab a b).pc = 0 from rfl, f1]
    exact ex1 i _ _
  have e2 : sq (zab a b) (allB (ww i j)) 2 = (setP (setR (setP (setR (zab a b) 5 (m32 i)) (m32 (0 + 4))) 5 (m32 j % 65536 * 65536 + m32 i % 65536)) (m32 (4 + 4)), 0, allB (ww i j)) := by
    show stepP (sq (zab a b) (allB (ww i j)) 1).1 (sq (zab a b) (allB (ww i j)) 1).2.2 = _
    rw [e1]
    show stepP (setP (setR (zab a b) 5 (m32 i)) (m32 (0 + 4))) (allB (ww i j)) = _
    unfold stepP
    rw [show (setP (setR (zab a b) 5 (m32 i)) (m32 (0 + 4))).pc = 4 from rfl, f2]
    exact ex2 j _ _
  refine ⟨_, _, ends_full (lt3 rfl (by rw [e1]) (by rw [e2])), ?_⟩
  rw [e2]
  show m32 j % 65536 * 65536 + m32 i % 65536 = a
  unfold m32
  omega
theorem w16 (x : Int) : (-32768 ≤ wrap64 (IntKind.i16.wrap x) ∧ wrap64 (IntKind.i16.wrap x) ≤ 32767) ∧ (wrap64 (IntKind.i16.wrap x) - x) % 65536 = 0 := by
  have e : IntKind.i16.wrap x = (x + 32768) % 65536 - 32768 := by
    simp [IntKind.wrap, IntKind.bits, IntKind.signed]
    omega
  rw [e]
  unfold wrap64
  omega
theorem fld_len (m v : Int) (h : -32768 ≤ v ∧ v ≤ 32767) : (fld m v).length ≤ 30 := by
  unfold fld
  split
  · simp
  · rw [List.length_cons]
    have := Lib.itoa_length_le v (by omega) (by omega)
    omega
theorem ln_len {k : Nat} (hk : k < 30) (a b i : Int) (ha : -32768 ≤ a ∧ a ≤ 32767) (hb : -32768 ≤ b ∧ b ≤ 32767) (hi : -32768 ≤ i ∧ i ≤ 32767) : (line k a b i).length ≤ 100 := by
  have h1 := IsaN.nm_len ⟨k, hk⟩
  have h2 := fld_len (mA k) a ha
  have h3 := fld_len (mB k) b hb
  have h4 := fld_len (mI k) i hi
  unfold line
  simp only [List.length_append]
  simp at h1
  omega
/-- The two lines as a text. -/
abbrev tx (L1 L2 : Tx) : ByteArray := IsaN.st L1 ++ ⟨#[10]⟩ ++ IsaN.st L2 ++ ⟨#[10]⟩
theorem tx_list (L1 L2 : Tx) : (tx L1 L2).data.toList = L1 ++ 10 :: (L2 ++ 10 :: []) := by
  unfold tx
  rw [show (⟨#[10]⟩ : ByteArray) = IsaN.st [10] from rfl, IsaN.st_app, IsaN.st_app, IsaN.st_app]
  simp [IsaN.st]
theorem tx_size (L1 L2 : Tx) : (tx L1 L2).size = L1.length + L2.length + 2 := by
  have := congrArg List.length (tx_list L1 L2)
  rw [Array.length_toList] at this
  simp only [List.length_append, List.length_cons, List.length_nil] at this
  show (tx L1 L2).data.size = _
  omega
end Go.Proofs.YtgnpbedhpkmkfaaDoor.Lu
