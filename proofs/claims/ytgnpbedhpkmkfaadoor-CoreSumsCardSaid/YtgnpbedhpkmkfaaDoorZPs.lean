/-
  Plain: a step keeps the registers' bounds, and how many bytes there are; bytes as a text.
-/
import Derived.Test.YtgnpbedhpkmkfaaDoorZSt
import Derived.Test.YtgnpbedhpkmkfaaDoorZCa
import Derived.Lib.SlBytesConst
import Derived.Laws.BytesArg
namespace Go.Proofs.YtgnpbedhpkmkfaaDoor.Ps
open Go Go.RowKit Kit Fl Whole Gleaf Gparts Gwhole Gnums Gg WordsG Bk CoM CoR CoB CoW CoE CoF IsaM Nums Bytes3
set_option linter.unusedVariables false

theorem bits_bd (op : BinOp) (a b : Int) (ha : 0 ≤ a ∧ a < 4294967296) (hb : 0 ≤ b ∧ b < 4294967296) (h : op = .and ∨ op = .or ∨ op = .xor) : 0 ≤ bits op .u32 a b ∧ bits op .u32 a b < 4294967296 := by
  obtain ⟨x, rfl⟩ := Int.eq_ofNat_of_zero_le ha.1
  obtain ⟨y, rfl⟩ := Int.eq_ofNat_of_zero_le hb.1
  have hx : x < 2 ^ 32 := by omega
  have hy : y < 2 ^ 32 := by omega
  rcases h with rfl | rfl | rfl
  · rw [u32_and_nat x y (by omega) (by omega)]
    have := Nat.and_lt_two_pow x hy
    omega
  · rw [u32_or_nat x y (by omega) (by omega)]
    have := Nat.or_lt_two_pow hx hy
    omega
  · rw [u32_xor_nat x y (by omega) (by omega)]
    have := Nat.xor_lt_two_pow hx hy
    omega
theorem up_bd {R : Nat → Int} (h : ∀ j, 0 ≤ R j ∧ R j < 4294967296) (k : Nat) (v : Int) (hv : 0 ≤ v ∧ v < 4294967296) : ∀ j, 0 ≤ up R k v j ∧ up R k v j < 4294967296 := fun j => by
  unfold up
  split
  · exact hv
  · exact h j
theorem ok_setR {s : St} (h : s.Ok) (k : Nat) (v : Int) (hv : 0 ≤ v ∧ v < 4294967296) : (setR s k v).Ok :=
  ⟨fun j => (up_bd (fun j => ⟨h.r0 j, h.r1 j⟩) k v hv j).1, fun j => (up_bd (fun j => ⟨h.r0 j, h.r1 j⟩) k v hv j).2, h.p0, h.p1⟩
theorem ok_setP {s : St} (h : s.Ok) (v : Int) (hv : 0 ≤ v ∧ v < 4294967296) : (setP s v).Ok := ⟨h.r0, h.r1, hv.1, hv.2⟩
theorem ok_setZ {s : St} (h : s.Ok) (k : Nat) (v : Nat × Nat) : (setZ s k v).Ok := ⟨h.r0, h.r1, h.p0, h.p1⟩
def BD (x : Int) : Prop := 0 ≤ x ∧ x < 4294967296
theorem ite_bd {c : Prop} [Decidable c] {x y : Int} (hx : BD x) (hy : BD y) : BD (if c then x else y) := by
  split
  · exact hx
  · exact hy
theorem res_bd (k : Nat) (a b i pc : Int) (ha : 0 ≤ a ∧ a < 4294967296) (hb : 0 ≤ b ∧ b < 4294967296) : 0 ≤ res k a b i pc ∧ res k a b i pc < 4294967296 := by
  have hm := fun x => m32_bd x
  have h2 : 0 ≤ m32 i % 65536 * 65536 + a % 65536 ∧ m32 i % 65536 * 65536 + a % 65536 < 4294967296 := by omega
  have h7 := bits_bd .and a b ha hb (.inl rfl)
  have h8 := bits_bd .or a b ha hb (.inr (.inl rfl))
  have h9 := bits_bd .xor a b ha hb (.inr (.inr rfl))
  have h11 : 0 ≤ a / 2 ^ (b % 32).toNat ∧ a / 2 ^ (b % 32).toNat < 4294967296 := by
    have hp : (0 : Int) < 2 ^ (b % 32).toNat := Int.pow_pos (by omega)
    exact ⟨Int.ediv_nonneg ha.1 (Int.le_of_lt hp), Int.lt_of_le_of_lt (Int.ediv_le_self _ ha.1) ha.2⟩
  have h1 : BD 1 := ⟨by decide, by decide⟩
  have h0 : BD 0 := ⟨by decide, by decide⟩
  show BD (res k a b i pc)
  unfold res
  exact ite_bd (hm _) (ite_bd h2 (ite_bd hb (ite_bd (hm _) (ite_bd (hm _) (ite_bd (hm _) (ite_bd h7 (ite_bd h8 (ite_bd h9 (ite_bd (hm _) (ite_bd h11 (ite_bd (hm _) (ite_bd (ite_bd h1 h0) (ite_bd (ite_bd h1 h0) (ite_bd (hm _) ha))))))))))))))
theorem nxt_bd (k : Nat) (a i pc : Int) (ha : 0 ≤ a ∧ a < 4294967296) : 0 ≤ nxt k a i pc ∧ nxt k a i pc < 4294967296 := by
  unfold nxt
  split
  · exact ha
  · split <;> exact m32_bd _
theorem zst_ok {s : St} (h : s.Ok) (k a b : Nat) : (zst k a b s).Ok := by
  unfold zst
  repeat' split
  all_goals first | exact ok_setZ h _ _ | exact ok_setR (ok_setR h _ _ (wd_bd _)) _ _ (wd_bd _) | exact h
theorem step_ok {s : St} (h : s.Ok) {b : CoM.Bs} (hb : ∀ i, at_ b i < 256) : (stepP s b).1.Ok := by
  unfold stepP
  split
  · exact h
  · rename_i k a c i _
    have ha := fun j => (⟨h.r0 j, h.r1 j⟩ : 0 ≤ s.r j ∧ s.r j < 4294967296)
    unfold execP
    repeat' split
    · exact h
    · refine ok_setP (ok_setR h _ _ ?_) _ (m32_bd _)
      unfold memV
      repeat' split
      · have := wordAt_lt hb (memAt k c i s).toNat; omega
      · have := hb (memAt k c i s).toNat; omega
      · exact ha _
    · exact h
    · exact ok_setP (zst_ok h _ _ _) _ (m32_bd _)
    · exact ok_setP (ok_setR h _ _ (res_bd _ _ _ _ _ (ha _) (ha _))) _ (nxt_bd _ _ _ _ (ha _))
theorem step_len (s : St) (b : CoM.Bs) : (stepP s b).2.2.length = b.length := by
  unfold stepP
  split
  · rfl
  · rename_i k a c i _
    unfold execP
    by_cases h24 : k = 24
    · rw [if_pos h24]
    · rw [if_neg h24]
      cases isMem k with
      | true =>
        simp only [if_true]
        cases rch b (memAt k c i s) (lng k) with
        | true =>
          simp only [if_true]
          unfold memP
          by_cases h1 : k = 16
          · rw [if_pos h1]; exact put4_len _ _ _
          · rw [if_neg h1]
            by_cases h2 : k = 18
            · rw [if_pos h2]; exact put1_len _ _ _
            · rw [if_neg h2]
        | false => simp only [Bool.false_eq_true, if_false]
      | false =>
        simp only [Bool.false_eq_true, if_false]
        by_cases h25 : 25 ≤ k
        · rw [if_pos h25]
        · rw [if_neg h25]

/-- A text of bytes. -/
def bstr (l : List Nat) : ByteArray := strOfNums (l.map fun (x : Nat) => (x : Int))
set_option maxRecDepth 100000 in
theorem slc_string {w : World} {v : Value} {l : List Nat} (h : Slc .u8 w v l) : (convert 26 9 v).run Tryd.prog w = .ok (.string (bstr l)) w := by
  obtain ⟨a, cap, rfl, h1, h2, h3⟩ := h
  rcases h3 with rfl | ⟨b, off, rfl, hlt, hc⟩
  · cases a with
    | none =>
      refine (run_convert_bytes_nil w 26 5 Tryd.underlying26 Tryd.underlying5 0 cap 9 Tryd.underlying9).trans ?_
      rfl
    | some a =>
      obtain ⟨b, off, sp⟩ := a
      refine (run_convert_bytes_arg w 26 5 Tryd.underlying26 Tryd.underlying5 b off 0 cap [] (by simp) (fun i hi => by omega) 9 Tryd.underlying9).trans ?_
      rfl
  · refine run_convert_bytes_arg w 26 5 Tryd.underlying26 Tryd.underlying5 b off l.length cap (l.map fun (x : Nat) => (x : Int)) (by simp) (fun i hi => ?_) 9 Tryd.underlying9
    rw [hc i hi]
    simp [List.getD, List.getElem?_eq_getElem hi]
theorem lies_slc {w : World} {B : Nat} {ad : Option Addr} {cap : Nat} {b : CoM.Bs} (h : Lies w B ad cap b) (hcap : b.length ≤ cap ∧ cap ≤ maxLen) : Slc .u8 w (sl ad b cap) b := by
  refine ⟨ad, cap, rfl, hcap.1, hcap.2, ?_⟩
  rcases h.row with e | ⟨rfl, h2, h3, cells, T, h4, h5⟩
  · exact .inl e
  · exact .inr ⟨B, 0, rfl, h4.lt, fun i hi => by rw [Nat.zero_add, h4.cell]; exact h5 i hi⟩
end Go.Proofs.YtgnpbedhpkmkfaaDoor.Ps
