/-
  IsaBack: for any instruction, word and line.
-/
import Derived.Test.YtocbilaaklapkaaDoorIsaZ
import Derived.OpenShut
namespace Go.Proofs.YtocbilaaklapkaaDoor.IsaZz
open Go Go.RowKit Go.Shelf Kit IsaM IsaT IsaL IsaC IsaE IsaN IsaD IsaA IsaW IsaS IsaP IsaR IsaB IsaF IsaG IsaH IsaI IsaJ IsaK IsaQ IsaU IsaV IsaX IsaO IsaZ
set_option linter.unusedVariables false

theorem nm_len : ∀ k : Fin 30, (nm k.val).length ≤ 5 := by decide +kernel
theorem fld_len (m v : Int) (h0 : -9223372036854775808 ≤ v) (h1 : v ≤ 9223372036854775807) : (fld m v).length ≤ 22 := by
  unfold fld
  split
  · simp
  · rw [List.length_cons]; have := Lib.itoa_length_le v h0 h1; omega
theorem line_len {k : Nat} {a b i : Int} (h : May k a b i) : (line k a b i).length ≤ 71 := by
  have hf := h.2
  have hF : Fits k a b i := by simpa using hf
  have hb := hF.bd
  have h1 := nm_len ⟨k, hF.k30⟩
  have h2 := fld_len (mA k) a (by omega) (by omega)
  have h3 := fld_len (mB k) b (by omega) (by omega)
  have h4 := fld_len (mI k) i (by omega) (by omega)
  unfold line
  simp only [List.length_append]
  simp only at h1
  omega
theorem op_nat {op a b i : Int} (h : May op a b i) : ∃ k : Nat, op = (k : Int) ∧ May (k : Int) a b i := by
  obtain ⟨k, rfl⟩ := Int.eq_ofNat_of_zero_le h.1
  exact ⟨k, rfl, h⟩
theorem ans_dec {N : Nat} {z : Int} {v : Value} (hn : N < 4294967296) (hz : (N : Int) = z) (hv : decV N = v) : Ans 14 #[.int .u32 z] v := fun wx h1 _ => dec_at N z v hn hz hv wx h1
theorem ans_read {s : ByteArray} {v : Value} (hs : s.size < 4294967281) (hv : readV (parse s.data.toList) = v) : Ans 18 #[.string s] v := fun wx h1 h2 => by subst hv; exact read_any s wx hs h1 h2
theorem ans_line {k : Nat} {a b i z : Int} (h : May k a b i) (hz : (k : Int) = z) : Ans 16 #[.agg #[.int .i64 z, .int .i64 a, .int .i64 b, .int .i64 i]] (.tuple #[.string (st (line k a b i)), .int .i64 0]) := fun wx h1 _ => by subst hz; exact line_in k a b i h wx h1
theorem decV_enc {op a b i : Int} (h : May op a b i) : decV (enc op a b i).toNat = .tuple #[.agg #[.int .i64 op, .int .i64 a, .int .i64 b, .int .i64 i], .int .i64 0] := by
  have hb := enc_bd h
  have hc : (((enc op a b i).toNat : Nat) : Int) = enc op a b i := by omega
  obtain ⟨d1, d2, d3, d4⟩ := dec_enc h
  unfold decV
  rw [hc, d1, d2, d3, d4, if_pos (show mayB op a b i = true from decide_eq_true h)]
  rfl
theorem may0 : May 0 0 0 0 := by decide

theorem isaBack (op a b i : Int) (n : Nat) (hn : n < 4294967296) (s : ByteArray) (hs : s.size ≤ 80) (w : World) (hT : Tabs w) (hM : Ml w) :
    Calls Tryd.prog 6 #[.agg #[.int .i64 op, .int .i64 a, .int .i64 b, .int .i64 i], .int .u32 (n : Int), .string s] w fun e w' => e = .returned (.bool true) ∧ Below w.heap.size w w' := by
  obtain ⟨A, E0, y0, y1, y2, y3, z0, z1, z2, z3, H, L, hE, hD, hL, hR, h1⟩ : ∃ (A E0 y0 y1 y2 y3 z0 z1 z2 z3 H : Int) (L : ByteArray),
      Ans 12 #[.agg #[.int .i64 op, .int .i64 a, .int .i64 b, .int .i64 i]] (.tuple #[.int .u32 A, .int .i64 E0]) ∧ Ans 14 #[.int .u32 A] (.tuple #[.agg #[.int .i64 y0, .int .i64 y1, .int .i64 y2, .int .i64 y3], .int .i64 0]) ∧
      Ans 16 #[.agg #[.int .i64 op, .int .i64 a, .int .i64 b, .int .i64 i]] (.tuple #[.string L, .int .i64 E0]) ∧ Ans 18 #[.string L] (.tuple #[.agg #[.int .i64 z0, .int .i64 z1, .int .i64 z2, .int .i64 z3], .int .i64 H]) ∧
      (E0 = 30 ∨ E0 = 0 ∧ y0 = op ∧ y1 = a ∧ y2 = b ∧ y3 = i ∧ z0 = op ∧ z1 = a ∧ z2 = b ∧ z3 = i ∧ H = 0) := by
    by_cases h : May op a b i
    · obtain ⟨k, rfl, hk⟩ := op_nat h
      have hb := enc_bd h
      have hl := line_len hk
      refine ⟨enc k a b i, 0, k, a, b, i, k, a, b, i, 0, st (line k a b i), fun wx h1 _ => encode_yes k a b i h wx h1, ans_dec (N := (enc k a b i).toNat) (by omega) (by omega) (decV_enc h), ans_line hk rfl, ans_read (by rw [st_size]; omega) ?_, .inr ⟨rfl, rfl, rfl, rfl, rfl, rfl, rfl, rfl, rfl, rfl⟩⟩
      rw [st_data, parse_line hk]
      rfl
    · exact ⟨0, 30, 0, 0, 0, 0, 0, 0, 0, 0, 30, ⟨#[]⟩, fun wx h1 _ => encode_no op a b i h wx h1, ans_dec (N := 0) (by omega) rfl (by kernel_rfl), fun wx h1 _ => line_no op a b i h wx h1, ans_read (by decide) (by kernel_rfl), .inl rfl⟩
  obtain ⟨p0, p1, p2, p3, I, Bn, hP, hB, h2⟩ : ∃ (p0 p1 p2 p3 I Bn : Int), Ans 14 #[.int .u32 (n : Int)] (.tuple #[.agg #[.int .i64 p0, .int .i64 p1, .int .i64 p2, .int .i64 p3], .int .i64 I]) ∧
      Ans 12 #[.agg #[.int .i64 p0, .int .i64 p1, .int .i64 p2, .int .i64 p3]] (.tuple #[.int .u32 Bn, .int .i64 0]) ∧ (I = 30 ∨ I = 0 ∧ Bn = (n : Int)) := by
    by_cases h : May (dOp n) (dA n) (dB n) (dI n)
    · refine ⟨dOp n, dA n, dB n, dI n, 0, enc (dOp n) (dA n) (dB n) (dI n), ans_dec hn rfl ?_, fun wx h1 _ => encode_yes _ _ _ _ h wx h1, .inr ⟨rfl, enc_dec (by omega) (by omega)⟩⟩
      unfold decV
      rw [if_pos (show mayB (dOp n) (dA n) (dB n) (dI n) = true from decide_eq_true h)]
      rfl
    · refine ⟨0, 0, 0, 0, 30, enc 0 0 0 0, ans_dec hn rfl ?_, fun wx h1 _ => encode_yes _ _ _ _ may0 wx h1, .inl rfl⟩
      unfold decV
      rw [if_neg (show ¬ mayB (dOp n) (dA n) (dB n) (dI n) = true from fun e => h (of_decide_eq_true e))]
      rfl
  obtain ⟨q0, q1, q2, q3, K, T, hQ, hMm, h3⟩ : ∃ (q0 q1 q2 q3 K : Int) (T : ByteArray), Ans 18 #[.string s] (.tuple #[.agg #[.int .i64 q0, .int .i64 q1, .int .i64 q2, .int .i64 q3], .int .i64 K]) ∧
      Ans 16 #[.agg #[.int .i64 q0, .int .i64 q1, .int .i64 q2, .int .i64 q3]] (.tuple #[.string T, .int .i64 0]) ∧ (K = 30 ∨ K = 0 ∧ T = s) := by
    have bad : ∀ (o : Option ((Nat × Int × Int × Int) × Tx)), parse s.data.toList = o → readV o = .tuple #[.agg #[.int .i64 0, .int .i64 0, .int .i64 0, .int .i64 0], .int .i64 30] → ∃ (q0 q1 q2 q3 K : Int) (T : ByteArray), Ans 18 #[.string s] (.tuple #[.agg #[.int .i64 q0, .int .i64 q1, .int .i64 q2, .int .i64 q3], .int .i64 K]) ∧
      Ans 16 #[.agg #[.int .i64 q0, .int .i64 q1, .int .i64 q2, .int .i64 q3]] (.tuple #[.string T, .int .i64 0]) ∧ (K = 30 ∨ K = 0 ∧ T = s) := fun o ho hr =>
      ⟨0, 0, 0, 0, 30, st (line 0 0 0 0), ans_read (by omega) (by rw [ho, hr]), ans_line (k := 0) may0 rfl, .inl rfl⟩
    cases hp : parse s.data.toList with
    | none => exact bad _ hp rfl
    | some x =>
      obtain ⟨⟨k, a, b, i⟩, l⟩ := x
      cases l with
      | cons c r => exact bad _ hp rfl
      | nil =>
        refine ⟨k, a, b, i, 0, st (line k a b i), ans_read (by omega) (by rw [hp]; rfl), ans_line (parse_fits hp) rfl, .inr ⟨rfl, ?_⟩⟩
        rw [← line_parse hp]
        rfl
  exact back_walk op a b i n A E0 y0 y1 y2 y3 z0 z1 z2 z3 H p0 p1 p2 p3 I Bn q0 q1 q2 q3 K L T s hs hE hD hL hR hP hB hQ hMm h1 h2 h3 w hT hM

set_option maxHeartbeats 1000000 in
theorem isaBack_long (op a b i : Int) (n : Nat) (s : ByteArray) (hs : ¬ s.size ≤ 80) (w : World) (hT : Tabs w) (hM : Ml w) :
    Calls Tryd.prog 6 #[.agg #[.int .i64 op, .int .i64 a, .int .i64 b, .int .i64 i], .int .u32 (n : Int), .string s] w fun e w' => e = .returned (.bool true) ∧ Below w.heap.size w w' := by
  have HA := Lib.hid alive_any
  have hsz : (80 : Int) < (s.size : Int) := by omega
  have B0 := (Below.refl w.heap.size w).alloc (Nat.le_refl _) (.cells #[.int .i64 op, .int .i64 a, .int .i64 b, .int .i64 i] 23)
  go_enter Tryd.func6, Tryd.ntmps6
  go_wp2_with (first | (go_at_call 28; ((with_reducible refine (HA.out _ (hT.below B0) (hM.below B0)).mono ?_); rintro e w1 ⟨rfl, hb0⟩)))
  go_ret
  exact ⟨rfl, B0.trans (hb0.mono B0.size)⟩
end Go.Proofs.YtocbilaaklapkaaDoor.IsaZz
namespace Go.Proofs.YtocbilaaklapkaaDoor.Walk
set_option linter.unusedVariables false
open Go Go.RowKit Kit IsaT IsaP
theorem isaBack (op a b i : Int) (n : Int) (s : ByteArray) (w : World) (w0 : (Lit.int .i64 op).wf = true) (w1 : (Lit.int .i64 a).wf = true) (w2 : (Lit.int .i64 b).wf = true) (w3 : (Lit.int .i64 i).wf = true) (w4 : (Lit.int .u32 n).wf = true) (w5 : s.size ≤ maxLen) (hT : Tabs w) (hM : Ml w) :
    Calls Tryd.prog 6 #[.agg #[.int .i64 op, .int .i64 a, .int .i64 b, .int .i64 i], .int .u32 n, .string s] w fun e w' => e = .returned (.bool true) ∧ Below w.heap.size w w' := by
  have h4 := bounds_u32 w4
  obtain ⟨n, rfl⟩ := Int.eq_ofNat_of_zero_le h4.1
  by_cases hs : s.size ≤ 80
  · exact IsaZz.isaBack op a b i n (by omega) s hs w hT hM
  · exact IsaZz.isaBack_long op a b i n s hs w hT hM
#print axioms isaBack
end Go.Proofs.YtocbilaaklapkaaDoor.Walk
