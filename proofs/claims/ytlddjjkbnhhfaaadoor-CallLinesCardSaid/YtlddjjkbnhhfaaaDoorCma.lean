/-
  The document's own digits, May and Line.
-/
import Derived.Test.YtlddjjkbnhhfaaaDoorClm
import Derived.Test.YtlddjjkbnhhfaaaDoorClrc
import Derived.Test.YtlddjjkbnhhfaaaDoorClra
import Derived.WalkSpells
namespace Go.Proofs.YtlddjjkbnhhfaaaDoor.Cma
open Go Go.RowKit Go.Shelf Kit IsaM Cla Clt Clf Bk Clh Cli Clg Clm Clra Clrc
set_option linter.unusedVariables false
attribute [local go_sem] Oper.semAt_some

theorem one_tx (m : Nat) (h : m < 256) : strOfNums [(m : Int)] = tx [UInt8.ofNat m] := by
  apply ByteArray.ext
  rfl
theorem dd_one {u : Nat} (h : u < 10) : Lib.decDigits u = [UInt8.ofNat (48 + u)] := by rw [Lib.decDigits, dif_pos h]
/-- What holds when k digits have been told, l, and m is left. -/
def Dinv (n k m : Nat) (l : List UInt8) : Prop :=
  (0 < m ∧ Lib.decDigits n = Lib.decDigits m ++ l ∧ m * 10 ^ k ≤ n) ∨ (m = 0 ∧ l = [] ∧ n = 0 ∧ k = 0) ∨ (m = 0 ∧ l ≠ [] ∧ l = Lib.decDigits n)
theorem Dinv.step {n k m : Nat} {l : List UInt8} (h : 0 < m) (hi : Dinv n k m l) : Dinv n (k + 1) (m / 10) (UInt8.ofNat (48 + m % 10) :: l) := by
  rcases hi with ⟨_, h1, h2⟩ | ⟨h1, _⟩ | ⟨h1, _⟩
  · by_cases h10 : m < 10
    · refine .inr (.inr ⟨by omega, by simp, ?_⟩)
      rw [h1, dd_one h10, show m % 10 = m from by omega]
      rfl
    · refine .inl ⟨by omega, ?_, ?_⟩
      · rw [h1]
        conv => lhs; rw [Lib.decDigits]
        rw [dif_neg h10, List.append_assoc]
        rfl
      · refine Nat.le_trans ?_ h2
        rw [Nat.pow_succ, Nat.mul_comm (10 ^ k) 10, ← Nat.mul_assoc]
        exact Nat.mul_le_mul_right _ (by omega)
  · omega
  · omega
theorem Dinv.small {n k m : Nat} {l : List UInt8} (h : 0 < m) (hn : n < 4294967296) (hi : Dinv n k m l) : k < 10 := by
  rcases hi with ⟨_, h1, h2⟩ | ⟨h1, _⟩ | ⟨h1, _⟩
  · rcases Nat.lt_or_ge k 10 with h7 | h7
    · exact h7
    · exfalso
      have h3 : 10 ^ 10 ≤ 10 ^ k := Nat.pow_le_pow_right (by decide) h7
      have h4 : 1 * 10 ^ k ≤ m * 10 ^ k := Nat.mul_le_mul_right _ h
      omega
  · omega
  · omega
set_option maxHeartbeats 2000000 in
theorem rdigits_any (n : Nat) (hn : n < 4294967296) (w : World) :
    Calls Tryd.prog 38 #[.int .u32 (n : Int)] w fun e w' => e = .returned (.string (tx (Lib.decDigits n))) ∧ Below w.heap.size w w' := by
  have hcv := fun (wx : World) (c : Int) => run_convert_bytes_arg (P := Tryd.prog) (wx.alloc (.cells #[.int .u8 c] 5)) 76 5 Tryd.underlying76 Tryd.underlying5 wx.heap.size 0 1 1 [c] rfl (fun i hi => by rw [World.cell?_alloc_at _ _ _ _ rfl]; obtain rfl : i = 0 := (by omega); rfl) 9 Tryd.underlying9
  go_enter Tryd.func38, Tryd.ntmps38
  go_wp2
  go_loopw [0, 3, 4] (fun x s i wr => ∃ (k m : Nat) (l : List UInt8), k ≤ 12 ∧ m < 4294967296 ∧ i = .int .i64 k ∧ x = .int .u32 m ∧ s = .string (tx l) ∧ l.length ≤ 12 ∧ Hid (Dinv n k m l ∧ l.length = k) ∧ Below w.heap.size w wr) (fun _ _ i _ => 12 - (intOf i).toNat)
  case atStart =>
    refine ⟨0, n, [], by omega, hn, rfl, rfl, rfl, by simp, ⟨?_, rfl⟩, Below.refl _ _⟩
    by_cases h0 : n = 0
    · exact .inr (.inl ⟨h0, rfl, h0, rfl⟩)
    · exact .inl ⟨by omega, by simp, by simp⟩
  case round =>
    obtain ⟨k, m, l, hk, hm, rfl, rfl, rfl, hl, HI, hb⟩ := hrel
    by_cases h0 : 0 < m
    · have hs := HI.out.1.small h0 hn
      have hlen := HI.out.2
      have hz : (tx l).size ≤ 12 := by rw [tx_size]; exact hl
      have hz1 : (strOfNums [48 + (m : Int) % 10]).size ≤ 1 := by rw [strOfNums_size]; simp
      have HN := Lib.hid (HI.out.1.step h0)
      have HL := Lib.hid hlen
      clear HI hlen
      go_wp2
      go_roundw
      case rel =>
        exact ⟨k + 1, m / 10, UInt8.ofNat (48 + m % 10) :: l, by omega, by omega, by go_num, by go_num, by rw [show (48 + (m : Int) % 10) = ((48 + m % 10 : Nat) : Int) from by omega, one_tx _ (by omega), tx_app]; rfl, by have := HL.out; simp; omega, ⟨HN.out, by simp [HL.out]⟩, hb.alloc hb.size _⟩
      case measure => simp [intOf]; omega
    · obtain rfl : m = 0 := by omega
      have e0 : ((0 : Nat) : Int) = 0 := rfl
      rcases HI.out with ⟨⟨h1, _⟩ | ⟨_, rfl, h3, rfl⟩ | ⟨_, h2, h3⟩, hlen⟩
      · omega
      · have HD := Lib.hid h3
        have e1 : tx [] = ⟨#[]⟩ := rfl
        clear HI hlen h3 h0
        rw [e0, e1]
        have hz1 : (strOfNums [48]).size ≤ 1 := by rw [strOfNums_size]; simp
        clear e0 e1
        go_wp2
        go_roundw
        case rel =>
          refine ⟨1, 0, [48], by omega, by omega, rfl, rfl, ?_, by simp, ⟨.inr (.inr ⟨rfl, by simp, by rw [HD.out, dd_one (by omega)]; rfl⟩), rfl⟩, hb.alloc hb.size _⟩
          exact congrArg Value.string (ByteArray.ext rfl)
        case measure => simp [intOf]
      · have HD := Lib.hid h3
        have e2 : (tx l).toList.isEmpty = false := by
          rw [tx_nil]
          cases l with
          | nil => exact absurd rfl h2
          | cons c r => rfl
        clear HI hlen h3 h0 h2
        obtain ⟨S, hS⟩ : ∃ S, tx l = S := ⟨_, rfl⟩
        rw [hS] at e2 ⊢
        have HS := Lib.hid hS
        clear hS
        rw [e0]
        clear e0
        go_wp2
        all_goals go_ret
        all_goals exact ⟨by show Ending.returned (.string S) = _; rw [← HS.out, HD.out], hb⟩
/-- A call may be when what is not an argument of its is 0. -/
theorem may_zero {x : Cl} {k : Nat} (hk : x.n = k) (h1 : 1 ≤ k) (h2 : k < 23) (h : ∀ i, mn k ≤ i → i < 3 → ar x i = 0) : mayC x = true := by
  have : x = only (k : Int) (ar x) := by
    have hm := many_nat h1 h2
    have h3 := mn3 h2
    obtain ⟨n, a, b, c⟩ := x
    simp only at hk
    subst hk
    unfold only
    simp only [hm]
    have e0 : mn k ≤ 0 → a = 0 := fun q => h 0 q (by omega)
    have e1 : mn k ≤ 1 → b = 0 := fun q => h 1 q (by omega)
    have e2 : mn k ≤ 2 → c = 0 := fun q => h 2 q (by omega)
    simp only [ar]
    refine congr (congr (congr rfl ?_) ?_) ?_ <;> split
    · rfl
    · exact e0 (by omega)
    · rfl
    · exact e1 (by omega)
    · rfl
    · exact e2 (by omega)
  rw [this]
  exact only_may h1 h2 _
theorem may_nz {x : Cl} {k i : Nat} (hk : x.n = k) (h1 : 1 ≤ k) (h2 : k < 23) (hi : mn k ≤ i) (hi3 : i < 3) (h : ar x i ≠ 0) : mayC x = false := by
  cases e : mayC x with
  | false => rfl
  | true =>
    exfalso
    have e1 := may_only e
    have hm := many_nat h1 h2
    rw [hk] at e1
    unfold only at e1
    simp only [hm] at e1
    apply h
    have ea := congrArg Cl.a e1
    have eb := congrArg Cl.b e1
    have ec := congrArg Cl.c e1
    simp only at ea eb ec
    have : i = 0 ∨ i = 1 ∨ i = 2 := by omega
    rcases this with rfl | rfl | rfl
    · rw [if_neg (by omega)] at ea; exact ea
    · rw [if_neg (by omega)] at eb; exact eb
    · rw [if_neg (by omega)] at ec; exact ec
theorem may_not {x : Cl} (h : isC x.n = false) : mayC x = false := by unfold mayC; rw [h]; rfl
theorem arc {x : Cl} {i : Nat} (h : i < 3) : (ccs x)[1 + i]? = some (.int .u32 (ar x i : Int)) := by
  have : i = 0 ∨ i = 1 ∨ i = 2 := by omega
  rcases this with rfl | rfl | rfl <;> rfl
set_option maxRecDepth 100000 in
set_option maxHeartbeats 2000000 in
theorem rmay_any (x : Cl) (hw : Wf x) (w : World) :
    Calls Tryd.prog 37 #[cv x] w fun e w' => e = .returned (.bool (mayC x)) ∧ Below w.heap.size w w' := by
  have HM := Lib.hid (fun wx => rmany_any x.n wx)
  have hwn := hw.n
  have HB := Lib.hid (And.intro ((Below.refl w.heap.size w).alloc (Nat.le_refl _) (.cells (ccs x) 27)) (Blk.new w (ccs x) 27))
  cases hc : isC x.n with
  | false =>
    rw [many_no hc] at HM
    rw [may_not hc]
    have c0 := HB.out.2.cell 0
    unfold cv at *
    unfold ccs at *
    simp only [List.getElem?_toArray, List.getElem?_cons_zero] at c0
    go_enter Tryd.func37, Tryd.ntmps37
    go_wp2_with (first | (go_at_call 14; (with_reducible refine (HM.out _).mono ?_); rintro e w' ⟨rfl, rfl⟩) | fail)
    go_ret
    exact ⟨rfl, HB.out.1⟩
  | true =>
    obtain ⟨k, hk, h1, h2⟩ := isC_nat hc
    rw [hk, many_nat h1 h2] at HM
    have hm3 := mn3 h2
    have HC := Lib.hid (fun (i : Nat) (h : i < 3) => (HB.out.2.cell (1 + i)).trans (arc h))
    have hcs : ccs x = #[.int .i64 (k : Int), .int .u32 (x.a : Int), .int .u32 (x.b : Int), .int .u32 (x.c : Int)] := by unfold ccs; rw [hk]
    have HF := Lib.hid (fun (i : Nat) => HB.out.2.free i)
    have c0 := HB.out.2.cell 0
    have HZ := Lib.hid (fun h => may_zero hk h1 h2 h)
    have HNZ := Lib.hid (fun i hi hi3 h => may_nz (i := i) hk h1 h2 hi hi3 h)
    rw [show (ccs x)[0]? = some (.int .i64 x.n) from rfl, hk] at c0
    have hal : ∀ i, ar x i < 4294967296 := fun i => ar_lt hw i
    unfold cv
    rw [hcs] at HB HC HF c0 ⊢
    generalize ar x = av at *
    clear hc hcs hwn hk h1 h2
    obtain ⟨mc, hmc⟩ : ∃ mc, mayC x = mc := ⟨_, rfl⟩
    rw [hmc] at HZ HNZ ⊢
    clear hmc
    generalize mn k = m at *
    go_enter Tryd.func37, Tryd.ntmps37
    go_wp2_with (first | (go_at_call 14; (with_reducible refine (HM.out _).mono ?_); rintro e w' ⟨rfl, rfl⟩) | fail)
    go_loopw [4] (fun i wr => ∃ j : Nat, m ≤ j ∧ j ≤ 3 ∧ i = .int .i64 (j : Int) ∧ Hid (∀ i, m ≤ i → i < j → av i = 0) ∧ wr = w.alloc (.cells #[.int .i64 (k : Int), .int .u32 (x.a : Int), .int .u32 (x.b : Int), .int .u32 (x.c : Int)] 27)) (fun i _ => 3 - (intOf i).toNat)
    case atStart => exact ⟨m, by omega, by omega, rfl, Lib.hid (fun i h3 h4 => by omega), rfl⟩
    case round =>
      obtain ⟨j, hj1, hj2, rfl, HI, rfl⟩ := hrel
      by_cases hlt : j < 3
      · have cA := HC.out j hlt
        by_cases h0 : av j = 0
        · have HS : Hid (∀ i, m ≤ i → i < j + 1 → av i = 0) := Lib.hid (fun i h3 h4 => by
            by_cases e : i = j
            · rw [e]; exact h0
            · exact HI.out i h3 (by omega))
          have cZ : (w.alloc (.cells #[.int .i64 (k : Int), .int .u32 (x.a : Int), .int .u32 (x.b : Int), .int .u32 (x.c : Int)] 27)).cell? ⟨w.heap.size, 1 + j, none⟩ = some (.int .u32 0) := by rw [cA, h0]; rfl
          clear h0 cA
          go_wp2_with fail
          go_roundw
          case rel => exact ⟨j + 1, by omega, by omega, by go_num, HS, trivial⟩
          case measure => simp [intOf]; omega
        · have hn0 : ¬ ((av j : Int) = 0) := by omega
          have dn : decide ((av j : Int) = 0) = false := decide_eq_false hn0
          have e := HNZ.out j hj1 hlt h0
          subst e
          generalize av j = q at *
          clear h0
          go_wp2_with fail
          go_ret
          exact ⟨rfl, HB.out.1⟩
      · obtain rfl : j = 3 := by omega
        have e := HZ.out HI.out
        subst e
        go_wp2_with fail
        go_ret
        exact ⟨rfl, HB.out.1⟩
end Go.Proofs.YtlddjjkbnhhfaaaDoor.Cma
