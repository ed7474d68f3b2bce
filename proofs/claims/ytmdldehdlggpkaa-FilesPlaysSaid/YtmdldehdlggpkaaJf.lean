/-
  The document's own Same of rows of numbers; what calls do to how many are open.
-/
import Derived.Test.YtmdldehdlggpkaaJt
import Derived.Deep.QuietTactic
import Derived.BigQuiet
namespace Go.Proofs.Ytmdldehdlggpkaa.Jf
open Go Go.RowKit Kit Bk Jp Jm Ji Jo Ju Jd Je Jr Jq Js Jb Jx Jy Jz Jt
set_option linter.unusedVariables false

theorem bel_dr {B : Nat} {a w : World} (h : Below B a w) (n : Nat) : Below B a (w.drewN n) := ⟨h.os, h.tape, h.output, h.size, h.block⟩
set_option maxHeartbeats 2000000 in
theorem same_ir (va vb : Value) (n : Nat) (F : Nat → Int) (w : World) (hn : n ≤ 1000) (ha : Ir w va n F) (hb : Ir w vb n F) :
    Calls Try.prog 16 #[va, vb] w fun e w' => e = .returned (.bool true) ∧ Below w.heap.size w w' := by
  have HA := Lib.hid ha
  have HB := Lib.hid hb
  obtain ⟨ada, capa, rfl, ha1, ha2, _⟩ := ha
  obtain ⟨adb, capb, rfl, hb1, hb2, _⟩ := hb
  have hni : (n : Int) ≤ 1000 := by omega
  go_enter Try.func16, Try.ntmps16
  go_wp2
  go_loopw [5] (fun i wr => ∃ k : Nat, k ≤ n ∧ i = .int .i64 k ∧ Below w.heap.size w wr) (fun i _ => n - (intOf i).toNat)
  case atStart => exact ⟨0, Nat.zero_le _, rfl, Below.refl _ _⟩
  case round =>
    obtain ⟨k, hk, rfl, hbr⟩ := hrel
    by_cases hlt : k < n
    · obtain ⟨ga, ca, hea, hca, hca2, hga, a0⟩ := Ir.at_ (HA.out.below hbr) k hlt
      obtain ⟨gb, cb, heb, hcb, hcb2, hgb, b0⟩ := Ir.at_ (HB.out.below hbr) k hlt
      cases hea
      cases heb
      obtain ⟨q, hq⟩ : ∃ x, F k = x := ⟨_, rfl⟩
      rw [hq] at a0 b0
      have hlti : (k : Int) < (n : Int) := by omega
      have HBr := Lib.hid hbr
      clear hq hca hcb hca2 hcb2 hbr hga hgb
      go_wp2
      go_quiet (fail)
      have HB2 := Lib.hid (HBr.out.trans ((bel_dr (Below.refl _ wr) nq).mono HBr.out.size))
      go_wp2
      go_roundw
      case rel => exact ⟨k + 1, by omega, by go_num, HB2.out⟩
      case measure => simp [intOf]; omega
    · obtain rfl : k = n := by omega
      have HBr := Lib.hid hbr
      clear hbr
      go_wp2
      go_ret
      exact ⟨rfl, HBr.out⟩
theorem lst_up {R : Nat → Nat} {n x : Nat} (hl : lst R n < n) (hx : x ≠ 0) : lst R n + 1 ≤ lst (up R (lst R n) x) n := by
  rcases Nat.lt_or_ge (lst R n) (lst (up R (lst R n) x) n) with h | h
  · exact h
  · exfalso
    have hz := lst_at (up R (lst R n) x) n (by omega)
    by_cases e : lst (up R (lst R n) x) n = lst R n
    · rw [e, up_same] at hz; exact hx hz
    · rw [up_other _ _ _ _ e] at hz
      exact lst_low R n _ (by omega) hz
/-- One more is open, as long as there is room. -/
theorem lst_open (S : Sf) (P : Int) (V : Bool) (hP : mayP P) : min 64 (lst S.R 64 + 1) ≤ lst (oS S P V).R 64 := by
  have hle := lst_le S.R 64
  unfold oS
  by_cases h : lst S.R 64 = 64
  · rw [if_neg (fun e => e.2 h)]; omega
  · rw [if_pos ⟨hP, h⟩]
    have := lst_up (R := S.R) (n := 64) (x := 1) (by omega) (by decide)
    unfold Sf.put
    dsimp only
    omega
theorem lst_put (D : Nat → Nat) (n : Int) (hn : mayN n) : min 8 (lst D 8 + 1) ≤ lst (pD D n) 8 := by
  have hle := lst_le D 8
  unfold pD
  by_cases h : lst D 8 = 8
  · rw [if_neg (fun e => e.2 h)]; omega
  · rw [if_pos ⟨hn, h⟩]
    have := lst_up (R := D) (n := 8) (x := n.toNat + 1) (by omega) (by omega)
    omega
theorem usd_lst {R : Nat → Nat} {n : Nat} (h : lst R n = n) : (usd R n).length = n := by
  rw [usd_full (fun k hk => lst_low R n k (by omega)), List.length_range]
end Go.Proofs.Ytmdldehdlggpkaa.Jf
