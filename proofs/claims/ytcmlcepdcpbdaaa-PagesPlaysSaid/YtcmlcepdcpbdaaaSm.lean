/-
  The document's own Same: two lists that read alike are the same.
-/
import Derived.Test.YtcmlcepdcpbdaaaPt
import Derived.BigQuiet
namespace Go.Proofs.Ytcmlcepdcpbdaaa.Sm
open Go Go.RowKit Kit Bk Tm Ts Tc Ti Tl Th Td Tq Tr Tn En Ov Gd Ho Pt
set_option linter.unusedVariables false

theorem bel_drewN {B : Nat} {a w : World} (h : Below B a w) (n : Nat) : Below B a (w.drewN n) := ⟨h.os, h.tape, h.output, h.size, h.block⟩
set_option maxHeartbeats 2000000 in
theorem same_any (va vb : Value) (L : List (Nat × En)) (w : World) (hL : L.length ≤ 1000) (ha : Rd w 59 va 6 L.length (mcells L)) (hb : Rd w 59 vb 6 L.length (mcells L)) :
    Calls Try.prog 29 #[va, vb] w fun e w' => e = .returned (.bool true) ∧ Below w.heap.size w w' := by
  have HA := Lib.hid ha
  have HB := Lib.hid hb
  obtain ⟨_, ada, capa, rfl, ha1, ha2, _⟩ := ha
  obtain ⟨_, adb, capb, rfl, hb1, hb2, _⟩ := hb
  obtain ⟨n, hn⟩ : ∃ n, L.length = n := ⟨_, rfl⟩
  have HN := Lib.hid hn
  rw [hn] at ha1 hb1 hL ⊢
  have hni : (n : Int) ≤ 1000 := by omega
  clear hn
  go_enter Try.func29, Try.ntmps29
  go_wp2
  go_loopw [5] (fun i wr => ∃ k : Nat, k ≤ n ∧ i = .int .i64 k ∧ Below w.heap.size w wr) (fun i _ => n - (intOf i).toNat)
  case atStart => exact ⟨0, Nat.zero_le _, rfl, Below.refl _ _⟩
  case round =>
    obtain ⟨k, hk, rfl, hbr⟩ := hrel
    by_cases hlt : k < n
    · have hlt2 : k < L.length := by rw [HN.out]; exact hlt
      obtain ⟨⟨q, e⟩, hq⟩ : ∃ x, L[k] = x := ⟨_, rfl⟩
      have hra := Rd.below HA.out hbr
      have hrb := Rd.below HB.out hbr
      obtain ⟨ga, ca, hea, hca, hca2, a0, a1, a2, a3, a4, a5⟩ := Rd.at_ hra hlt2 hq
      obtain ⟨gb, cb, heb, hcb, hcb2, b0, b1, b2, b3, b4, b5⟩ := Rd.at_ hrb hlt2 hq
      rw [HN.out] at hea heb
      cases hea
      cases heb
      obtain ⟨ef, ew, es, ec, ed⟩ := e
      dsimp only at a1 a2 a3 a4 a5 b1 b2 b3 b4 b5
      have hlti : (k : Int) < (n : Int) := by omega
      have HBr := Lib.hid hbr
      clear hq hra hrb hca hcb hca2 hcb2 hbr hlt2
      go_wp2
      go_quiet (fail)
      have HB2 := Lib.hid (HBr.out.trans ((bel_drewN (Below.refl _ wr) nq).mono HBr.out.size))
      go_wp2
      go_roundw
      case rel => exact ⟨k + 1, by omega, by go_num, HB2.out⟩
      case measure => simp [intOf]; omega
    · obtain rfl : k = n := by omega
      have HBr := Lib.hid hbr
      clear hbr
      go_wp2
      go_ret
      exact ⟨rfl, HBr.out⟩
end Go.Proofs.Ytcmlcepdcpbdaaa.Sm
