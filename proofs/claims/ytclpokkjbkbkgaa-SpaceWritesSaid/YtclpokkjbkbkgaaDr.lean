/-
  Drop: all pages unmapped.
-/
import Derived.Test.YtclpokkjbkbkgaaMq
import Derived.Test.YtclpokkjbkbkgaaRd
namespace Go.Proofs.Ytclpokkjbkbkgaa.Dr
open Go Go.RowKit Go.Shelf Kit Bk
open Fm hiding Mem made_any len_any
open Fo Fr Fw Fx Fu Fq
open Tm hiding Mem
open Ts Tc Ti Tl Sp Sa To Mp Rd
set_option linter.unusedVariables false

def dst (s : Sx) (l : List (Nat × En)) (j : Nat) : Sx := (l.take j).foldl (fun s x => un1 s x.1) s
theorem dst_succ (s : Sx) (l : List (Nat × En)) (j : Nat) (h : j < l.length) : dst s l (j + 1) = un1 (dst s l j) l[j].1 := by
  unfold dst
  rw [List.take_succ_eq_append_getElem h, List.foldl_append]
  rfl
def drOk (n : Nat) (s : Sx) (l : List (Nat × En)) : Prop := ∀ j (h : j < l.length), l[j].1 < 64 ∧ ∃ x f, (dst s l j).T l[j].1 = some x ∧ x.f = ((f : Nat) : Int) ∧ f < n ∧ (dst s l j).R f ≠ 0

set_option maxRecDepth 100000 in
set_option maxHeartbeats 2000000 in
theorem drop_is (w : World) (q p t b n : Nat) (s : Sx) (h : Sp w q p t) (hF : Fm.Mem w p b n s.R s.B) (hT : Tm.Mem w t s.T) (l : List (Nat × En)) (hl : ents s.T 64 = l) (hok : drOk n s l) :
    Calls Try.prog 19 #[.pointer (some ⟨q, 0, none⟩)] w fun e w' => (∃ v, e = .returned v) ∧ Fm.Mem w' p b n (dst s l l.length).R (dst s l l.length).B ∧ Tm.Mem w' t (dst s l l.length).T ∧ Kp (fun j => j = b ∨ j = t) w w' := by
  have HNE := Lib.hid (apart h hF hT)
  have hll := ents_len s.T 64
  rw [hl] at hll
  have hlist := list_any w q p t s.T h hT
  rw [hl] at hlist
  have HLI : Hid (Calls Try.prog 25 #[.pointer (some ⟨q, 0, none⟩)] w fun e w' => ∃ r, e = .returned r ∧ Below w.heap.size w w' ∧ Rd w' 62 r 6 l.length (mcells l)) := Lib.hid (hlist.mono fun e w' ⟨h1, r, h2, h3⟩ => ⟨r, h2, h1, Rd.of_own h3⟩)
  have H := Lib.hid (And.intro h (And.intro hF hT))
  obtain ⟨L, hL⟩ : ∃ L, l.length = L := ⟨_, rfl⟩
  rw [hL] at HLI hll ⊢
  have HL := Lib.hid hL
  clear hlist h hF hT hL
  go_enter Try.func19, Try.ntmps19
  go_wp2_with (first | (go_at_call 25; (with_reducible refine HLI.out.mono ?_); rintro e w1 ⟨r, rfl, hb1, hr1⟩; obtain ⟨ad, cap, rfl⟩ : ∃ ad cap, r = .slice ad L cap := (by obtain ⟨_, ad, cap, h1, _⟩ := hr1; exact ⟨ad, cap, h1⟩); have H1 := Lib.hid (And.intro hb1 hr1); clear hb1 hr1))
  go_loopw [7] (fun i wr => ∃ j : Nat, j ≤ L ∧ i = .int .i64 (j : Int) ∧ Fm.Mem wr p b n (dst s l j).R (dst s l j).B ∧ Tm.Mem wr t (dst s l j).T ∧ Kp (fun j => j = b ∨ j = t) w wr ∧ Rd wr 62 (.slice ad L cap) 6 L (mcells l)) (fun i _ => L - (intOf i).toNat)
  case atStart => exact ⟨0, Nat.zero_le _, rfl, H.out.2.1.below H1.out.1, H.out.2.2.below H1.out.1, Kp.of_below H1.out.1, H1.out.2⟩
  case round =>
    obtain ⟨j, hj, rfl, hFr, hTr, hkp, hrd⟩ := hrel
    by_cases hlt : j < L
    · have hlt2 : j < l.length := by rw [HL.out]; exact hlt
      obtain ⟨hk64, x, f, hx, hf1, hf2, hf3⟩ := hok j hlt2
      have hsp := Sp.kept H.out.1 hkp (fun e => e.elim HNE.out.2.2.1 HNE.out.2.2.2.1)
      have hst := dst_succ s l j hlt2
      obtain ⟨k, e, hke⟩ : ∃ k e, l[j] = (k, e) := ⟨_, _, rfl⟩
      rw [hke] at hk64 hx hst
      dsimp only at hk64 hx hst
      obtain ⟨g, cap', hv, hc1, hc2, d0, d1, d2, d3, d4, d5⟩ := Rd.at_ (by rw [HL.out]; exact hrd) hlt2 hke
      obtain ⟨ef, ew, es, ec, ed⟩ := e
      dsimp only at d1 d2 d3 d4 d5
      rw [HL.out] at hv hc1
      cases hv
      have hjm : (j : Int) < (L : Int) := by omega
      have HUN : Hid (∀ W, Below wr.heap.size wr W → Calls Try.prog 32 #[.pointer (some ⟨q, 0, none⟩), .int .i64 (k : Int), .int .i64 1] W fun e w' => (∃ v, e = .returned v) ∧ Fm.Mem w' p b n (un1 (dst s l j) k).R (un1 (dst s l j) k).B ∧ Tm.Mem w' t (un1 (dst s l j) k).T ∧ Kp (fun j => j = b ∨ j = t) W w') := Lib.hid fun W hb =>
        unmap_is W q p t b n (dst s l j) (Sp.below hsp hb) (hFr.below hb) (hTr.below hb) k 1 (by omega) (fun i hi => by
          obtain rfl : i = 0 := by omega
          exact ⟨x, f, hx, hf1, hf2, hf3⟩)
      have hb6 := (Below.refl wr.heap.size wr).alloc (Nat.le_refl _) (.cells #[.int .i64 (k : Int), .int .i64 ef, .bool ew, .bool es, .bool ec, .bool ed] 62)
      rw [← hst] at HUN
      obtain ⟨s', hs'⟩ : ∃ s', dst s l (j + 1) = s' := ⟨_, rfl⟩
      rw [hs'] at HUN
      have HS := Lib.hid hs'
      have H0 := Lib.hid (And.intro hkp (And.intro (And.intro hFr hTr) (And.intro hrd hb6)))
      clear hst hs' hsp hFr hTr hkp hok hx hf1 hf3 hrd hb6 hke hlt2
      go_wp2_with (first | (go_at_call 32; (with_reducible refine (HUN.out _ H0.out.2.2.2).mono ?_); rintro e w7 ⟨⟨v, rfl⟩, hF7, hT7, hk7⟩; have H7 := Lib.hid (And.intro hF7 (And.intro hT7 hk7)); clear hF7 hT7 hk7))
      have hk8 : Kp (fun j => j = b ∨ j = t) wr w7 := (Kp.of_below H0.out.2.2.2).trans H7.out.2.2 (fun j hj => .inl hj)
      go_roundw
      case rel => exact ⟨j + 1, by omega, by go_num, by rw [HS.out]; exact H7.out.1, by rw [HS.out]; exact H7.out.2.1, H0.out.1.trans hk8 (fun j hj => .inl hj), H0.out.2.2.1.kept hk8 (fun g' cs hg' e => by
        rcases e with rfl | rfl
        · obtain ⟨_, ⟨ds, h3, _⟩, _⟩ := H0.out.2.1.1
          exact (hg'.ne h3 (by decide)) rfl
        · obtain ⟨⟨ds, h3, _⟩, _⟩ := H0.out.2.1.2
          exact (hg'.ne h3 (by decide)) rfl)⟩
      case measure => simp [intOf]; omega
    · obtain rfl : j = L := by omega
      have HO := Lib.hid (And.intro hFr (And.intro hTr hkp))
      clear hFr hTr hkp hok hrd
      go_wp2
      go_end0
      exact ⟨⟨_, rfl⟩, HO.out⟩
end Go.Proofs.Ytclpokkjbkbkgaa.Dr
