/-
  Copy of a memory of frames.
-/
import Derived.Test.YtompcmbaiegkaaaFx
namespace Go.Proofs.Ytompcmbaiegkaaa.Fy
open Go Go.RowKit Kit Fm Fo Fr Fw Fx
set_option linter.unusedVariables false

attribute [local go_sem ↓] app_wrap cpy_wrap
attribute [local go_sem] eql_nil eql_some eqf_nil eqf_some

theorem cell_form {cs : Array Value} {n : Nat} {R : Nat → Nat} {B : Nat → Nat → Nat} (h5 : ∀ k, k < n → cs[k * 65]? = some (.int .i64 (R k : Int))) (h6 : ∀ k i, k < n → i < 64 → cs[k * 65 + 1 + i]? = some (.int .u8 (B k i : Int))) (j : Nat) (hj : j < n * 65) : ∃ k x, cs[j]? = some (.int k x) := by
  have hk : j / 65 < n := by omega
  by_cases h0 : j % 65 = 0
  · exact ⟨_, _, by rw [show j = (j / 65) * 65 by omega]; exact h5 _ hk⟩
  · exact ⟨_, _, by rw [show j = (j / 65) * 65 + 1 + (j % 65 - 1) by omega]; exact h6 _ _ hk (by omega)⟩
theorem clone_row (w : World) (b n cap : Nat) (R : Nat → Nat) (B : Nat → Nat → Nat) (cs : Array Value) (hb : Blk w b cs 66) (hn : n ≤ 256) (hsz : n * 65 ≤ cs.size) (h5 : ∀ k, k < n → cs[k * 65]? = some (.int .i64 (R k : Int))) (h6 : ∀ k i, k < n → i < 64 → cs[k * 65 + 1 + i]? = some (.int .u8 (B k i : Int))) :
    Calls Try.prog 31 #[.slice (some ⟨b, 0, none⟩) n cap] w fun e w' => Below w.heap.size w w' ∧ ∃ r, e = .returned r ∧ w'.ownsRow w.heap.size 66 65 r n (cs.toList.take (n * 65)) := by
  obtain ⟨i0, hi, hz0, hz1, hz2⟩ := info_parts info66
  have hl : (cs.toList.take (n * 65)).length = n * 65 := by rw [List.length_take, Array.length_toList]; omega
  have hat : ∀ j u, (cs.toList.take (n * 65))[j]? = some u → j < n * 65 ∧ cs[j]? = some u := by
    intro j u hj
    have hjm : j < n * 65 := by rw [← hl]; exact (List.getElem?_eq_some_iff.1 hj).1
    rw [List.getElem?_take, if_pos hjm, Array.getElem?_toList] at hj
    exact ⟨hjm, hj⟩
  have hnews : ∀ j u, (cs.toList.take (n * 65))[j]? = some u → (w.alloc (.cells #[] 66)).cell? ((⟨b, 0, none⟩ : Addr).add j) = some u := by
    intro j u hj
    have := (hat j u hj).2
    rw [Addr.add_mid, Nat.zero_add, World.cell?_alloc_lt _ _ _ hb.lt, hb.cell]
    exact this
  have hone : ∀ u ∈ cs.toList.take (n * 65), u.oneCell' = true := by
    intro u hu
    obtain ⟨j, hj, rfl⟩ := List.getElem_of_mem hu
    obtain ⟨h1, h2⟩ := hat j _ (List.getElem?_eq_getElem hj)
    obtain ⟨k, x, hx⟩ := cell_form h5 h6 j h1
    rw [hx] at h2
    injection h2 with h2
    rw [← h2]
    rfl
  obtain ⟨v', w1, hrun, hown, hgr, -⟩ := run_append_own_at (P := Try.prog) (w := w.alloc (.cells #[] 66)) w.heap.size 53 53 66 i0 (.agg zcs) 65 72 Try.underlying53 hi hz0 hz1 hz2 zcs_size (by decide) _ 0 [] (World.ownsRow_lit w #[] 0 (Nat.le_refl _) (Nat.zero_le _) rfl) ⟨b, 0, none⟩ n cap (cs.toList.take (n * 65)) hl
    hnews hone (by unfold maxLen; omega) (by omega) (by simp)
  have hrun' : (appO #[53, 53] 53 #[.slice (some ⟨w.heap.size, 0, none⟩) 0 0, .slice (some ⟨b, 0, none⟩) n cap]).run Try.prog (w.alloc (.cells #[] 66)) = .ok v' w1 := hrun
  rw [Nat.zero_add, List.nil_append] at hown
  have HO := Lib.hid hown
  have HB : Hid (Below w.heap.size w w1) := Lib.hid ((((Below.refl w.heap.size w).alloc (Nat.le_refl _) _)).grown hgr (by simp) (fun k e => by cases e; exact Nat.le_refl _))
  generalize cs.toList.take (n * 65) = L at *
  clear hb hn hsz h5 h6 hl hat hnews hone hrun hown hgr hz0 hz1 hz2 hi
  go_enter Try.func31, Try.ntmps31
  go_wp2
  go_ret
  exact ⟨HB.out, _, rfl, HO.out⟩
theorem copy_ok (w : World) (p b n : Nat) (R : Nat → Nat) (B : Nat → Nat → Nat) (h : Mem w p b n R B) :
    Calls Try.prog 13 #[.pointer (some ⟨p, 0, none⟩)] w fun e w' => Below w.heap.size w w' ∧ ∃ p' b', e = .returned (.pointer (some ⟨p', 0, none⟩)) ∧ w.heap.size ≤ p' ∧ w.heap.size ≤ b' ∧ Mem w' p' b' n R B := by
  have HM := Lib.hid (made_any w p b n R B h)
  obtain ⟨⟨cap, h1, h2⟩, ⟨cs, h3, h4, h5, h6⟩, h7, h8, h9⟩ := h
  have c0 := h1.cell 0
  have HC := Lib.hid (clone_row w b n cap R B cs h3 h7.2 h4 h5 h6)
  have H4 := Lib.hid h4
  have H5 := Lib.hid h5
  have H6 := Lib.hid h6
  clear h1 h3 h4 h5 h6
  go_enter Try.func13, Try.ntmps13
  go_wp2_with (first | (go_at_call 30; (with_reducible refine HM.out.mono ?_); rintro e w1 ⟨rfl, rfl⟩) | (go_at_call 31; (with_reducible refine HC.out.mono ?_); rintro e w1 ⟨hb, r, rfl, ho⟩; obtain ⟨hlen, ⟨rfl, hno⟩ | ⟨g, cap', cur, rfl, hg, hcur, hnc, hcm, hcs, hcells⟩⟩ := ho; (exfalso; omega); have HHb := Lib.hid hb; have HCur := Lib.hid hcur; have HCe := Lib.hid hcells; clear hb hcur hcells))
  go_ret
  refine ⟨HHb.out.alloc HHb.out.size _, _, g, rfl, HHb.out.size, hg, ?_⟩
  have hbk : Blk (w1.alloc (.cells #[.slice (some ⟨g, 0, none⟩) n cap'] 55)) g cur 66 := Blk.below (w := w1) HCur.out ((Below.refl _ _).alloc (Nat.le_refl _) _)
  have hcell : ∀ j, j < n * 65 → cur[j]? = cs[j]? := fun j hj => by
    have := congrArg (fun l => l[j]?) HCe.out
    simp only [List.getElem?_take, hj, if_true, Array.getElem?_toList] at this
    exact this
  exact ⟨⟨cap', Blk.new _ _ _, hnc, hcm⟩, ⟨cur, hbk, by rw [hcs]; omega, fun k hk => by rw [hcell _ (by omega)]; exact H5.out k hk, fun k i hk hi => by rw [hcell _ (by omega)]; exact H6.out k i hk hi⟩, h7, h8, h9⟩
end Go.Proofs.Ytompcmbaiegkaaa.Fy
