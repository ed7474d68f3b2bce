/-
  The document's split: a line's parts between blanks.
-/
import Derived.Test.YtocbilaaklapkaaDoorIsaQ
import Derived.Test.YtocbilaaklapkaaDoorIsaO
namespace Go.Proofs.YtocbilaaklapkaaDoor.Rs
open Go Go.RowKit Go.Shelf Kit IsaM IsaT IsaN IsaP IsaB IsaQ IsaO
set_option linter.unusedVariables false

theorem infoStr : (Tryd.prog.info? 9).map (fun i => (i.zero, i.size, i.bytes)) = some (some (.string ⟨#[]⟩), 1, 16) := by kernel_rfl
def strs (l : List Tx) : List Value := l.map fun p => Value.string (st p)
theorem strs_snoc (l : List Tx) (p : Tx) : strs (l ++ [p]) = strs l ++ [.string (st p)] := by simp [strs]
/-- Ahead of the place j: parts L, and the next one begins at at'. -/
def Sp (t : Tx) (at' j : Nat) (L : List Tx) : Prop :=
  (j ≤ t.length ∧ at' ≤ j ∧ splitSp t = L ++ splitSp (t.drop at') ∧ (32 : UInt8) ∉ (t.drop at').take (j - at')) ∨ (j = t.length + 1 ∧ splitSp t = L)
theorem len_eq (s : ByteArray) : s.data.toList.length = s.size := by simp
theorem drop_mid {t : Tx} {at' j : Nat} (h : at' ≤ j) (hj : j < t.length) : t.drop at' = (t.drop at').take (j - at') ++ t[j] :: t.drop (j + 1) := by
  have h1 := (List.take_append_drop (j - at') (t.drop at')).symm
  rw [List.drop_drop, show at' + (j - at') = j by omega, List.drop_eq_getElem_cons hj] at h1
  exact h1
theorem Sp.on {t : Tx} {at' j : Nat} {L : List Tx} (hj : j < t.length) (h : Sp t at' j L) (hc : t[j] ≠ 32) : Sp t at' (j + 1) L := by
  rcases h with ⟨_, h1, h2, h3⟩ | ⟨h1, _⟩
  · refine .inl ⟨by omega, by omega, h2, ?_⟩
    rw [show j + 1 - at' = (j - at') + 1 by omega, List.take_succ_eq_append_getElem (by rw [List.length_drop]; omega)]
    rw [List.mem_append, not_or]
    refine ⟨h3, ?_⟩
    rw [List.mem_singleton, List.getElem_drop]
    simp only [show at' + (j - at') = j by omega]
    exact fun e => hc e.symm
  · omega
theorem Sp.cut {t : Tx} {at' j : Nat} {L : List Tx} (hj : j < t.length) (h : Sp t at' j L) (hc : t[j] = 32) : Sp t (j + 1) (j + 1) (L ++ [(t.drop at').take (j - at')]) := by
  rcases h with ⟨_, h1, h2, h3⟩ | ⟨h1, _⟩
  · refine .inl ⟨by omega, by omega, ?_, by simp⟩
    rw [h2]
    conv => lhs; rw [drop_mid h1 hj, hc, split_app _ _ h3]
    simp
  · omega
theorem Sp.fin {t : Tx} {at' : Nat} {L : List Tx} (h : Sp t at' t.length L) : Sp t (t.length + 1) (t.length + 1) (L ++ [(t.drop at').take (t.length - at')]) := by
  rcases h with ⟨_, h1, h2, h3⟩ | ⟨h1, _⟩
  · refine .inr ⟨rfl, ?_⟩
    rw [h2]
    have e : (t.drop at').take (t.length - at') = t.drop at' := List.take_of_length_le (by rw [List.length_drop]; omega)
    rw [e] at h3 ⊢
    rw [split_one _ h3]
  · omega
theorem new_one (w : World) (v : Value) (t : TypeId) (hv : v.oneCell' = true) : ∀ (j : Nat) (u : Value), [v][j]? = some u → (w.alloc (.cells #[v] t)).cell? ((⟨w.heap.size, 0, none⟩ : Addr).add j) = some u := by
  intro j u h
  match j, h with
  | 0, h => simp at h; subst h; simp [Addr.add]

set_option maxRecDepth 100000 in
set_option maxHeartbeats 4000000 in
theorem split_rany (s : ByteArray) (hs : s.size ≤ 100000) (w : World) :
    Calls Tryd.prog 57 #[.string s] w fun e w' => (∃ v, e = .returned v ∧ w'.ownsRow w.heap.size 9 1 v (splitSp s.data.toList).length (strs (splitSp s.data.toList))) ∧ Below w.heap.size w w' := by
  have hlen := len_eq s
  obtain ⟨i0, hi, hz0, hz1, hz2⟩ := info_parts infoStr
  go_enter Tryd.func57, Tryd.ntmps57
  go_wp2
  go_loopw [3, 4, 5] (fun o a i wr => ∃ (j at' : Nat) (L : List Tx), j ≤ s.size + 1 ∧ at' ≤ j ∧ L.length ≤ j ∧ i = .int .i64 (j : Int) ∧ a = .int .i64 (at' : Int) ∧ wr.ownsRow w.heap.size 9 1 o L.length (strs L) ∧ Hid (Sp s.data.toList at' j L) ∧ Below w.heap.size w wr) (fun _ _ i _ => s.size + 2 - (intOf i).toNat)
  case atStart => exact ⟨0, 0, [], by omega, by omega, by simp, rfl, rfl, World.ownsRow_nil _ _ _ _, .inl ⟨by omega, by omega, by simp, by simp⟩, Below.refl _ w⟩
  case round =>
    obtain ⟨j, at', L, hj, hat, hL, rfl, rfl, hown, HS, hbw⟩ := hrel
    by_cases hlt : j < s.size
    · obtain ⟨x, hx⟩ : ∃ x : UInt8, s[j]'hlt = x := ⟨_, rfl⟩
      have hxl : s.data.toList[j]'(by omega) = x := by rw [← hx]; rfl
      have HX := Lib.hid hxl
      have hxb : x.toNat < 256 := x.toNat_lt
      have hjs : ((j : Int) == (s.size : Int)) = false := by rw [beq_eq_false_iff_ne]; omega
      clear hxl
      by_cases hc : x.toNat = 32
      · have HN := Lib.hid (HS.out.cut (by omega) (by rw [HX.out]; exact UInt8.toNat_inj.1 hc))
        have hq : ((x.toNat : Int) == 32) = true := by rw [hc]; rfl
        have hex : s.extract at' j = st ((s.data.toList.drop at').take (j - at')) := by
          have := ext_take s at' (j - at')
          rwa [show at' + (j - at') = j by omega] at this
        have HEx := Lib.hid hex
        clear hc hex
        go_wp2_with (at_builtin; go_must (refine wpList_append_own _ rfl _ _ 73 rfl w.heap.size 9 i0 (.string ⟨#[]⟩) 1 16 Tryd.underlying73 hi hz0 hz1 hz2 rfl (by decide) _ L.length (strs L) rfl (hown.alloc _) ⟨wr.heap.size, 0, none⟩ 1 1 [.string (s.extract at' j)] rfl rfl (new_one _ _ _ rfl) (fun u hu => by simp at hu; subst hu; rfl) (by unfold maxLen; omega) (by omega) (by have := hbw.size; simp; omega) ?_); intro v3 w3 hown3 hgr3 _)
        go_roundw
        case rel =>
          refine ⟨j + 1, j + 1, L ++ [(s.data.toList.drop at').take (j - at')], by omega, by omega, by rw [List.length_append]; simp; omega, by go_num, by go_num, ?_, HN, ?_⟩
          · rw [List.length_append, strs_snoc, ← HEx.out]; exact hown3
          · exact (hbw.alloc hbw.size _).grown hgr3 (by have h1 := hbw.size; simp; omega) (fun j h => (hown.lt j h).1)
        case measure => simp [intOf]; omega
      · have HN := Lib.hid (HS.out.on (by omega) (by rw [HX.out]; intro e; exact hc (by rw [e]; rfl)))
        have hq : ((x.toNat : Int) == 32) = false := by rw [beq_eq_false_iff_ne]; omega
        clear hc
        go_wp2
        go_roundw
        case rel => exact ⟨j + 1, at', L, by omega, by omega, by omega, by go_num, rfl, hown, HN, hbw⟩
        case measure => simp [intOf]; omega
    · by_cases he : j = s.size
      · subst he
        have hjs : ((s.size : Int) == (s.size : Int)) = true := by simp
        have HN := Lib.hid (Sp.fin (t := s.data.toList) (at' := at') (L := L) (by rw [len_eq]; exact HS.out))
        have hex : s.extract at' s.size = st ((s.data.toList.drop at').take (s.data.toList.length - at')) := by
          have := ext_take s at' (s.size - at')
          rwa [show at' + (s.size - at') = s.size by omega, ← len_eq s] at this
        have HEx := Lib.hid hex
        clear hex
        go_wp2_with (at_builtin; go_must (refine wpList_append_own _ rfl _ _ 73 rfl w.heap.size 9 i0 (.string ⟨#[]⟩) 1 16 Tryd.underlying73 hi hz0 hz1 hz2 rfl (by decide) _ L.length (strs L) rfl (hown.alloc _) ⟨wr.heap.size, 0, none⟩ 1 1 [.string (s.extract at' s.size)] rfl rfl (new_one _ _ _ rfl) (fun u hu => by simp at hu; subst hu; rfl) (by unfold maxLen; omega) (by omega) (by have := hbw.size; simp; omega) ?_); intro v3 w3 hown3 hgr3 _)
        go_roundw
        case rel =>
          refine ⟨s.size + 1, s.size + 1, L ++ [(s.data.toList.drop at').take (s.data.toList.length - at')], by omega, by omega, by rw [List.length_append]; simp; omega, by go_num, by go_num, ?_, ?_, ?_⟩
          · rw [List.length_append, strs_snoc, ← HEx.out]; exact hown3
          · have := HN.out
            rw [len_eq] at this
            rw [len_eq]
            exact this
          · exact (hbw.alloc hbw.size _).grown hgr3 (by have h1 := hbw.size; simp; omega) (fun j h => (hown.lt j h).1)
        case measure => simp [intOf]
      · have hj2 : j = s.size + 1 := by omega
        have hfin : splitSp s.data.toList = L := by
          rcases HS.out with ⟨h1, _⟩ | ⟨_, h2⟩
          · omega
          · exact h2
        have HF := Lib.hid hfin
        have hle : ¬ ((j : Int) ≤ (s.size : Int)) := by omega
        clear hfin
        go_wp2
        go_ret
        refine ⟨⟨_, rfl, ?_⟩, hbw⟩
        rw [HF.out]
        exact hown
end Go.Proofs.YtocbilaaklapkaaDoor.Rs
