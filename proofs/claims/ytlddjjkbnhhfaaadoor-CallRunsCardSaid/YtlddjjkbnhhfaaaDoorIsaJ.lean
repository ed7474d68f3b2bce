/-
  take: a line that is a jump to a label.
-/
import Derived.Test.YtlddjjkbnhhfaaaDoorIsaI
import Derived.RegionTactic
namespace Go.Proofs.YtlddjjkbnhhfaaaDoor.IsaJ
open Go Go.RowKit Kit IsaM IsaT IsaL IsaC IsaE IsaN IsaD IsaA IsaW IsaS IsaP IsaR IsaB IsaF IsaG IsaH IsaI
set_option linter.unusedVariables false

attribute [local go_sem ↓] app_wrap

/-- Behind an append to the jumps, and the store of their slice. -/
theorem st_jump {B0 Bp Bm : Nat} {p : PSt} {j : Jmp} {w w0 w1 : World} {v1 v3 v' : Value} (h : St B0 Bp Bm p w) (hl : p.jumps.length < 1000) (h1 : w.ownsRow B0 22 1 v1 p.words.length (u32s p.words)) (h3 : w.ownsRow B0 112 7 v3 p.jumps.length (jcells p.jumps))
    (hb : Blk w Bp #[v1, .map (some Bm), v3] 88) (hg0 : w.grownBy w0 none) (hg : w0.grownBy w1 v3.ownBlock) (ho : w1.ownsRow B0 112 7 v' (p.jumps.length + 1) (jcells p.jumps ++ jcell j)) (hb1 : Blk w1 Bp #[v1, .map (some Bm), v3] 88) :
    St B0 Bp Bm (addJ p j) (w1.setCell ⟨Bp, 2, none⟩ v') ∧ Fr B0 Bm w (w1.setCell ⟨Bp, 2, none⟩ v') := by
  have hs := h.hs
  have hmp : Bm ≠ Bp := fun e => by
    obtain ⟨es, ck, hm, _⟩ := h.map
    unfold Blk at hb
    rw [e] at hm
    rw [hm] at hb
    cases hb
  have hrow : ∀ r, v3.ownBlock = some r → B0 ≤ r ∧ ∃ cs, Blk w r cs 112 := fun r e => row_block h3 e
  have hb0 : Below w.heap.size w w0 := (Below.refl _ _).grown hg0 (Nat.le_refl _) (fun k e => by cases e)
  have h1' : w1.ownsRow B0 22 1 v1 p.words.length (u32s p.words) := by
    refine (h1.kept hg0 (by cases v1.ownBlock <;> simp)).kept hg ?_
    cases hv : v1.ownBlock with
    | none => exact .inl rfl
    | some r =>
      refine .inr fun e => ?_
      obtain ⟨_, cs, hk⟩ := row_block h1 hv
      exact row_ne h3 hk (by decide) e.symm
  have hm' : w1.ownsMap Tryd.prog 9 (plainElem Tryd.prog 3) Bm p.places.length (mapD p.places) := by
    refine (h.map.kept hg0 (by simp)).kept hg (fun e => ?_)
    obtain ⟨_, cs, hk⟩ := hrow Bm e.symm
    obtain ⟨es, ck, hm, _⟩ := h.map
    unfold Blk at hk
    rw [hm] at hk
    cases hk
  refine ⟨⟨h.lo, ⟨v1, v', hb1.set 2 v', row_set h1' hb1 (by decide) 2 v', ?_⟩, hm'.setCell hmp v', ?_, h.u32⟩, ?_⟩
  · have := row_set ho hb1 (by decide) 2 v'
    show (w1.setCell ⟨Bp, 2, none⟩ v').ownsRow B0 112 7 v' (p.jumps ++ [j]).length (jcells (p.jumps ++ [j]))
    rw [List.length_append, jcells_snoc]
    exact this
  · have := h.le
    show _ ∧ (p.jumps ++ [j]).length ≤ 1000 ∧ _
    rw [List.length_append, List.length_singleton]
    exact ⟨this.1, by omega, this.2.2⟩
  · refine (Fr.below hb0 hs).trans ((Fr.grown hg (Nat.le_trans hs hb0.size) (fun r e => ?_)).trans (Fr.set hb1 h.lo.1 (.inl rfl) 2 v'))
    obtain ⟨hr, cs, hk⟩ := hrow r e
    exact ⟨hr, .inl ⟨cs, _, hk.below hb0, .inr (.inr rfl)⟩⟩

theorem jcell_at (j : Jmp) (W : World) (g : Nat) (h : ∀ i : Nat, W.cell? ⟨g, i, none⟩ = (jcell j).toArray[i]?) : ∀ i u, (jcell j)[i]? = some u → W.cell? ((⟨g, 0, none⟩ : Addr).add i) = some u := fun i u hi => by
  have e : (⟨g, 0, none⟩ : Addr).add i = ⟨g, i, none⟩ := by unfold Addr.add; split <;> simp_all
  rw [e, h i, List.getElem?_toArray]
  exact hi

set_option maxRecDepth 100000 in
set_option maxHeartbeats 4000000 in
theorem take_jump (wb : World) (B0 : Nat) (hB0 : wb.heap.size = B0) (hTb : Tabs wb) (Bp Bm : Nat) (p : PSt) (n : Nat) (hn : n ≤ 1000000000) (s : ByteArray) (w : World) (hs : s.size ≤ 100000) (h : St B0 Bp Bm p w) (hj : p.jumps.length ≤ p.words.length) (hbs : Below wb.heap.size wb w) (hT : Tabs w) (hM : Ml w) (hl : s.data.toList.getLast? ≠ some 58) (hw : wordP.isPrefixOf s.data.toList = false)
    (k : Nat) (a b i : Int) (l : Tx) (hne : l ≠ []) (hp : parse s.data.toList = some ((k, a, b, i), l)) :
    Calls Tryd.prog 46 #[.pointer (some ⟨Bp, 0, none⟩), .int .i64 (n : Int), .string s] w (TakeR B0 Bp Bm (if p.words.length = 512 then none else some (addW (addJ p ⟨n, p.words.length, k, a, b, i, l⟩) (encN k a b i))) w) := by
  have HC := Lib.hid (fun wx => cut_plain2 s wx (by omega) hl)
  have HW := Lib.hid (fun wx => cut_noword s wx hw)
  have hm := parse_fits hp
  have hpp := parse_any s w (by omega) hT hM
  rw [hp] at hpp
  unfold parseV insV at hpp
  have HP := Lib.hid hpp
  have HE := Lib.hid (fun wx (hx : Below w.heap.size w wx) => encode_n k a b i hm wx (hT.below hx))
  have HT := Lib.hid hT
  have HS := h.hs
  have hle := h.le
  have hq : ((st l).toList == []) = false := by
    rw [ByteArray.toList_eq, st_data]
    cases l with
    | nil => exact absurd rfl hne
    | cons x y => rfl
  have hX := encN_lt hm
  have HE' := Lib.hid (fun wx (hx : Below wb.heap.size wb wx) => encode_n k a b i hm wx (hTb.below hx))
  have HBS := Lib.hid hbs
  generalize encN k a b i = X at *
  obtain ⟨i0, hi, hz0, hz1, hz2⟩ := info_parts info111
  generalize hO : (if p.words.length = 512 then none else some (addW (addJ p ⟨n, p.words.length, k, a, b, i, l⟩) X)) = o
  have HO := Lib.hid hO
  clear hO
  have H := Lib.hid h
  clear hpp hp hl hw hT hM hm hne h hTb hbs
  go_enter Tryd.func46, Tryd.ntmps46
  go_upto_region 12 with (first | (go_at_call 45; ((with_reducible refine (HC.out _).mono ?_); rintro e w1 ⟨rfl, rfl⟩)) | (go_at_call 59; ((with_reducible refine (HW.out _).mono ?_); rintro e w2 ⟨rfl, rfl⟩)) | (go_at_call 62; ((with_reducible refine HP.out.mono ?_); rintro e w3 ⟨rfl, hb3⟩)))
  -- the world in which the jump is told
  obtain ⟨Wa, hWa⟩ : ∃ Wa, w3.alloc (.cells #[.int .i64 (k : Int), .int .i64 a, .int .i64 b, .int .i64 i] 54) = Wa := ⟨_, rfl⟩
  have hbA : Below w.heap.size w Wa := by rw [← hWa]; exact hb3.alloc hb3.size _
  have KX : Blk Wa w3.heap.size #[.int .i64 (k : Int), .int .i64 a, .int .i64 b, .int .i64 i] 54 := by rw [← hWa]; exact Blk.new _ _ _
  rw [hWa]
  clear hWa
  have SA := H.out.below hbA
  obtain ⟨v1, v3, hb, h1, h3⟩ := SA.hold
  obtain ⟨ad1, cap1, rfl⟩ := row_form h1
  obtain ⟨ad3, cap3, rfl⟩ := row_form h3
  have hsA := SA.hs
  obtain ⟨v', w1, hrun, hown, hgr, -⟩ := run_append_own_at (P := Tryd.prog) (w := (Wa.alloc (.cells (jcell ⟨n, p.words.length, k, a, b, i, l⟩).toArray 112)).drew) B0 86 86 112 i0 _ 7 64 Tryd.underlying86 hi hz0 hz1 hz2 rfl (by decide) _ _ _ (h3.alloc _).drew ⟨Wa.heap.size, 0, none⟩ 1 1 (jcell ⟨n, p.words.length, k, a, b, i, l⟩) rfl
    (jcell_at _ _ _ (fun i => World.cell?_alloc_at _ _ _ _ rfl)) (by simp [jcell, Value.oneCell']) (by unfold maxLen; omega) (by omega) (by simp; omega)
  have hrun' : (appO #[86, 86] 86 #[.slice ad3 p.jumps.length cap3, .slice (some ⟨Wa.heap.size, 0, none⟩) 1 1]).run Tryd.prog (Wa.alloc (.cells #[.int .i64 (n : Int), .int .i64 (p.words.length : Int), .int .i64 (k : Int), .int .i64 a, .int .i64 b, .int .i64 i, .string (st l)] 112)).drew = .ok v' w1 := hrun
  obtain ⟨ad', cap', rfl⟩ := row_form hown
  have hg0 : Wa.grownBy (Wa.alloc (.cells (jcell ⟨n, p.words.length, k, a, b, i, l⟩).toArray 112)).drew none := ⟨rfl, rfl, rfl, by simp, fun q hq _ => Below.heap_alloc _ _ _ hq⟩
  have hB1 : Blk w1 Bp #[.slice ad1 p.words.length cap1, .map (some Bm), .slice ad3 p.jumps.length cap3] 88 := (hgr.block Bp (Nat.lt_of_lt_of_le hb.lt hg0.size) (fun e => row_ne h3 hb (by decide) e.symm)).trans ((hg0.block Bp hb.lt (by simp)).trans hb)
  have Y := Lib.hid (st_jump SA (j := ⟨n, p.words.length, k, a, b, i, l⟩) (by omega) h1 h3 hb hg0 hgr hown hB1)
  have hlt1 := hb.lt
  have hlt2 := KX.lt
  have c0 := hb.cell 0
  have c2 := hb.cell 2
  have x0 := KX.cell 0
  have x1 := KX.cell 1
  have x2 := KX.cell 2
  have x3 := KX.cell 3
  have e2 := hB1.cell 2
  have f2 := hB1.free 2
  clear hrun hown hgr hg0 hB1 h1 h3 hb SA
  go_region
  obtain ⟨Wz, hWz⟩ : ∃ Wz, w1.setCell ⟨Bp, 2, none⟩ (.slice ad' (p.jumps.length + 1) cap') = Wz := ⟨_, rfl⟩
  rw [hWz] at Y
  rw [hWz]
  clear hWz hrun' c0 c2 x0 x1 x2 x3 e2 f2
  have hfz := Y.out.2
  have KZ := hfz.cells _ _ _ (by decide) (by decide) (by decide) KX
  have hbz : Below wb.heap.size wb Wz := (HBS.out.trans (hbA.mono HBS.out.size)).trans (by rw [hB0]; exact hfz.bel)
  have x0 := KZ.cell 0
  have x1 := KZ.cell 1
  have x2 := KZ.cell 2
  have x3 := KZ.cell 3
  have hF0 : Fr B0 Bm w Wz := (Fr.below hbA HS).trans hfz
  have HSz : B0 ≤ Wz.heap.size := Y.out.1.hs
  by_cases hf : p.words.length = 512
  · have HA := Lib.hid (fun wx (hx : Below Wz.heap.size Wz wx) => add_full B0 Bp Bm (addJ p ⟨n, p.words.length, k, a, b, i, l⟩) X wx (Y.out.1.below hx) hf)
    have HON : Hid (o = none) := Lib.hid (by rw [← HO.out, if_pos hf])
    clear hf hfz KX
    go_wp2_with (first | (go_at_call 63; ((with_reducible refine (HE'.out _ hbz).mono ?_); rintro e w4 ⟨rfl, hb4⟩)) | (go_at_call 61; ((with_reducible refine (HA.out _ hb4).mono ?_); rintro e w5 ⟨rfl, rfl⟩)))
    go_ret
    rw [HON.out]
    exact takeN rfl (hF0.trans (Fr.below hb4 HSz))
  · have HA := Lib.hid (fun wx (hx : Below Wz.heap.size Wz wx) => add_more B0 Bp Bm (addJ p ⟨n, p.words.length, k, a, b, i, l⟩) X hX wx (Y.out.1.below hx) (by show p.words.length < 512; omega))
    have HON : Hid (o = some (addW (addJ p ⟨n, p.words.length, k, a, b, i, l⟩) X)) := Lib.hid (by rw [← HO.out, if_neg hf])
    clear hf hfz KX
    go_wp2_with (first | (go_at_call 63; ((with_reducible refine (HE'.out _ hbz).mono ?_); rintro e w4 ⟨rfl, hb4⟩)) | (go_at_call 61; ((with_reducible refine (HA.out _ hb4).mono ?_); rintro e w5 ⟨rfl, hst, hfr⟩; have Z := Lib.hid (And.intro hst hfr); clear hst hfr)))
    go_ret
    rw [HON.out]
    exact takeY rfl Z.out.1 ((hF0.trans (Fr.below hb4 HSz)).trans Z.out.2)

/-- take, whatever the line. -/
theorem take_any (wb : World) (B0 : Nat) (hB0 : wb.heap.size = B0) (hTb : Tabs wb) (hMb : Ml wb) (Bp Bm : Nat) (p : PSt) (n : Nat) (hn : n ≤ 1000000000) (s : ByteArray) (w : World) (hs : s.size ≤ 100000) (h : St B0 Bp Bm p w) (hj : p.jumps.length ≤ p.words.length) (hpl : p.places.length < 1000000000) (hbs : Below wb.heap.size wb w) :
    Calls Tryd.prog 46 #[.pointer (some ⟨Bp, 0, none⟩), .int .i64 (n : Int), .string s] w (TakeR B0 Bp Bm (takeS n s.data.toList p) w) := by
  have hT := hTb.below hbs
  have hM := hMb.below hbs
  by_cases hl : s.data.toList.getLast? = some 58
  · exact take_label B0 Bp Bm p n s w hs h hpl hl
  · cases hw : wordP.isPrefixOf s.data.toList with
    | true => exact take_word B0 Bp Bm p n s w hs h hl hw
    | false =>
      unfold takeS
      rw [if_neg hl, if_neg (by rw [hw]; simp)]
      cases hp : parse s.data.toList with
      | none => exact take_none B0 Bp Bm p n s w hs h hT hM hl hw hp
      | some x =>
        obtain ⟨⟨k, a, b, i⟩, l⟩ := x
        by_cases hne : l = []
        · subst hne
          simp only [if_true]
          exact take_plain B0 Bp Bm p n s w hs h hT hM hl hw k a b i hp
        · simp only [if_neg hne]
          exact take_jump wb B0 hB0 hTb Bp Bm p n hn s w hs h hj hbs hT hM hl hw k a b i l hne hp
end Go.Proofs.YtlddjjkbnhhfaaaDoor.IsaJ
