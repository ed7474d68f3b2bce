/-
  Descriptors as they lie; Get, of, List, least, Len.
-/
import Derived.Test.YtmdldehdlggpkaaJu
namespace Go.Proofs.Ytmdldehdlggpkaa.Jd
open Go Go.RowKit Kit Bk Jp Jm Ji Jo Ju
set_option linter.unusedVariables false

/-- Descriptors in block d. -/
def Ds (w : World) (d : Nat) (D : Nat → Nat) : Prop :=
  (∃ cs, Blk w d cs 53 ∧ cs.size = 8 ∧ ∀ k, k < 8 → cs[k]? = some (.int .i64 (D k : Int))) ∧ Nums D
theorem Ds.kept {T : Nat → Prop} {w w' : World} {d : Nat} {D : Nat → Nat} (h : Ds w d D) (hk : Kp T w w') (hp : ¬ T d) : Ds w' d D := by
  obtain ⟨⟨cs, h1, h2⟩, h3⟩ := h
  exact ⟨⟨cs, h1.kept hk hp, h2⟩, h3⟩
theorem Ds.below {w w' : World} {d : Nat} {D : Nat → Nat} (h : Ds w d D) (hb : Below w.heap.size w w') : Ds w' d D := h.kept (T := fun _ => False) (.of_below hb) (fun e => e)
theorem Ds.low {w w' : World} {d n₀ : Nat} {D : Nat → Nat} (h : Ds w d D) (hb : Below n₀ w w') (hp : d < n₀) : Ds w' d D := by
  obtain ⟨⟨cs, h1, h2⟩, h3⟩ := h
  exact ⟨⟨cs, (hb.block d hp).trans h1, h2⟩, h3⟩
theorem Ds.lt {w : World} {d : Nat} {D : Nat → Nat} (h : Ds w d D) : d < w.heap.size := by
  obtain ⟨⟨cs, h1, h2⟩, h3⟩ := h
  exact h1.lt
theorem Ds.set {w : World} {d : Nat} {D : Nat → Nat} (h : Ds w d D) (k : Nat) (hk : k < 8) (v : Nat) (hv : v ≤ 64) : Ds (w.setCell ⟨d, k, none⟩ (.int .i64 (v : Int))) d (up D k v) := by
  obtain ⟨⟨cs, h1, h2, h3⟩, h4⟩ := h
  refine ⟨⟨_, h1.set _ _, by simpa using h2, fun j hj => ?_⟩, h4.up k v hv⟩
  rw [Array.getElem?_setIfInBounds]
  by_cases e : j = k
  · subst e; rw [if_pos rfl, if_pos (by omega), up_same]
  · rw [if_neg (by omega), up_other _ _ _ _ e]; exact h3 j hj

/-- A slice that reads as n numbers. -/
def Ir (w : World) (v : Value) (n : Nat) (F : Nat → Int) : Prop :=
  ∃ a cap, v = .slice a n cap ∧ n ≤ cap ∧ cap ≤ maxLen ∧ (n = 0 ∨ ∃ g cs, a = some ⟨g, 0, none⟩ ∧ Blk w g cs 3 ∧ ∀ i, i < n → cs[i]? = some (.int .i64 (F i)))
theorem Ir.below {w w' : World} {v : Value} {n : Nat} {F : Nat → Int} (h : Ir w v n F) (hb : Below w.heap.size w w') : Ir w' v n F := by
  obtain ⟨a, cap, h1, h2, h3, h4⟩ := h
  refine ⟨a, cap, h1, h2, h3, h4.imp id ?_⟩
  rintro ⟨g, cs, e, hb2, hc⟩
  exact ⟨g, cs, e, hb2.below hb, hc⟩
theorem Ir.kept {S : Nat → Prop} {w w' : World} {v : Value} {n : Nat} {F : Nat → Int} (h : Ir w v n F) (hk : Kp S w w') (hS : ∀ g cs, Blk w g cs 3 → ¬ S g) : Ir w' v n F := by
  obtain ⟨a, cap, h1, h2, h3, h4⟩ := h
  refine ⟨a, cap, h1, h2, h3, h4.imp id ?_⟩
  rintro ⟨g, cs, e, hb2, hc⟩
  exact ⟨g, cs, e, hb2.kept hk (hS g cs hb2), hc⟩
theorem Ir.at_ {w : World} {v : Value} {n : Nat} {F : Nat → Int} (h : Ir w v n F) (i : Nat) (hi : i < n) : ∃ g cap, v = .slice (some ⟨g, 0, none⟩) n cap ∧ n ≤ cap ∧ cap ≤ maxLen ∧ g < w.heap.size ∧ w.cell? ⟨g, i, none⟩ = some (.int .i64 (F i)) := by
  obtain ⟨a, cap, rfl, h2, h3, h4 | ⟨g, cs, rfl, hb, hc⟩⟩ := h
  · omega
  · exact ⟨g, cap, rfl, h2, h3, hb.lt, (hb.cell i).trans (hc i hi)⟩
theorem Ir.ext {w : World} {v : Value} {n : Nat} {F G : Nat → Int} (h : Ir w v n F) (e : ∀ i, i < n → F i = G i) : Ir w v n G := by
  obtain ⟨a, cap, h1, h2, h3, h4⟩ := h
  refine ⟨a, cap, h1, h2, h3, h4.imp id ?_⟩
  rintro ⟨g, cs, e1, hb2, hc⟩
  exact ⟨g, cs, e1, hb2, fun i hi => by rw [hc i hi, e i hi]⟩
def Nl (l : List Nat) : Nat → Int := fun i => ((l[i]?.getD 0 : Nat) : Int)
/-- A slice of numbers that a call has made. -/
theorem ir_own {w : World} {base : Nat} {r : Value} {n : Nat} {l : List Nat} (hn : n = l.length) (h : w.ownsRow base 3 1 r n (ints l)) : Ir w r n (Nl l) := by
  obtain ⟨h0, ⟨rfl, hn2⟩ | ⟨g, cap, cur, rfl, hg, hb, h1, h2, h3, h4⟩⟩ := h
  · subst hn2
    exact ⟨none, 0, rfl, Nat.le_refl _, Nat.zero_le _, .inl rfl⟩
  · refine ⟨_, cap, rfl, h1, h2, .inr ⟨g, cur, rfl, hb, fun i hi => ?_⟩⟩
    have := congrArg (fun l => l[i]?) h4
    simp only [List.getElem?_take, Nat.mul_one, hi, if_true, Array.getElem?_toList] at this
    rw [this]
    have hil : i < l.length := by omega
    simp [ints, Nl, hil]

theorem fget_nil (w : World) (i : Int) :
    Calls Try.prog 20 #[.pointer none, .int .i64 i] w fun e w' => e = .returned (.int .i64 (-1)) ∧ w = w' := by
  go_enter Try.func20, Try.ntmps20
  go_wp2
  go_ret
  exact ⟨rfl, rfl⟩
theorem fget_any (w : World) (d : Nat) (D : Nat → Nat) (h : Ds w d D) (i : Int) :
    Calls Try.prog 20 #[.pointer (some ⟨d, 0, none⟩), .int .i64 i] w fun e w' => e = .returned (.int .i64 (gD D i)) ∧ w = w' := by
  by_cases hk : 0 ≤ i ∧ i < 8
  · have HB := Lib.hid (below_yes w _ _ hk)
    obtain ⟨k, rfl⟩ := Int.eq_ofNat_of_zero_le hk.1
    rw [gD_nat (by omega)]
    obtain ⟨⟨cs, h1, h2, h3⟩, h4⟩ := h
    have c0 := (h1.cell k).trans (h3 k (by omega))
    have hn := h4 k
    obtain ⟨z, hz⟩ : ∃ z : Int, (D k : Int) = z := ⟨_, rfl⟩
    have hz0 : 0 ≤ z := by omega
    have hz1 : z ≤ 64 := by omega
    rw [hz] at c0 ⊢
    have hk2 : (k : Int) < 8 := hk.2
    clear h1 h2 h3 h4 hk hn hz
    go_enter Try.func20, Try.ntmps20
    go_wp2_with (go_at_call 45; (with_reducible refine HB.out.mono ?_); rintro e w1 ⟨rfl, rfl⟩)
    go_ret
    exact ⟨rfl, rfl⟩
  · have HB := Lib.hid (below_not w i 8 hk)
    rw [gD_out hk]
    clear h hk
    go_enter Try.func20, Try.ntmps20
    go_wp2_with (go_at_call 45; (with_reducible refine HB.out.mono ?_); rintro e w1 ⟨rfl, rfl⟩)
    go_ret
    exact ⟨rfl, rfl⟩
/-- of: its error, its answer. -/
theorem of_nil (w : World) (i : Int) :
    Calls Try.prog 47 #[.pointer none, .int .i64 i] w fun e w' => e = .returned (.tuple #[.int .i64 0, .int .i64 1]) ∧ w = w' := by
  go_enter Try.func47, Try.ntmps47
  go_wp2_with (go_at_call 20; (with_reducible refine (fget_nil _ _).mono ?_); rintro e w1 ⟨rfl, rfl⟩)
  go_ret2
  exact ⟨rfl, rfl⟩
theorem of_any (w : World) (d : Nat) (D : Nat → Nat) (h : Ds w d D) (i : Int) :
    Calls Try.prog 47 #[.pointer (some ⟨d, 0, none⟩), .int .i64 i] w fun e w' => e = .returned (.tuple #[.int .i64 (cN D i), .int .i64 (cE D i)]) ∧ w = w' := by
  have HG := Lib.hid (fget_any w d D h i)
  unfold cN cE
  generalize gD D i = z at *
  clear h
  by_cases hz : z = -1
  · rw [if_pos hz, if_pos hz]
    subst hz
    go_enter Try.func47, Try.ntmps47
    go_wp2_with (go_at_call 20; (with_reducible refine HG.out.mono ?_); rintro e w1 ⟨rfl, rfl⟩)
    go_ret2
    exact ⟨rfl, rfl⟩
  · rw [if_neg hz, if_neg hz]
    have hd : (z == -1) = false := by simpa using hz
    clear hz
    go_enter Try.func47, Try.ntmps47
    go_wp2_with (go_at_call 20; (with_reducible refine HG.out.mono ?_); rintro e w1 ⟨rfl, rfl⟩)
    go_ret2
    exact ⟨rfl, rfl⟩
theorem list_nil (w : World) :
    Calls Try.prog 14 #[.pointer none] w fun e w' => e = .returned (.slice none 0 0) ∧ w = w' := by
  go_enter Try.func14, Try.ntmps14
  go_wp2
  go_ret
  exact ⟨rfl, rfl⟩
def mkO (t : TypeId) (a b : Value) : Sem Value := Instr.makeSlice t a b
theorem mk_wrap (t : TypeId) (a b : Value) : Instr.makeSlice t a b = mkO t a b := rfl
attribute [local go_sem ↓] mk_wrap
theorem run_mk8 (w : World) : (mkO 38 (.int .i64 8) (.int .i64 8)).run Try.prog w = .ok (.slice (some ⟨w.heap.size, 0, none⟩) 8 8) (w.alloc (.cells (madeCells #[.int .i64 0] 8) 3)) := by
  obtain ⟨i0, hi, hz0, hz1, hz2⟩ := info_parts info3
  have hr := run_make (P := Try.prog) w 38 3 i0 (.int .i64 0) Try.underlying38 hi hz0 .i64 .i64 8 8 (by omega) (Int.le_refl _) (by rw [hz2]; omega) (by omega)
  rw [hz1] at hr
  exact hr
/-- The list as far as it is filled. -/
def Half (w : World) (g k : Nat) (D : Nat → Nat) : Prop := ∃ cs, Blk w g cs 3 ∧ cs.size = 8 ∧ (∀ i, i < 8 → ∃ z, cs[i]? = some (.int .i64 z)) ∧ ∀ i, i < k → cs[i]? = some (.int .i64 (gD D i))
theorem Half.zero (w : World) (D : Nat → Nat) : Half (w.alloc (.cells (madeCells #[.int .i64 0] 8) 3)) w.heap.size 0 D := by
  have h8 : (madeCells #[Value.int .i64 0] 8).size = 8 := size_madeCells _ _
  refine ⟨_, Blk.new _ _ _, h8, fun i hi => ⟨0, ?_⟩, fun i hi => absurd hi (Nat.not_lt_zero _)⟩
  have := toList_madeCells_one (.int .i64 0) 8
  rw [← Array.getElem?_toList, this, List.getElem?_replicate, if_pos hi]
theorem Half.step {w : World} {g k : Nat} {D : Nat → Nat} (h : Half w g k D) (hk : k < 8) : Half (w.setCell ⟨g, k, none⟩ (.int .i64 (gD D k))) g (k + 1) D := by
  obtain ⟨cs, h1, h2, h3, h4⟩ := h
  refine ⟨_, h1.set _ _, by simpa using h2, fun i hi => ?_, fun i hi => ?_⟩
  · rw [Array.getElem?_setIfInBounds]
    by_cases e : k = i
    · rw [if_pos e, if_pos (by omega)]; exact ⟨_, rfl⟩
    · rw [if_neg e]; exact h3 i hi
  · rw [Array.getElem?_setIfInBounds]
    by_cases e : k = i
    · subst e; rw [if_pos rfl, if_pos (by omega)]
    · rw [if_neg e]; exact h4 i (by omega)
set_option maxRecDepth 100000 in
theorem list_any (w : World) (d : Nat) (D : Nat → Nat) (h : Ds w d D) :
    Calls Try.prog 14 #[.pointer (some ⟨d, 0, none⟩)] w fun e w' => Below w.heap.size w w' ∧ e = .returned (.slice (some ⟨w.heap.size, 0, none⟩) 8 8) ∧ Ir w' (.slice (some ⟨w.heap.size, 0, none⟩) 8 8) 8 (fun i => gD D i) := by
  have hmk := run_mk8
  have hlt := h.lt
  have H0 := Lib.hid (Half.zero w D)
  have HD := Lib.hid h
  generalize madeCells #[Value.int .i64 0] 8 = Z at *
  clear h
  go_enter Try.func14, Try.ntmps14
  go_wp2
  go_loopw [10] (fun i wr => ∃ k : Nat, k ≤ 8 ∧ i = .int .i64 (k : Int) ∧ Half wr w.heap.size k D ∧ Below w.heap.size w wr) (fun i _ => 8 - (intOf i).toNat)
  case atStart => exact ⟨0, Nat.zero_le _, rfl, H0.out, (Below.refl _ _).alloc (Nat.le_refl _) _⟩
  case round =>
    obtain ⟨k, hk, rfl, hh, hb⟩ := hrel
    by_cases hlt8 : k < 8
    · have hk8 : (k : Int) < 8 := by omega
      have HG := Lib.hid (fget_any wr d D (HD.out.low hb hlt) (k : Int))
      have HS := Lib.hid (hh.step hlt8)
      obtain ⟨cs, h1, h2, h3, h4⟩ := hh
      obtain ⟨z, hz⟩ := h3 k hlt8
      have c0 := (h1.cell k).trans hz
      have f0 := h1.free k
      have HBl := Lib.hid hb
      generalize gD D (k : Int) = G at *
      clear h1 h2 h3 h4 hz hb
      go_wp2_with (go_at_call 20; (with_reducible refine HG.out.mono ?_); rintro e w1 ⟨rfl, rfl⟩)
      go_roundw
      case rel => exact ⟨k + 1, by omega, by go_num, HS.out, HBl.out.setCell (p := ⟨w.heap.size, k, none⟩) (Nat.le_refl _) _⟩
      case measure => simp [intOf]; omega
    · obtain rfl : k = 8 := by omega
      have HE := Lib.hid (And.intro hh hb)
      clear hh hb
      go_wp2
      go_ret
      obtain ⟨⟨cs, h1, h2, h3, h4⟩, h5⟩ := HE.out
      exact ⟨h5, rfl, _, 8, rfl, Nat.le_refl _, by unfold maxLen; omega, .inr ⟨_, cs, rfl, h1, h4⟩⟩
set_option maxRecDepth 100000 in
theorem flist_row (w : World) (d : Nat) (D : Nat → Nat) (h : Ds w d D) :
    Calls Try.prog 14 #[.pointer (some ⟨d, 0, none⟩)] w fun e w' => Below w.heap.size w w' ∧ e = .returned (.slice (some ⟨w.heap.size, 0, none⟩) 8 8) ∧ ∀ i : Nat, i < 8 → w'.cell? ⟨w.heap.size, i, none⟩ = some (.int .i64 (gD D i)) :=
  (list_any w d D h).mono fun e w' ⟨h1, h2, h3⟩ => ⟨h1, h2, fun i hi => by
    obtain ⟨g, cap, e, _, _, _, hc⟩ := h3.at_ i hi
    cases e
    exact hc⟩
theorem gD_free {D : Nat → Nat} {k : Nat} (hk : k < 8) : gD D (k : Int) = -1 ↔ D k = 0 := by rw [gD_nat hk]; omega
theorem fleast_nil (w : World) :
    Calls Try.prog 46 #[.pointer none] w fun e w' => e = .returned (.int .i64 8) ∧ w = w' := by
  go_enter Try.func46, Try.ntmps46
  go_wp2_with (go_at_call 14; (with_reducible refine (list_nil _).mono ?_); rintro e w1 ⟨rfl, rfl⟩)
  go_loop [8] (fun i => i = .int .i64 0) (fun i => 0)
  case atStart => rfl
  case round =>
    obtain rfl := hrel
    go_wp2
    go_ret
    exact ⟨rfl, rfl⟩
set_option maxRecDepth 100000 in
theorem fleast_any (w : World) (d : Nat) (D : Nat → Nat) (h : Ds w d D) :
    Calls Try.prog 46 #[.pointer (some ⟨d, 0, none⟩)] w fun e w' => e = .returned (.int .i64 (lst D 8 : Int)) ∧ Below w.heap.size w w' := by
  have HL := Lib.hid (flist_row w d D h)
  have hle := lst_le D 8
  have HM := Lib.hid (fun k (hk : k < 8) => gD_free (D := D) hk)
  have HLow := Lib.hid (fun k (hk : k < lst D 8) => lst_low D 8 k hk)
  have HAt := Lib.hid (fun (hk : lst D 8 < 8) => lst_at D 8 hk)
  obtain ⟨m, hm⟩ : ∃ m, lst D 8 = m := ⟨_, rfl⟩
  rw [hm] at hle HLow HAt ⊢
  clear h hm
  go_enter Try.func46, Try.ntmps46
  go_wp2_with (go_at_call 14; (with_reducible refine HL.out.mono ?_); rintro e w1 ⟨hb, rfl, hc⟩; replace hb := Lib.hid hb; replace hc := Lib.hid hc)
  go_loop [8] (fun i => ∃ k : Nat, k ≤ m ∧ i = .int .i64 (k : Int)) (fun i => 8 - (intOf i).toNat)
  case atStart => exact ⟨0, Nat.zero_le _, rfl⟩
  case round =>
    obtain ⟨k, hk, rfl⟩ := hrel
    by_cases hlt : k < 8
    · have hk8 : (k : Int) < 8 := by omega
      have c0 := hc.out k hlt
      have hM := HM.out k hlt
      by_cases hz : D k = 0
      · have hkm : k = m := by
          rcases Nat.lt_or_ge k m with h1 | h1
          · exact absurd hz (HLow.out k h1)
          · omega
        subst hkm
        rw [hM.2 hz] at c0
        clear hM hz
        go_wp2
        go_ret
        exact ⟨rfl, hb.out⟩
      · have hkm : k < m := by
          rcases Nat.lt_or_ge k m with h1 | h1
          · exact h1
          · exfalso
            obtain rfl : k = m := by omega
            exact hz (HAt.out hlt)
        have hd : (gD D (k : Int) == -1) = false := by
          have : ¬ gD D (k : Int) = -1 := fun e => hz (hM.1 e)
          simpa using this
        generalize gD D (k : Int) = G at *
        clear hM hz
        go_wp2
        go_round
        case rel => exact ⟨k + 1, by omega, by go_num⟩
        case measure => simp [intOf]; omega
    · obtain rfl : k = 8 := by omega
      obtain rfl : m = 8 := by omega
      go_wp2
      go_ret
      exact ⟨rfl, hb.out⟩
theorem flen_nil (w : World) :
    Calls Try.prog 19 #[.pointer none] w fun e w' => e = .returned (.int .i64 0) ∧ w = w' := by
  go_enter Try.func19, Try.ntmps19
  go_wp2_with (go_at_call 14; (with_reducible refine (list_nil _).mono ?_); rintro e w1 ⟨rfl, rfl⟩)
  go_loop [3, 9] (fun s i => s = .int .i64 0 ∧ i = .int .i64 0) (fun _ i => 0)
  case atStart => exact ⟨rfl, rfl⟩
  case round =>
    obtain ⟨rfl, rfl⟩ := hrel
    go_wp2
    go_ret
    exact ⟨rfl, rfl⟩
set_option maxRecDepth 100000 in
theorem flen_any (w : World) (d : Nat) (D : Nat → Nat) (h : Ds w d D) :
    Calls Try.prog 19 #[.pointer (some ⟨d, 0, none⟩)] w fun e w' => e = .returned (.int .i64 ((usd D 8).length : Int)) ∧ Below w.heap.size w w' := by
  have HL := Lib.hid (flist_row w d D h)
  have HM := Lib.hid (fun k (hk : k < 8) => gD_free (D := D) hk)
  clear h
  go_enter Try.func19, Try.ntmps19
  go_wp2_with (go_at_call 14; (with_reducible refine HL.out.mono ?_); rintro e w1 ⟨hb, rfl, hc⟩; replace hb := Lib.hid hb; replace hc := Lib.hid hc)
  go_loop [3, 9] (fun s i => ∃ k : Nat, k ≤ 8 ∧ s = .int .i64 ((usd D k).length : Int) ∧ i = .int .i64 (k : Int)) (fun _ i => 8 - (intOf i).toNat)
  case atStart => exact ⟨0, Nat.zero_le _, rfl, rfl⟩
  case round =>
    obtain ⟨k, hk, rfl, rfl⟩ := hrel
    have hul := usd_len D k
    by_cases hlt : k < 8
    · have hk8 : (k : Int) < 8 := by omega
      have c0 := hc.out k hlt
      have hM := HM.out k hlt
      by_cases hz : D k = 0
      · rw [hM.2 hz] at c0
        have hu := usd_no hz
        clear hM hz
        go_wp2
        go_round
        case rel => exact ⟨k + 1, by omega, by rw [hu], by go_num⟩
        case measure => simp [intOf]; omega
      · have hd : (gD D (k : Int) == -1) = false := by
          have : ¬ gD D (k : Int) = -1 := fun e => hz (hM.1 e)
          simpa using this
        have hu : Hid ((usd D (k + 1)).length = (usd D k).length + 1) := Lib.hid (by rw [usd_yes hz, List.length_append]; rfl)
        generalize gD D (k : Int) = G at *
        obtain ⟨L, hL⟩ : ∃ L, (usd D k).length = L := ⟨_, rfl⟩
        rw [hL] at hul hu ⊢
        have hLi : (L : Int) ≤ 8 := by omega
        clear hM hz hL
        go_wp2
        go_round
        case rel => exact ⟨k + 1, by omega, by rw [hu.out]; go_num, by go_num⟩
        case measure => simp [intOf]; omega
    · obtain rfl : k = 8 := by omega
      go_wp2
      go_ret
      exact ⟨rfl, hb.out⟩
end Go.Proofs.Ytmdldehdlggpkaa.Jd
