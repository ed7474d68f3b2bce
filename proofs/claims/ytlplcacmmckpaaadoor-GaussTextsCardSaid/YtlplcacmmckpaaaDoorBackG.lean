/-
  The walk of GaussBack: a number goes into words, and a text, and back; words that are a number's are its again; what is read of a text is told by it.
-/
import Derived.Test.YtlplcacmmckpaaaDoorWordsG
import Derived.Test.YtlplcacmmckpaaaDoorReadG
import Derived.Test.YtlplcacmmckpaaaDoorAliveG
namespace Go.Proofs.YtlplcacmmckpaaaDoor.Walk
open Go Go.RowKit Kit Fl Whole Gleaf Gparts Gwhole Gnums Gg AliveG Tabs TextG TxtNums ReadG WordsG
set_option linter.unusedVariables false

theorem txt_size {p q : Int} (hp : InR p) (hq : InR q) : (txt p q).size ≤ 1000 := by
  have h1 := it_size hp
  have h2 := it_size hq
  unfold it at h1 h2
  have e1 : (Lib.itoa p).length ≤ 21 := by
    have : (Lib.itoa p).toArray.size ≤ 21 := h1
    simpa using this
  have e2 : (Lib.itoa q).length ≤ 21 := by
    have : (Lib.itoa q).toArray.size ≤ 21 := h2
    simpa using this
  rw [txt_eq]
  show (bd p q ++ [105]).toArray.size ≤ 1000
  unfold bd sq
  split <;> simp <;> omega
/-- A number's text is read as it was. -/
theorem parse_txt (g : Int × Int) (w : World) (hT : Tabs w) :
    Calls Tryd.prog 10 #[.string (txt (wr g.1) (wr g.2))] w fun e w' => e = .returned (.tuple #[zv g, .int .i64 0]) ∧ Below w.heap.size w w' :=
  (parse_any _ (txt_size (wr_range _) (wr_range _)) w hT).mono fun e w' ⟨hr, hb⟩ => ⟨by
    rcases hr with ⟨p, q, hp, hq, e1, he⟩ | ⟨hno, _⟩
    · obtain ⟨e2, e3⟩ := txt_inj (wr_range _) (wr_range _) hp hq e1
      rw [he, ← e2, ← e3]
      have : zv g = zv (gm (wr g.1) (wr g.2)) := zv_wr g.1 g.2
      rw [this]
    · exact absurd rfl (hno _ _ (wr_range _) (wr_range _)), hb⟩

theorem geq_refl (g : Int × Int) : geq g g = true := geq_of rfl rfl
theorem geq_parts (g : Int × Int) : geq (gm (gre g) (gim g)) g = true := geq_of (wr_id (wr_range _)) (wr_id (wr_range _))
theorem geq_words (g : Int × Int) : geq (gm (sx (wd (gre g))) (sx (wd (gim g)))) g = true := by
  apply geq_of
  · show wr (sx (wd (wr g.1))) = wr g.1
    rw [sx_wd (wr_range _)]
    exact wr_id (wr_range _)
  · show wr (sx (wd (wr g.2))) = wr g.2
    rw [sx_wd (wr_range _)]
    exact wr_id (wr_range _)

set_option maxRecDepth 100000 in
set_option maxHeartbeats 4000000 in
theorem gaussBack_of (a b x y : Int) (s : ByteArray) (w : World) (hx : 0 ≤ x ∧ x < 4294967296) (hy : 0 ≤ y ∧ y < 4294967296) (hs : s.size ≤ 60) (hT : Tabs w) :
    Calls Tryd.prog 6 #[.int .i64 a, .int .i64 b, .int .u32 x, .int .u32 y, .string s] w fun e w' => e = .returned (.bool true) ∧ Below w.heap.size w w' := by
  have g1 := geq_parts (gm a b)
  have g2 := geq_words (gm a b)
  have g3 := geq_refl (gm a b)
  have g4 : wd (gre (gm (sx x) (sx y))) % 1048576 = x % 1048576 := low_wd hx
  have g5 : wd (gim (gm (sx x) (sx y))) % 1048576 = y % 1048576 := low_wd hy
  have F1 := Lib.hid (fun wx => from_any x y hx hy wx)
  have F2 := Lib.hid (fun wx => from_any (wd (gre (gm a b))) (wd (gim (gm a b))) (wd_bd _) (wd_bd _) wx)
  obtain ⟨n1, n1'⟩ := wd_bd (gre (gm (sx x) (sx y)))
  obtain ⟨n2, n2'⟩ := wd_bd (gim (gm (sx x) (sx y)))
  obtain ⟨n3, n3'⟩ := hx
  obtain ⟨n4, n4'⟩ := hy
  obtain ⟨X, hX⟩ : ∃ X, txt (wr (gm a b).1) (wr (gm a b).2) = X := ⟨_, rfl⟩
  have hTX := fun wx h => text_g (gm a b) wx h
  have hPX := fun wx h => parse_txt (gm a b) wx h
  rw [hX] at hTX hPX
  have HTX := Lib.hid hTX
  have HPX := Lib.hid hPX
  clear hTX hPX hX
  have heq := fun t x y wx => run_eql_zv t x y wx
  have hgd := fun t o o' x y => eqGuard_zv t o o' x y
  have HB := Below.refl w.heap.size w
  go_enter Tryd.func6, Tryd.ntmps6
  go_wp2_with (first
    | (go_at_call 17; refine (alive_any _).mono ?_; rintro e w1 ⟨rfl, hb⟩; replace HB := bel' HB hb; replace hT := hT.below hb; clear hb)
    | (go_at_call 16; refine (make_g _ _ _).mono ?_; rintro e w1 ⟨rfl, rfl⟩)
    | (go_at_call 8; refine (words_g _ _).mono ?_; rintro e w1 ⟨rfl, hb⟩; replace HB := bel' HB hb; replace hT := hT.below hb; clear hb)
    | (go_at_call 14; ((with_reducible refine (HTX.out _ hT).mono ?_); rintro e w1 ⟨rfl, hb⟩; replace HB := bel' HB hb; replace hT := hT.below hb; clear hb))
    | (go_at_call 10; ((with_reducible refine (HPX.out _ hT).mono ?_); rintro e w1 ⟨rfl, hb⟩; replace HB := bel' HB hb; replace hT := hT.below hb; clear hb))
    | (go_at_call 12; ((with_reducible refine (F1.out _).mono ?_); rintro e w1 ⟨rfl, rfl⟩))
    | (go_at_call 12; ((with_reducible refine (F2.out _).mono ?_); rintro e w1 ⟨rfl, rfl⟩))
    | (go_at_call 10; refine (parse_any s (by omega) _ hT).mono ?_; rintro e w1 ⟨⟨p, q, hp, hq, hpq, rfl⟩ | ⟨hno, rfl⟩, hb⟩ <;> refine Hid.out ?_))
  all_goals refine Lib.hid ?_
  · replace HB := bel' HB hb
    replace hT := hT.below hb
    have hTY := fun wx h => text_g (gm p q) wx h
    have e1 : txt (wr (gm p q).1) (wr (gm p q).2) = txt p q := by
      show txt (wr p) (wr q) = _
      rw [wr_id hp, wr_id hq]
    rw [e1] at hTY
    obtain ⟨Y, hY⟩ : ∃ Y, txt p q = Y := ⟨_, rfl⟩
    rw [hY] at hTY ⊢
    have HTY := Lib.hid hTY
    have hse : (Y.toList == Y.toList) = true := by simp
    clear hb hY hTY e1 hp hq hs
    go_wp2_with (first
      | (go_at_call 16; refine (make_g _ _ _).mono ?_; rintro e w1 ⟨rfl, rfl⟩)
      | (go_at_call 22; refine (parts_g _ _).mono ?_; rintro e w1 ⟨rfl, hb⟩; replace HB := bel' HB hb; replace hT := hT.below hb; clear hb)
      | (go_at_call 18; refine (may_g _ _).mono ?_; rintro e w1 ⟨rfl, hb⟩; replace HB := bel' HB hb; replace hT := hT.below hb; clear hb)
      | (go_at_call 12; ((with_reducible refine (F2.out _).mono ?_); rintro e w1 ⟨rfl, rfl⟩))
      | (go_at_call 14; ((with_reducible refine (HTY.out _ hT).mono ?_); rintro e w1 ⟨rfl, hb⟩; replace HB := bel' HB hb; clear hb)))
    go_ret
    exact ⟨rfl, HB⟩
  · replace HB := bel' HB hb
    replace hT := hT.below hb
    clear hb hno
    go_wp2_with (first
      | (go_at_call 16; refine (make_g _ _ _).mono ?_; rintro e w1 ⟨rfl, rfl⟩)
      | (go_at_call 22; refine (parts_g _ _).mono ?_; rintro e w1 ⟨rfl, hb⟩; replace HB := bel' HB hb; clear hb)
      | (go_at_call 18; refine (may_g _ _).mono ?_; rintro e w1 ⟨rfl, hb⟩; replace HB := bel' HB hb; clear hb)
      | (go_at_call 12; ((with_reducible refine (F2.out _).mono ?_); rintro e w1 ⟨rfl, rfl⟩)))
    go_ret
    exact ⟨rfl, HB⟩

theorem u32_bd {a : Int} (h : (Lit.int .u32 a).wf = true) : 0 ≤ a ∧ a < 4294967296 := by
  obtain ⟨n, rfl, hn⟩ := u32_nat h
  omega

theorem gaussBack (a b x y : Int) (s : ByteArray) (w : World) (w0 : (Lit.int .i64 a).wf = true) (w1 : (Lit.int .i64 b).wf = true) (w2 : (Lit.int .u32 x).wf = true) (w3 : (Lit.int .u32 y).wf = true) (w4 : s.size ≤ maxLen) (hL : laidMetH Tryd.prog Rows.gaussBackRow.laid w) :
    Calls Tryd.prog 6 #[.int .i64 a, .int .i64 b, .int .u32 x, .int .u32 y, .string s] w fun e w' => e = .returned (.bool true) ∧ Below w.heap.size w w' := by
  have hT : Tabs w := tabs_of_laid hL
  by_cases hs : s.size ≤ 60
  · exact gaussBack_of a b x y s w (u32_bd w2) (u32_bd w3) hs hT
  · have hs2 : 60 < s.size := by omega
    unfold maxLen at w4
    clear w0 w1 w2 w3 hs hL
    go_enter Tryd.func6, Tryd.ntmps6
    go_wp2_with (first
      | (go_at_call 17; refine (alive_any _).mono ?_; rintro e w1 ⟨rfl, hb⟩))
    go_ret
    exact ⟨rfl, hb⟩
#print axioms gaussBack
end Go.Proofs.YtlplcacmmckpaaaDoor.Walk
