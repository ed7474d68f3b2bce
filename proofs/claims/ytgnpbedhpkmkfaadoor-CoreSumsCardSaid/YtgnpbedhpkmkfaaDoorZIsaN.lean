/-
  Line: an instruction's line.
-/
import Derived.Test.YtgnpbedhpkmkfaaDoorZIlc
import Derived.WalkSpells
import Derived.Deep.RegionHeld3
import Derived.Deep.DeepCutAuto
import Derived.Lib.ItoaLen
namespace Go.Proofs.YtgnpbedhpkmkfaaDoor.IsaN
open Go Go.RowKit Kit IsaM IsaT IsaL IsaC IsaE
set_option linter.unusedVariables false

theorem bel' {A C D : World} (h : Below A.heap.size A C) (k : Below C.heap.size C D) : Below A.heap.size A D := h.trans (k.mono h.size)
theorem bal {A C : World} (h : Below A.heap.size A C) (o : Obj) : Below A.heap.size A (C.alloc o) := h.alloc h.size o
theorem bdr {A C : World} (h : Below A.heap.size A C) : Below A.heap.size A C.drew := h.drew
theorem same_of (w : World) (a : Addr) (v : Value) (h : (w.cell? a).isSome = true) : (w.setCell a v).cell? a = some v := by
  obtain ⟨x, hx⟩ := Option.isSome_iff_exists.1 h
  exact World.cell?_setCell_same _ _ _ hx
theorem isSome_other (w : World) (a b : Addr) (v : Value) (h : a ≠ b) (hs : (w.cell? b).isSome = true) : ((w.setCell a v).cell? b).isSome = true := by
  rw [World.cell?_setCell_other _ _ _ _ h]
  exact hs
theorem bset {A C : World} (h : Below A.heap.size A C) (b o : Nat) (x : Value) (hb : A.heap.size ≤ b) : Below A.heap.size A (C.setCell ⟨b, o, none⟩ x) := h.setCell hb _
/-- A text of bytes. -/
def st (l : Tx) : ByteArray := ⟨l.toArray⟩
theorem st_app (a b : Tx) : st a ++ st b = st (a ++ b) := by
  unfold st
  apply ByteArray.ext
  simp
theorem st_size (l : Tx) : (st l).size = l.length := by
  show l.toArray.size = _
  simp
theorem st_data (l : Tx) : (st l).data.toList = l := rfl
theorem st_inj {a b : Tx} : st a = st b ↔ a = b := ⟨fun h => by have := congrArg (fun x : ByteArray => x.data.toList) h; simpa [st] using this, fun h => by rw [h]⟩
theorem st_mk (s : ByteArray) : st s.data.toList = s := by unfold st; simp

theorem grow_below {w : World} {k : Nat} {os : Array Obj} : Below w.heap.size w (Sort.grow (w.drewN k) os) :=
  ⟨rfl, rfl, rfl, by show w.heap.size ≤ (w.heap ++ os).size; simp, fun j hj => by show (w.heap ++ os)[j]? = w.heap[j]?; rw [Array.getElem?_append_left hj]⟩
theorem itoa_any (n : Int) (hn : -9223372036854775808 ≤ n ∧ n ≤ 9223372036854775807) (w : World) (hP : Pow w) :
    Calls Tryd.prog 47 #[.int .i64 n] w fun e w' => e = .returned (.string (st (Lib.itoa n))) ∧ Below w.heap.size w w' :=
  (Shl.strconv_Itoa n hn.1 hn.2 w hP).mono fun e w' ⟨he, k, os, hw⟩ => ⟨he, by rw [hw]; exact grow_below⟩
theorem itoa_size {n : Int} (hn : -9223372036854775808 ≤ n ∧ n ≤ 9223372036854775807) : (st (Lib.itoa n)).size ≤ 21 := by
  rw [st_size]
  exact Lib.itoa_length_le n hn.1 hn.2
theorem nm_len : ∀ k : Fin 30, (nm k.val).length ≤ 5 := by decide +kernel

def Pf (k : Nat) (a b i : Int) (j : Int) : Tx := if j = 0 then nm k else if j = 1 then nm k ++ fld (mA k) a else if j = 2 then nm k ++ fld (mA k) a ++ fld (mB k) b else line k a b i
theorem pf_0_some {k : Nat} {a b i : Int} (h : mA k ≠ 0) : Pf k a b i 0 ++ 32 :: Lib.itoa a = Pf k a b i 1 := by
  show nm k ++ _ = nm k ++ fld (mA k) a
  unfold fld
  rw [if_neg h]
theorem pf_0_none {k : Nat} {a b i : Int} (h : mA k = 0) : Pf k a b i 0 = Pf k a b i 1 := by
  show nm k = nm k ++ fld (mA k) a
  unfold fld
  rw [if_pos h, List.append_nil]
theorem pf_1_some {k : Nat} {a b i : Int} (h : mB k ≠ 0) : Pf k a b i 1 ++ 32 :: Lib.itoa b = Pf k a b i 2 := by
  show nm k ++ fld (mA k) a ++ _ = nm k ++ fld (mA k) a ++ fld (mB k) b
  rw [show fld (mB k) b = 32 :: Lib.itoa b by unfold fld; rw [if_neg h]]
theorem pf_1_none {k : Nat} {a b i : Int} (h : mB k = 0) : Pf k a b i 1 = Pf k a b i 2 := by
  show nm k ++ fld (mA k) a = nm k ++ fld (mA k) a ++ fld (mB k) b
  rw [show fld (mB k) b = [] by unfold fld; rw [if_pos h], List.append_nil]
theorem pf_2_some {k : Nat} {a b i : Int} (h : mI k ≠ 0) : Pf k a b i 2 ++ 32 :: Lib.itoa i = Pf k a b i 3 := by
  show nm k ++ fld (mA k) a ++ fld (mB k) b ++ _ = nm k ++ fld (mA k) a ++ fld (mB k) b ++ fld (mI k) i
  rw [show fld (mI k) i = 32 :: Lib.itoa i by unfold fld; rw [if_neg h]]
theorem pf_2_none {k : Nat} {a b i : Int} (h : mI k = 0) : Pf k a b i 2 = Pf k a b i 3 := by
  show nm k ++ fld (mA k) a ++ fld (mB k) b = nm k ++ fld (mA k) a ++ fld (mB k) b ++ fld (mI k) i
  rw [show fld (mI k) i = [] by unfold fld; rw [if_pos h], List.append_nil]
theorem str_add (a b : Tx) : Value.string (st a ++ (⟨#[32]⟩ ++ st b)) = Value.string (st (a ++ 32 :: b)) := by
  rw [show (⟨#[32]⟩ : ByteArray) = st [32] from rfl, st_app, st_app]
  rfl
theorem ret_se {x y : Tx} {z : Int} (h : x = y) : Ending.returned (.tuple #[.string (st x), .int .i64 z]) = .returned (.tuple #[.string (st y), .int .i64 z]) := by rw [h]

set_option maxRecDepth 100000 in
set_option maxHeartbeats 4000000 in
theorem line_in (k : Nat) (a b i : Int) (hm : May k a b i) (w : World) (hT : Tabs w) (hPw : Pow w) :
    Calls Tryd.prog 22 #[insV k a b i] w fun e w' => e = .returned (.tuple #[.string (st (line k a b i)), .int .i64 0]) ∧ Below w.heap.size w w' := by
  have hk : k < 30 := by have := hm.2.k30; simpa using this
  obtain ⟨c0, c1, c2, c3⟩ := hT.cells k hk
  have h0 := hT.lt
  have hck := fun wx hx => check_any k a b i wx hx
  rw [show mayB k a b i = true from decide_eq_true hm, show errOf true = 0 from rfl] at hck
  have hsp := fun wx => split_any k a b i wx
  unfold insV at hck hsp ⊢
  have HC := Lib.hid hck
  have HS := Lib.hid hsp
  have HT := Lib.hid hT
  have IT := Lib.hid (fun n hn wx (h : Below w.heap.size w wx) => itoa_any n hn wx (hPw.below h))
  clear hPw
  have hbd := hm.2.bd
  have R0 : Hid (-9223372036854775808 ≤ a ∧ a ≤ 9223372036854775807) := Lib.hid (by omega)
  have R1 : Hid (-9223372036854775808 ≤ b ∧ b ≤ 9223372036854775807) := Lib.hid (by omega)
  have R2 : Hid (-9223372036854775808 ≤ i ∧ i ≤ 9223372036854775807) := Lib.hid (by omega)
  have hs := sig_fin ⟨k, hk⟩
  have hA0 : 0 ≤ mA k := by rcases hs.1 with h | h | h <;> simp at h <;> omega
  have hB0' : 0 ≤ mB k := by rcases hs.2.1 with h | h | h | h <;> simp at h <;> omega
  have hI0 : 0 ≤ mI k := by rcases hs.2.2 with h | h <;> simp at h <;> omega
  clear hbd hs hm
  clear hck hsp hT
  generalize hA : mA k = A at *
  generalize hB : mB k = B at *
  generalize hI : mI k = I at *
  have HA := Lib.hid hA
  have HB := Lib.hid hB
  have HI := Lib.hid hI
  clear hA hB hI
  go_enter Tryd.func22, Tryd.ntmps22
  go_upto_region 4 with (go_at_call 45; refine (HC.out _ (HT.out.below ((Below.refl _ _).alloc (Nat.le_refl _) _))).mono ?_; rintro e w1 ⟨rfl, hb⟩; obtain ⟨hc, hf⟩ := bcell hb; have hz : w.heap.size < w1.heap.size := (by have := hb.size; simp at this; omega))
  have hB0 : Below w.heap.size w w1 := ((Below.refl _ _).alloc (Nat.le_refl _) _).trans (hb.mono (by simp))
  have k0 : ∀ w', Below w1.heap.size w1 w' → (w'.cell? ⟨w.heap.size, 0, none⟩ = some (.int .i64 k) ∧ w'.cell? ⟨w.heap.size, 1, none⟩ = some (.int .i64 a) ∧ w'.cell? ⟨w.heap.size, 2, none⟩ = some (.int .i64 b) ∧ w'.cell? ⟨w.heap.size, 3, none⟩ = some (.int .i64 i)) ∧
      w'.cell? ⟨0, k * 4, none⟩ = some (.string ⟨(nm k).toArray⟩) ∧ w'.cell? ⟨0, k * 4 + 1, none⟩ = some (.int .i64 A) ∧ w'.cell? ⟨0, k * 4 + 2, none⟩ = some (.int .i64 B) ∧ w'.cell? ⟨0, k * 4 + 3, none⟩ = some (.int .i64 I) := fun w' h => by
    have hx := fun o => (h.cell (p := ⟨w.heap.size, o, none⟩) hz).trans (hc w.heap.size o (by simp))
    have hy := fun o => ((h.cell (p := ⟨0, o, none⟩) (by show 0 < _; omega)).trans (hc 0 o (by simp)))
    have hy2 := fun o => (World.cell?_alloc_lt w (.cells #[.int .i64 k, .int .i64 a, .int .i64 b, .int .i64 i] 61) ⟨0, o, none⟩ h0)
    refine ⟨⟨(hx 0).trans (by simp), (hx 1).trans (by simp), (hx 2).trans (by simp), (hx 3).trans (by simp)⟩, ?_⟩
    exact ⟨(hy _).trans ((hy2 _).trans c0), (hy _).trans ((hy2 _).trans c1), (hy _).trans ((hy2 _).trans c2), (hy _).trans ((hy2 _).trans c3)⟩
  have K0 := Lib.hid k0
  clear k0
  have T0 : Tabs w1.drew := (HT.out.below hB0).drewN 1
  have B0 : Below w1.heap.size w1 w1.drew := (Below.refl _ w1).drew
  clear hc hf hb c0 c1 c2 c3
  have hk1 : (0 : Int) ≤ (k : Int) := by omega
  have hk2 : (k : Int) < 30 := by omega
  go_cut [5, 6] (fun s5 s6 wx => ∃ g5 g6 : Nat, s5 = .pointer (some ⟨g5, 0, none⟩) ∧ s6 = .pointer (some ⟨g6, 0, none⟩) ∧
    (wx.cell? ⟨g5, 0, none⟩ = some (.string ⟨(nm k).toArray⟩) ∧ wx.cell? ⟨g5, 1, none⟩ = some (.int .i64 A) ∧ wx.cell? ⟨g5, 2, none⟩ = some (.int .i64 B) ∧ wx.cell? ⟨g5, 3, none⟩ = some (.int .i64 I)) ∧
    (wx.cell? ⟨g6, 0, none⟩ = some (.int .i64 a) ∧ wx.cell? ⟨g6, 1, none⟩ = some (.int .i64 b) ∧ wx.cell? ⟨g6, 2, none⟩ = some (.int .i64 i)) ∧ Below w.heap.size w wx)
  case first =>
    go_region_held3 (fun w' => (w'.cell? ⟨w.heap.size, 0, none⟩ = some (.int .i64 k) ∧ w'.cell? ⟨w.heap.size, 1, none⟩ = some (.int .i64 a) ∧ w'.cell? ⟨w.heap.size, 2, none⟩ = some (.int .i64 b) ∧ w'.cell? ⟨w.heap.size, 3, none⟩ = some (.int .i64 i)) ∧
        w'.cell? ⟨0, k * 4, none⟩ = some (.string ⟨(nm k).toArray⟩) ∧ w'.cell? ⟨0, k * 4 + 1, none⟩ = some (.int .i64 A) ∧ w'.cell? ⟨0, k * 4 + 2, none⟩ = some (.int .i64 B) ∧ w'.cell? ⟨0, k * 4 + 3, none⟩ = some (.int .i64 I)) ((refine K0.out _ ?_; (repeat (first | (with_reducible exact B1) | (with_reducible exact Below.refl _ _) | (with_reducible refine bdr ?_) | (with_reducible refine bal ?_ _) | (with_reducible refine bset ?_ _ _ _ (by first | (with_reducible exact Nat.le_refl _) | omega))))))
      (first | (go_at_call 46; ((with_reducible refine (HS.out _).mono ?_); rintro e w2 ⟨rfl, hb2⟩; have B1 := bel' (A := w1) (by (repeat (first | (with_reducible exact B1) | (with_reducible exact Below.refl _ _) | (with_reducible refine bdr ?_) | (with_reducible refine bal ?_ _) | (with_reducible refine bset ?_ _ _ _ (by first | (with_reducible exact Nat.le_refl _) | omega))))) hb2; obtain ⟨hc2, hf2⟩ := bcell hb2; have hz2 := hb2.size; simp at hz2; (try (have hz4 : w1.heap.size < w2.heap.size := (by omega))); (try (have hz5 : w1.heap.size + 1 < w2.heap.size := (by omega))))))
    all_goals go_wp2_with fail
    all_goals go_meet
    all_goals (refine ⟨_, _, rfl, rfl, ⟨?_, ?_, ?_, ?_⟩, ⟨?_, ?_, ?_⟩, hB0.trans (Below.mono (?_ : Below w1.heap.size w1 _) hB0.size)⟩)
    all_goals first
      | (repeat (first | (with_reducible exact B1) | (with_reducible exact Below.refl _ _) | (with_reducible refine bdr ?_) | (with_reducible refine bal ?_ _) | (with_reducible refine bset ?_ _ _ _ (by first | (with_reducible exact Nat.le_refl _) | omega))))
      | skip
    all_goals first | (simp; done) | (go_simp; done) | skip
    all_goals
      repeat (refine Eq.trans (World.cell?_setCell_other _ _ _ _ ?_) ?_; focus (simp; done))
      refine same_of _ _ _ ?_
      repeat (refine isSome_other _ _ _ _ ?_ ?_; focus (simp; done))
      rw [hc2 _ _ (by simp <;> omega)]
      simp
  case rest =>
    obtain ⟨g5, g6, rfl, rfl, ⟨e0, e1, e2, e3⟩, ⟨d0, d1, d2⟩, hbw⟩ := hcut
    clear hz
    go_wp2_with fail
    go_loopw [7, 25] (fun s t wr => ∃ (j : Int) (l : Tx), 0 ≤ j ∧ j ≤ 3 ∧ t = .int .i64 j ∧ s = .string (st l) ∧ (l.length : Int) ≤ 5 + 22 * j ∧ Hid (l = Pf k a b i j) ∧ wr.cell? ⟨g6, 0, none⟩ = some (.int .i64 a) ∧ wr.cell? ⟨g6, 1, none⟩ = some (.int .i64 b) ∧ wr.cell? ⟨g6, 2, none⟩ = some (.int .i64 i) ∧ Below w.heap.size w wr) (fun _ t _ => 3 - (intOf t).toNat)
    case atStart => exact ⟨0, nm k, by omega, by omega, rfl, rfl, by have := nm_len ⟨k, hk⟩; simp at this; omega, Lib.hid rfl, d0, d1, d2, hbw⟩
    case round =>
      obtain ⟨j, l, hj0, hj, rfl, rfl, hll, hp, d0, d1, d2, hbw⟩ := hrel
      clear e0 e1 e2 e3
      have hcs : j = 0 ∨ j = 1 ∨ j = 2 ∨ j = 3 := by omega
      rcases hcs with rfl | rfl | rfl | rfl <;> clear hj0 hj
      · have D0 := Lib.hid d0
        have D1 := Lib.hid d1
        have D2 := Lib.hid d2
        clear d1 d2
        have i0 := fun wx => ix0 A B I wx
        by_cases hl : 0 < A
        · have hd : decide (0 < A) = true := decide_eq_true hl
          have HP2 : Hid (l ++ 32 :: Lib.itoa a = Pf k a b i 1) := Lib.hid (by rw [hp.out]; exact pf_0_some (by rw [HA.out]; omega))
          have zi := itoa_size R0.out
          have zl : (st l).size ≤ 80 := by rw [st_size]; omega
          go_wp2_with (go_at_call 47; ((with_reducible refine (IT.out a R0.out _ hbw).mono ?_); rintro e w3 ⟨rfl, hb3⟩))
          go_roundw
          case rel => exact ⟨1, l ++ 32 :: Lib.itoa a, by omega, by omega, rfl, str_add _ _, by rw [List.length_append, List.length_cons]; rw [st_size] at zi; omega, HP2, (hb3.cell (cell_lt D0.out)).trans D0.out, (hb3.cell (cell_lt D1.out)).trans D1.out, (hb3.cell (cell_lt D2.out)).trans D2.out, hbw.trans (hb3.mono hbw.size)⟩
          case measure => simp [intOf]
        · have hd : decide (0 < A) = false := decide_eq_false hl
          have HP2 : Hid (l = Pf k a b i 1) := Lib.hid (by rw [hp.out]; exact pf_0_none (by rw [HA.out]; omega))
          go_wp2_with fail
          go_roundw
          case rel => exact ⟨1, l, by omega, by omega, rfl, rfl, by omega, HP2, D0.out, D1.out, D2.out, hbw⟩
          case measure => simp [intOf]
      · have D0 := Lib.hid d0
        have D1 := Lib.hid d1
        have D2 := Lib.hid d2
        clear d0 d2
        have i1 := fun wx => ix1 A B I wx
        by_cases hl : 0 < B
        · have hd : decide (0 < B) = true := decide_eq_true hl
          have HP2 : Hid (l ++ 32 :: Lib.itoa b = Pf k a b i 2) := Lib.hid (by rw [hp.out]; exact pf_1_some (by rw [HB.out]; omega))
          have zi := itoa_size R1.out
          have zl : (st l).size ≤ 80 := by rw [st_size]; omega
          go_wp2_with (go_at_call 47; ((with_reducible refine (IT.out b R1.out _ hbw).mono ?_); rintro e w3 ⟨rfl, hb3⟩))
          go_roundw
          case rel => exact ⟨2, l ++ 32 :: Lib.itoa b, by omega, by omega, rfl, str_add _ _, by rw [List.length_append, List.length_cons]; rw [st_size] at zi; omega, HP2, (hb3.cell (cell_lt D0.out)).trans D0.out, (hb3.cell (cell_lt D1.out)).trans D1.out, (hb3.cell (cell_lt D2.out)).trans D2.out, hbw.trans (hb3.mono hbw.size)⟩
          case measure => simp [intOf]
        · have hd : decide (0 < B) = false := decide_eq_false hl
          have HP2 : Hid (l = Pf k a b i 2) := Lib.hid (by rw [hp.out]; exact pf_1_none (by rw [HB.out]; omega))
          go_wp2_with fail
          go_roundw
          case rel => exact ⟨2, l, by omega, by omega, rfl, rfl, by omega, HP2, D0.out, D1.out, D2.out, hbw⟩
          case measure => simp [intOf]
      · have D0 := Lib.hid d0
        have D1 := Lib.hid d1
        have D2 := Lib.hid d2
        clear d0 d1
        have i2 := fun wx => ix2 A B I wx
        by_cases hl : 0 < I
        · have hd : decide (0 < I) = true := decide_eq_true hl
          have HP2 : Hid (l ++ 32 :: Lib.itoa i = Pf k a b i 3) := Lib.hid (by rw [hp.out]; exact pf_2_some (by rw [HI.out]; omega))
          have zi := itoa_size R2.out
          have zl : (st l).size ≤ 80 := by rw [st_size]; omega
          go_wp2_with (go_at_call 47; ((with_reducible refine (IT.out i R2.out _ hbw).mono ?_); rintro e w3 ⟨rfl, hb3⟩))
          go_roundw
          case rel => exact ⟨3, l ++ 32 :: Lib.itoa i, by omega, by omega, rfl, str_add _ _, by rw [List.length_append, List.length_cons]; rw [st_size] at zi; omega, HP2, (hb3.cell (cell_lt D0.out)).trans D0.out, (hb3.cell (cell_lt D1.out)).trans D1.out, (hb3.cell (cell_lt D2.out)).trans D2.out, hbw.trans (hb3.mono hbw.size)⟩
          case measure => simp [intOf]
        · have hd : decide (0 < I) = false := decide_eq_false hl
          have HP2 : Hid (l = Pf k a b i 3) := Lib.hid (by rw [hp.out]; exact pf_2_none (by rw [HI.out]; omega))
          go_wp2_with fail
          go_roundw
          case rel => exact ⟨3, l, by omega, by omega, rfl, rfl, by omega, HP2, D0.out, D1.out, D2.out, hbw⟩
          case measure => simp [intOf]
      · clear d0 d1 d2
        go_wp2_with fail
        go_ret2
        exact ⟨ret_se (by rw [hp.out]; rfl), hbw⟩
end Go.Proofs.YtgnpbedhpkmkfaaDoor.IsaN
