/-
  Text of package gauss: the text of any complex128, or nothing of none.
-/
import Derived.Test.YtlplcacmmckpaaaDoorTabs
import Derived.Test.YtlplcacmmckpaaaDoorGg
import Derived.Test.YtlplcacmmckpaaaDoorShelf
import Derived.WalkSpells
import Derived.BigRegion
import Derived.BigQuiet
import Derived.Deep.RegionHeld
import Derived.Lib.ItoaLen
namespace Go.Proofs.YtlplcacmmckpaaaDoor.TextG
open Go Go.RowKit Kit Fl Whole Gleaf Gparts Gwhole Gnums Gg Tabs
set_option linter.unusedVariables false

/-- A whole number's text. -/
def it (n : Int) : ByteArray := ⟨(Lib.itoa n).toArray⟩
/-- A number's text. -/
def txt (p q : Int) : ByteArray := ⟨(Lib.itoa p ++ ((if 0 ≤ q then 43 :: Lib.itoa q else Lib.itoa q) ++ [105])).toArray⟩
theorem app_eq (a b : List UInt8) : (⟨a.toArray⟩ ++ ⟨b.toArray⟩ : ByteArray) = ⟨(a ++ b).toArray⟩ := by
  apply ByteArray.ext
  simp
theorem txt_pos {p q : Int} (h : 0 ≤ q) : it p ++ (⟨#[43]⟩ ++ it q) ++ ⟨#[105]⟩ = txt p q := by
  unfold it txt
  rw [if_pos h, show (⟨#[43]⟩ : ByteArray) = ⟨[43].toArray⟩ from rfl, show (⟨#[105]⟩ : ByteArray) = ⟨[105].toArray⟩ from rfl, app_eq, app_eq, app_eq]
  simp
theorem txt_neg {p q : Int} (h : ¬ 0 ≤ q) : it p ++ it q ++ ⟨#[105]⟩ = txt p q := by
  unfold it txt
  rw [if_neg h, show (⟨#[105]⟩ : ByteArray) = ⟨[105].toArray⟩ from rfl, app_eq, app_eq]
  simp

theorem it_size {n : Int} (hn : -524288 ≤ n ∧ n ≤ 524287) : (it n).size ≤ 21 := by
  have h := Lib.itoa_length_le n (by omega) (by omega)
  unfold it
  show (Lib.itoa n).toArray.size ≤ 21
  simpa using h
theorem grow_below {w : World} {k : Nat} {os : Array Obj} : Below w.heap.size w (Sort.grow (w.drewN k) os) :=
  ⟨rfl, rfl, rfl, by show w.heap.size ≤ (w.heap ++ os).size; simp, fun j hj => by show (w.heap ++ os)[j]? = w.heap[j]?; rw [Array.getElem?_append_left hj]⟩

theorem fmt_any (n : Int) (hn : -524288 ≤ n ∧ n ≤ 524287) (w : World) (hT : Tabs w) :
    Calls Tryd.prog 29 #[.int .i64 n, .int .i64 10] w fun e w' => e = .returned (.string (it n)) ∧ Below w.heap.size w w' :=
  (Shl.strconv_FormatInt_10 n (by omega) (by omega) w hT.pow).mono fun e w' ⟨he, k, os, hw⟩ => ⟨he, by rw [hw]; exact grow_below⟩

/-- What Text answers. -/
def textS (a b : Nat) : ByteArray := if isN a b then txt (re a b) (im a b) else ⟨#[]⟩

set_option maxHeartbeats 2000000 in
theorem text_any (a b : Nat) (w : World) (hT : Tabs w) :
    Calls Tryd.prog 14 #[.complex .f64 a b] w fun e w' => e = .returned (.string (textS a b)) ∧ Below w.heap.size w w' := by
  have hW := fun wx => whole_any a b wx
  have HW := Lib.hid hW
  clear hW
  cases hN : isN a b with
  | false =>
    have hs : textS a b = ⟨#[]⟩ := by unfold textS; rw [hN]; rfl
    have hr : re a b = 0 := by unfold re; rw [hN]; rfl
    have hi : im a b = 0 := by unfold im; rw [hN]; rfl
    rw [hs]
    have hW : ∀ wx, Calls Tryd.prog 28 #[.complex .f64 a b] wx fun e w' => e = .returned (.tuple #[.agg #[.int .i64 0, .int .i64 0], .bool false]) ∧ Below wx.heap.size wx w' := fun wx => by
      have := HW.out wx
      rwa [hN, hr, hi] at this
    have HW2 := Lib.hid hW
    clear hW HW hs hr hi hN
    go_enter Tryd.func14, Tryd.ntmps14
    go_wp2_with (first | (go_at_call 28; ((with_reducible refine (HW2.out _).mono ?_); rintro e w1 ⟨rfl, hb⟩)))
    go_ret
    exact ⟨rfl, hb.alloc hb.size _⟩
  | true =>
    obtain ⟨p, hp⟩ : ∃ p, re a b = p := ⟨_, rfl⟩
    obtain ⟨q, hq⟩ : ∃ q, im a b = q := ⟨_, rfl⟩
    have hs : textS a b = txt p q := by unfold textS; rw [hN, if_pos rfl, hp, hq]
    rw [hs]
    have rp := re_range a b
    have rq := im_range a b
    rw [hp] at rp
    rw [hq] at rq
    have hW : ∀ wx, Calls Tryd.prog 28 #[.complex .f64 a b] wx fun e w' => e = .returned (.tuple #[.agg #[.int .i64 p, .int .i64 q], .bool true]) ∧ Below wx.heap.size wx w' := fun wx => by
      have := HW.out wx
      rwa [hN, hp, hq] at this
    have HW2 := Lib.hid hW
    have FP := Lib.hid (fun wx (h : Tabs wx) => fmt_any p rp wx h)
    have FQ := Lib.hid (fun wx (h : Tabs wx) => fmt_any q rq wx h)
    have zp := it_size rp
    have zq := it_size rq
    clear hW HW hs hp hq hN rp rq
    by_cases h0 : 0 ≤ q
    · go_enter Tryd.func14, Tryd.ntmps14
      go_wp2_with (first | (go_at_call 28; ((with_reducible refine (HW2.out _).mono ?_); rintro e w1 ⟨rfl, hb⟩)))
      have hB0 : Below w.heap.size w (w1.alloc (.cells #[.int .i64 p, .int .i64 q] 55)) := hb.alloc hb.size _
      have k0 : ∀ w', Below (w1.alloc (.cells #[.int .i64 p, .int .i64 q] 55)).heap.size (w1.alloc (.cells #[.int .i64 p, .int .i64 q] 55)) w' → w'.cell? ⟨w1.heap.size, 0, none⟩ = some (.int .i64 p) ∧ w'.cell? ⟨w1.heap.size, 1, none⟩ = some (.int .i64 q) := fun w' h =>
        ⟨(h.cell (p := ⟨w1.heap.size, 0, none⟩) (by simp)).trans (by unfold World.cell?; rw [World.alloc_heap_new]; rfl), (h.cell (p := ⟨w1.heap.size, 1, none⟩) (by simp)).trans (by unfold World.cell?; rw [World.alloc_heap_new]; rfl)⟩
      have K0 := Lib.hid k0
      clear k0
      obtain ⟨W1, hW1⟩ : ∃ W1, w1.alloc (.cells #[.int .i64 p, .int .i64 q] 55) = W1 := ⟨_, rfl⟩
      rw [hW1] at hB0 K0 ⊢
      clear hW1
      have T0 : Tabs W1.drew := (hT.below hB0).drewN 1
      have B0 : Below W1.heap.size W1 W1.drew := (Below.refl _ W1).drew
      go_region_held (fun w' => w'.cell? ⟨w1.heap.size, 0, none⟩ = some (.int .i64 p) ∧ w'.cell? ⟨w1.heap.size, 1, none⟩ = some (.int .i64 q)) (exact K0.out _ (by first | exact B2 | exact B1 | exact B0))
        (first
          | (go_at_call 29; ((with_reducible refine (FP.out _ (by first | exact T1 | exact T0)).mono ?_); rintro e w3 ⟨rfl, hb3⟩; have B1 := bel' B0 hb3; have T1 := T0.below hb3))
          | (go_at_call 29; ((with_reducible refine (FQ.out _ (by first | exact T1 | exact T0)).mono ?_); rintro e w4 ⟨rfl, hb4⟩; have B2 := bel' B1 hb4)))
      all_goals go_wp2
      all_goals go_ret
      all_goals exact ⟨by show Ending.returned (.string _) = _; exact congrArg (fun x => Ending.returned (.string x)) (txt_pos h0), hB0.trans (B2.mono hB0.size)⟩
    · go_enter Tryd.func14, Tryd.ntmps14
      go_wp2_with (first | (go_at_call 28; ((with_reducible refine (HW2.out _).mono ?_); rintro e w1 ⟨rfl, hb⟩)))
      have hB0 : Below w.heap.size w (w1.alloc (.cells #[.int .i64 p, .int .i64 q] 55)) := hb.alloc hb.size _
      have k0 : ∀ w', Below (w1.alloc (.cells #[.int .i64 p, .int .i64 q] 55)).heap.size (w1.alloc (.cells #[.int .i64 p, .int .i64 q] 55)) w' → w'.cell? ⟨w1.heap.size, 0, none⟩ = some (.int .i64 p) ∧ w'.cell? ⟨w1.heap.size, 1, none⟩ = some (.int .i64 q) := fun w' h =>
        ⟨(h.cell (p := ⟨w1.heap.size, 0, none⟩) (by simp)).trans (by unfold World.cell?; rw [World.alloc_heap_new]; rfl), (h.cell (p := ⟨w1.heap.size, 1, none⟩) (by simp)).trans (by unfold World.cell?; rw [World.alloc_heap_new]; rfl)⟩
      have K0 := Lib.hid k0
      clear k0
      obtain ⟨W1, hW1⟩ : ∃ W1, w1.alloc (.cells #[.int .i64 p, .int .i64 q] 55) = W1 := ⟨_, rfl⟩
      rw [hW1] at hB0 K0 ⊢
      clear hW1
      have T0 : Tabs W1.drew := (hT.below hB0).drewN 1
      have B0 : Below W1.heap.size W1 W1.drew := (Below.refl _ W1).drew
      go_region_held (fun w' => w'.cell? ⟨w1.heap.size, 0, none⟩ = some (.int .i64 p) ∧ w'.cell? ⟨w1.heap.size, 1, none⟩ = some (.int .i64 q)) (exact K0.out _ (by first | exact B2 | exact B1 | exact B0))
        (first
          | (go_at_call 29; ((with_reducible refine (FP.out _ (by first | exact T1 | exact T0)).mono ?_); rintro e w3 ⟨rfl, hb3⟩; have B1 := bel' B0 hb3; have T1 := T0.below hb3))
          | (go_at_call 29; ((with_reducible refine (FQ.out _ (by first | exact T1 | exact T0)).mono ?_); rintro e w4 ⟨rfl, hb4⟩; have B2 := bel' B1 hb4)))
      all_goals go_wp2
      all_goals go_ret
      all_goals exact ⟨by show Ending.returned (.string _) = _; exact congrArg (fun x => Ending.returned (.string x)) (txt_neg (by omega)), hB0.trans (B2.mono hB0.size)⟩
#print axioms text_any
end Go.Proofs.YtlplcacmmckpaaaDoor.TextG
