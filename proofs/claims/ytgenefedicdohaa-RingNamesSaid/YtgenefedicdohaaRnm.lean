/-
  RingNames: the walk.
-/
import Derived.Test.YtgenefedicdohaaRal
namespace Go.Proofs.Ytgenefedicdohaa.Rnm
open Go Go.RowKit Go.Shelf Kit Bk Rgm Rgt Rgw Rgp Rgn Rst Ral
set_option linter.unusedVariables false

/-- The law's two rings. -/
structure Two (w W : World) (r z : Nat) : Prop where
  bel : Below w.heap.size w W
  one : Rg W r 3 [97, 98, 99]
  two : Rg W z 0 []
  lr : w.heap.size ≤ r
  lz : w.heap.size ≤ z
  ne : r ≠ z
theorem Two.below {w W W' : World} {r z : Nat} (h : Two w W r z) (hb : Below W.heap.size W W') : Two w W' r z := ⟨h.bel.trans (hb.mono h.bel.size), h.one.below hb, h.two.below hb, h.lr, h.lz, h.ne⟩
theorem Two.kr {w W W' : World} {r z : Nat} (h : Two w W r z) (hk : Kp (fun j => j = r) W W') (hr : Rg W' r 3 [97, 98, 99]) : Two w W' r z := ⟨h.bel.trans (hk.below h.bel.size (fun j e => by have := h.lr; omega)), hr, h.two.kept hk (fun e => h.ne e.symm), h.lr, h.lz, h.ne⟩
theorem Two.kz {w W W' : World} {r z : Nat} (h : Two w W r z) (hk : Kp (fun j => j = z) W W') (hz : Rg W' z 0 []) : Two w W' r z := ⟨h.bel.trans (hk.below h.bel.size (fun j e => by have := h.lz; omega)), h.one.kept hk h.ne, hz, h.lr, h.lz, h.ne⟩
theorem Two.alloc {w W : World} {r z : Nat} (h : Two w W r z) (o : Obj) : Two w (W.alloc o) r z := h.below ((Below.refl _ _).alloc (Nat.le_refl _) _)

theorem of_lit (w : World) (C : Nat) (N : Int) (hN : N = (C : Int)) (v : Value) (ys : List Nat) (hs : Slc .u8 w v ys) (hC : 1 ≤ C ∧ C ≤ 64) (hy : ys.length ≤ C) :
    Calls Try.prog 9 #[.int .i64 N, v] w fun e w' => e = .returned (.tuple #[.pointer (some ⟨w.heap.size, 0, none⟩), .int .i64 0]) ∧ Below w.heap.size w w' ∧ Rg w' w.heap.size C ys := by
  subst hN
  exact of_ok w C v ys hs hC hy
set_option maxRecDepth 100000 in
set_option maxHeartbeats 4000000 in
theorem names_any (w : World) :
    Calls Try.prog 4 #[] w fun e w' => e = .returned (.bool true) ∧ Below w.heap.size w w' := by
  have kc := fun (w : World) (C : Array Value) (n c : Nat) => Lib.run_convert_bytes_const (P := Try.prog) w 22 5 C n c Try.underlying22 Try.underlying5
  have HO1 := Lib.hid (of_bad (w.alloc (.cells #[.int .u8 97, .int .u8 98, .int .u8 99] 5 (3, 4))) 2 (some ⟨w.heap.size, 0, none⟩) 3 3 (by omega))
  have HN1 := Lib.hid (fun w => new_bad w 65 (by omega))
  have HN2 := Lib.hid (fun w => new_bad w 0 (by omega))
  have hz := run_zeroR
  have HB1 : Hid (Below w.heap.size w (w.alloc (.cells #[.int .u8 97, .int .u8 98, .int .u8 99] 5 (3, 4)))) := Lib.hid ((Below.refl _ _).alloc (Nat.le_refl _) _)
  go_enter Try.func4, Try.ntmps4
  go_wp2_with (first | (go_at_call 9; (with_reducible refine HO1.out.mono ?_); rintro e w1 ⟨rfl, rfl⟩; refine Hid.out ?_))
  refine Lib.hid ?_
  generalize w.alloc (.cells #[.int .u8 97, .int .u8 98, .int .u8 99] 5 (3, 4)) = w1 at HB1 ⊢
  clear HO1
  have HO2 := Lib.hid (of_lit (w1.alloc (.cells #[.int .u8 97, .int .u8 98, .int .u8 99] 5 (3, 4))) 3 3 rfl (.slice (some ⟨w1.heap.size, 0, none⟩) 3 3) [97, 98, 99] (lit_slc (n := 3) rfl rfl (by decide)) ⟨by omega, by omega⟩ (by decide))
  go_wp2_with (first | (go_at_call 22; (with_reducible refine (HN1.out _).mono ?_); rintro e w2 ⟨rfl, rfl⟩) | (go_at_call 22; (with_reducible refine (HN2.out _).mono ?_); rintro e w2 ⟨rfl, rfl⟩) | (go_at_call 9; (with_reducible refine HO2.out.mono ?_); rintro e w2 ⟨rfl, hb, hr⟩; refine Hid.out ?_))
  refine Lib.hid ?_
  have hS : Two w (w2.alloc (.cells (rz 0) 45)) (w1.alloc (.cells #[.int .u8 97, .int .u8 98, .int .u8 99] 5 (3, 4))).heap.size w2.heap.size := by
    have h1 := hb.size
    have h2 := HB1.out.size
    have h3 := hr.lt
    have h4 := HB1.out.alloc h2 (.cells #[.int .u8 97, .int .u8 98, .int .u8 99] 5 (3, 4))
    have h5 := h4.trans (hb.mono h4.size)
    have hb6 := (Below.refl w2.heap.size w2).alloc (Nat.le_refl _) (.cells (rz 0) 45)
    exact ⟨h5.trans (hb6.mono h5.size), hr.below hb6, ⟨_, 0, Blk.new _ _ _, rz_lay 0 (by omega)⟩, h4.size, h5.size, by omega⟩
  have HS := Lib.hid hS
  have hRp : (w1.alloc (.cells #[.int .u8 97, .int .u8 98, .int .u8 99] 5 (3, 4))).heap.size = w1.heap.size + 1 := by simp
  rw [hRp] at HS
  try rw [hRp]
  clear hS hb hr HO2 HN1 HN2 HB1 hRp
  generalize rz 0 = Z at *
  obtain ⟨r, hr⟩ : ∃ r, w1.heap.size + 1 = r := ⟨_, rfl⟩
  rw [hr] at HS ⊢
  clear hr
  obtain ⟨z, hzz⟩ : ∃ z, w2.heap.size = z := ⟨_, rfl⟩
  rw [hzz] at HS
  have HA : Hid (∀ W, Two w W r z → Calls Try.prog 23 #[] W fun e w' => e = .returned (.bool true) ∧ Two w w' r z) := Lib.hid (fun W h => (alive_any W).mono fun e w' ⟨h1, h2⟩ => ⟨h1, h.below h2⟩)
  have HP1 : Hid (∀ W, Two w W r z → Calls Try.prog 15 #[.pointer (some ⟨r, 0, none⟩), .int .i64 9] W fun e w' => Two w w' r z ∧ ∃ ad cap, e = .returned (.slice ad 3 cap) ∧ (convert 22 9 (.slice ad 3 cap)).run Try.prog w' = .ok (.string ⟨#[97, 98, 99]⟩) w') := Lib.hid (fun W h => (peek_lit (n := 3) (ys := [97, 98, 99]) (tells_ring h.one) rfl rfl).mono fun e w' ⟨h1, r, h2, h3⟩ => by
    obtain ⟨ad, cap, rfl⟩ := row_form h3
    exact ⟨h.below h1, ad, cap, h2, slc_string (own_slc h3)⟩)
  have HR1 : Hid (∀ W, Two w W r z → Calls Try.prog 13 #[.pointer (some ⟨r, 0, none⟩), .int .i64 0] W fun e w' => Two w w' r z ∧ ∃ ad cap, e = .returned (.slice ad 0 cap)) := Lib.hid (fun W h => (read_lit (n := 0) (ys := []) (zs := [97, 98, 99]) h.one rfl rfl rfl).mono fun e w' ⟨h1, h2, r, h3, h4⟩ => by
    obtain ⟨ad, cap, rfl⟩ := row_form h4
    exact ⟨h.kr h1 h2, ad, cap, h3⟩)
  have HP2 : Hid (∀ W, Two w W r z → Calls Try.prog 15 #[.pointer (some ⟨r, 0, none⟩), .int .i64 (-1)] W fun e w' => Two w w' r z ∧ ∃ ad cap, e = .returned (.slice ad 0 cap)) := Lib.hid (fun W h => (peek_lit (n := 0) (ys := []) (tells_ring h.one) rfl rfl).mono fun e w' ⟨h1, r, h2, h3⟩ => by
    obtain ⟨ad, cap, rfl⟩ := row_form h3
    exact ⟨h.below h1, ad, cap, h2⟩)
  have HR2 : Hid (∀ W, Two w W r z → Calls Try.prog 13 #[.pointer (some ⟨z, 0, none⟩), .int .i64 1] W fun e w' => Two w w' r z ∧ ∃ ad cap, e = .returned (.slice ad 0 cap)) := Lib.hid (fun W h => (read_lit (n := 0) (ys := []) (zs := []) h.two rfl rfl rfl).mono fun e w' ⟨h1, h2, r, h3, h4⟩ => by
    obtain ⟨ad, cap, rfl⟩ := row_form h4
    exact ⟨h.kz h1 h2, ad, cap, h3⟩)
  have HAl : Hid (∀ W, Two w W r z → Calls Try.prog 18 #[.pointer none] W fun e w' => Two w w' r z ∧ ∃ ad cap, e = .returned (.slice ad 0 cap)) := Lib.hid (fun W h => (all_lit (n := 0) (tells_none W) rfl).mono fun e w' ⟨h1, r, h2, h3⟩ => by
    obtain ⟨ad, cap, rfl⟩ := row_form h3
    exact ⟨h.below h1, ad, cap, h2⟩)
  have HLn : Hid (∀ W, Two w W r z → Calls Try.prog 19 #[.pointer (some ⟨z, 0, none⟩)] W fun e w' => e = .returned (.int .i64 0) ∧ W = w') := Lib.hid (fun W h => len_any W z 0 [] h.two)
  have HCp : Hid (∀ W, Two w W r z → Calls Try.prog 21 #[.pointer (some ⟨z, 0, none⟩)] W fun e w' => e = .returned (.int .i64 0) ∧ W = w') := Lib.hid (fun W h => cap_any W z 0 [] h.two)
  go_wp2_with (first | (go_at_call 23; (with_reducible refine (HA.out _ HS.out).mono ?_); rintro e w3 ⟨rfl, h⟩; replace HS := Lib.hid h; clear h) | (go_at_call 15; (with_reducible refine (HP1.out _ HS.out).mono ?_); rintro e w4 ⟨h, ad, cap, rfl, cv⟩; replace HS := Lib.hid h; clear h) | (go_at_call 13; (with_reducible refine (HR1.out _ HS.out).mono ?_); rintro e w5 ⟨h, ad5, cap5, rfl⟩; replace HS := Lib.hid h; clear h) | (go_at_call 15; (with_reducible refine (HP2.out _ HS.out).mono ?_); rintro e w6 ⟨h, ad6, cap6, rfl⟩; replace HS := Lib.hid h; clear h) | (go_at_call 11; (with_reducible refine (write_nil _ _ 1 1 (by decide) (by decide)).mono ?_); rintro e w7 ⟨rfl, rfl⟩; replace HS := Lib.hid (HS.out.alloc (.cells #[.int .u8 97] 5 (1, 2)))) | (go_at_call 13; (with_reducible refine (HR2.out _ HS.out).mono ?_); rintro e w8 ⟨h, ad8, cap8, rfl⟩; replace HS := Lib.hid h; clear h) | (go_at_call 18; (with_reducible refine (HAl.out _ HS.out).mono ?_); rintro e w9 ⟨h, ad9, cap9, rfl⟩; replace HS := Lib.hid h; clear h) | (go_at_call 19; (with_reducible refine (HLn.out _ HS.out).mono ?_); rintro e wa ⟨rfl, rfl⟩) | (go_at_call 20; (with_reducible refine (room_nil _).mono ?_); rintro e wb ⟨rfl, rfl⟩) | (go_at_call 21; (with_reducible refine (HCp.out _ HS.out).mono ?_); rintro e wc ⟨rfl, rfl⟩) | (go_at_call 17; (with_reducible refine (copy_nil _).mono ?_); rintro e wd ⟨rfl, rfl⟩))
  go_ret
  exact ⟨rfl, HS.out.bel⟩
end Go.Proofs.Ytgenefedicdohaa.Rnm
namespace Go.Proofs.Ytgenefedicdohaa.Walk
open Go Go.RowKit
theorem ringNames (w : World) : Calls Try.prog 4 #[] w fun e w' => e = .returned (.bool true) ∧ Below w.heap.size w w' := Rnm.names_any w
end Go.Proofs.Ytgenefedicdohaa.Walk
