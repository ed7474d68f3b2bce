/-
  The chapter's examples.
-/
import Derived.Test.YtocbilaaklapkaaDoorIsaV
namespace Go.Proofs.YtocbilaaklapkaaDoor.IsaX
open Go Go.RowKit Go.Shelf Kit IsaM IsaT IsaL IsaC IsaE IsaN IsaD IsaA IsaW IsaS IsaP IsaR IsaB IsaF IsaG IsaH IsaI IsaJ IsaK IsaQ IsaU IsaV
set_option linter.unusedVariables false

/-- Assemble where the text is right: the words lie in a row. -/
theorem asm_yes (s : ByteArray) (hs : s.size ≤ 100000) (ws : List Nat) (h : asm s.data.toList = .inr ws) (w : World) (hTb : Tabs w) (hMb : Ml w) :
    Calls Tryd.prog 22 #[.string s] w fun e W' => Below w.heap.size w W' ∧ ∃ r, e = .returned (.tuple #[r, .int .i64 0, .int .i64 0]) ∧ W'.ownsRow w.heap.size 24 1 r ws.length (u32s ws) ∧ (∀ x ∈ ws, x < 4294967296) ∧ ws.length ≤ 512 :=
  (asm_any s hs w hTb hMb).mono fun e W' hR => ⟨hR.1, hR.2.2 ws h⟩
theorem asm_no (s : ByteArray) (hs : s.size ≤ 100000) (n : Nat) (h : asm s.data.toList = .inl n) (w : World) (hTb : Tabs w) (hMb : Ml w) :
    Calls Tryd.prog 22 #[.string s] w fun e W' => Below w.heap.size w W' ∧ e = .returned (.tuple #[.slice none 0 0, .int .i64 (n : Int), .int .i64 31]) :=
  (asm_any s hs w hTb hMb).mono fun e W' hR => ⟨hR.1, (hR.2.1 n h).1⟩
theorem asm_alive : asm [97, 58, 10, 108, 105, 32, 49, 32, 53, 10, 106, 110, 122, 32, 49, 32, 97, 10, 106, 109, 112, 32, 98, 10, 98, 58, 10, 115, 121, 115, 10] = .inr [0x01100005, 0x1510FFFE, 0x13000000, 0x18000000] := by kernel_rfl
theorem row_cells {w : World} {base : Nat} {r : Value} {ws : List Nat} (h : w.ownsRow base 24 1 r ws.length (u32s ws)) (hn : 0 < ws.length) :
    ∃ g cap, r = .slice (some ⟨g, 0, none⟩) ws.length cap ∧ base ≤ g ∧ ws.length ≤ cap ∧ cap ≤ maxLen ∧ (∃ cur, Blk w g cur 24) ∧ (∀ (i x : Nat), ws[i]? = some x → w.cell? ⟨g, i, none⟩ = some (.int .u32 (x : Int))) := by
  obtain ⟨ad, cap, rfl⟩ := row_form h
  obtain ⟨g, cur, rfl, h1, h2, h3, h4, h5, h6⟩ := row_at h hn
  refine ⟨g, cap, rfl, h1, h2, h3, ⟨cur, h4⟩, fun i x hx => ?_⟩
  have hi : i < ws.length := (List.getElem?_eq_some_iff.1 hx).1
  rw [h6 i (by omega)]
  unfold u32s
  rw [List.getElem?_map, hx]
  rfl

theorem dec_at (n : Nat) (z : Int) (v : Value) (hn : n < 4294967296) (hz : (n : Int) = z) (hv : decV n = v) (w : World) (hT : Tabs w) :
    Calls Tryd.prog 14 #[.int .u32 z] w fun e w' => e = .returned v ∧ Below w.heap.size w w' := by
  subst hz hv
  exact decode_any n hn w hT

set_option maxRecDepth 100000 in
set_option maxHeartbeats 2000000 in
theorem alive_any (w : World) (hT : Tabs w) (hM : Ml w) :
    Calls Tryd.prog 28 #[] w fun e w' => e = .returned (.bool true) ∧ Below w.heap.size w w' := by
  have HE := Lib.hid (fun wx hx => encode_yes 1 1 0 (-1) (by decide) wx hx)
  rw [show enc 1 1 0 (-1) = 17891327 by decide] at HE
  have HD1 := Lib.hid (fun wx hx => dec_at 402653184 402653184 (.tuple #[insV 24 0 0 0, .int .i64 0]) (by decide) rfl (by kernel_rfl) wx hx)
  have HD2 := Lib.hid (fun wx hx => dec_at 0x1510FFFE 0x1510FFFE (.tuple #[insV 21 1 0 (-2), .int .i64 0]) (by decide) rfl (by kernel_rfl) wx hx)
  have HD3 := Lib.hid (fun wx hx => dec_at 0x13000000 0x13000000 (.tuple #[insV 19 0 0 0, .int .i64 0]) (by decide) rfl (by kernel_rfl) wx hx)
  have HA := Lib.hid (fun wx hx hy => asm_yes ⟨#[97, 58, 10, 108, 105, 32, 49, 32, 53, 10, 106, 110, 122, 32, 49, 32, 97, 10, 106, 109, 112, 32, 98, 10, 98, 58, 10, 115, 121, 115, 10]⟩ (by decide) _ asm_alive wx hx hy)
  have HT := Lib.hid hT
  have HM := Lib.hid hM
  clear hT hM
  unfold insV at HE HD1 HD2 HD3
  go_enter Tryd.func28, Tryd.ntmps28
  go_wp2_with (first | (go_at_call 12; ((with_reducible refine (HE.out _ HT.out).mono ?_); rintro e w1 ⟨rfl, hb1⟩)) | (go_at_call 14; ((with_reducible refine (HD1.out _ (HT.out.below hb1)).mono ?_); rintro e w2 ⟨rfl, hb2⟩; refine Hid.out ?_)))
  refine Lib.hid ?_
  have B2 := hb1.trans (hb2.mono hb1.size)
  have J2 := Blk.new w2 #[.int .i64 24, .int .i64 0, .int .i64 0, .int .i64 0] 23
  have B3 := B2.alloc B2.size (.cells #[.int .i64 24, .int .i64 0, .int .i64 0, .int .i64 0] 23)
  go_wp2_with (first | (go_at_call 22; ((with_reducible refine (HA.out _ (HT.out.below B3) (HM.out.below B3)).mono ?_); rintro e w3 ⟨hb3, r, rfl, hrow, -, -⟩; refine Hid.out ?_)))
  refine Lib.hid ?_
  obtain ⟨g, cap, rfl, hg, hcap, hmax, ⟨cur, hbg⟩, hcs⟩ := row_cells hrow (by simp)
  have B4 := B3.trans (hb3.mono B3.size)
  have J3 := J2.below hb3
  have hlt := hbg.lt
  have c1 := hcs 1 _ rfl
  have c2 := hcs 2 _ rfl
  unfold maxLen at hmax
  simp only [List.length_cons, List.length_nil, Nat.reduceAdd] at hcap hmax
  clear hcs hrow
  go_wp2_with (first | (go_at_call 14; ((with_reducible refine (HD2.out _ (HT.out.below B4)).mono ?_); rintro e w4 ⟨rfl, hb4⟩; refine Hid.out ?_)))
  refine Lib.hid ?_
  have B5 := B4.trans (hb4.mono B4.size)
  have J4 := J3.below hb4
  have K4 := Blk.new w4 #[.int .i64 21, .int .i64 1, .int .i64 0, .int .i64 (-2)] 23
  have B6 := B5.alloc B5.size (.cells #[.int .i64 21, .int .i64 1, .int .i64 0, .int .i64 (-2)] 23)
  have c2' := (hb4.cell (p := ⟨g, 2, none⟩) hlt).trans c2
  have hlt4 : g < w4.heap.size := Nat.lt_of_lt_of_le hlt hb4.size
  go_wp2_with (first | (go_at_call 14; ((with_reducible refine (HD3.out _ (HT.out.below B6)).mono ?_); rintro e w5 ⟨rfl, hb5⟩; refine Hid.out ?_)))
  refine Lib.hid ?_
  have B7 := B6.trans (hb5.mono B6.size)
  have J5 := (J4.below ((Below.refl _ w4).alloc (Nat.le_refl _) (.cells #[.int .i64 21, .int .i64 1, .int .i64 0, .int .i64 (-2)] 23))).below hb5
  have K5 := K4.below hb5
  have q1 := J5.cell 0
  have q2 := K5.cell 3
  have l1 := J5.lt
  have l2 := K5.lt
  go_wp2
  go_ret
  exact ⟨rfl, B7.alloc B7.size _⟩
#print axioms alive_any
end Go.Proofs.YtocbilaaklapkaaDoor.IsaX
