/-
  PipeNames: the walk.
-/
import Derived.Test.YtfpdbcjnhgddoaaPal
namespace Go.Proofs.Ytfpdbcjnhgddoaa.Pnm
open Go Go.RowKit Go.Shelf Kit Bk Rgm Rgt Rgw Rgp Rgn Rst Pm Pw Px Pr Ps Po Pn Pal
set_option linter.unusedVariables false

theorem pread_nil (w : World) (n : Value) : Calls Try.prog 14 #[.pointer none, n] w fun e w' => e = .returned (.tuple #[.slice none 0 0, .int .i64 0, .int .i64 1]) ∧ w = w' := by
  go_enter Try.func14, Try.ntmps14
  go_wp2_with (first | (go_at_call 34; (with_reducible refine (made_nil _).mono ?_); rintro e w1 ⟨rfl, rfl⟩))
  go_ret3
  exact ⟨rfl, rfl⟩
theorem pwrite_zero (w : World) (p : Nat) (a b v : Value) (hb : Blk w p #[.pointer none, a, b] 65) : Calls Try.prog 12 #[.pointer (some ⟨p, 0, none⟩), v] w fun e w' => e = .returned (.tuple #[.int .i64 0, .int .i64 0, .int .i64 1]) ∧ w = w' := by
  have HM := Lib.hid (made_zero w p a b hb)
  clear hb
  go_enter Try.func12, Try.ntmps12
  go_wp2_with (first | (go_at_call 34; (with_reducible refine HM.out.mono ?_); rintro e w1 ⟨rfl, rfl⟩))
  go_ret3
  exact ⟨rfl, rfl⟩
/-- The pipe that nobody made. -/
structure Zr (w W : World) (z : Nat) : Prop where
  bel : Below w.heap.size w W
  blk : Blk W z #[.pointer none, .int .i64 0, .int .i64 0] 65
theorem Zr.below {w W W' : World} {z : Nat} (h : Zr w W z) (hb : Below W.heap.size W W') : Zr w W' z := ⟨h.bel.trans (hb.mono h.bel.size), h.blk.below hb⟩

set_option maxRecDepth 100000 in
set_option maxHeartbeats 4000000 in
theorem names_any (w : World) :
    Calls Try.prog 4 #[] w fun e w' => e = .returned (.bool true) ∧ Below w.heap.size w w' := by
  have kc := fun (w : World) (C : Array Value) (n c : Nat) => Lib.run_convert_bytes_const (P := Try.prog) w 22 5 C n c Try.underlying22 Try.underlying5
  have HN : Hid (∀ w, _) := Lib.hid (fun w => pnew_ok w 4 4 rfl ⟨by omega, by omega⟩)
  have HN0 := Lib.hid (fun w => pnew_bad w 0 (by omega))
  have HF1 : Hid (∀ w, Calls Try.prog 10 #[.int .i64 4, .slice none 0 0, .int .i64 0, .int .i64 0] w fun e w' => e = .returned (.tuple #[.pointer none, .int .i64 90]) ∧ Below w.heap.size w w') := Lib.hid (fun w => pof_bad w 4 (.slice none 0 0) [] 0 0 (slc_none w) ⟨by omega, by omega⟩ (by decide) (fun h => h.2.2.2.2 ⟨rfl, rfl⟩))
  have HF2 : Hid (∀ w, Calls Try.prog 10 #[.int .i64 4, .slice none 0 0, .int .i64 65, .int .i64 1] w fun e w' => e = .returned (.tuple #[.pointer none, .int .i64 90]) ∧ Below w.heap.size w w') := Lib.hid (fun w => pof_bad w 4 (.slice none 0 0) [] 65 1 (slc_none w) ⟨by omega, by omega⟩ (by decide) (fun h => by have := h.2.1; omega))
  go_enter Try.func4, Try.ntmps4
  go_wp2_with (go_at_call 28; refine (HN.out _).mono ?_; rintro e w1 ⟨p, r, rfl, hb, hp, hr, hpp⟩; refine Hid.out ?_)
  refine Lib.hid ?_
  have HO : Hid (On w w1 p r 4 [] 1 1) := Lib.hid ⟨hb, hpp, hp, hr⟩
  clear hb hpp hp hr
  have HX := Lib.hid (pclose_lit (s := true) (b := true) (E := 0) (R' := 1) (U' := 0) HO.out.pp rfl rfl rfl rfl)
  go_wp2_with (go_at_call 18; (with_reducible refine HX.out.mono ?_); rintro e w2 ⟨rfl, k2, p2⟩; refine Hid.out ?_)
  refine Lib.hid ?_
  replace HO := Lib.hid (HO.out.step k2 p2)
  clear k2 p2 HX
  have HR := Lib.hid (pread_lit (n := 1) (a := 2) (E := 0) (ys := []) (zs := []) (m := 0) HO.out.pp (by decide) (by decide) (by decide) (by decide) rfl)
  go_wp2_with (go_at_call 14; (with_reducible refine HR.out.mono ?_); rintro e w3 ⟨k2, p2, ad2, cap2, rfl, o2⟩; refine Hid.out ?_)
  refine Lib.hid ?_
  replace HO := Lib.hid (HO.out.step k2 p2)
  clear k2 p2 o2 HR
  have HX := Lib.hid (pclose_lit (s := false) (b := true) (E := 0) (R' := 0) (U' := 0) HO.out.pp rfl rfl rfl rfl)
  go_wp2_with (go_at_call 18; (with_reducible refine HX.out.mono ?_); rintro e w4 ⟨rfl, k2, p2⟩; refine Hid.out ?_)
  refine Lib.hid ?_
  have hpr := p2.ltr
  replace HO := Lib.hid ((HO.out.step k2 p2).alloc (.cells #[.int .u8 97] 5 (1, 2)))
  have HW := Lib.hid (pwrite_lit (ys := [97]) (zs := []) (n := 0) (a := 0) (E := 90) HO.out.pp (lit_src (n := 1) (l := [97]) hpr rfl rfl (by decide)) (by decide) (by decide) (by decide) (by decide))
  clear k2 p2 hpr HX
  go_wp2_with (go_at_call 12; (with_reducible refine HW.out.mono ?_); rintro e w5 ⟨rfl, k3, p3⟩; refine Hid.out ?_)
  refine Lib.hid ?_
  replace HO := Lib.hid (HO.out.step k3 p3)
  have HG := Lib.hid (gone_any w5 p r 4 [] 0 0 p3)
  have HP := Lib.hid (popen_lit (s := true) (E := 90) (R' := 0) (U' := 0) p3 rfl rfl rfl)
  clear k3 p3 HW
  go_wp2_with (first | (go_at_call 25; (with_reducible refine HG.out.mono ?_); rintro e w6 ⟨rfl, rfl⟩) | (go_at_call 16; (with_reducible refine HP.out.mono ?_); rintro e w7 ⟨rfl, k3, p3⟩; refine Hid.out ?_))
  refine Lib.hid ?_
  have HB := Lib.hid (HO.out.step k3 p3).bel
  clear k3 p3 HG HP HO
  go_wp2_with (go_at_call 28; refine (HN.out _).mono ?_; rintro e w8 ⟨q, s, rfl, hb, hp, hr, hpp⟩; refine Hid.out ?_)
  refine Lib.hid ?_
  have HO : Hid (On w w8 q s 4 [] 1 1) := Lib.hid ⟨HB.out.trans (hb.mono HB.out.size), hpp, by have := HB.out.size; omega, by have := HB.out.size; omega⟩
  clear hb hpp hp hr HB
  have HX := Lib.hid (pclose_lit (s := false) (b := true) (E := 0) (R' := 0) (U' := 1) HO.out.pp rfl rfl rfl rfl)
  go_wp2_with (go_at_call 18; (with_reducible refine HX.out.mono ?_); rintro e w9 ⟨rfl, k2, p2⟩; refine Hid.out ?_)
  refine Lib.hid ?_
  have hpr := p2.ltr
  replace HO := Lib.hid ((HO.out.step k2 p2).alloc (.cells #[.int .u8 97] 5 (1, 2)))
  have HW := Lib.hid (pwrite_lit (ys := [97]) (zs := []) (n := 0) (a := 3) (E := 0) HO.out.pp (lit_src (n := 1) (l := [97]) hpr rfl rfl (by decide)) (by decide) (by decide) (by decide) (by decide))
  clear k2 p2 hpr HX
  go_wp2_with (go_at_call 12; (with_reducible refine HW.out.mono ?_); rintro e wa ⟨rfl, k3, p3⟩; refine Hid.out ?_)
  refine Lib.hid ?_
  replace HO := Lib.hid (HO.out.step k3 p3)
  clear k3 p3 HW
  go_wp2_with (first | (go_at_call 28; (with_reducible refine (HN0.out _).mono ?_); rintro e wb ⟨rfl, rfl⟩) | (go_at_call 10; (with_reducible refine (HF1.out _).mono ?_); rintro e wc ⟨rfl, hb⟩; replace HO := Lib.hid (HO.out.below hb); clear hb) | (go_at_call 10; (with_reducible refine (HF2.out _).mono ?_); rintro e wd ⟨rfl, hb⟩; replace HO := Lib.hid (HO.out.below hb); clear hb; refine Hid.out ?_))
  refine Lib.hid ?_
  have HR := Lib.hid (pread_lit (n := 1) (a := 0) (E := 90) (ys := []) (zs := []) (m := 0) HO.out.pp (by decide) (by decide) (by decide) (by decide) rfl)
  go_wp2_with (go_at_call 14; (with_reducible refine HR.out.mono ?_); rintro e we ⟨k2, p2, ad9, cap9, rfl, o2⟩; refine Hid.out ?_)
  refine Lib.hid ?_
  have hbw := (HO.out.step k2 p2).bel
  have HZ : Hid (Zr w (we.alloc (.cells #[.pointer none, .int .i64 0, .int .i64 0] 65)) we.heap.size) := Lib.hid ⟨hbw.alloc hbw.size _, Blk.new _ _ _⟩
  clear k2 p2 o2 hbw HR HO HN HN0 HF1 HF2
  obtain ⟨z, hz⟩ : ∃ z, we.heap.size = z := ⟨_, rfl⟩
  rw [hz] at HZ
  have HAl : Hid (∀ W, Zr w W z → Calls Try.prog 29 #[] W fun e w' => e = .returned (.bool true) ∧ Zr w w' z) := Lib.hid (fun W h => (alive_any W).mono fun e w' ⟨h1, h2⟩ => ⟨h1, h.below h2⟩)
  have HPa : Hid (∀ W, Zr w W z → Calls Try.prog 21 #[.pointer none] W fun e w' => Zr w w' z ∧ ∃ ad cap, e = .returned (.slice ad 0 cap)) := Lib.hid (fun W h => (pall_nil W).mono fun e w' ⟨h1, r, h2, h3⟩ => by
    obtain ⟨ad, cap, rfl⟩ := row_form h3
    exact ⟨h.below h1, ad, cap, h2⟩)
  go_wp2_with (first
    | (go_at_call 14; (with_reducible refine (pread_nil _ _).mono ?_); rintro e wf ⟨rfl, rfl⟩)
    | (go_at_call 12; (with_reducible refine (pwrite_zero _ _ _ _ _ (by first | exact HZ.out.blk | (rw [hz]; exact HZ.out.blk))).mono ?_); rintro e wg ⟨rfl, rfl⟩)
    | (go_at_call 18; (with_reducible refine (pclose_nil _ _).mono ?_); rintro e wh ⟨rfl, rfl⟩)
    | (go_at_call 29; (with_reducible refine (HAl.out _ HZ.out).mono ?_); rintro e wi ⟨rfl, h⟩; replace HZ := Lib.hid h; clear h)
    | (go_at_call 16; (with_reducible refine (popen_zero _ _ _ _ _ (by first | exact HZ.out.blk | (rw [hz]; exact HZ.out.blk))).mono ?_); rintro e wj ⟨rfl, rfl⟩)
    | (go_at_call 26; (with_reducible refine (pready_nil _ _).mono ?_); rintro e wk ⟨rfl, rfl⟩)
    | (go_at_call 22; (with_reducible refine (readers_nil _).mono ?_); rintro e wl ⟨rfl, rfl⟩)
    | (go_at_call 23; (with_reducible refine (writers_zero _ _ _ _ (by first | exact HZ.out.blk | (rw [hz]; exact HZ.out.blk))).mono ?_); rintro e wm ⟨rfl, rfl⟩)
    | (go_at_call 21; (with_reducible refine (HPa.out _ HZ.out).mono ?_); rintro e wn ⟨h, ad, cap, rfl⟩; replace HZ := Lib.hid h; clear h)
    | (go_at_call 24; (with_reducible refine (pcap_zero _ _ _ _ (by first | exact HZ.out.blk | (rw [hz]; exact HZ.out.blk))).mono ?_); rintro e wo ⟨rfl, rfl⟩)
    | (go_at_call 25; (with_reducible refine (gone_nil _).mono ?_); rintro e wp ⟨rfl, rfl⟩)
    | (go_at_call 25; (with_reducible refine (gone_zero _ _ _ _ (by first | exact HZ.out.blk | (rw [hz]; exact HZ.out.blk))).mono ?_); rintro e wq ⟨rfl, rfl⟩)
    | (go_at_call 20; (with_reducible refine (pcopy_nil _).mono ?_); rintro e wr ⟨rfl, rfl⟩))
  go_ret
  exact ⟨rfl, HZ.out.bel⟩
end Go.Proofs.Ytfpdbcjnhgddoaa.Pnm
namespace Go.Proofs.Ytfpdbcjnhgddoaa.Walk
open Go Go.RowKit
theorem pipeNames (w : World) : Calls Try.prog 4 #[] w fun e w' => e = .returned (.bool true) ∧ Below w.heap.size w w' := Pnm.names_any w
end Go.Proofs.Ytfpdbcjnhgddoaa.Walk
