/-
  Sum of a space with one page.
-/
import Derived.Test.YtjoapeeljigjcaaDoorUta
import Derived.Lib.LaidTab
namespace Go.Proofs.YtjoapeeljigjcaaDoor.Utb
open Go Go.RowKit Go.Shelf Kit Bk
open Fm hiding Mem made_any len_any
open Fo Fr Fw Fx Fu Fq
open Tm hiding Mem
open Ts Tc Ti Tl Sp Sa Pz To My Pv Mp Mq Dr Cl Iv Iw Ix Wr Sy Rd Usa Usb Usc Usd Use Usf Usg Ush Usi Usl Usm Usn Uta
set_option linter.unusedVariables false
attribute [local go_sem ↓] Tl.app_wrap

/-- The table of powers that Itoa reads. -/
theorem gPow : Tryd.prog.globalNamed "internal/strconv.uint64pow10" = some 1 := by kernel_rfl
def Pow (w : World) : Prop := Lib.TabIs Tryd.prog w "internal/strconv.uint64pow10" .u64 Lib.pow10Tab
theorem grow_below {w : World} {k : Nat} {os : Array Obj} : Below w.heap.size w (Sort.grow (w.drewN k) os) :=
  ⟨rfl, rfl, rfl, by show w.heap.size ≤ (w.heap ++ os).size; simp, fun j hj => by show (w.heap ++ os)[j]? = w.heap[j]?; rw [Array.getElem?_append_left hj]⟩
theorem itoa_any (w : World) (n : Nat) (l : List UInt8) (hn : n < 1000) (hl : Lib.itoa (n : Int) = l) (hT : Pow w) :
    Calls Tryd.prog 24 #[.int .i64 (n : Int)] w fun e w' => e = .returned (.string ⟨l.toArray⟩) ∧ Below w.heap.size w w' :=
  (Shl.strconv_Itoa n (by omega) (by omega) w hT).mono fun e w' ⟨he, k, os, hw⟩ => ⟨by rw [he, hl], by rw [hw]; exact grow_below⟩
theorem itoa0 : Lib.itoa ((0 : Nat) : Int) = [48] := by decide +kernel
theorem itoa199 : Lib.itoa ((199 : Nat) : Int) = [49, 57, 57] := by decide +kernel
def line : ByteArray := ⟨#[48, 32, 119, 32, 49, 57, 57]⟩

-- gen begin
/-- What lies there, whichever of the region's operations have come up. -/
def J (n₀ : Nat) (w0 : World) (q gm gl cap : Nat) (ef : Int) (ec ed : Bool) (r u34 : Value) (l : Array Bool) (a : Act) (w : World) : Prop :=
  ∃ (l0 l1 l2 l3 l4 l5 l6 l7 l8 l9 l10 l11 l12 l13 l14 : Bool) (s3 x0 x1 x2 x3 x4 x5 x6 x7 x8 x9 x10 x11 x12 x13 : Value), l = #[l0, l1, l2, l3, l4, l5, l6, l7, l8, l9, l10, l11, l12, l13, l14] ∧
    a = { tmps := #[.pointer (some ⟨q, 0, none⟩), undef, .slice none 0 0, s3, undef, .pointer (some ⟨gm, 0, none⟩), .string ⟨#[49, 57, 57]⟩, .pointer (some ⟨q, 0, none⟩), .slice (some ⟨gl, 0, none⟩) 1 cap, .int .i64 1, .int .i64 0, .bool true, .pointer (some ⟨gl, 0, none⟩), .agg #[.int .i64 0, .int .i64 ef, .bool true, .bool false, .bool ec, .bool ed], .pointer (some ⟨q, 0, none⟩), .pointer (some ⟨gm, 0, none⟩), .int .i64 0, r, .int .i64 199, .string ⟨#[49, 57, 57]⟩, x0, x1, x2, x3, x4, x5, x6, x7, x8, x9, x10, x11, x12, x13, u34, undef], defers := [] } ∧
    (l0 = true → x0 = .slice none 0 0) ∧ (l1 = true → x1 = .pointer (some ⟨gm, 0, none⟩)) ∧ (l2 = true → x2 = .int .i64 0) ∧ (l3 = true → x3 = .string ⟨#[48]⟩) ∧ (l4 = true → x4 = .string ⟨#[48, 32]⟩) ∧ (l5 = true → x5 = .pointer (some ⟨gm, 1, none⟩)) ∧ (l6 = true → x6 = .agg #[.int .i64 ef, .bool true, .bool false, .bool ec, .bool ed]) ∧ (l7 = true → x7 = .string ⟨#[119]⟩) ∧ (l8 = true → x8 = .string ⟨#[48, 32, 119]⟩) ∧ (l9 = true → x9 = .string ⟨#[48, 32, 119, 32]⟩) ∧ (l10 = true → x10 = .string ⟨#[49, 57, 57]⟩) ∧ (l11 = true → x11 = .string line) ∧ (l12 = true → ∃ g, x12 = .slice (some ⟨g, 0, none⟩) 1 1 ∧ w.cell? ⟨g, 0, none⟩ = some (.string line)) ∧ (l13 = true → ∃ g c, x13 = .slice (some ⟨g, 0, none⟩) 1 c ∧ w.cell? ⟨g, 0, none⟩ = some (.string line)) ∧ (l14 = true → s3 = x13 ∧ l0 = true ∧ l13 = true) ∧ (l14 = false → s3 = .slice none 0 0) ∧ Below n₀ w0 w
theorem kept_cell {w w' : World} {a : Addr} {v : Value} (hb : Below w.heap.size w w') (h : w.cell? a = some v) : w'.cell? a = some v := (hb.cell (p := a) (World.block_lt_of_cell? w a h)).trans h
theorem k12 {w w' : World} {x : Value} {l : Bool} (hb : Below w.heap.size w w') (h : l = true → ∃ g, x = .slice (some ⟨g, 0, none⟩) 1 1 ∧ w.cell? ⟨g, 0, none⟩ = some (.string line)) : l = true → ∃ g, x = .slice (some ⟨g, 0, none⟩) 1 1 ∧ w'.cell? ⟨g, 0, none⟩ = some (.string line) := fun e => let ⟨g, a, b⟩ := h e; ⟨g, a, kept_cell hb b⟩
theorem k13 {w w' : World} {x : Value} {l : Bool} (hb : Below w.heap.size w w') (h : l = true → ∃ g c, x = .slice (some ⟨g, 0, none⟩) 1 c ∧ w.cell? ⟨g, 0, none⟩ = some (.string line)) : l = true → ∃ g c, x = .slice (some ⟨g, 0, none⟩) 1 c ∧ w'.cell? ⟨g, 0, none⟩ = some (.string line) := fun e => let ⟨g, c, a, b⟩ := h e; ⟨g, c, a, kept_cell hb b⟩
theorem cat (a b : List UInt8) : (⟨a.toArray⟩ : ByteArray) ++ ⟨b.toArray⟩ = ⟨(a ++ b).toArray⟩ := by
  apply ByteArray.ext
  simp
theorem cat1 : (⟨#[48]⟩ : ByteArray) ++ ⟨#[32]⟩ = ⟨#[48, 32]⟩ := cat [48] [32]
theorem cat2 : (⟨#[48, 32]⟩ : ByteArray) ++ ⟨#[119]⟩ = ⟨#[48, 32, 119]⟩ := cat [48, 32] [119]
theorem cat3 : (⟨#[48, 32, 119]⟩ : ByteArray) ++ ⟨#[32]⟩ = ⟨#[48, 32, 119, 32]⟩ := cat [48, 32, 119] [32]
theorem cat4 : (⟨#[48, 32, 119, 32]⟩ : ByteArray) ++ ⟨#[49, 57, 57]⟩ = line := cat [48, 32, 119, 32] [49, 57, 57]
theorem infoS : (Tryd.prog.info? 9).map (fun i => (i.zero, i.size, i.bytes)) = some (some (.string ⟨#[]⟩), 1, 16) := by kernel_rfl
theorem app_one (w : World) (g : Nat) (s : ByteArray) (hc : w.cell? ⟨g, 0, none⟩ = some (.string s)) :
    ∃ g' c w2, (Tl.appO #[30, 30] 30 #[.slice none 0 0, .slice (some ⟨g, 0, none⟩) 1 1]).run Tryd.prog w = .ok (.slice (some ⟨g', 0, none⟩) 1 c) w2 ∧ w2.cell? ⟨g', 0, none⟩ = some (.string s) ∧ Below w.heap.size w w2 := by
  obtain ⟨i0, hi, hz0, hz1, hz2⟩ := info_parts infoS
  obtain ⟨v', w2, hrun, hown, hgrow, hne⟩ := run_append_own (P := Tryd.prog) (w := w) w.heap.size 30 30 9 i0 (.string ⟨#[]⟩) 1 16 Tryd.underlying30 hi hz0 hz1 hz2 rfl (by decide) (.slice none 0 0) 0 [] (World.ownsRow_nil _ _ _ _) ⟨g, 0, none⟩ 1 1 [.string s] rfl (fun j u hj => by
    have hj0 : j = 0 := by have := (List.getElem?_eq_some_iff.1 hj).1; simpa using this
    subst hj0
    simp at hj
    subst hj
    exact hc) (fun u hu => by simp at hu; subst hu; rfl) (by decide) (by decide) (Nat.le_refl _)
  rcases hown.2 with ⟨e, e2⟩ | ⟨g', c, cur, rfl, hg, hbk, _, _, hsz, htk⟩
  · exact absurd (hne.1 e).2 (by decide)
  · refine ⟨g', c, w2, hrun, ?_, (Below.refl _ _).grown hgrow (Nat.le_refl _) (fun j h => by cases h)⟩
    have h0 : cur.toList.take 1 = [.string s] := htk
    have h1 : cur[0]? = some (.string s) := by
      rw [← Array.getElem?_toList]
      have := congrArg (fun l => l[0]?) h0
      simpa [List.getElem?_take] using this
    simp only [World.cell?, hbk]
    exact h1

-- gen end
set_option maxRecDepth 100000 in
set_option maxHeartbeats 4000000 in
theorem sum_one (w : World) (q p t b n : Nat) (R : Nat → Nat) (B : Nat → Nat → Nat) (T : Nat → Option En) (h : Spc w q p t b n R B T) (x : En) (hl : ents T 64 = [(0, x)]) (hw : x.w = true) (hs : x.s = false) (hsum : (pgL B (T 0)).sum = 199) (hP : ∀ W, Below w.heap.size w W → Pow W) :
    Calls Tryd.prog 8 #[.pointer (some ⟨q, 0, none⟩)] w fun e w' => ∃ g cap, e = .returned (.slice (some ⟨g, 0, none⟩) 1 cap) ∧ w'.cell? ⟨g, 0, none⟩ = some (.string line) ∧ Below w.heap.size w w' := by
  have HLI : Hid (Calls Tryd.prog 23 #[.pointer (some ⟨q, 0, none⟩)] w fun e w' => ∃ r, e = .returned r ∧ Below w.heap.size w w' ∧ Rd w' 58 r 6 1 (mcells [(0, x)])) := Lib.hid (by
    have := list_any w q p t T h.sp h.tm
    rw [hl] at this
    exact this.mono fun e w' ⟨h1, r, h2, h3⟩ => ⟨r, h2, h1, Rd.of_own h3⟩)
  have HPG : Hid (∀ W, Below w.heap.size w W → Calls Tryd.prog 26 #[.pointer (some ⟨q, 0, none⟩), .int .i64 0] W fun e w' => ∃ r, e = .returned r ∧ Below W.heap.size W w' ∧ Slc .u8 w' r (pgL B (T 0))) := Lib.hid (fun W hb => by
    have h2 := h.below hb
    exact page_slc W q p t b n T R B h2.sp h2.fm h2.tm h2.fit 0)
  have hx : ∀ y ∈ pgL B (T 0), y < 256 := fun y hy => by
    unfold pgL at hy
    cases hT : T 0 with
    | none => rw [hT] at hy; cases hy
    | some z =>
      rw [hT] at hy
      obtain ⟨i, hi, rfl⟩ := List.mem_map.1 hy
      exact h.fm.u8 _ _
  have hln : (pgL B (T 0)).length ≤ 64 := by
    unfold pgL
    cases T 0 with
    | none => exact Nat.zero_le _
    | some z => exact Nat.le_of_eq (bts_len _ _)
  have HTO : Hid (∀ W r, Slc .u8 W r (pgL B (T 0)) → Calls Tryd.prog 25 #[r] W fun e w' => e = .returned (.int .i64 199) ∧ W = w') := Lib.hid (fun W r hr => by
    have := total_any W r _ hr hx hln
    rw [hsum] at this
    exact this)
  have HI0 : Hid (∀ W, Below w.heap.size w W → Calls Tryd.prog 24 #[.int .i64 0] W fun e w' => e = .returned (.string ⟨#[48]⟩) ∧ Below W.heap.size W w') := Lib.hid (fun W hb => itoa_any W 0 _ (by decide) itoa0 (hP W hb))
  have HI1 : Hid (∀ W, Below w.heap.size w W → Calls Tryd.prog 24 #[.int .i64 199] W fun e w' => e = .returned (.string ⟨#[49, 57, 57]⟩) ∧ Below W.heap.size W w') := Lib.hid (fun W hb => itoa_any W 199 _ (by decide) itoa199 (hP W hb))
  clear h hl hsum hP hx hln
  obtain ⟨ef, ew, es, ec, ed⟩ := x
  obtain rfl : ew = true := hw
  obtain rfl : es = false := hs
  go_enter Tryd.func8, Tryd.ntmps8
  go_wp2_with (first | (go_at_call 23; (with_reducible refine HLI.out.mono ?_); rintro e w1 ⟨r, rfl, hb1, hr1⟩; obtain ⟨ad, cap, rfl⟩ : ∃ ad cap, r = .slice ad 1 cap := (by obtain ⟨_, ad, cap, h1, _⟩ := hr1; exact ⟨ad, cap, h1⟩); have H1 := Lib.hid (And.intro hb1 hr1); clear hb1 hr1))
  go_loopw [3, 10] (fun s i wr => ∃ j : Nat, i = .int .i64 (j : Int) ∧ Below w.heap.size w wr ∧ Rd wr 58 (.slice ad 1 cap) 6 1 (mcells [(0, ⟨ef, true, false, ec, ed⟩)]) ∧ ((j = 0 ∧ s = .slice none 0 0) ∨ (j = 1 ∧ ∃ g c, s = .slice (some ⟨g, 0, none⟩) 1 c ∧ wr.cell? ⟨g, 0, none⟩ = some (.string line)))) (fun _ i _ => 1 - (intOf i).toNat)
  case atStart => exact ⟨0, rfl, H1.out.1, H1.out.2, .inl ⟨rfl, rfl⟩⟩
  case round =>
    obtain ⟨j, rfl, hB, hrd, ⟨rfl, rfl⟩ | ⟨rfl, g, cc, rfl, hcell⟩⟩ := hrel
    · obtain ⟨gl, cap', hv, hc1, hc2, d0, d1, d2, d3, d4, d5⟩ := Rd.at_ (i := 0) hrd (Nat.lt_succ_self 0) rfl
      dsimp only at d1 d2 d3 d4 d5
      cases hv
      obtain ⟨W, hW⟩ : ∃ W, wr.alloc (.cells #[.int .i64 0, .int .i64 ef, .bool true, .bool false, .bool ec, .bool ed] 58) = W := ⟨_, rfl⟩
      have hbw : Below wr.heap.size wr W := by rw [← hW]; exact (Below.refl _ _).alloc (Nat.le_refl _) _
      obtain ⟨gm, hgm⟩ : ∃ gm, wr.heap.size = gm := ⟨_, rfl⟩
      have hme : Blk W gm #[.int .i64 0, .int .i64 ef, .bool true, .bool false, .bool ec, .bool ed] 58 := by
        rw [← hW, ← hgm]
        exact Blk.new wr _ _
      have hBW := hB.trans (hbw.mono hB.size)
      have hrd2 := Rd.below hrd hbw
      have i0 := hme.cell 0
      have HE := Lib.hid (And.intro hBW (And.intro hme hrd2))
      clear hB hrd hbw hme hBW hrd2
      go_wp2_with (first
        | (go_at_call 26; (with_reducible refine (HPG.out _ HE.out.1).mono ?_); rintro e w2 ⟨r, rfl, hb2, hs2⟩; have HB2 := Lib.hid (And.intro (HE.out.1.trans (hb2.mono HE.out.1.size)) (And.intro hs2 (And.intro (HE.out.2.1.below hb2) (Rd.below HE.out.2.2 hb2)))); clear hb2 hs2)
        | (go_at_call 25; (with_reducible refine (HTO.out _ _ HB2.out.2.1).mono ?_); rintro e w3 ⟨rfl, rfl⟩)
        | (go_at_call 24; (with_reducible refine (HI1.out _ HB2.out.1).mono ?_); rintro e w4 ⟨rfl, hb4⟩; have HB4 := Lib.hid (And.intro (HB2.out.1.trans (hb4.mono HB2.out.1.size)) (And.intro (HB2.out.2.2.1.below hb4) (Rd.below HB2.out.2.2.2 hb4))); clear hb4)
        | fail)
      -- region begin
      refine wp_region_any (by kernel_rfl) ?_
      have HE0 := Lib.hid (And.intro HB4.out.1 (And.intro HB4.out.2.1 HB4.out.2.2))
      refine wpAny_inv (J w4.heap.size w4 q gm gl cap ef ec ed r u34) ?done ?step _ _ _ _ (by simp) ?start
      case start => exact ⟨false, false, false, false, false, false, false, false, false, false, false, false, false, false, false, .slice none 0 0, u20, u21, u22, u23, u24, u25, u26, u27, u28, u29, u30, u31, u32, u33, rfl, rfl, by simp, by simp, by simp, by simp, by simp, by simp, by simp, by simp, by simp, by simp, by simp, by simp, by simp, by simp, by simp, fun _ => rfl, (Below.refl _ _).drew⟩
      case done =>
        rintro l a wl ⟨l0, l1, l2, l3, l4, l5, l6, l7, l8, l9, l10, l11, l12, l13, l14, s3, x0, x1, x2, x3, x4, x5, x6, x7, x8, x9, x10, x11, x12, x13, rfl, rfl, h0, h1, h2, h3, h4, h5, h6, h7, h8, h9, h10, h11, h12, h13, h14, h15, hb⟩ hr
        obtain rfl := ready_none (i := 0) (b := l0) hr rfl rfl rfl
        obtain rfl := ready_none (i := 1) (b := l1) hr rfl rfl rfl
        obtain rfl := ready_none (i := 2) (b := l2) hr rfl rfl rfl
        obtain rfl := ready_none (i := 3) (b := l3) hr rfl rfl rfl
        obtain rfl := ready_none (i := 4) (b := l4) hr rfl rfl rfl
        obtain rfl := ready_none (i := 5) (b := l5) hr rfl rfl rfl
        obtain rfl := ready_none (i := 6) (b := l6) hr rfl rfl rfl
        obtain rfl := ready_none (i := 7) (b := l7) hr rfl rfl rfl
        obtain rfl := ready_none (i := 8) (b := l8) hr rfl rfl rfl
        obtain rfl := ready_none (i := 9) (b := l9) hr rfl rfl rfl
        obtain rfl := ready_none (i := 10) (b := l10) hr rfl rfl rfl
        obtain rfl := ready_none (i := 11) (b := l11) hr rfl rfl rfl
        obtain rfl := ready_none (i := 12) (b := l12) hr rfl rfl rfl
        obtain rfl := ready_none (i := 13) (b := l13) hr rfl rfl rfl
        obtain rfl := ready_none (i := 14) (b := l14) hr rfl rfl rfl
        obtain ⟨g5, c5, rfl, hc5⟩ := h13 rfl
        obtain ⟨rfl, -, -⟩ := h14 rfl
        have HX := Lib.hid (And.intro (HE0.out.1.trans (hb.mono HE0.out.1.size)) (And.intro hc5 (Rd.below HE0.out.2.2 hb)))
        clear hr h0 h1 h2 h3 h4 h5 h6 h7 h8 h9 h10 h11 h12 h13 h14 h15 hb hc5
        go_wp2
        go_roundw
        case rel => exact ⟨1, rfl, HX.out.1, HX.out.2.2, .inr ⟨rfl, _, _, rfl, HX.out.2.1⟩⟩
        case measure => simp [intOf]
      case step =>
        rintro l a wl i ⟨l0, l1, l2, l3, l4, l5, l6, l7, l8, l9, l10, l11, l12, l13, l14, s3, x0, x1, x2, x3, x4, x5, x6, x7, x8, x9, x10, x11, x12, x13, rfl, rfl, h0, h1, h2, h3, h4, h5, h6, h7, h8, h9, h10, h11, h12, h13, h14, h15, hb⟩ hr
        have hi8 : i < 15 := by
          obtain ⟨hi, o, ho, hpre⟩ := mem_ready.1 hr
          rcases Nat.lt_or_ge i 15 with h | h
          · exact h
          · rw [Array.getElem?_eq_none (by simpa using h)] at ho; cases ho
        match i, hi8 with
        | 0, _ =>
          have hl0 : l0 = false := (ready_pre hr rfl).1
          have e14 : l14 = false := by cases e : l14 with | false => rfl | true => rw [(h14 e).2.1] at hl0; cases hl0
          obtain rfl := h15 e14
          clear hr
          refine wpOp_step rfl (fun K hK => ?_)
          go_simp
          exact hK _ _ ⟨true, l1, l2, l3, l4, l5, l6, l7, l8, l9, l10, l11, l12, l13, l14, _, _, _, _, _, _, _, _, _, _, _, _, _, _, _, rfl, rfl, (fun _ => rfl), (by first | exact h1 | exact fun _ => rfl), (by first | exact h2 | exact fun _ => rfl), (by first | exact h3 | exact fun _ => rfl), (by first | exact h4 | exact fun _ => rfl), (by first | exact h5 | exact fun _ => rfl), (by first | exact h6 | exact fun _ => rfl), (by first | exact h7 | exact fun _ => rfl), (by first | exact h8 | exact fun _ => rfl), (by first | exact h9 | exact fun _ => rfl), (by first | exact h10 | exact fun _ => rfl), (by first | exact h11 | exact fun _ => rfl), h12, h13, (fun e => by rw [e14] at e; cases e), (by first | exact h15 | exact fun _ => rfl), hb⟩
        | 1, _ =>
          clear hr
          refine wpOp_step rfl (fun K hK => ?_)
          go_simp
          exact hK _ _ ⟨l0, true, l2, l3, l4, l5, l6, l7, l8, l9, l10, l11, l12, l13, l14, _, _, _, _, _, _, _, _, _, _, _, _, _, _, _, rfl, rfl, (by first | exact h0 | exact fun _ => rfl), (fun _ => rfl), (by first | exact h2 | exact fun _ => rfl), (by first | exact h3 | exact fun _ => rfl), (by first | exact h4 | exact fun _ => rfl), (by first | exact h5 | exact fun _ => rfl), (by first | exact h6 | exact fun _ => rfl), (by first | exact h7 | exact fun _ => rfl), (by first | exact h8 | exact fun _ => rfl), (by first | exact h9 | exact fun _ => rfl), (by first | exact h10 | exact fun _ => rfl), (by first | exact h11 | exact fun _ => rfl), h12, h13, (by first | exact h14 | exact fun e => ⟨rfl, (h14 e).2⟩), (by first | exact h15 | exact fun _ => rfl), hb⟩
        | 2, _ =>
          have hp := (ready_pre hr rfl).2
          simp [Region.binds] at hp
          clear hr
          have e1 : l1 = true := by simp [hp]
          obtain rfl := h1 e1
          have c := (HE0.out.2.1.below hb).cell 0
          refine wpOp_step rfl (fun K hK => ?_)
          go_simp
          exact hK _ _ ⟨l0, l1, true, l3, l4, l5, l6, l7, l8, l9, l10, l11, l12, l13, l14, _, _, _, _, _, _, _, _, _, _, _, _, _, _, _, rfl, rfl, (by first | exact h0 | exact fun _ => rfl), (by first | exact h1 | exact fun _ => rfl), (fun _ => rfl), (by first | exact h3 | exact fun _ => rfl), (by first | exact h4 | exact fun _ => rfl), (by first | exact h5 | exact fun _ => rfl), (by first | exact h6 | exact fun _ => rfl), (by first | exact h7 | exact fun _ => rfl), (by first | exact h8 | exact fun _ => rfl), (by first | exact h9 | exact fun _ => rfl), (by first | exact h10 | exact fun _ => rfl), (by first | exact h11 | exact fun _ => rfl), h12, h13, (by first | exact h14 | exact fun e => ⟨rfl, (h14 e).2⟩), (by first | exact h15 | exact fun _ => rfl), hb⟩
        | 3, _ =>
          have hp := (ready_pre hr rfl).2
          simp [Region.binds] at hp
          clear hr
          have e2 : l2 = true := by simp [hp]
          obtain rfl := h2 e2
          refine wpOp_step rfl (fun K hK => ?_)
          have HKK := Lib.hid hK
          clear hK
          go_simp
          go_wp2_with (first | (go_at_call 24; (with_reducible refine (HI0.out _ (HE0.out.1.trans (hb.mono HE0.out.1.size))).mono ?_); rintro e w5 ⟨rfl, hb5⟩))
          exact HKK.out _ _ ⟨l0, l1, l2, true, l4, l5, l6, l7, l8, l9, l10, l11, l12, l13, l14, _, _, _, _, _, _, _, _, _, _, _, _, _, _, _, rfl, rfl, (by first | exact h0 | exact fun _ => rfl), (by first | exact h1 | exact fun _ => rfl), (by first | exact h2 | exact fun _ => rfl), (fun _ => rfl), (by first | exact h4 | exact fun _ => rfl), (by first | exact h5 | exact fun _ => rfl), (by first | exact h6 | exact fun _ => rfl), (by first | exact h7 | exact fun _ => rfl), (by first | exact h8 | exact fun _ => rfl), (by first | exact h9 | exact fun _ => rfl), (by first | exact h10 | exact fun _ => rfl), (by first | exact h11 | exact fun _ => rfl), (k12 hb5 h12), (k13 hb5 h13), (by first | exact h14 | exact fun e => ⟨rfl, (h14 e).2⟩), (by first | exact h15 | exact fun _ => rfl), (hb.trans (hb5.mono hb.size))⟩
        | 4, _ =>
          have hp := (ready_pre hr rfl).2
          simp [Region.binds] at hp
          clear hr
          have e3 : l3 = true := by simp [hp]
          obtain rfl := h3 e3
          refine wpOp_step rfl (fun K hK => ?_)
          go_simp
          exact hK _ _ ⟨l0, l1, l2, l3, true, l5, l6, l7, l8, l9, l10, l11, l12, l13, l14, _, _, _, _, _, _, _, _, _, _, _, _, _, _, _, rfl, rfl, (by first | exact h0 | exact fun _ => rfl), (by first | exact h1 | exact fun _ => rfl), (by first | exact h2 | exact fun _ => rfl), (by first | exact h3 | exact fun _ => rfl), (fun _ => congrArg Value.string cat1), (by first | exact h5 | exact fun _ => rfl), (by first | exact h6 | exact fun _ => rfl), (by first | exact h7 | exact fun _ => rfl), (by first | exact h8 | exact fun _ => rfl), (by first | exact h9 | exact fun _ => rfl), (by first | exact h10 | exact fun _ => rfl), (by first | exact h11 | exact fun _ => rfl), h12, h13, (by first | exact h14 | exact fun e => ⟨rfl, (h14 e).2⟩), (by first | exact h15 | exact fun _ => rfl), hb⟩
        | 5, _ =>
          clear hr
          refine wpOp_step rfl (fun K hK => ?_)
          go_simp
          exact hK _ _ ⟨l0, l1, l2, l3, l4, true, l6, l7, l8, l9, l10, l11, l12, l13, l14, _, _, _, _, _, _, _, _, _, _, _, _, _, _, _, rfl, rfl, (by first | exact h0 | exact fun _ => rfl), (by first | exact h1 | exact fun _ => rfl), (by first | exact h2 | exact fun _ => rfl), (by first | exact h3 | exact fun _ => rfl), (by first | exact h4 | exact fun _ => rfl), (fun _ => rfl), (by first | exact h6 | exact fun _ => rfl), (by first | exact h7 | exact fun _ => rfl), (by first | exact h8 | exact fun _ => rfl), (by first | exact h9 | exact fun _ => rfl), (by first | exact h10 | exact fun _ => rfl), (by first | exact h11 | exact fun _ => rfl), h12, h13, (by first | exact h14 | exact fun e => ⟨rfl, (h14 e).2⟩), (by first | exact h15 | exact fun _ => rfl), hb⟩
        | 6, _ =>
          have hp := (ready_pre hr rfl).2
          simp [Region.binds] at hp
          clear hr
          have e5 : l5 = true := by simp [hp]
          obtain rfl := h5 e5
          have c1 := (HE0.out.2.1.below hb).cell 1
          have c2 := (HE0.out.2.1.below hb).cell 2
          have c3 := (HE0.out.2.1.below hb).cell 3
          have c4 := (HE0.out.2.1.below hb).cell 4
          have c5 := (HE0.out.2.1.below hb).cell 5
          refine wpOp_step rfl (fun K hK => ?_)
          go_simp
          exact hK _ _ ⟨l0, l1, l2, l3, l4, l5, true, l7, l8, l9, l10, l11, l12, l13, l14, _, _, _, _, _, _, _, _, _, _, _, _, _, _, _, rfl, rfl, (by first | exact h0 | exact fun _ => rfl), (by first | exact h1 | exact fun _ => rfl), (by first | exact h2 | exact fun _ => rfl), (by first | exact h3 | exact fun _ => rfl), (by first | exact h4 | exact fun _ => rfl), (by first | exact h5 | exact fun _ => rfl), (fun _ => rfl), (by first | exact h7 | exact fun _ => rfl), (by first | exact h8 | exact fun _ => rfl), (by first | exact h9 | exact fun _ => rfl), (by first | exact h10 | exact fun _ => rfl), (by first | exact h11 | exact fun _ => rfl), h12, h13, (by first | exact h14 | exact fun e => ⟨rfl, (h14 e).2⟩), (by first | exact h15 | exact fun _ => rfl), hb⟩
        | 7, _ =>
          have hp := (ready_pre hr rfl).2
          simp [Region.binds] at hp
          clear hr
          have e6 : l6 = true := by simp [hp]
          obtain rfl := h6 e6
          refine wpOp_step rfl (fun K hK => ?_)
          have HKK := Lib.hid hK
          clear hK
          go_simp
          go_wp2_with (first | (go_at_call 27; (with_reducible refine (kind_w _ _ _ _).mono ?_); rintro e w5 ⟨rfl, hb5⟩))
          exact HKK.out _ _ ⟨l0, l1, l2, l3, l4, l5, l6, true, l8, l9, l10, l11, l12, l13, l14, _, _, _, _, _, _, _, _, _, _, _, _, _, _, _, rfl, rfl, (by first | exact h0 | exact fun _ => rfl), (by first | exact h1 | exact fun _ => rfl), (by first | exact h2 | exact fun _ => rfl), (by first | exact h3 | exact fun _ => rfl), (by first | exact h4 | exact fun _ => rfl), (by first | exact h5 | exact fun _ => rfl), (by first | exact h6 | exact fun _ => rfl), (fun _ => rfl), (by first | exact h8 | exact fun _ => rfl), (by first | exact h9 | exact fun _ => rfl), (by first | exact h10 | exact fun _ => rfl), (by first | exact h11 | exact fun _ => rfl), (k12 hb5 h12), (k13 hb5 h13), (by first | exact h14 | exact fun e => ⟨rfl, (h14 e).2⟩), (by first | exact h15 | exact fun _ => rfl), (hb.trans (hb5.mono hb.size))⟩
        | 8, _ =>
          have hp := (ready_pre hr rfl).2
          simp [Region.binds] at hp
          clear hr
          have e4 : l4 = true := by simp [hp]
          have e7 : l7 = true := by simp [hp]
          obtain rfl := h4 e4
          obtain rfl := h7 e7
          refine wpOp_step rfl (fun K hK => ?_)
          go_simp
          exact hK _ _ ⟨l0, l1, l2, l3, l4, l5, l6, l7, true, l9, l10, l11, l12, l13, l14, _, _, _, _, _, _, _, _, _, _, _, _, _, _, _, rfl, rfl, (by first | exact h0 | exact fun _ => rfl), (by first | exact h1 | exact fun _ => rfl), (by first | exact h2 | exact fun _ => rfl), (by first | exact h3 | exact fun _ => rfl), (by first | exact h4 | exact fun _ => rfl), (by first | exact h5 | exact fun _ => rfl), (by first | exact h6 | exact fun _ => rfl), (by first | exact h7 | exact fun _ => rfl), (fun _ => congrArg Value.string cat2), (by first | exact h9 | exact fun _ => rfl), (by first | exact h10 | exact fun _ => rfl), (by first | exact h11 | exact fun _ => rfl), h12, h13, (by first | exact h14 | exact fun e => ⟨rfl, (h14 e).2⟩), (by first | exact h15 | exact fun _ => rfl), hb⟩
        | 9, _ =>
          have hp := (ready_pre hr rfl).2
          simp [Region.binds] at hp
          clear hr
          have e8 : l8 = true := by simp [hp]
          obtain rfl := h8 e8
          refine wpOp_step rfl (fun K hK => ?_)
          go_simp
          exact hK _ _ ⟨l0, l1, l2, l3, l4, l5, l6, l7, l8, true, l10, l11, l12, l13, l14, _, _, _, _, _, _, _, _, _, _, _, _, _, _, _, rfl, rfl, (by first | exact h0 | exact fun _ => rfl), (by first | exact h1 | exact fun _ => rfl), (by first | exact h2 | exact fun _ => rfl), (by first | exact h3 | exact fun _ => rfl), (by first | exact h4 | exact fun _ => rfl), (by first | exact h5 | exact fun _ => rfl), (by first | exact h6 | exact fun _ => rfl), (by first | exact h7 | exact fun _ => rfl), (by first | exact h8 | exact fun _ => rfl), (fun _ => congrArg Value.string cat3), (by first | exact h10 | exact fun _ => rfl), (by first | exact h11 | exact fun _ => rfl), h12, h13, (by first | exact h14 | exact fun e => ⟨rfl, (h14 e).2⟩), (by first | exact h15 | exact fun _ => rfl), hb⟩
        | 10, _ =>
          clear hr
          refine wpOp_step rfl (fun K hK => ?_)
          go_simp
          exact hK _ _ ⟨l0, l1, l2, l3, l4, l5, l6, l7, l8, l9, true, l11, l12, l13, l14, _, _, _, _, _, _, _, _, _, _, _, _, _, _, _, rfl, rfl, (by first | exact h0 | exact fun _ => rfl), (by first | exact h1 | exact fun _ => rfl), (by first | exact h2 | exact fun _ => rfl), (by first | exact h3 | exact fun _ => rfl), (by first | exact h4 | exact fun _ => rfl), (by first | exact h5 | exact fun _ => rfl), (by first | exact h6 | exact fun _ => rfl), (by first | exact h7 | exact fun _ => rfl), (by first | exact h8 | exact fun _ => rfl), (by first | exact h9 | exact fun _ => rfl), (fun _ => rfl), (by first | exact h11 | exact fun _ => rfl), h12, h13, (by first | exact h14 | exact fun e => ⟨rfl, (h14 e).2⟩), (by first | exact h15 | exact fun _ => rfl), hb⟩
        | 11, _ =>
          have hp := (ready_pre hr rfl).2
          simp [Region.binds] at hp
          clear hr
          have e9 : l9 = true := by simp [hp]
          have e10 : l10 = true := by simp [hp]
          obtain rfl := h9 e9
          obtain rfl := h10 e10
          refine wpOp_step rfl (fun K hK => ?_)
          go_simp
          exact hK _ _ ⟨l0, l1, l2, l3, l4, l5, l6, l7, l8, l9, l10, true, l12, l13, l14, _, _, _, _, _, _, _, _, _, _, _, _, _, _, _, rfl, rfl, (by first | exact h0 | exact fun _ => rfl), (by first | exact h1 | exact fun _ => rfl), (by first | exact h2 | exact fun _ => rfl), (by first | exact h3 | exact fun _ => rfl), (by first | exact h4 | exact fun _ => rfl), (by first | exact h5 | exact fun _ => rfl), (by first | exact h6 | exact fun _ => rfl), (by first | exact h7 | exact fun _ => rfl), (by first | exact h8 | exact fun _ => rfl), (by first | exact h9 | exact fun _ => rfl), (by first | exact h10 | exact fun _ => rfl), (fun _ => congrArg Value.string cat4), h12, h13, (by first | exact h14 | exact fun e => ⟨rfl, (h14 e).2⟩), (by first | exact h15 | exact fun _ => rfl), hb⟩
        | 12, _ =>
          have hp := (ready_pre hr rfl).2
          simp [Region.binds] at hp
          clear hr
          have e11 : l11 = true := by simp [hp]
          obtain rfl := h11 e11
          have hba := (Below.refl wl.heap.size wl).alloc (Nat.le_refl _) (.cells #[.string line] 9)
          have hbk := (Blk.new wl #[.string line] 9).cell 0
          refine wpOp_step rfl (fun K hK => ?_)
          go_simp
          exact hK _ _ ⟨l0, l1, l2, l3, l4, l5, l6, l7, l8, l9, l10, l11, true, l13, l14, _, _, _, _, _, _, _, _, _, _, _, _, _, _, _, rfl, rfl, (by first | exact h0 | exact fun _ => rfl), (by first | exact h1 | exact fun _ => rfl), (by first | exact h2 | exact fun _ => rfl), (by first | exact h3 | exact fun _ => rfl), (by first | exact h4 | exact fun _ => rfl), (by first | exact h5 | exact fun _ => rfl), (by first | exact h6 | exact fun _ => rfl), (by first | exact h7 | exact fun _ => rfl), (by first | exact h8 | exact fun _ => rfl), (by first | exact h9 | exact fun _ => rfl), (by first | exact h10 | exact fun _ => rfl), (by first | exact h11 | exact fun _ => rfl), (fun _ => ⟨_, rfl, hbk⟩), (k13 hba h13), (by first | exact h14 | exact fun e => ⟨rfl, (h14 e).2⟩), (by first | exact h15 | exact fun _ => rfl), (hb.trans (hba.mono hb.size))⟩
        | 13, _ =>
          have hl13 : l13 = false := (ready_pre hr rfl).1
          have e14 : l14 = false := by cases e : l14 with | false => rfl | true => rw [(h14 e).2.2] at hl13; cases hl13
          have hp := (ready_pre hr rfl).2
          simp [Region.binds] at hp
          clear hr
          have e0 : l0 = true := by simp [hp]
          have e12 : l12 = true := by simp [hp]
          obtain rfl := h0 e0
          obtain ⟨g, rfl, hc⟩ := h12 e12
          obtain ⟨g2, c2, w5, hrun, hcell, hb5⟩ := app_one wl g line hc
          have HA := Lib.hid (And.intro hcell hb5)
          have h12b := k12 hb5 h12
          clear hcell hb5
          refine wpOp_step rfl (fun K hK => ?_)
          go_simp
          exact hK _ _ ⟨l0, l1, l2, l3, l4, l5, l6, l7, l8, l9, l10, l11, l12, true, l14, _, _, _, _, _, _, _, _, _, _, _, _, _, _, _, rfl, rfl, (by first | exact h0 | exact fun _ => rfl), (by first | exact h1 | exact fun _ => rfl), (by first | exact h2 | exact fun _ => rfl), (by first | exact h3 | exact fun _ => rfl), (by first | exact h4 | exact fun _ => rfl), (by first | exact h5 | exact fun _ => rfl), (by first | exact h6 | exact fun _ => rfl), (by first | exact h7 | exact fun _ => rfl), (by first | exact h8 | exact fun _ => rfl), (by first | exact h9 | exact fun _ => rfl), (by first | exact h10 | exact fun _ => rfl), (by first | exact h11 | exact fun _ => rfl), h12b, (fun _ => ⟨_, _, rfl, HA.out.1⟩), (fun e => by rw [e14] at e; cases e), (by first | exact h15 | exact fun _ => rfl), (hb.trans (HA.out.2.mono hb.size))⟩
        | 14, _ =>
          have hp := (ready_pre hr rfl).2
          simp [Region.binds] at hp
          clear hr
          have e13 : l13 = true := by simp [hp]
          have e12 : l12 = true := by simp [hp]
          have e0 : l0 = true := by simp [hp]
          refine wpOp_step rfl (fun K hK => ?_)
          go_simp
          exact hK _ _ ⟨l0, l1, l2, l3, l4, l5, l6, l7, l8, l9, l10, l11, l12, l13, true, _, _, _, _, _, _, _, _, _, _, _, _, _, _, _, rfl, rfl, (by first | exact h0 | exact fun _ => rfl), (by first | exact h1 | exact fun _ => rfl), (by first | exact h2 | exact fun _ => rfl), (by first | exact h3 | exact fun _ => rfl), (by first | exact h4 | exact fun _ => rfl), (by first | exact h5 | exact fun _ => rfl), (by first | exact h6 | exact fun _ => rfl), (by first | exact h7 | exact fun _ => rfl), (by first | exact h8 | exact fun _ => rfl), (by first | exact h9 | exact fun _ => rfl), (by first | exact h10 | exact fun _ => rfl), (by first | exact h11 | exact fun _ => rfl), h12, h13, (fun _ => ⟨rfl, e0, e13⟩), (fun e => by cases e), hb⟩
      -- region end
    · go_wp2
      go_ret
      exact ⟨g, cc, rfl, hcell, hB⟩
end Go.Proofs.YtjoapeeljigjcaaDoor.Utb
