/-
  TreeRoots, walked.
-/
import Derived.Test.YtkjcjodhpcfjiaaTew
import Derived.Deep.RegionHeld
import Derived.Deep.DeepCutAuto
import Derived.Deep.CutBlock
namespace Go.Proofs.Ytkjcjodhpcfjiaa.Tex
open Go Go.RowKit Go.Shelf Kit Bk Tea Teb Tec Ted Tee Tef Teg Teh Tei Tej Tek Tel Tem Ten Teo Tep Teq Ter Tes Teu Tev Tew
set_option linter.unusedVariables false

/-- A call's copy in a block of its own. -/
abbrev Xo (w : World) (x : Nat) (o : Opr) : Prop := w.ownsRow 0 45 5 (.slice (some ⟨x, 0, none⟩) 1 1) 1 [.int .i64 o.kind, .int .i64 o.p, .int .i64 o.r, .int .i64 o.st, uv o.su]
theorem Xo.new (w : World) (o : Opr) : Xo (w.alloc (.cells #[.int .i64 o.kind, .int .i64 o.p, .int .i64 o.r, .int .i64 o.st, uv o.su] 45)) w.heap.size o :=
  World.ownsRow_lit (base := 0) (e := 45) (size := 5) w #[.int .i64 o.kind, .int .i64 o.p, .int .i64 o.r, .int .i64 o.st, uv o.su] 1 (Nat.zero_le _) (by decide) rfl
theorem Xo.cells {w : World} {x : Nat} {o : Opr} (h : Xo w x o) : w.cell? ⟨x, 0, none⟩ = some (.int .i64 o.kind) ∧ w.cell? ⟨x, 1, none⟩ = some (.int .i64 o.p) ∧ w.cell? ⟨x, 2, none⟩ = some (.int .i64 o.r) ∧ w.cell? ⟨x, 3, none⟩ = some (.int .i64 o.st) ∧ w.cell? ⟨x, 4, none⟩ = some (uv o.su) :=
  ⟨h.cellAt 0 (by decide), h.cellAt 1 (by decide), h.cellAt 2 (by decide), h.cellAt 3 (by decide), h.cellAt 4 (by decide)⟩
/-- A table of a law's own, and a call's copy. -/
structure Ra (w0 w : World) (q rm : Nat) (L : St) (S : List Bool) (x : Nat) (o : Opr) : Prop where
  on_ : On w0 w q rm L S
  xo : Xo w x o
variable {w0 w w' : World} {q rm x : Nat} {L : St} {S : List Bool} {o : Opr} {p : Int}
theorem Ra.below (h : Ra w0 w q rm L S x o) (hb : Below w.heap.size w w') : Ra w0 w' q rm L S x o := ⟨h.on_.below hb, own_below h.xo hb⟩
theorem Ra.step {L' : St} {S' : List Bool} (h : Ra w0 w q rm L S x o) (h1 : On w0 w' q rm L' S' ∧ Rk w w') : Ra w0 w' q rm L' S' x o := ⟨h1.1, h1.2 _ _ _ _ _ _ (by decide) (by decide) h.xo⟩
/-- One, and the trees of the first i. -/
def sm (L : St) (l : List Int) (i : Nat) : Nat := 1 + ((l.take i).map fun c => (tr L c).length).sum
theorem sm_next {l : List Int} {i : Nat} (hi : i < l.length) : sm L l (i + 1) = sm L l i + (tr L l[i]).length := by
  unfold sm
  rw [List.take_succ_eq_append_getElem hi, List.map_append, List.sum_append_nat]
  simp
  omega
theorem sm_le (L : St) (l : List Int) (i : Nat) : sm L l i ≤ 1 + i * L.length := by
  unfold sm
  have H : ∀ k : List Int, (k.map fun c => (tr L c).length).sum ≤ k.length * L.length := by
    intro k
    induction k with
    | nil => simp
    | cons a k ih =>
      rw [List.map_cons, List.sum_cons, List.length_cons, Nat.succ_mul]
      have := tr_len L a
      omega
  have h1 := H (l.take i)
  have h2 : (l.take i).length * L.length ≤ i * L.length := Nat.mul_le_mul (List.length_take_le _ _) (Nat.le_refl _)
  omega
theorem sm_all (h : Ok L) (hp : hs L p = true) : (tr L p).length = sm L (kids L p) (kids L p).length := by
  unfold sm
  rw [List.take_length]
  exact tr_count h hp
theorem fk_zero {rm : Nat} {L : St} {S : List Bool} {p : Int} (e : (fkR rm L S p).2 = 0) : (fkR rm L S p).1 = (S.length : Int) ∧ (fkS rm L S p).length = S.length + 1 := by
  refine ⟨?_, ?_⟩
  · unfold fkR at e ⊢
    by_cases h1 : (gt L p).st = 1
    · rw [if_pos h1] at e ⊢
      by_cases h2 : L.length = rm ∨ 65535 < S.length
      · rw [if_pos h2] at e; cases e
      · rw [if_neg h2]
    · rw [if_neg h1] at e; cases e
  · unfold fkS
    rw [if_pos e, grw_len]
    omega
theorem th_len {rm : Nat} {L : St} {S : List Bool} {p r st : Int} {su : Nat} (h : Okt rm L S) (e : thE rm L S p r st su = 0) : p < ((thS rm L S p r st su).length : Int) ∧ S.length ≤ (thS rm L S p r st su).length := by
  unfold thS
  rw [if_pos e]
  by_cases h3 : (gt L p).st = 3
  · rw [if_pos h3]
    have := h.lt (p := p) (h.ok.there (by omega))
    omega
  · rw [if_neg h3, grw_len]
    omega
set_option maxRecDepth 100000 in
set_option maxHeartbeats 8000000 in
theorem roots_short (n : Nat) (hn : 1 ≤ n ∧ n ≤ 32) (va : Value) (ops : List Opr) (w : World) (h : OpsAt w va ops) (hl : ops.length ≤ 80) :
    Calls Try.prog 4 #[.int .i64 (n : Int), va] w fun e w' => e = .returned (.bool true) ∧ Below w.heap.size w w' := by
  obtain ⟨ad, cap, rfl, hc1, hc2, h3⟩ := h
  have dl : decide ((80 : Int) < (ops.length : Int)) = false := decide_eq_false (by omega)
  have hli : (ops.length : Int) ≤ 80 := by omega
  have HC : Hid (∀ i (hi : i < ops.length), ∃ b off, ad = some ⟨b, off, none⟩ ∧ ∀ W, Below w.heap.size w W → OpAt W b (off + i * 5) ops[i]) := Lib.hid (fun i hi => by
    rcases h3 with e | ⟨b, off, rfl, hb, h4⟩
    · subst e; simp at hi
    · exact ⟨b, off, rfl, fun W hB => (h4 i hi).below hb hB⟩)
  have HN := Lib.hid (fun W => On.new n hn W)
  clear h3
  go_enter Try.func4, Try.ntmps4
  go_wp2_with (first
    | (go_at_call 15; (with_reducible refine (alive_any _).mono ?_); rintro e w1 ⟨rfl, b1⟩; have B1 := Lib.hid b1; clear b1)
    | (go_at_call 14; (with_reducible refine (HN.out _).mono ?_); rintro e w2 ⟨q, rfl, h2⟩; have H2 := Lib.hid h2; clear h2))
  go_loopw [9, 8] (fun i la wr => ∃ (j : Nat) (z : Int) (L : St) (S : List Bool), j ≤ ops.length ∧ i = .int .i64 (j : Int) ∧ la = .int .i64 z ∧ 1 ≤ z ∧ z < S.length ∧ On w1 wr q n L S) (fun i _ _ => ops.length - (intOf i).toNat)
  case atStart => exact ⟨0, 1, _, _, Nat.zero_le _, rfl, rfl, by omega, by decide, H2.out⟩
  case round =>
    obtain ⟨j, z, L, S, hj, rfl, rfl, hz1, hz2, hon⟩ := hrel
    by_cases hlt : j < ops.length
    · have hltI : (j : Int) < (ops.length : Int) := by omega
      obtain ⟨b, off, rfl, hat⟩ := HC.out j hlt
      obtain ⟨⟨c0, c1, c2, c3, c4⟩, hok⟩ := hat wr (B1.out.trans (hon.bel.mono B1.out.size))
      have HOk := Lib.hid hok
      generalize ops[j] = o at *
      have HJ := Lib.hid (And.intro hz1 hz2)
      have hx : Ra w1 (wr.alloc (.cells #[.int .i64 o.kind, .int .i64 o.p, .int .i64 o.r, .int .i64 o.st, uv o.su] 45)) q n L S wr.heap.size o := ⟨hon.below ((Below.refl _ _).alloc (Nat.le_refl _) _), Xo.new _ _⟩
      have HX := Lib.hid hx
      obtain ⟨y0, y1, y2, y3, y4⟩ := hx.xo.cells
      clear hat hok hon hx hz1 hz2
      go_upto_block 2 with fail
      clear c0 c1 c2 c3 c4
      generalize wr.heap.size = x at *
      go_cut [8] (fun s8 wx => ∃ (z' : Int) (L' : St) (S' : List Bool), s8 = .int .i64 z' ∧ (1 ≤ z' ∧ z' < S'.length) ∧ Ra w1 wx q n L' S' x o)
      case first =>
        as_aux_lemma =>
          by_cases k0 : o.kind = 0
          · have dk0 : (o.kind == 0) = true := by simpa using k0
            clear k0
            have HF := Lib.hid (HX.out.on_.fork HOk.out.1)
            by_cases ke : (fkR n L S o.p).2 = 0
            · obtain ⟨f1, f2⟩ := fk_zero ke
              rw [ke, f1] at HF
              have d1 : decide ((S.length : Int) ≤ z) = false := decide_eq_false (by have := HJ.out; omega)
              have HG : Hid (1 ≤ (S.length : Int) ∧ (S.length : Int) < ((fkS n L S o.p).length : Int)) := Lib.hid (by rw [f2]; have := HJ.out; omega)
              clear ke f1 f2
              generalize fkL n L S o.p = L2 at *
              generalize fkS n L S o.p = S2 at *
              go_wp2_with (go_at_call 10; (with_reducible refine HF.out.mono ?_); rintro e w3 ⟨rfl, h3⟩; have HX2 := Lib.hid (HX.out.step h3); clear h3)
              go_meet
              exact ⟨_, _, _, rfl, HG.out, HX2.out⟩
            · have d1 : ((fkR n L S o.p).2 == 0) = false := by simpa using ke
              have e2 : fkS n L S o.p = S := if_neg ke
              rw [e2] at HF
              clear ke e2
              generalize fkL n L S o.p = L2 at *
              generalize (fkR n L S o.p).2 = e2 at *
              generalize (fkR n L S o.p).1 = e1 at *
              go_wp2_with (go_at_call 10; (with_reducible refine HF.out.mono ?_); rintro e w3 ⟨rfl, h3⟩; have HX2 := Lib.hid (HX.out.step h3); clear h3)
              go_meet
              exact ⟨_, _, _, rfl, HJ.out, HX2.out⟩
          · have ek0 : (o.kind == 0) = false := by simpa using k0
            clear k0
            by_cases k1 : o.kind = 1
            · have dk1 : (o.kind == 1) = true := by simpa using k1
              clear k1
              have HF := Lib.hid (HX.out.on_.exit (su := o.su) HOk.out.1 HOk.out.2.2)
              generalize exM L o.p o.su = L2 at *
              generalize exA L o.p = l at *
              generalize fzE L o.p = e1 at *
              go_wp2_with (go_at_call 8; (with_reducible refine HF.out.mono ?_); rintro e w3 ⟨a3, c3, rfl, -, h3⟩; have HX2 := Lib.hid (HX.out.step h3); clear h3)
              go_meet
              exact ⟨_, _, _, rfl, HJ.out, HX2.out⟩
            · have ek1 : (o.kind == 1) = false := by simpa using k1
              clear k1
              by_cases k2 : o.kind = 2
              · have dk2 : (o.kind == 2) = true := by simpa using k2
                clear k2
                have HF := Lib.hid (HX.out.on_.reap HOk.out.1)
                generalize rpL L o.p = L2 at *
                generalize (zb L o.p).1 = e1 at *
                generalize (zb L o.p).2.1 = e2 at *
                generalize (zb L o.p).2.2 = e3 at *
                go_wp2_with (go_at_call 9; (with_reducible refine HF.out.mono ?_); rintro e w3 ⟨rfl, h3⟩; have HX2 := Lib.hid (HX.out.step h3); clear h3)
                go_meet
                exact ⟨_, _, _, rfl, HJ.out, HX2.out⟩
              · have ek2 : (o.kind == 2) = false := by simpa using k2
                clear k2
                by_cases k3 : o.kind = 3
                · have dk3 : (o.kind == 3) = true := by simpa using k3
                  clear k3
                  have HF := Lib.hid (HX.out.on_.freeze HOk.out.1)
                  generalize fzM L o.p = L2 at *
                  generalize fzA L o.p = l at *
                  generalize fzE L o.p = e1 at *
                  go_wp2_with (go_at_call 11; (with_reducible refine HF.out.mono ?_); rintro e w3 ⟨a3, c3, rfl, -, h3⟩; have HX2 := Lib.hid (HX.out.step h3); clear h3)
                  go_meet
                  exact ⟨_, _, _, rfl, HJ.out, HX2.out⟩
                · have ek3 : (o.kind == 3) = false := by simpa using k3
                  clear k3
                  by_cases k4 : o.kind = 4
                  · have dk4 : (o.kind == 4) = true := by simpa using k4
                    clear k4
                    have HF := Lib.hid (HX.out.on_.thaw (p := o.p) (r := o.r) (st := o.st) (su := o.su) HOk.out.1 HOk.out.2.1 HOk.out.2.2)
                    by_cases ke : thE n L S o.p o.r o.st o.su = 0
                    · have hlen := th_len HX.out.on_.ok ke
                      rw [ke] at HF
                      by_cases kz : z < o.p
                      · have d1 : decide (z < o.p) = true := decide_eq_true kz
                        have HG : Hid (1 ≤ o.p ∧ o.p < ((thS n L S o.p o.r o.st o.su).length : Int)) := Lib.hid (by have := HJ.out; omega)
                        clear ke hlen kz
                        generalize thM n L S o.p o.r o.st o.su = L2 at *
                        generalize thS n L S o.p o.r o.st o.su = S2 at *
                        go_wp2_with (go_at_call 12; (with_reducible refine HF.out.mono ?_); rintro e w3 ⟨rfl, h3⟩; have HX2 := Lib.hid (HX.out.step h3); clear y0 y1 y2 y3 y4; obtain ⟨y0, y1, y2, y3, y4⟩ := HX2.out.xo.cells; clear h3)
                        go_meet
                        exact ⟨_, _, _, rfl, HG.out, HX2.out⟩
                      · have d1 : decide (z < o.p) = false := decide_eq_false kz
                        have HG : Hid (1 ≤ z ∧ z < ((thS n L S o.p o.r o.st o.su).length : Int)) := Lib.hid (by have := HJ.out; omega)
                        clear ke hlen kz
                        generalize thM n L S o.p o.r o.st o.su = L2 at *
                        generalize thS n L S o.p o.r o.st o.su = S2 at *
                        go_wp2_with (go_at_call 12; (with_reducible refine HF.out.mono ?_); rintro e w3 ⟨rfl, h3⟩; have HX2 := Lib.hid (HX.out.step h3); clear y0 y1 y2 y3 y4; obtain ⟨y0, y1, y2, y3, y4⟩ := HX2.out.xo.cells; clear h3)
                        go_meet
                        exact ⟨_, _, _, rfl, HG.out, HX2.out⟩
                    · have d1 : (thE n L S o.p o.r o.st o.su == 0) = false := by simpa using ke
                      have e2 : thS n L S o.p o.r o.st o.su = S := if_neg ke
                      rw [e2] at HF
                      clear ke e2
                      generalize thM n L S o.p o.r o.st o.su = L2 at *
                      generalize thE n L S o.p o.r o.st o.su = e1 at *
                      go_wp2_with (go_at_call 12; (with_reducible refine HF.out.mono ?_); rintro e w3 ⟨rfl, h3⟩; have HX2 := Lib.hid (HX.out.step h3); clear y0 y1 y2 y3 y4; obtain ⟨y0, y1, y2, y3, y4⟩ := HX2.out.xo.cells; clear h3)
                      go_meet
                      exact ⟨_, _, _, rfl, HJ.out, HX2.out⟩
                  · have ek4 : (o.kind == 4) = false := by simpa using k4
                    clear k4
                    go_wp2
                    go_meet
                    exact ⟨_, _, _, rfl, HJ.out, HX.out⟩
      case rest =>
        as_aux_lemma =>
          obtain ⟨z', L', S', rfl, hz', hp⟩ := hcut
          obtain ⟨w3, hwc⟩ : ∃ u, u = wc := ⟨_, rfl⟩
          subst hwc
          have HP := Lib.hid hp
          have HZ := Lib.hid hz'
          have hb := hp.on_.ok.room
          have hb2 := hp.on_.ok.len
          clear y0 y1 y2 y3 y4 HX
          obtain ⟨-, y1, -⟩ := hp.xo.cells
          have HK := Lib.hid (hp.on_.kids (p := o.p))
          clear hp hz'
          go_wp2_with (go_at_call 21; (with_reducible refine HK.out.mono ?_); rintro e w4 ⟨a4, c4, rfl, hn4, hb4⟩; obtain ⟨a5, c5, e5, hc5, hc6, hcl⟩ := nr_cells hn4; cases e5; have HR := Lib.hid hcl; have HP4 := Lib.hid (HP.out.below hb4); clear hn4 hb4 hcl)
          have hkle : (kids L' o.p).length ≤ L'.length := by rw [kl_len]; exact kl_le _ _
          have hkI : ((kids L' o.p).length : Int) ≤ 32 := by omega
          go_loopw [16, 14] (fun k m wx => ∃ i : Nat, i ≤ (kids L' o.p).length ∧ k = .int .i64 (i : Int) ∧ m = .int .i64 ((sm L' (kids L' o.p) i : Nat) : Int) ∧ Below w4.heap.size w4 wx) (fun k _ _ => (kids L' o.p).length - (intOf k).toNat)
          case atStart => exact ⟨0, Nat.zero_le _, rfl, rfl, Below.refl _ _⟩
          case round =>
            obtain ⟨i, hi, rfl, rfl, hbw⟩ := hrel
            have HPx := Lib.hid (HP4.out.below hbw)
            by_cases hik : i < (kids L' o.p).length
            · have hikI : (i : Int) < ((kids L' o.p).length : Int) := by omega
              obtain ⟨r, rfl, hck⟩ := HR.out i hik
              replace hck := (hbw.cell (p := ⟨r, i, none⟩) (cell_lt hck)).trans hck
              have hkid := (kid_iff HP.out.on_.ok.ok.up).1 (List.getElem_mem hik)
              have hpb := HP.out.on_.ok.ok.pid _ hkid.1
              have HT := Lib.hid (HPx.out.on_.tree (p := (kids L' o.p)[i]) (wf64 (by omega)))
              have HS : Hid (sm L' (kids L' o.p) (i + 1) = sm L' (kids L' o.p) i + (tr L' (kids L' o.p)[i]).length) := Lib.hid (sm_next hik)
              have hs1 := sm_le L' (kids L' o.p) i
              have hs2 := tr_len L' (kids L' o.p)[i]
              have hs3 : i * L'.length ≤ 32 * 32 := Nat.mul_le_mul (by omega) (by omega)
              have hw : IntKind.i64.wrap (((sm L' (kids L' o.p) i : Nat) : Int) + (((tr L' (kids L' o.p)[i]).length : Nat) : Int)) = ((sm L' (kids L' o.p) i + (tr L' (kids L' o.p)[i]).length : Nat) : Int) := by
                generalize sm L' (kids L' o.p) i = a at *
                generalize (tr L' (kids L' o.p)[i]).length = c at *
                simp [IntKind.wrap, IntKind.bits, IntKind.signed]
                omega
              have HBw := Lib.hid hbw
              clear hbw hkid hpb hs1 hs2 hs3
              generalize sm L' (kids L' o.p) i = a at *
              generalize tr L' (kids L' o.p)[i] = tl at *
              generalize (kids L' o.p)[i] = y at *
              go_wp2_with (go_at_call 22; (with_reducible refine HT.out.mono ?_); rintro e w6 ⟨a6, c6, rfl, -, hb6⟩; have HB6 := Lib.hid (HBw.out.trans (hb6.mono HBw.out.size)); clear hb6)
              go_roundw
              case rel => exact ⟨i + 1, by omega, by go_num, by rw [HS.out, Int.natCast_add], HB6.out⟩
              case measure => simp [intOf]; omega
            · obtain rfl : i = (kids L' o.p).length := by omega
              have hfr : decide (((n - L'.length : Nat) : Int) < 0) = false := decide_eq_false (by omega)
              have HF := Lib.hid (fun W (hp : Ra w1 W q n L' S' x o) => hp.on_.free)
              have HRt := Lib.hid (fun W (hp : Ra w1 W q n L' S' x o) => roots_any hp.on_)
              have HJ2 : Hid (j + 1 ≤ ops.length) := Lib.hid (by omega)
              clear y1
              obtain ⟨-, y1, -⟩ := HPx.out.xo.cells
              have HT := HPx.out.on_.tree HOk.out.1
              have HSm := Lib.hid (sm_le L' (kids L' o.p) (kids L' o.p).length)
              cases hin : hs L' o.p
              · rw [tr_none hin] at HT
                replace HT := Lib.hid HT
                clear hin hbw
                generalize sm L' (kids L' o.p) (kids L' o.p).length = a at *
                generalize kids L' o.p = K at *
                generalize n - L'.length = fz at *
                go_wp2_with (first
                  | (go_at_call 22; (with_reducible refine HT.out.mono ?_); rintro e w6 ⟨a6, c6, rfl, -, hb6⟩; have HP6 := Lib.hid (HPx.out.below hb6); clear hb6)
                  | (go_at_call 23; (with_reducible refine (HRt.out _ HP6.out).mono ?_); rintro e w7 ⟨rfl, hb7⟩; have HP7 := Lib.hid (HP6.out.below hb7); clear hb7)
                  | (go_at_call 20; (with_reducible refine (HF.out _ HP7.out).mono ?_); rintro e w8 ⟨rfl, hb8⟩; have HP8 := Lib.hid (HP7.out.below hb8); clear hb8))
                go_roundw
                case rel => exact ⟨j + 1, z', L', S', HJ2.out, by go_num, rfl, HZ.out.1, HZ.out.2, HP8.out.on_⟩
                case measure => simp [intOf]; omega
              · have hsm := sm_all HPx.out.on_.ok.ok hin
                have hpos : 1 ≤ sm L' (kids L' o.p) (kids L' o.p).length := by unfold sm; omega
                have d1 : decide ((0 : Int) < ((tr L' o.p).length : Int)) = true := decide_eq_true (by omega)
                have d2 : decide (0 < (tr L' o.p).length) = true := decide_eq_true (by omega)
                have d3 : (((tr L' o.p).length : Int) != ((sm L' (kids L' o.p) (kids L' o.p).length : Nat) : Int)) = false := by rw [hsm]; simp
                have d4 : ((tr L' o.p).length != sm L' (kids L' o.p) (kids L' o.p).length) = false := by rw [hsm]; simp
                replace HT := Lib.hid HT
                clear hin hbw hsm hpos
                generalize sm L' (kids L' o.p) (kids L' o.p).length = a at *
                generalize kids L' o.p = K at *
                generalize tr L' o.p = tl at *
                generalize n - L'.length = fz at *
                go_wp2_with (first
                  | (go_at_call 22; (with_reducible refine HT.out.mono ?_); rintro e w6 ⟨a6, c6, rfl, -, hb6⟩; have HP6 := Lib.hid (HPx.out.below hb6); clear hb6)
                  | (go_at_call 23; (with_reducible refine (HRt.out _ HP6.out).mono ?_); rintro e w7 ⟨rfl, hb7⟩; have HP7 := Lib.hid (HP6.out.below hb7); clear hb7)
                  | (go_at_call 20; (with_reducible refine (HF.out _ HP7.out).mono ?_); rintro e w8 ⟨rfl, hb8⟩; have HP8 := Lib.hid (HP7.out.below hb8); clear hb8))
                go_roundw
                case rel => exact ⟨j + 1, z', L', S', HJ2.out, by go_num, rfl, HZ.out.1, HZ.out.2, HP8.out.on_⟩
                case measure => simp [intOf]; omega
    · obtain rfl : j = ops.length := by omega
      have HT := Lib.hid (hon.tree (p := 1) (by decide))
      have HA := Lib.hid (fun W (hb : Below wr.heap.size wr W) => (hon.below hb).all)
      have HE := Lib.hid (fun W (hb : Below wr.heap.size wr W) => B1.out.trans ((hon.below hb).bel.mono B1.out.size))
      have hl1 := tr_one hon.ok.ok
      have hl2 : (pids L).length = L.length := by simp [pids]
      have d1 : (((tr L 1).length : Int) == ((pids L).length : Int)) = true := by rw [hl1, hl2]; simp
      have d2 : ((tr L 1).length == (pids L).length) = true := by rw [hl1, hl2]; simp
      clear hon hl1 hl2
      generalize tr L 1 = l1 at *
      generalize pids L = l2 at *
      go_wp2_with (first
        | (go_at_call 22; (with_reducible refine HT.out.mono ?_); rintro e w6 ⟨a6, c6, rfl, -, hb6⟩; have HB6 := Lib.hid hb6; clear hb6)
        | (go_at_call 19; (with_reducible refine (HA.out _ HB6.out).mono ?_); rintro e w7 ⟨a7, c7, rfl, -, hb7⟩; have HB7 := Lib.hid (HB6.out.trans (hb7.mono HB6.out.size)); clear hb7))
      go_ret
      exact ⟨rfl, HE.out _ HB7.out⟩
theorem roots_long (n : Nat) (hn : 1 ≤ n ∧ n ≤ 32) (va : Value) (ops : List Opr) (w : World) (h : OpsAt w va ops) (hl : ¬ ops.length ≤ 80) :
    Calls Try.prog 4 #[.int .i64 (n : Int), va] w fun e w' => e = .returned (.bool true) ∧ Below w.heap.size w w' := by
  obtain ⟨ad, cap, rfl, hc1, hc2, h3⟩ := h
  have dl : decide ((80 : Int) < (ops.length : Int)) = true := decide_eq_true (by omega)
  have HN := Lib.hid (fun W => On.new n hn W)
  clear h3 hl
  go_enter Try.func4, Try.ntmps4
  go_wp2_with (first
    | (go_at_call 15; (with_reducible refine (alive_any _).mono ?_); rintro e w1 ⟨rfl, b1⟩; have B1 := Lib.hid b1; clear b1)
    | (go_at_call 14; (with_reducible refine (HN.out _).mono ?_); rintro e w2 ⟨q, rfl, h2⟩; have H2 := Lib.hid h2; clear h2))
  go_ret
  exact ⟨rfl, B1.out.trans (H2.out.bel.mono B1.out.size)⟩
theorem roots_bad (n : Int) (hn : n < 1 ∨ 32 < n) (va : Value) (ops : List Opr) (w : World) (h : OpsAt w va ops) :
    Calls Try.prog 4 #[.int .i64 n, va] w fun e w' => e = .returned (.bool true) ∧ Below w.heap.size w w' := by
  obtain ⟨ad, cap, rfl, hc1, hc2, h3⟩ := h
  have HN := Lib.hid (fun W => new_no n hn W)
  clear h3 hn
  cases dl : decide ((80 : Int) < (ops.length : Int))
  all_goals
    go_enter Try.func4, Try.ntmps4
    go_wp2_with (first
      | (go_at_call 15; (with_reducible refine (alive_any _).mono ?_); rintro e w1 ⟨rfl, b1⟩; have B1 := Lib.hid b1; clear b1)
      | (go_at_call 14; (with_reducible refine (HN.out _).mono ?_); rintro e w2 ⟨rfl, rfl⟩))
    go_ret
    exact ⟨rfl, B1.out⟩
theorem roots_law (a : Int) (va : Value) (ops : List Opr) (w : World) (h : OpsAt w va ops) :
    Calls Try.prog 4 #[.int .i64 a, va] w fun e w' => e = .returned (.bool true) ∧ Below w.heap.size w w' := by
  by_cases hn : a < 1 ∨ 32 < a
  · exact roots_bad a hn va ops w h
  · obtain ⟨n, rfl⟩ : ∃ n : Nat, a = (n : Int) := ⟨a.toNat, by omega⟩
    by_cases hl : ops.length ≤ 80
    · exact roots_short n (by omega) va ops w h hl
    · exact roots_long n (by omega) va ops w h hl
end Go.Proofs.Ytkjcjodhpcfjiaa.Tex
namespace Go.Proofs.Ytkjcjodhpcfjiaa.Walk
open Go Go.RowKit Teu
theorem treeRoots (a : Int) (va : Value) (ops : List Opr) (w : World) (_wa : (Lit.int .i64 a).wf = true) (h : OpsAt w va ops) : Calls Try.prog 4 #[.int .i64 a, va] w fun e w' => e = .returned (.bool true) ∧ Below w.heap.size w w' := Tex.roots_law a va ops w h
end Go.Proofs.Ytkjcjodhpcfjiaa.Walk
