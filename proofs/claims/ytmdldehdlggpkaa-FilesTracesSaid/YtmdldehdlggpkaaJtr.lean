/-
  FilesTraces: the walk.
-/
import Derived.Test.YtmdldehdlggpkaaJf
import Derived.Deep.RegionHeld
namespace Go.Proofs.Ytmdldehdlggpkaa.Jtr
open Go Go.RowKit Kit Bk Jp Jm Ji Jo Ju Jd Je Jr Jq Js Jb Jx Jy Jz Jt Jf
set_option linter.unusedVariables false
attribute [local go_sem ↓] stf_wrap

theorem law_long (va : Value) (ops : List Opr) (w : World) (h : OpsAt w va ops) (hl : ¬ ops.length ≤ 200) (P : Int) (V : Bool) (y : Value) :
    Calls Try.prog 5 #[va, .agg #[.int .i64 P, .bool V], y] w fun e w' => e = .returned (.bool true) ∧ Below w.heap.size w w' := by
  obtain ⟨ad, cap, rfl, h1, h2, h3⟩ := h
  have dl : decide ((200 : Int) < (ops.length : Int)) = true := decide_eq_true (by omega)
  have hb0 : Below w.heap.size w (w.alloc (.cells #[.int .i64 P, .bool V] 26)) := (Below.refl _ _).alloc (Nat.le_refl _) _
  have HB0 := Lib.hid hb0
  clear h3 hl hb0
  go_enter Try.func5, Try.ntmps5
  go_wp2_with (go_at_call 29; (with_reducible refine (Jw.alive_any _).mono ?_); rintro e w1 ⟨rfl, b1⟩; have B1 := Lib.hid b1; clear b1)
  go_ret
  exact ⟨rfl, HB0.out.trans (B1.out.mono HB0.out.size)⟩
/-- What the law has at hand: all it made, its argument, the list that it keeps. -/
structure Tr (W0 w : World) (p f d q v x : Nat) (T S : Sf) (D : Nat → Nat) (P : Int) (V : Bool) (rv : Value) (L : Nat) (F : Nat → Int) : Prop where
  bo : Bo W0 w p f d q v T S D D
  ar : Blk w x #[.int .i64 P, .bool V] 26
  row : Ir w rv L F
variable {W0 w w' : World} {p f d q v x L : Nat} {S T T' : Sf} {D : Nat → Nat} {P : Int} {V : Bool} {rv : Value} {F : Nat → Int}
theorem Tr.below (h : Tr W0 w p f d q v x T S D P V rv L F) (hb : Below w.heap.size w w') : Tr W0 w' p f d q v x T S D P V rv L F := ⟨h.bo.below hb, h.ar.below hb, h.row.below hb⟩
theorem Tr.onF (h : Tr W0 w p f d q v x T S D P V rv L F) (k : Kp (fun j => j = f) w w') (hF : Fl w' f T') : Tr W0 w' p f d q v x T' S D P V rv L F :=
  ⟨h.bo.onF k hF, h.ar.kept k (kF h.bo.fl k h.ar (by decide)), h.row.kept k (fun g cs hg => kF h.bo.fl k hg (by decide))⟩
/-- Open files with one number of so many. -/
def St (S : Sf) (m : Nat) (P : Int) (V : Bool) (j : Nat) : Sf := if j = 0 then S.put m 0 false 0 else S.put m P V j
theorem St.R (S : Sf) (m : Nat) (P : Int) (V : Bool) (j : Nat) : (St S m P V j).R m = j := by
  unfold St
  split
  · rename_i h; rw [h]; exact up_same _ _ _
  · exact up_same _ _ _
theorem St.few {S : Sf} {c : Nat} (hg : Gof c S) (hc : c ≤ 1000) (m : Nat) (P : Int) (V : Bool) (j : Nat) (hj : j ≤ 1000) : Few (St S m P V j) := fun k => by
  by_cases e : k = m
  · rw [e, St.R]; omega
  · have := hg.few k
    have h2 : (St S m P V j).R k = S.R k := by
      unfold St
      split
      · exact up_other _ _ _ _ e
      · exact up_other _ _ _ _ e
    omega
theorem share_st (w : World) (f : Nat) (S : Sf) (m : Nat) (hm : m < 64) (P : Int) (V : Bool) (j : Nat) (hj : j ≠ 0) (h : Fl w f (St S m P V j)) (hf : Few (St S m P V j)) :
    Calls Try.prog 30 #[.pointer (some ⟨f, 0, none⟩), .int .i64 (m : Int)] w fun e w' => e = .returned (.int .i64 0) ∧ Kp (fun j => j = f) w w' ∧ Fl w' f (St S m P V (j + 1)) := by
  have := share_any w f _ h hf (m : Int)
  have hr := St.R S m P V j
  unfold sE sS at this
  rw [rf_nat hm, if_neg (by omega), if_neg (by omega), show Int.toNat (m : Int) = m by omega, hr] at this
  have e : (⟨(St S m P V j).P, (St S m P V j).V, up (St S m P V j).R m (j + 1)⟩ : Sf) = St S m P V (j + 1) := by
    unfold St
    rw [if_neg hj, if_neg (by omega)]
    unfold Sf.put
    dsimp only
    rw [up_up]
  rw [e] at this
  exact this
theorem drop_st (w : World) (f : Nat) (S : Sf) (m : Nat) (hm : m < 64) (P : Int) (V : Bool) (j : Nat) (h : Fl w f (St S m P V (j + 1))) (hf : Few (St S m P V (j + 1))) :
    Calls Try.prog 26 #[.pointer (some ⟨f, 0, none⟩), .int .i64 (m : Int)] w fun e w' => e = .returned (.tuple #[.int .i64 (j : Int), .agg #[.int .i64 P, .bool V], .int .i64 0]) ∧ Kp (fun j => j = f) w w' ∧ Fl w' f (St S m P V j) := by
  have := drop_any w f _ h hf (m : Int)
  have hr := St.R S m P V (j + 1)
  have hp : (St S m P V (j + 1)).P m = P := by unfold St; rw [if_neg (by omega)]; exact up_same _ _ _
  have hv : (St S m P V (j + 1)).V m = V := by unfold St; rw [if_neg (by omega)]; exact up_same _ _ _
  unfold dN dP dV sE dS at this
  rw [rf_nat hm, hr, if_neg (by omega), if_neg (by omega), if_neg (by omega), if_neg (by omega), if_neg (by omega), show Int.toNat (m : Int) = m by omega, hp, hv, show ((j + 1 : Nat) : Int) - 1 = (j : Int) by omega, hr] at this
  have e : (if j + 1 = 1 then (St S m P V (j + 1)).put m 0 false 0 else ⟨(St S m P V (j + 1)).P, (St S m P V (j + 1)).V, up (St S m P V (j + 1)).R m (j + 1 - 1)⟩ : Sf) = St S m P V j := by
    unfold St
    rw [if_neg (show ¬ j + 1 = 0 by omega)]
    by_cases h0 : j = 0
    · subst h0
      rw [if_pos rfl, if_pos rfl]
      unfold Sf.put
      dsimp only
      rw [up_up, up_up, up_up]
    · rw [if_neg (by omega), if_neg h0]
      unfold Sf.put
      dsimp only
      rw [up_up, show j + 1 - 1 = j by omega]
  rw [e] at this
  exact this

set_option maxRecDepth 100000 in
set_option maxHeartbeats 16000000 in
theorem traces_fine (va : Value) (ops : List Opr) (w : World) (h : OpsAt w va ops) (hl : ops.length ≤ 200) (P : Int) (V : Bool) (hw : (Lit.int .i64 P).wf = true) (a : Nat) (ha : a < 256) :
    Calls Try.prog 5 #[va, .agg #[.int .i64 P, .bool V], .int .u8 (a : Int)] w fun e w' => e = .returned (.bool true) ∧ Below w.heap.size w w' := by
  have hb0 : Below w.heap.size w (w.alloc (.cells #[.int .i64 P, .bool V] 26)) := (Below.refl _ _).alloc (Nat.le_refl _) _
  have hx0 : Blk (w.alloc (.cells #[.int .i64 P, .bool V] 26)) w.heap.size #[.int .i64 P, .bool V] 26 := Blk.new _ _ _
  have hO0 := OpsAt.below h hb0
  obtain ⟨ad, cap, rfl, h1, h2, h3⟩ := h
  have dl : decide ((200 : Int) < (ops.length : Int)) = false := decide_eq_false (by omega)
  have hli : (ops.length : Int) ≤ 200 := by omega
  generalize hw0 : w.alloc (.cells #[.int .i64 P, .bool V] 26) = w0 at *
  obtain ⟨x, hx⟩ : ∃ x, w.heap.size = x := ⟨_, rfl⟩
  obtain ⟨_, _, e3, _, _, H3⟩ := hO0
  cases e3
  replace H3 := Lib.hid H3
  have HB0 := Lib.hid hb0
  have HX0 := Lib.hid hx0
  have HHl := Lib.hid hl
  have hwa : wrap64 (a : Int) = (a : Int) := IntWalk.wrap64_in _ (by omega)
  clear h3 hb0 hx0 hx
  go_enter Try.func5, Try.ntmps5
  go_wp2_with (first
    | (go_at_call 29; (with_reducible refine (Jw.alive_any _).mono ?_); rintro e w1 ⟨rfl, b1⟩; have B1 := Lib.hid b1; clear b1)
    | (go_at_call 10; (with_reducible refine (fresh_sta _).mono ?_); rintro e w2 ⟨p, rfl, hs⟩; have HS := Lib.hid hs; clear hs))
  go_loopw [31] (fun i wr => ∃ j : Nat, j ≤ ops.length ∧ i = .int .i64 (j : Int) ∧ Sta w1 wr p j) (fun i _ => ops.length - (intOf i).toNat)
  case atStart => exact ⟨0, Nat.zero_le _, rfl, HS.out⟩
  case round =>
    obtain ⟨j, hj, rfl, hs⟩ := hrel
    by_cases hlt : j < ops.length
    · rcases H3.out with h0 | ⟨ba, off, rfl, hb, h4⟩
      · subst h0; simp at hlt
      · obtain ⟨c0, c1, c2, c3, c4⟩ := OpAt.below (h4 j hlt) (B1.out.trans (hs.bel.mono B1.out.size)) hb
        have hd := hs.do_ (by omega) ops[j]
        generalize ops[j] = o at *
        have HD := Lib.hid hd
        have hlti : (j : Int) < (ops.length : Int) := by omega
        clear h4 hd hs
        go_wp2_with (go_at_call 11; (with_reducible refine HD.out.mono ?_); rintro e w3 ⟨rfl, hs2⟩; have HS2 := Lib.hid hs2; clear hs2)
        go_roundw
        case rel => exact ⟨j + 1, by omega, by go_num, HS2.out⟩
        case measure => simp [intOf]; omega
    · obtain rfl : j = ops.length := by omega
      obtain ⟨f, d, q, v, S, D, hbo, hg⟩ := hs
      clear H3 HS
      have hdw := hbo.drew
      have k0 : wr.drew.cell? ⟨p, 0, none⟩ = some (.pointer (some ⟨f, 0, none⟩)) := hdw.blk.cell 0
      have HU := Lib.hid (used_any wr.drew f S hdw.fl)
      have HFr := Lib.hid (fun W (hh : Fl W f S) => free_any W f S hh)
      obtain ⟨L, hL⟩ : ∃ L, (usd S.R 64).length = L := ⟨_, rfl⟩
      rw [hL] at HU HFr
      have HGo := Lib.hid (hg.mono (show ops.length ≤ 1000 by have := HHl.out; omega))
      have hLl := usd_len S.R 64
      rw [hL] at hLl
      have HLv := Lib.hid hL
      have HXr := Lib.hid ((HX0.out.below B1.out).below (show Below w1.heap.size w1 wr from hbo.bel))
      have HK0 := Lib.hid k0
      have HBd := Lib.hid hdw
      have hLi : (L : Int) ≤ 64 := by omega
      clear hbo hdw hg hL k0
      go_wp2
      go_region_held (fun W => W.cell? ⟨p, 0, none⟩ = some (.pointer (some ⟨f, 0, none⟩))) (first | exact K5.out | exact K4.out | exact HK0.out)
        (first
          | (go_at_call 13; (with_reducible refine HU.out.mono ?_); rintro e w4 ⟨b4, rv, rfl, hr4⟩; obtain ⟨ar, ac, rfl⟩ := row_form hr4; have HT4 := Lib.hid (⟨HBd.out.below b4, (HXr.out.below ((Below.refl wr.heap.size wr).drew)).below b4, ir_own (by rw [HLv.out]) hr4⟩ : Tr w1 w4 p f d q v w.heap.size S S D P V _ L _); have K4 := Lib.hid (HT4.out.bo.blk.cell 0); clear b4 hr4)
          | (go_at_call 18; (with_reducible refine (HFr.out _ HT4.out.bo.fl).mono ?_); rintro e w5 ⟨rfl, b5⟩; have HT5 := Lib.hid (HT4.out.below b5); have K5 := Lib.hid (HT5.out.bo.blk.cell 0); clear b5))
      clear HU HXr HK0 HBd HT4 K4
      have hT5 := HT5.out.below ((Below.refl w5.heap.size w5).drew)
      have HO := Lib.hid (open_any w5.drew f S hT5.bo.fl P V)
      have HT5d := Lib.hid hT5
      have K6 : Hid (w5.drew.cell? ⟨p, 0, none⟩ = some (.pointer (some ⟨f, 0, none⟩)) ∧ w5.drew.cell? ⟨w.heap.size, 0, none⟩ = some (.int .i64 P) ∧ w5.drew.cell? ⟨w.heap.size, 1, none⟩ = some (.bool V)) := Lib.hid ⟨hT5.bo.blk.cell 0, hT5.ar.cell 0, hT5.ar.cell 1⟩
      have HK : Hid (∀ w6 T', Kp (fun j => j = f) w5.drew w6 → Fl w6 f T' → Tr w1 w6 p f d q v w.heap.size T' S D P V (.slice ar L ac) L (Nl (usd S.R 64))) := Lib.hid (fun w6 T' k6 g6 => hT5.onF k6 g6)
      clear hT5
      by_cases hm : mayP P
      · by_cases hl64 : lst S.R 64 = 64
        · have e1 : oE S P = 100 := by unfold oE; rw [if_pos hm, if_pos hl64]
          have hL64 : L = 64 := by rw [← HLv.out]; exact usd_lst hl64
          subst hL64
          have d0 : decide (0 ≤ P) = true := decide_eq_true hm.1
          have d1 : decide (P < 16) = true := decide_eq_true hm.2
          rw [e1] at HO
          generalize oN S P = z at *
          generalize oS S P V = T at *
          clear e1 hl64 hm
          try go_wp2
          go_region_held (fun W => W.cell? ⟨p, 0, none⟩ = some (.pointer (some ⟨f, 0, none⟩)) ∧ W.cell? ⟨w.heap.size, 0, none⟩ = some (.int .i64 P) ∧ W.cell? ⟨w.heap.size, 1, none⟩ = some (.bool V)) (first | exact ⟨K7.out.bo.blk.cell 0, K7.out.ar.cell 0, K7.out.ar.cell 1⟩ | exact K6.out)
            (first | (go_at_call 27; (with_reducible refine HO.out.mono ?_); rintro e w6 ⟨rfl, k6, g6⟩; have K7 := Lib.hid (HK.out _ _ k6 g6); clear k6 g6))
          have x0 := K7.out.ar.cell 0
          have x1 := K7.out.ar.cell 1
          go_wp2
          go_ret
          exact ⟨rfl, (HB0.out.trans (B1.out.mono HB0.out.size)).trans (K7.out.bo.bel.mono (HB0.out.trans (B1.out.mono HB0.out.size)).size)⟩
        · obtain ⟨m, hmv⟩ : ∃ m, lst S.R 64 = m := ⟨_, rfl⟩
          have hle := lst_le S.R 64
          have hm64 : m < 64 := by omega
          have hat := lst_at S.R 64 (by omega)
          rw [hmv] at hat
          have e1 : oE S P = 0 := by unfold oE; rw [if_pos hm, if_neg hl64]
          have e2 : oN S P = (m : Int) := by unfold oN; rw [if_pos ⟨hm, hl64⟩, hmv]
          have e3 : oS S P V = St S m P V 1 := by unfold oS St; rw [if_pos ⟨hm, hl64⟩, hmv, if_neg (by decide)]
          rw [e1, e2, e3] at HO
          have hs := run_same P V hw
          have HSh := Lib.hid (fun W j (hj : j ≠ 0) (h9 : j ≤ 500) (hh : Fl W f (St S m P V j)) => share_st W f S m hm64 P V j hj hh (St.few HGo.out (by omega) m P V j (by omega)))
          have HDr := Lib.hid (fun W j (h9 : j ≤ 500) (hh : Fl W f (St S m P V (j + 1))) => drop_st W f S m hm64 P V j hh (St.few HGo.out (by omega) m P V (j + 1) (by omega)))
          have hu0 : usd (St S m P V 0).R 64 = usd S.R 64 := usd_ext (fun k hk => by
            by_cases e : k = m
            · rw [e, St.R, hat]
            · rw [show (St S m P V 0).R k = S.R k from up_other _ _ _ _ e])
          have HUs := Lib.hid (fun W (hh : Fl W f (St S m P V 0)) => used_any W f _ hh)
          have HFs := Lib.hid (fun W (hh : Fl W f (St S m P V 0)) => free_any W f _ hh)
          rw [hu0, HLv.out] at HUs HFs
          have HHa := Lib.hid ha
          clear e1 e2 e3 hl64 hm hat hu0 hmv hle
          try go_wp2
          go_region_held (fun W => W.cell? ⟨p, 0, none⟩ = some (.pointer (some ⟨f, 0, none⟩)) ∧ W.cell? ⟨w.heap.size, 0, none⟩ = some (.int .i64 P) ∧ W.cell? ⟨w.heap.size, 1, none⟩ = some (.bool V)) (first | exact ⟨K7.out.bo.blk.cell 0, K7.out.ar.cell 0, K7.out.ar.cell 1⟩ | exact K6.out)
            (first | (go_at_call 27; (with_reducible refine HO.out.mono ?_); rintro e w6 ⟨rfl, k6, g6⟩; have K7 := Lib.hid (HK.out _ _ k6 g6); clear k6 g6))
          clear HO HK K6 HT5 HT5d K5
          go_wp2
          go_loopw [81] (fun i wx => ∃ j : Nat, j ≤ a ∧ i = .int .u8 (j : Int) ∧ Tr w1 wx p f d q v w.heap.size (St S m P V (j + 1)) S D P V (.slice ar L ac) L (Nl (usd S.R 64))) (fun i _ => a - (intOf i).toNat)
          case atStart => exact ⟨0, Nat.zero_le _, rfl, K7.out⟩
          case round =>
            obtain ⟨j, hj, rfl, ht⟩ := hrel
            by_cases hlt : j < a
            · have hd : decide ((j : Int) < (a : Int)) = true := decide_eq_true (by omega)
              have hjk : (j : Int) + 1 < 256 := by have := HHa.out; omega
              have HC := Lib.hid (HSh.out _ (j + 1) (by omega) (by have := HHa.out; omega) ht.bo.fl)
              have k0 := ht.bo.blk.cell 0
              have HT := Lib.hid ht
              clear ht
              go_wp2_with (go_at_call 30; (with_reducible refine HC.out.mono ?_); rintro e w8 ⟨rfl, k8, g8⟩; have HT8 := Lib.hid (HT.out.onF k8 g8); clear k8 g8)
              go_roundw
              case rel => exact ⟨j + 1, by omega, by go_num, HT8.out⟩
              case measure => simp [intOf]; omega
            · have hja : j = a := by omega
              have hd : decide ((j : Int) < (a : Int)) = false := decide_eq_false (by omega)
              have HT : Hid (Tr w1 _ p f d q v w.heap.size (St S m P V (a + 1)) S D P V (.slice ar L ac) L (Nl (usd S.R 64))) := Lib.hid (by rw [← hja]; exact ht)
              generalize (j : Int) = jz at *
              clear ht hja hj hlt K7
              go_wp2
              go_loopw [14] (fun i wx => ∃ t : Nat, t ≤ a + 1 ∧ i = .int .i64 ((t : Int) - 1) ∧ Tr w1 wx p f d q v w.heap.size (St S m P V t) S D P V (.slice ar L ac) L (Nl (usd S.R 64))) (fun i _ => (intOf i + 1).toNat)
              case atStart => exact ⟨a + 1, Nat.le_refl _, by congr 1; omega, HT.out⟩
              case round =>
                obtain ⟨t, ht, rfl, htr⟩ := hrel
                by_cases h0 : t = 0
                · subst h0
                  have HT0 := Lib.hid htr
                  have k0 := htr.bo.blk.cell 0
                  have HUt := Lib.hid (HUs.out _ htr.bo.fl)
                  clear htr HT
                  go_wp2_with (first
                    | (go_at_call 13; (with_reducible refine HUt.out.mono ?_); rintro e w9 ⟨b9, r9, rfl, h9⟩; obtain ⟨ar9, ac9, rfl⟩ := row_form h9; have HT9 := Lib.hid (HT0.out.below b9); have HI9 := Lib.hid (ir_own (by rw [HLv.out]) h9); have k9 := HT9.out.bo.blk.cell 0; clear b9 h9)
                    | (go_at_call 16; (with_reducible refine (same_ir _ _ L _ _ (by omega) HI9.out HT9.out.row).mono ?_); rintro e w10 ⟨rfl, b10⟩; have HT10 := Lib.hid (HT9.out.below b10); have k10 := HT10.out.bo.blk.cell 0; clear b10)
                    | (go_at_call 18; (with_reducible refine (HFs.out _ HT10.out.bo.fl).mono ?_); rintro e w11 ⟨rfl, b11⟩; have HT11 := Lib.hid (HT10.out.below b11); clear b11))
                  go_ret
                  exact ⟨rfl, (HB0.out.trans (B1.out.mono HB0.out.size)).trans (HT11.out.bo.bel.mono (HB0.out.trans (B1.out.mono HB0.out.size)).size)⟩
                · obtain ⟨t', rfl⟩ : ∃ t', t = t' + 1 := ⟨t - 1, by omega⟩
                  have e1 : (((t' + 1 : Nat) : Int) - 1) = (t' : Int) := by omega
                  rw [e1]
                  have HC := Lib.hid (HDr.out _ t' (by have := HHa.out; omega) htr.bo.fl)
                  have k0 := htr.bo.blk.cell 0
                  have HT2 := Lib.hid htr
                  have ht5 : (t' : Int) ≤ 256 := by have := HHa.out; omega
                  clear htr e1 HT
                  go_wp2_with (go_at_call 26; (with_reducible refine HC.out.mono ?_); rintro e w8 ⟨rfl, k8, g8⟩; have hT8 := HT2.out.onF k8 g8; obtain ⟨W9, hst9, hbk9, b9⟩ := new_st w8 P V; have HT9 := Lib.hid (hT8.below b9); have y0 := hbk9.cell 0; have y1 := hbk9.cell 1; have x0 := (hT8.below b9).ar.cell 0; have x1 := (hT8.below b9).ar.cell 1; clear k8 g8 b9 hbk9 hT8)
                  go_roundw
                  case rel => exact ⟨t', by omega, by go_num, HT9.out⟩
                  case measure => simp [intOf]
      · have e1 : oE S P = 2 := by unfold oE; rw [if_neg hm]
        rw [e1] at HO
        generalize oN S P = z at *
        generalize oS S P V = T at *
        by_cases h0 : 0 ≤ P
        · have d0 : decide (0 ≤ P) = true := decide_eq_true h0
          have d1 : decide (P < 16) = false := decide_eq_false (by unfold mayP at hm; omega)
          clear e1 hm h0
          try go_wp2
          go_region_held (fun W => W.cell? ⟨p, 0, none⟩ = some (.pointer (some ⟨f, 0, none⟩)) ∧ W.cell? ⟨w.heap.size, 0, none⟩ = some (.int .i64 P) ∧ W.cell? ⟨w.heap.size, 1, none⟩ = some (.bool V)) (first | exact ⟨K7.out.bo.blk.cell 0, K7.out.ar.cell 0, K7.out.ar.cell 1⟩ | exact K6.out)
            (first | (go_at_call 27; (with_reducible refine HO.out.mono ?_); rintro e w6 ⟨rfl, k6, g6⟩; have K7 := Lib.hid (HK.out _ _ k6 g6); clear k6 g6))
          have x0 := K7.out.ar.cell 0
          have x1 := K7.out.ar.cell 1
          by_cases hf : ((64 : Int) - (L : Int) == 0) = true
          · go_wp2
            go_ret
            exact ⟨rfl, (HB0.out.trans (B1.out.mono HB0.out.size)).trans (K7.out.bo.bel.mono (HB0.out.trans (B1.out.mono HB0.out.size)).size)⟩
          · have hf2 : ((64 : Int) - (L : Int) == 0) = false := by simpa using hf
            clear hf
            go_wp2
            go_ret
            exact ⟨rfl, (HB0.out.trans (B1.out.mono HB0.out.size)).trans (K7.out.bo.bel.mono (HB0.out.trans (B1.out.mono HB0.out.size)).size)⟩
        · have d0 : decide (0 ≤ P) = false := decide_eq_false h0
          clear e1 hm h0
          try go_wp2
          go_region_held (fun W => W.cell? ⟨p, 0, none⟩ = some (.pointer (some ⟨f, 0, none⟩)) ∧ W.cell? ⟨w.heap.size, 0, none⟩ = some (.int .i64 P) ∧ W.cell? ⟨w.heap.size, 1, none⟩ = some (.bool V)) (first | exact ⟨K7.out.bo.blk.cell 0, K7.out.ar.cell 0, K7.out.ar.cell 1⟩ | exact K6.out)
            (first | (go_at_call 27; (with_reducible refine HO.out.mono ?_); rintro e w6 ⟨rfl, k6, g6⟩; have K7 := Lib.hid (HK.out _ _ k6 g6); clear k6 g6))
          have x0 := K7.out.ar.cell 0
          have x1 := K7.out.ar.cell 1
          by_cases hf : ((64 : Int) - (L : Int) == 0) = true
          · go_wp2
            go_ret
            exact ⟨rfl, (HB0.out.trans (B1.out.mono HB0.out.size)).trans (K7.out.bo.bel.mono (HB0.out.trans (B1.out.mono HB0.out.size)).size)⟩
          · have hf2 : ((64 : Int) - (L : Int) == 0) = false := by simpa using hf
            clear hf
            go_wp2
            go_ret
            exact ⟨rfl, (HB0.out.trans (B1.out.mono HB0.out.size)).trans (K7.out.bo.bel.mono (HB0.out.trans (B1.out.mono HB0.out.size)).size)⟩
end Go.Proofs.Ytmdldehdlggpkaa.Jtr
namespace Go.Proofs.Ytmdldehdlggpkaa.Walk
open Go Go.RowKit Kit Jtr Jb Jt
theorem filesTraces (va : Value) (ops : List Opr) (P : Int) (V : Bool) (a : Int) (W : World) (h : OpsAt W va ops) (hP : (Lit.int .i64 P).wf = true) (wa : (Lit.int .u8 a).wf = true) :
    Calls Try.prog 5 #[va, .agg #[.int .i64 P, .bool V], .int .u8 a] W fun e w' => e = .returned (.bool true) ∧ Below W.heap.size W w' := by
  obtain ⟨n, rfl, hn⟩ := u8_nat wa
  by_cases hl : ops.length ≤ 200
  · exact traces_fine va ops W h hl P V hP n hn
  · exact law_long va ops W h hl P V _
end Go.Proofs.Ytmdldehdlggpkaa.Walk
