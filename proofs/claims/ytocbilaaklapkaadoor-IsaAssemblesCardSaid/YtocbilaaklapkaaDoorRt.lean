/-
  The document's take: a line's instruction, and its label.
-/
import Derived.Test.YtocbilaaklapkaaDoorTkp
import Derived.Test.YtocbilaaklapkaaDoorRli
import Derived.Test.YtocbilaaklapkaaDoorIsaK
namespace Go.Proofs.YtocbilaaklapkaaDoor.Rt
open Go Go.RowKit Go.Shelf Kit IsaM IsaT IsaL IsaC IsaE IsaN IsaP IsaB IsaK IsaO Ra Rb0 Rb Rli Rd Rl Rs Tkp
set_option linter.unusedVariables false

/-- What take answers. -/
def TakeE (s : ByteArray) (w : World) (e : Ending) (w' : World) : Prop :=
  (∃ (c0 a b i : Int) (lb : ByteArray) (ok : Bool), e = .returned (.tuple #[.agg #[.int .i64 c0, .int .i64 a, .int .i64 b, .int .i64 i], .string lb, .bool ok]) ∧
    (ok = true → ∃ (k : Nat) (l : Tx), c0 = (k : Int) ∧ lb = st l ∧ parse s.data.toList = some ((k, a, b, i), l)) ∧ (ok = false → parse s.data.toList = none)) ∧ Below w.heap.size w w'
theorem takeE_no {s : ByteArray} {w w' : World} {e : Ending} (c0 a b i : Int) (he : e = .returned (.tuple #[.agg #[.int .i64 c0, .int .i64 a, .int .i64 b, .int .i64 i], .string ⟨#[]⟩, .bool false])) (hn : parse s.data.toList = none) (hb : Below w.heap.size w w') : TakeE s w e w' := ⟨⟨c0, a, b, i, _, false, he, (fun h => by cases h), fun _ => hn⟩, hb⟩
theorem names_neg (w : World) :
    Calls Tryd.prog 29 #[.int .i64 (-1)] w fun e w' => e = .returned (.string (st [97, 98])) ∧ w = w' := by
  go_enter Tryd.func29, Tryd.ntmps29
  go_wp2
  go_ret
  exact ⟨rfl, rfl⟩
theorem split_le : ∀ (s : Tx), ∀ p ∈ splitSp s, p.length ≤ s.length
  | [], p, h => by simp [splitSp] at h; subst h; simp
  | c :: r, p, h => by
    have ih := split_le r
    rw [splitSp_cons] at h
    split at h
    · rcases List.mem_cons.1 h with h | h
      · subst h; simp
      · have := ih p h; simp; omega
    · split at h
      · rw [List.mem_singleton] at h; subst h; simp
      · rename_i q qs hq
        rw [hq] at ih
        rcases List.mem_cons.1 h with h | h
        · subst h
          have := ih q (by simp)
          simp; omega
        · have := ih p (by simp [h])
          simp; omega
theorem split_count : ∀ (s : Tx), (splitSp s).length ≤ s.length + 1
  | [] => by simp [splitSp]
  | c :: r => by
    have ih := split_count r
    rw [splitSp_cons]
    split
    · simp; omega
    · split
      · simp
      · rename_i q qs hq
        rw [hq] at ih
        simp at ih ⊢
        omega
theorem may_fits (k : Nat) (a b i : Int) : mayB k a b i = true ↔ Fits k a b i := by
  unfold mayB
  rw [decide_eq_true_iff]
  exact ⟨fun h => by have := h.2; simpa using this, fun h => ⟨by omega, by simpa using h⟩⟩
/-- The word is the name of c, or of none of the first j. -/
def Fo (hd : Tx) (j : Nat) (c : Int) : Prop := (c = -1 ∧ ∀ q, q < j → nm q ≠ hd) ∨ (∃ k, k < j ∧ k < 30 ∧ c = (k : Int) ∧ nm k = hd)
theorem fo_hit {hd : Tx} {j : Nat} (hj : j < 30) (h : nm j = hd) : Fo hd (j + 1) (j : Int) := .inr ⟨j, by omega, hj, rfl, h⟩
theorem fo_miss {hd : Tx} {j : Nat} {c : Int} (h : Fo hd j c) (hn : nm j ≠ hd) : Fo hd (j + 1) c := by
  rcases h with ⟨h1, h2⟩ | ⟨k, h1, h2⟩
  · refine .inl ⟨h1, fun q hq => ?_⟩
    rcases Nat.lt_or_ge q j with h | h
    · exact h2 q h
    · obtain rfl : q = j := by omega
      exact hn
  · exact .inr ⟨k, by omega, h2⟩
theorem fo_end {hd : Tx} {c : Int} (h : Fo hd 30 c) : (c = -1 ∧ opOf hd = none) ∨ (∃ k : Nat, k < 30 ∧ c = (k : Int) ∧ opOf hd = some k) := by
  rcases h with ⟨h1, h2⟩ | ⟨k, h1, h2, h3, h4⟩
  · exact .inl ⟨h1, opOf_none h2⟩
  · exact .inr ⟨k, h2, h3, by rw [← h4]; exact opOf_nm h2⟩
theorem cmp_nm (j : Nat) (hd : Tx) : (nm j == (st hd).toList) = decide (nm j = hd) := by
  rw [ByteArray.toList_eq, st_data]
  by_cases h : nm j = hd
  · rw [h]; simp
  · rw [decide_eq_false h]; simpa using h
theorem zip_drop {N : Tx} {tl : List Tx} (hl : tl.length = N.length) {j : Nat} (h : j < N.length) (h2 : j < tl.length) : (N.zip tl).drop j = (N[j], tl[j]) :: (N.zip tl).drop (j + 1) := by
  rw [List.drop_eq_getElem_cons (by simp; omega), List.getElem_zip]
theorem rf_step {k : Nat} {N : Tx} {tl : List Tx} {s s' : Sta} {R : Option Sta} {j : Nat} {c : UInt8} {t : Tx} (hl : tl.length = N.length) (h : j < N.length) (h2 : j < tl.length) (hc : N[j] = c) (ht : tl[j] = t) (hR : rfold k ((N.zip tl).drop j) s = R) (hs : rstep k c t s = some s') : rfold k ((N.zip tl).drop (j + 1)) s' = R := by
  rw [zip_drop hl h h2, rfold_cons, hc, ht, hs, Option.bind_some] at hR
  exact hR
theorem rf_stop {k : Nat} {N : Tx} {tl : List Tx} {s : Sta} {R : Option Sta} {j : Nat} {c : UInt8} {t : Tx} (hl : tl.length = N.length) (h : j < N.length) (h2 : j < tl.length) (hc : N[j] = c) (ht : tl[j] = t) (hR : rfold k ((N.zip tl).drop j) s = R) (hs : rstep k c t s = none) : R = none := by
  rw [zip_drop hl h h2, rfold_cons, hc, ht, hs, Option.bind_none] at hR
  exact hR.symm
theorem rs_num {k : Nat} {c : UInt8} {t : Tx} {v : Int} (s : Sta) (h : numOf t = some v) : rstep k c t s = some (setF c v s.1, s.2) := by unfold rstep; rw [h]
theorem rs_lab {k : Nat} {t : Tx} (s : Sta) (h : numOf t = none) (hj : isJ k = true) (hn : isNm t = true) : rstep k 105 t s = some (s.1, t) := by unfold rstep; rw [h]; simp [hj, hn]
theorem rs_no {k : Nat} {c : UInt8} {t : Tx} (s : Sta) (h : numOf t = none) (hc : c ≠ 105 ∨ isJ k = false ∨ isNm t = false) : rstep k c t s = none := by
  unfold rstep
  rw [h]
  simp only
  rw [if_neg]
  rintro ⟨h1, h2, h3⟩
  rcases hc with hc | hc | hc
  · exact hc h1
  · rw [hc] at h2; cases h2
  · rw [hc] at h3; cases h3
theorem isJ_no {k : Nat} (h : k < 19 ∨ 22 < k) : isJ k = false := by
  unfold isJ
  simp
  omega
theorem isJ_yes {k : Nat} (h : 19 ≤ k) (h2 : k ≤ 22) : isJ k = true := by
  have : k = 19 ∨ k = 20 ∨ k = 21 ∨ k = 22 := by omega
  rcases this with rfl | rfl | rfl | rfl <;> rfl

set_option maxRecDepth 100000 in
set_option maxHeartbeats 8000000 in
theorem rtake_any (s : ByteArray) (hs : s.size ≤ 100000) (w : World) :
    Calls Tryd.prog 38 #[.string s] w (TakeE s w) := by
  have HS := Lib.hid (fun wx => split_rany s hs wx)
  obtain ⟨hd, tl, hL⟩ : ∃ hd tl, splitSp s.data.toList = hd :: tl := by
    cases h : splitSp s.data.toList with
    | nil => exact absurd h (splitSp_ne _)
    | cons hd tl => exact ⟨hd, tl, rfl⟩
  have HP := Lib.hid (parse_rtake hL)
  have hle : ∀ p ∈ hd :: tl, p.length ≤ 100000 := fun p hp => by
    have := split_le s.data.toList p (by rw [hL]; exact hp)
    have h2 : s.data.toList.length = s.size := by simp
    omega
  rw [hL, show (hd :: tl).length = tl.length + 1 from rfl] at HS
  have HLe := Lib.hid hle
  have htl : tl.length ≤ 1000000000 := by
    have h1 := split_count s.data.toList
    rw [hL] at h1
    have h2 : s.data.toList.length = s.size := by simp
    simp at h1
    omega
  have B0 := (Below.refl w.heap.size w).alloc (Nat.le_refl _) (.cells #[.int .i64 0, .int .i64 0, .int .i64 0, .int .i64 0] 23)
  have R0 := Blk.new w #[.int .i64 0, .int .i64 0, .int .i64 0, .int .i64 0] 23
  clear hle hL
  go_enter Tryd.func38, Tryd.ntmps38
  go_wp2_with (first | (go_at_call 57; ((with_reducible refine (HS.out _).mono ?_); rintro e w1 ⟨⟨v, rfl, hown⟩, hb1⟩; refine Hid.out ?_)))
  refine Lib.hid ?_
  obtain ⟨ad, cap, rfl⟩ := row_form hown
  obtain ⟨g, cur, rfl, hgB, hcc, hmx, hgk, hgz, hcell⟩ := row_at hown (by omega)
  have hglt := hgk.lt
  have hcel : ∀ j (h : j < (hd :: tl).length), w1.cell? ⟨g, j, none⟩ = some (.string (st ((hd :: tl)[j]'h))) := fun j h => by
    rw [hcell j (by have : (hd :: tl).length = tl.length + 1 := rfl
                    omega)]
    unfold strs
    rw [List.getElem?_map, List.getElem?_eq_getElem h]
    rfl
  have D1 := B0.trans (hb1.mono B0.size)
  have R1 := R0.below hb1
  have HC := Lib.hid hcel
  unfold maxLen at hmx
  have X1 := Blk.new w1 #[.int .i64 (-1), .int .i64 0, .int .i64 0, .int .i64 0] 23
  have hR1lt := R1.lt
  clear hown hcell hcel hgk hgz cur B0 R0 hb1
  go_wp2_with fail
  go_loopw [7] (fun q wr => ∃ (j : Nat) (c : Int), j ≤ 30 ∧ q = .int .i64 (j : Int) ∧ Hid (Fo hd j c) ∧ Hid (Blk wr w1.heap.size #[.int .i64 c, .int .i64 0, .int .i64 0, .int .i64 0] 23 ∧ Below w1.heap.size w1 wr)) (fun q _ => 30 - (intOf q).toNat)
  case atStart => exact ⟨0, -1, by omega, rfl, .inl ⟨rfl, fun q hq => by omega⟩, Lib.hid ⟨X1, (Below.refl _ w1).alloc (Nat.le_refl _) _⟩⟩
  case round =>
    obtain ⟨j, c, hj, rfl, HF, HX⟩ := hrel
    by_cases hlt : j < 30
    · have hltI : (j : Int) < 30 := by omega
      have HN := Lib.hid (fun wx => rname_yes j hlt wx)
      have k0 : ∀ w', Below w1.heap.size w1 w' → w'.cell? ⟨g, 0, none⟩ = some (.string (st hd)) := fun w' h => (h.cell (p := ⟨g, 0, none⟩) hglt).trans (HC.out 0 (by simp))
      have K0 := Lib.hid k0
      have hbr := HX.out.2
      have XK := HX.out.1
      clear k0
      have hq0 := cmp_nm j hd
      by_cases heq : nm j = hd
      · rw [decide_eq_true heq] at hq0
        have HG := Lib.hid (fo_hit hlt heq)
        clear heq
        go_wp2_with fail
        go_region_held (fun w' => w'.cell? ⟨g, 0, none⟩ = some (.string (st hd))) (exact K0.out _ (by first | exact B2 | exact hbr.drew)) (first | (go_at_call 21; ((with_reducible refine (HN.out _).mono ?_); rintro e w2 ⟨rfl, hb2⟩; have B2 := hbr.drew.trans (hb2.mono hbr.drew.size); have XK2 := (XK.below (Below.refl _ wr).drew).below hb2; have z0 := XK2.cell 0; have z1 := XK2.free 0)))
        all_goals go_wp2
        all_goals go_roundw
        case measure => simp [intOf]; omega
        case rel => exact ⟨j + 1, (j : Int), by omega, by go_num, HG, Lib.hid ⟨XK2.set 0 _, B2.setCell (p := ⟨w1.heap.size, 0, none⟩) (Nat.le_refl _) _⟩⟩
      · rw [decide_eq_false heq] at hq0
        have HG := Lib.hid (fo_miss HF.out heq)
        clear heq
        go_wp2_with fail
        go_region_held (fun w' => w'.cell? ⟨g, 0, none⟩ = some (.string (st hd))) (exact K0.out _ (by first | exact B2 | exact hbr.drew)) (first | (go_at_call 21; ((with_reducible refine (HN.out _).mono ?_); rintro e w2 ⟨rfl, hb2⟩; have B2 := hbr.drew.trans (hb2.mono hbr.drew.size); have XK2 := (XK.below (Below.refl _ wr).drew).below hb2)))
        all_goals go_wp2
        all_goals go_roundw
        case measure => simp [intOf]; omega
        case rel => exact ⟨j + 1, c, by omega, by go_num, HG, Lib.hid ⟨XK2, B2⟩⟩
    · obtain rfl : j = 30 := by omega
      have XK := HX.out.1
      have hbr := HX.out.2
      have RK := R1.below hbr
      have D2 := D1.trans (hbr.mono D1.size)
      have x0 := XK.cell 0
      have x1 := XK.cell 1
      have x2 := XK.cell 2
      have x3 := XK.cell 3
      have y0 := RK.cell 0
      have y1 := RK.cell 1
      have y2 := RK.cell 2
      have y3 := RK.cell 3
      have f0 := RK.free 0
      have f1 := RK.free 1
      have f2 := RK.free 2
      have f3 := RK.free 3
      rcases fo_end HF.out with ⟨rfl, hop⟩ | ⟨k, hk, rfl, hop⟩
      · have hnone : parse s.data.toList = none := by rw [HP.out, hop]
        have HNone := Lib.hid hnone
        clear hnone
        obtain ⟨g0, g1, g2, g3⟩ := set4 wr w.heap.size (.int .i64 0) (.int .i64 0) (.int .i64 0) (.int .i64 0) (.int .i64 (-1)) (.int .i64 0) (.int .i64 0) (.int .i64 0) (RK.cell 0) (RK.cell 1) (RK.cell 2) (RK.cell 3)
        have HNn := Lib.hid (fun wx => names_neg wx)
        go_wp2_with (first | (go_at_call 29; ((with_reducible refine (HNn.out _).mono ?_); rintro e w3 ⟨rfl, rfl⟩)))
        exact bodyPost_ret (v := .tuple #[.agg #[.int .i64 (-1), .int .i64 0, .int .i64 0, .int .i64 0], .string ⟨#[]⟩, .bool false]) (by simp [results, Tryd.results38, go_sem, g0, g1, g2, g3]) rfl (takeE_no (-1) 0 0 0 rfl HNone.out ((((D2.setCell (p := ⟨w.heap.size, 0, none⟩) (Nat.le_refl _) _).setCell (p := ⟨w.heap.size, 1, none⟩) (Nat.le_refl _) _).setCell (p := ⟨w.heap.size, 2, none⟩) (Nat.le_refl _) _).setCell (p := ⟨w.heap.size, 3, none⟩) (Nat.le_refl _) _))
      · have hP2 := HP.out
        rw [hop] at hP2
        simp only at hP2
        have HP2 := Lib.hid hP2
        have HNk := Lib.hid (fun wx => names_in k hk wx)
        have hnl := nms_len k
        have HMem := Lib.hid (nms_mem k)
        have hk0 : ¬ ((k : Int) < 0) := by omega
        obtain ⟨R, hR⟩ : ∃ R, rtake k tl = R := ⟨_, rfl⟩
        have HR := Lib.hid hR
        obtain ⟨N, hN⟩ : ∃ N, nms k = N := ⟨_, rfl⟩
        have hsz : (st N).size = N.length := st_size N
        have hszl : (st N).size ≤ 3 := by rw [hsz, ← hN]; exact hnl
        clear hP2 hop hR
        by_cases hlen : tl.length = N.length
        · have hR2 : rfold k (N.zip tl) ((0, 0, 0), []) = R := by
            rw [← HR.out]
            unfold rtake
            rw [hN, if_pos hlen]
          have HR2 := Lib.hid hR2
          rw [hN] at HNk HMem hnl
          have hq : ((tl.length : Int) + 1 != 1 + (N.length : Int)) = false := by simp [bne]; omega
          have HLen := Lib.hid hlen
          clear hR2 hN hlen
          go_wp2_with (first | (go_at_call 29; ((with_reducible refine (HNk.out _).mono ?_); rintro e w3 ⟨rfl, rfl⟩)))
          go_loopw [9, 10] (fun lb q wr => ∃ (j : Nat) (a b i : Int) (l : Tx), j ≤ N.length ∧ q = .int .i64 (j : Int) ∧ lb = .string (st l) ∧ Hid (rfold k ((N.zip tl).drop j) ((a, b, i), l) = R) ∧ Hid (Blk wr w1.heap.size #[.int .i64 (k : Int), .int .i64 a, .int .i64 b, .int .i64 i] 23 ∧ Below w1.heap.size w1 wr)) (fun _ q _ => N.length - (intOf q).toNat)
          case atStart => exact ⟨0, 0, 0, 0, [], by omega, rfl, rfl, HR2, Lib.hid ⟨XK, hbr⟩⟩
          case round =>
            obtain ⟨j, a, b, i, l, hj, rfl, rfl, HF, HX⟩ := hrel
            have XK := HX.out.1
            have hbr := HX.out.2
            have RK := R1.below hbr
            have D2 := D1.trans (hbr.mono D1.size)
            by_cases hlt : j < N.length
            · have hlt2 : j < (st N).size := by omega
              have hltl : j < tl.length := by have := HLen.out; omega
              obtain ⟨x, hx⟩ : ∃ x : UInt8, (st N)[j]'hlt2 = x := ⟨_, rfl⟩
              have hxN : N[j] = x := by rw [← hx, st_at hlt hlt2]
              have HXN := Lib.hid hxN
              have hmem := HMem.out x (by rw [← hxN]; exact List.getElem_mem _)
              obtain ⟨t, ht⟩ : ∃ t, tl[j] = t := ⟨_, rfl⟩
              have HT := Lib.hid ht
              have htl1 : t.length ≤ 100000 := HLe.out t (by rw [← ht]; exact List.mem_cons_of_mem _ (List.getElem_mem _))
              have hc1 : wr.cell? ⟨g, 1 + j, none⟩ = some (.string (st t)) := by
                rw [hbr.cell (p := ⟨g, 1 + j, none⟩) hglt, HC.out (1 + j) (by rw [List.length_cons]; omega)]
                congr 2
                rw [← ht]
                simp only [Nat.add_comm 1 j, List.getElem_cons_succ]
              have HNum := Lib.hid (fun wx => rnum_any (st t) (by rw [st_size]; omega) wx)
              have hxb : x.toNat < 256 := x.toNat_lt
              have hcast : (1 : Int) + (j : Int) < (tl.length : Int) + 1 := by omega
              clear hxN ht hmem
              go_wp2_with (first | (go_at_call 45; go_loud ((with_reducible refine (HNum.out _).mono ?_); rintro e w4 ⟨⟨v, ok, rfl, hnr⟩, hb4⟩; refine Hid.out ?_)))
              refine Lib.hid ?_
              have hgr : g < wr.heap.size := Nat.lt_of_lt_of_le hglt hbr.size
              have X4 := XK.below hb4
              have D4 := D2.trans (hb4.mono D2.size)
              have B4 := hbr.trans (hb4.mono hbr.size)
              have R4 := RK.below hb4
              have hc4 : w4.cell? ⟨g, 1 + j, none⟩ = some (.string (st t)) := (hb4.cell (p := ⟨g, 1 + j, none⟩) hgr).trans hc1
              have x0 := X4.cell 0
              have x1 := X4.cell 1
              have x2 := X4.cell 2
              have x3 := X4.cell 3
              have y0 := R4.cell 0
              have y1 := R4.cell 1
              have y2 := R4.cell 2
              have y3 := R4.cell 3
              have f0 := R4.free 0
              have f1 := R4.free 1
              have f2 := R4.free 2
              have f3 := R4.free 3
              have u0 := X4.free 0
              have u1 := X4.free 1
              have u2 := X4.free 2
              have u3 := X4.free 3
              have hmem := HMem.out x (by rw [← HXN.out]; exact List.getElem_mem _)
              clear hc1 hbr XK RK D2
              rcases numR_of hnr with ⟨rfl, hn⟩ | ⟨rfl, hn⟩
              · have hnum : numOf t = some v := hn
                have hF2 := rf_step HLen.out hlt hltl HXN.out HT.out HF.out (rs_num _ hnum)
                have HF2 := Lib.hid hF2
                clear hn hnum hnr hF2
                rcases hmem with hc | hc | hc
                · have q97 : ((x.toNat : Int) == 97) = true := by rw [hc]; rfl
                  have HF3 : Hid (rfold k ((N.zip tl).drop (j + 1)) ((v, b, i), l) = R) := Lib.hid (by
                    have h := HF2.out
                    rw [hc] at h
                    exact h)
                  clear hc
                  go_wp2
                  go_roundw
                  case measure => simp [intOf]; omega
                  case rel => exact ⟨j + 1, v, b, i, l, by omega, by go_num, rfl, HF3, Lib.hid ⟨X4.set 1 _, B4.setCell (p := ⟨w1.heap.size, 1, none⟩) (Nat.le_refl _) _⟩⟩
                · have q97 : ((x.toNat : Int) == 97) = false := by rw [hc]; rfl
                  have q98 : ((x.toNat : Int) == 98) = true := by rw [hc]; rfl
                  have HF3 : Hid (rfold k ((N.zip tl).drop (j + 1)) ((a, v, i), l) = R) := Lib.hid (by
                    have h := HF2.out
                    rw [hc] at h
                    exact h)
                  clear hc
                  go_wp2
                  go_roundw
                  case measure => simp [intOf]; omega
                  case rel => exact ⟨j + 1, a, v, i, l, by omega, by go_num, rfl, HF3, Lib.hid ⟨X4.set 2 _, B4.setCell (p := ⟨w1.heap.size, 2, none⟩) (Nat.le_refl _) _⟩⟩
                · have q97 : ((x.toNat : Int) == 97) = false := by rw [hc]; rfl
                  have q98 : ((x.toNat : Int) == 98) = false := by rw [hc]; rfl
                  have HF3 : Hid (rfold k ((N.zip tl).drop (j + 1)) ((a, b, v), l) = R) := Lib.hid (by
                    have h := HF2.out
                    rw [hc] at h
                    exact h)
                  clear hc
                  go_wp2
                  go_roundw
                  case measure => simp [intOf]; omega
                  case rel => exact ⟨j + 1, a, b, v, l, by omega, by go_num, rfl, HF3, Lib.hid ⟨X4.set 3 _, B4.setCell (p := ⟨w1.heap.size, 3, none⟩) (Nat.le_refl _) _⟩⟩
              · have hnum : numOf t = none := hn
                clear hn hnr
                rcases hmem with hc | hc | hc
                · have q5 : ((x.toNat : Int) == 105) = false := by rw [hc]; rfl
                  have HNone : Hid (parse s.data.toList = none) := Lib.hid (by rw [HP2.out, HR.out, rf_stop HLen.out hlt hltl HXN.out HT.out HF.out (rs_no _ hnum (.inl (by rw [hc]; decide)))])
                  clear hc
                  obtain ⟨g0, g1, g2, g3⟩ := set4 w4 w.heap.size (.int .i64 0) (.int .i64 0) (.int .i64 0) (.int .i64 0) (.int .i64 (k : Int)) (.int .i64 a) (.int .i64 b) (.int .i64 i) (R4.cell 0) (R4.cell 1) (R4.cell 2) (R4.cell 3)
                  go_wp2
                  exact bodyPost_ret (v := .tuple #[.agg #[.int .i64 (k : Int), .int .i64 a, .int .i64 b, .int .i64 i], .string ⟨#[]⟩, .bool false]) (by simp [results, Tryd.results38, go_sem, g0, g1, g2, g3]) rfl (takeE_no (k : Int) a b i rfl HNone.out ((((D4.setCell (p := ⟨w.heap.size, 0, none⟩) (Nat.le_refl _) _).setCell (p := ⟨w.heap.size, 1, none⟩) (Nat.le_refl _) _).setCell (p := ⟨w.heap.size, 2, none⟩) (Nat.le_refl _) _).setCell (p := ⟨w.heap.size, 3, none⟩) (Nat.le_refl _) _))
                · have q5 : ((x.toNat : Int) == 105) = false := by rw [hc]; rfl
                  have HNone : Hid (parse s.data.toList = none) := Lib.hid (by rw [HP2.out, HR.out, rf_stop HLen.out hlt hltl HXN.out HT.out HF.out (rs_no _ hnum (.inl (by rw [hc]; decide)))])
                  clear hc
                  obtain ⟨g0, g1, g2, g3⟩ := set4 w4 w.heap.size (.int .i64 0) (.int .i64 0) (.int .i64 0) (.int .i64 0) (.int .i64 (k : Int)) (.int .i64 a) (.int .i64 b) (.int .i64 i) (R4.cell 0) (R4.cell 1) (R4.cell 2) (R4.cell 3)
                  go_wp2
                  exact bodyPost_ret (v := .tuple #[.agg #[.int .i64 (k : Int), .int .i64 a, .int .i64 b, .int .i64 i], .string ⟨#[]⟩, .bool false]) (by simp [results, Tryd.results38, go_sem, g0, g1, g2, g3]) rfl (takeE_no (k : Int) a b i rfl HNone.out ((((D4.setCell (p := ⟨w.heap.size, 0, none⟩) (Nat.le_refl _) _).setCell (p := ⟨w.heap.size, 1, none⟩) (Nat.le_refl _) _).setCell (p := ⟨w.heap.size, 2, none⟩) (Nat.le_refl _) _).setCell (p := ⟨w.heap.size, 3, none⟩) (Nat.le_refl _) _))
                · have q5 : ((x.toNat : Int) == 105) = true := by rw [hc]; rfl
                  by_cases h19 : k < 19
                  · have g19 : decide ((19 : Int) ≤ (k : Int)) = false := decide_eq_false (by omega)
                    have HNone : Hid (parse s.data.toList = none) := Lib.hid (by rw [HP2.out, HR.out, rf_stop HLen.out hlt hltl HXN.out HT.out HF.out (rs_no _ hnum (.inr (.inl (isJ_no (.inl h19)))))])
                    clear hc h19
                    obtain ⟨g0, g1, g2, g3⟩ := set4 w4 w.heap.size (.int .i64 0) (.int .i64 0) (.int .i64 0) (.int .i64 0) (.int .i64 (k : Int)) (.int .i64 a) (.int .i64 b) (.int .i64 i) (R4.cell 0) (R4.cell 1) (R4.cell 2) (R4.cell 3)
                    go_wp2
                    exact bodyPost_ret (v := .tuple #[.agg #[.int .i64 (k : Int), .int .i64 a, .int .i64 b, .int .i64 i], .string ⟨#[]⟩, .bool false]) (by simp [results, Tryd.results38, go_sem, g0, g1, g2, g3]) rfl (takeE_no (k : Int) a b i rfl HNone.out ((((D4.setCell (p := ⟨w.heap.size, 0, none⟩) (Nat.le_refl _) _).setCell (p := ⟨w.heap.size, 1, none⟩) (Nat.le_refl _) _).setCell (p := ⟨w.heap.size, 2, none⟩) (Nat.le_refl _) _).setCell (p := ⟨w.heap.size, 3, none⟩) (Nat.le_refl _) _))
                  · have g19 : decide ((19 : Int) ≤ (k : Int)) = true := decide_eq_true (by omega)
                    by_cases h22 : 22 < k
                    · have g22 : decide ((k : Int) ≤ 22) = false := decide_eq_false (by omega)
                      have HNone : Hid (parse s.data.toList = none) := Lib.hid (by rw [HP2.out, HR.out, rf_stop HLen.out hlt hltl HXN.out HT.out HF.out (rs_no _ hnum (.inr (.inl (isJ_no (.inr h22)))))])
                      clear hc h19 h22
                      obtain ⟨g0, g1, g2, g3⟩ := set4 w4 w.heap.size (.int .i64 0) (.int .i64 0) (.int .i64 0) (.int .i64 0) (.int .i64 (k : Int)) (.int .i64 a) (.int .i64 b) (.int .i64 i) (R4.cell 0) (R4.cell 1) (R4.cell 2) (R4.cell 3)
                      go_wp2
                      exact bodyPost_ret (v := .tuple #[.agg #[.int .i64 (k : Int), .int .i64 a, .int .i64 b, .int .i64 i], .string ⟨#[]⟩, .bool false]) (by simp [results, Tryd.results38, go_sem, g0, g1, g2, g3]) rfl (takeE_no (k : Int) a b i rfl HNone.out ((((D4.setCell (p := ⟨w.heap.size, 0, none⟩) (Nat.le_refl _) _).setCell (p := ⟨w.heap.size, 1, none⟩) (Nat.le_refl _) _).setCell (p := ⟨w.heap.size, 2, none⟩) (Nat.le_refl _) _).setCell (p := ⟨w.heap.size, 3, none⟩) (Nat.le_refl _) _))
                    · have g22 : decide ((k : Int) ≤ 22) = true := decide_eq_true (by omega)
                      have hJ := isJ_yes (k := k) (by omega) (by omega)
                      have hlb := fun wx => rlabel_any (st t) wx (by rw [st_size]; omega)
                      rw [st_data] at hlb
                      cases hnm : isNm t with
                      | false =>
                        rw [hnm] at hlb
                        have HLb := Lib.hid hlb
                        have HNone : Hid (parse s.data.toList = none) := Lib.hid (by rw [HP2.out, HR.out, rf_stop HLen.out hlt hltl HXN.out HT.out HF.out (rs_no _ hnum (.inr (.inr hnm)))])
                        clear hc h19 h22 hlb hnm hJ hnum
                        obtain ⟨g0, g1, g2, g3⟩ := set4 w4 w.heap.size (.int .i64 0) (.int .i64 0) (.int .i64 0) (.int .i64 0) (.int .i64 (k : Int)) (.int .i64 a) (.int .i64 b) (.int .i64 i) (R4.cell 0) (R4.cell 1) (R4.cell 2) (R4.cell 3)
                        go_wp2_with (first | (go_at_call 43; ((with_reducible refine (HLb.out _).mono ?_); rintro e w5 ⟨rfl, rfl⟩)))
                        exact bodyPost_ret (v := .tuple #[.agg #[.int .i64 (k : Int), .int .i64 a, .int .i64 b, .int .i64 i], .string ⟨#[]⟩, .bool false]) (by simp [results, Tryd.results38, go_sem, g0, g1, g2, g3]) rfl (takeE_no (k : Int) a b i rfl HNone.out ((((D4.setCell (p := ⟨w.heap.size, 0, none⟩) (Nat.le_refl _) _).setCell (p := ⟨w.heap.size, 1, none⟩) (Nat.le_refl _) _).setCell (p := ⟨w.heap.size, 2, none⟩) (Nat.le_refl _) _).setCell (p := ⟨w.heap.size, 3, none⟩) (Nat.le_refl _) _))
                      | true =>
                        rw [hnm] at hlb
                        have HLb := Lib.hid hlb
                        have HF3 : Hid (rfold k ((N.zip tl).drop (j + 1)) ((a, b, i), t) = R) := Lib.hid (rf_step HLen.out hlt hltl (HXN.out.trans hc) HT.out HF.out (rs_lab _ hnum hJ hnm))
                        clear hc h19 h22 hlb hnm hJ hnum
                        go_wp2_with (first | (go_at_call 43; ((with_reducible refine (HLb.out _).mono ?_); rintro e w5 ⟨rfl, rfl⟩)))
                        go_roundw
                        case measure => simp [intOf]; omega
                        case rel => exact ⟨j + 1, a, b, i, t, by omega, by go_num, rfl, HF3, Lib.hid ⟨X4, B4⟩⟩
            · obtain rfl : j = N.length := by omega
              have hR3 : R = some ((a, b, i), l) := by
                have h := HF.out
                rw [List.drop_of_length_le (by rw [List.length_zip]; omega)] at h
                exact h.symm
              have hP3 : parse s.data.toList = if Fits k a b i then some ((k, a, b, i), l) else none := by rw [HP2.out, HR.out, hR3]
              have HP3 := Lib.hid hP3
              have HM := Lib.hid (fun wx => rmay_any k a b i wx)
              have k0 : ∀ w', Below wr.heap.size wr w' → w'.cell? ⟨w1.heap.size, 0, none⟩ = some (.int .i64 (k : Int)) ∧ w'.cell? ⟨w1.heap.size, 1, none⟩ = some (.int .i64 a) ∧ w'.cell? ⟨w1.heap.size, 2, none⟩ = some (.int .i64 b) ∧ w'.cell? ⟨w1.heap.size, 3, none⟩ = some (.int .i64 i) := fun w' h => ⟨(XK.below h).cell 0, (XK.below h).cell 1, (XK.below h).cell 2, (XK.below h).cell 3⟩
              have K0 := Lib.hid k0
              have hne : w1.heap.size ≠ w.heap.size := by omega
              have hne2 : w.heap.size ≠ w1.heap.size := by omega
              clear k0 hR3 hP3
              go_wp2_with fail
              go_region_held (fun w' => w'.cell? ⟨w1.heap.size, 0, none⟩ = some (.int .i64 (k : Int)) ∧ w'.cell? ⟨w1.heap.size, 1, none⟩ = some (.int .i64 a) ∧ w'.cell? ⟨w1.heap.size, 2, none⟩ = some (.int .i64 b) ∧ w'.cell? ⟨w1.heap.size, 3, none⟩ = some (.int .i64 i)) (first | exact K0.out _ (by first | exact B5 | exact (Below.refl _ wr).drew) | go_keep) (first | (go_at_call 10; ((with_reducible refine (HM.out _).mono ?_); rintro e w5 ⟨rfl, hb5⟩; have B5 : Below wr.heap.size wr w5 := ((Below.refl _ wr).drew).trans hb5; have R5 := RK.below B5; have y0 := R5.cell 0; have y1 := R5.cell 1; have y2 := R5.cell 2; have y3 := R5.cell 3; have f0 := R5.free 0; have f1 := R5.free 1; have f2 := R5.free 2; have f3 := R5.free 3; have D5 := D2.trans (B5.mono D2.size); obtain ⟨g0, g1, g2, g3⟩ := set4 w5 w.heap.size (.int .i64 0) (.int .i64 0) (.int .i64 0) (.int .i64 0) (.int .i64 (k : Int)) (.int .i64 a) (.int .i64 b) (.int .i64 i) (R5.cell 0) (R5.cell 1) (R5.cell 2) (R5.cell 3))))
              all_goals go_wp2
              all_goals exact bodyPost_ret (v := .tuple #[.agg #[.int .i64 (k : Int), .int .i64 a, .int .i64 b, .int .i64 i], .string (st l), .bool (mayB k a b i)]) (by simp [results, Tryd.results38, go_sem, g0, g1, g2, g3]) rfl ⟨⟨k, a, b, i, st l, mayB k a b i, rfl, (fun h => ⟨k, l, rfl, rfl, by rw [HP3.out, if_pos ((may_fits k a b i).1 h)]⟩), fun h => by rw [HP3.out, if_neg (fun hF => by rw [(may_fits k a b i).2 hF] at h; cases h)]⟩, ((((D5.setCell (p := ⟨w.heap.size, 0, none⟩) (Nat.le_refl _) _).setCell (p := ⟨w.heap.size, 1, none⟩) (Nat.le_refl _) _).setCell (p := ⟨w.heap.size, 2, none⟩) (Nat.le_refl _) _).setCell (p := ⟨w.heap.size, 3, none⟩) (Nat.le_refl _) _)⟩
        · have hnone : parse s.data.toList = none := by
            rw [HP2.out, HR.out]
            have : R = none := by
              rw [← HR.out]
              unfold rtake
              rw [hN, if_neg hlen]
            rw [this]
          have HNone := Lib.hid hnone
          rw [hN] at HNk
          have hq : ((tl.length : Int) + 1 != 1 + (N.length : Int)) = true := by simp [bne]; omega
          clear hnone hN hlen
          obtain ⟨g0, g1, g2, g3⟩ := set4 wr w.heap.size (.int .i64 0) (.int .i64 0) (.int .i64 0) (.int .i64 0) (.int .i64 (k : Int)) (.int .i64 0) (.int .i64 0) (.int .i64 0) (RK.cell 0) (RK.cell 1) (RK.cell 2) (RK.cell 3)
          go_wp2_with (first | (go_at_call 29; ((with_reducible refine (HNk.out _).mono ?_); rintro e w3 ⟨rfl, rfl⟩)))
          exact bodyPost_ret (v := .tuple #[.agg #[.int .i64 (k : Int), .int .i64 0, .int .i64 0, .int .i64 0], .string ⟨#[]⟩, .bool false]) (by simp [results, Tryd.results38, go_sem, g0, g1, g2, g3]) rfl (takeE_no (k : Int) 0 0 0 rfl HNone.out ((((D2.setCell (p := ⟨w.heap.size, 0, none⟩) (Nat.le_refl _) _).setCell (p := ⟨w.heap.size, 1, none⟩) (Nat.le_refl _) _).setCell (p := ⟨w.heap.size, 2, none⟩) (Nat.le_refl _) _).setCell (p := ⟨w.heap.size, 3, none⟩) (Nat.le_refl _) _))
end Go.Proofs.YtocbilaaklapkaaDoor.Rt
