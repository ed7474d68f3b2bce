/-
  The document's Assemble: the walk.
-/
import Derived.Test.YtocbilaaklapkaaDoorRq
namespace Go.Proofs.YtocbilaaklapkaaDoor.Ras
open Go Go.RowKit Go.Shelf Kit IsaM IsaT IsaL IsaC IsaE IsaN IsaP IsaB IsaI IsaK IsaQ IsaO Ra Rb Rc Rd Rl Rs Rt Rp Rfi Rq Tkp
set_option linter.unusedVariables false

theorem infoPl : (Tryd.prog.info? 89).map (fun i => (i.zero, i.size, i.bytes)) = some (some (.agg #[.string ⟨#[]⟩, .int .i64 0]), 2, 24) := by kernel_rfl

/-- What the document's Assemble answers. -/
def RasmR (s : Tx) (w : World) (e : Ending) (W' : World) : Prop :=
  Below w.heap.size w W' ∧ (∀ n, rasm s = .inl n → e = .returned (.tuple #[.slice none 0 0, .int .i64 (n : Int), .int .i64 31])) ∧
    (∀ ws, rasm s = .inr ws → ∃ r, e = .returned (.tuple #[r, .int .i64 0, .int .i64 0]) ∧ W'.ownsRow w.heap.size 24 1 r ws.length (u32s ws))
theorem rasmN {s : Tx} {w W' : World} {e : Ending} (n : Nat) (h : rasm s = .inl n) (he : e = .returned (.tuple #[.slice none 0 0, .int .i64 (n : Int), .int .i64 31])) (hb : Below w.heap.size w W') : RasmR s w e W' := ⟨hb, (fun m hm => by rw [h] at hm; cases hm; exact he), (fun ws hw => by rw [h] at hw; cases hw)⟩
theorem rasmY {s : Tx} {w W' : World} {e : Ending} (ws : List Nat) (r : Value) (h : rasm s = .inr ws) (he : e = .returned (.tuple #[r, .int .i64 0, .int .i64 0])) (hb : Below w.heap.size w W') (ho : W'.ownsRow w.heap.size 24 1 r ws.length (u32s ws)) : RasmR s w e W' := ⟨hb, (fun m hm => by rw [h] at hm; cases hm), (fun vs hv => by rw [h] at hv; cases hv; exact ⟨r, he, ho⟩)⟩
theorem rows_kept {w w' : World} {base : Nat} {e T : TypeId} {size n size2 n2 : Nat} {v v2 : Value} {xs ys : List Value} (h : w.ownsRow base e size v n xs) (hg : w.grownBy w' v2.ownBlock) (h2 : w.ownsRow base T size2 v2 n2 ys) (hT : e ≠ T) : w'.ownsRow base e size v n xs := by
  refine h.kept hg ?_
  cases hv : v2.ownBlock with
  | none => cases v.ownBlock <;> simp
  | some r =>
    right
    obtain ⟨_, cs, hb⟩ := row_block h2 hv
    intro e'
    exact row_ne h hb (fun e2 => hT e2.symm) e'
theorem new_two (w : World) (a b : Value) (t : TypeId) : ∀ (j : Nat) (u : Value), [a, b][j]? = some u → (w.alloc (.cells #[a, b] t)).cell? ((⟨w.heap.size, 0, none⟩ : Addr).add j) = some u := by
  intro j u h
  match j, h with
  | 0, h => simp at h; subst h; simp [Addr.add]
  | 1, h => simp at h; subst h; simp [Addr.add]

theorem rasm_e1 {t : Tx} {n : Nat} (h : round1 1 (linesT t) [] 0 = .inl n) : rasm t = .inl n := by unfold rasm; rw [h]
theorem rasm_e2 {t : Tx} {x : List (Tx × Nat) × Nat} (h : round1 1 (linesT t) [] 0 = .inr x) (hr : restT t ≠ []) : rasm t = .inl ((linesT t).length + 1) := by unfold rasm; rw [h]; simp only; rw [if_pos hr]
theorem rasm_e3 {t : Tx} {x : List (Tx × Nat) × Nat} (h : round1 1 (linesT t) [] 0 = .inr x) (hr : restT t = []) : rasm t = round2 x.1 1 (linesT t) [] := by unfold rasm; rw [h]; simp only; rw [if_neg (by rw [hr]; simp)]
theorem last_or (l : Tx) (S : ByteArray) (hS : st l = S) : (S.size = 0 ∧ l.getLast? = none) ∨ (∃ (m : Nat) (x : UInt8), S.size = m + 1 ∧ (∃ h : m < S.size, S[m]'h = x) ∧ l.getLast? = some x) := by
  rcases Nat.eq_zero_or_pos S.size with h | h
  · refine .inl ⟨h, ?_⟩
    have : l.length = 0 := by rw [← hS, st_size] at h; exact h
    rw [List.length_eq_zero_iff.1 this]
    rfl
  · obtain ⟨m, hm⟩ : ∃ m, S.size = m + 1 := ⟨S.size - 1, by omega⟩
    exact .inr ⟨m, S[m]'(by omega), hm, ⟨by omega, rfl⟩, last_at hS hm (by omega)⟩
set_option maxRecDepth 100000 in
set_option maxHeartbeats 16000000 in
theorem rasm_any (s : ByteArray) (hs : s.size ≤ 100000) (w : World) :
    Calls Tryd.prog 23 #[.string s] w (RasmR s.data.toList w) := by
  have hlen := Rs.len_eq s
  obtain ⟨i0, hi, hz0, hz1, hz2⟩ := info_parts infoStr
  obtain ⟨R1, hR1⟩ : ∃ R1, round1 1 (linesT s.data.toList) [] 0 = R1 := ⟨_, rfl⟩
  have HR1 := Lib.hid hR1
  clear hR1
  go_enter Tryd.func23, Tryd.ntmps23
  go_wp2
  go_loopw [5, 6, 7] (fun o a i wr => ∃ (j at' : Nat) (L : List Tx), j ≤ s.size ∧ at' ≤ j ∧ L.length ≤ j ∧ i = .int .i64 (j : Int) ∧ a = .int .i64 (at' : Int) ∧ wr.ownsRow w.heap.size 9 1 o L.length (strs L) ∧ Hid (Rq.Sp s.data.toList at' j L) ∧ Below w.heap.size w wr) (fun _ _ i _ => s.size + 1 - (intOf i).toNat)
  case atStart => exact ⟨0, 0, [], by omega, by omega, by simp, rfl, rfl, World.ownsRow_nil _ _ _ _, ⟨by omega, by omega, by simp, by simp⟩, Below.refl _ w⟩
  case round =>
    obtain ⟨j, at', L, hj, hat, hL, rfl, rfl, hown, HS, hbw⟩ := hrel
    by_cases hlt : j < s.size
    · obtain ⟨x, hx⟩ : ∃ x : UInt8, s[j]'hlt = x := ⟨_, rfl⟩
      have hxl : s.data.toList[j]'(by omega) = x := by rw [← hx]; rfl
      have HX := Lib.hid hxl
      have hxb : x.toNat < 256 := x.toNat_lt
      clear hxl
      by_cases hc : x.toNat = 10
      · have HN := Lib.hid (HS.out.cut (by omega) (by rw [HX.out]; exact UInt8.toNat_inj.1 hc))
        have hq : ((x.toNat : Int) == 10) = true := by rw [hc]; rfl
        have hex : s.extract at' j = st ((s.data.toList.drop at').take (j - at')) := by
          have := ext_take s at' (j - at')
          rwa [show at' + (j - at') = j by omega] at this
        have HEx := Lib.hid hex
        clear hc hex
        go_wp2_with (at_builtin; go_must (refine wpList_append_own _ rfl _ _ 73 rfl w.heap.size 9 i0 (.string ⟨#[]⟩) 1 16 Tryd.underlying73 hi hz0 hz1 hz2 rfl (by decide) _ L.length (strs L) rfl (hown.alloc _) ⟨wr.heap.size, 0, none⟩ 1 1 [.string (s.extract at' j)] rfl rfl (new_one _ _ _ rfl) (fun u hu => by simp at hu; subst hu; rfl) (by unfold maxLen; omega) (by omega) (by have := hbw.size; simp; omega) ?_); intro v3 w3 hown3 hgr3 _)
        go_roundw
        case rel =>
          refine ⟨j + 1, j + 1, L ++ [(s.data.toList.drop at').take (j - at')], by omega, by omega, by rw [List.length_append]; simp; omega, by go_num, by go_num, ?_, HN, ?_⟩
          · rw [List.length_append, strs_snoc, ← HEx.out]; exact hown3
          · exact (hbw.alloc hbw.size _).grown hgr3 (by have h1 := hbw.size; simp; omega) (fun j h => (hown.lt j h).1)
        case measure => simp [intOf]; omega
      · have HN := Lib.hid (HS.out.on (by omega) (by rw [HX.out]; intro e; exact hc (by rw [e]; rfl)))
        have hq : ((x.toNat : Int) == 10) = false := by rw [beq_eq_false_iff_ne]; omega
        clear hc
        go_wp2
        go_roundw
        case rel => exact ⟨j + 1, at', L, by omega, by omega, by omega, by go_num, rfl, hown, HN, hbw⟩
        case measure => simp [intOf]; omega
    · obtain rfl : j = s.size := by omega
      obtain ⟨hLT, hRT⟩ := Rq.Sp.fin (t := s.data.toList) (at' := at') (L := L) (by rw [hlen]; exact HS.out)
      have hle : ∀ l ∈ L, l.length ≤ 100000 := fun l hl => by
        have := line_le s.data.toList l (by rw [hLT]; exact hl)
        omega
      have HLe := Lib.hid hle
      have hR := HR1.out
      rw [hLT] at hR
      have HR := Lib.hid hR
      have HLT := Lib.hid hLT
      have HRT := Lib.hid hRT
      have hLlen : L.length ≤ 100000 := by omega
      clear hLT hRT hle hR
      obtain ⟨adL, capL, rfl⟩ := row_form hown
      have hcapL : L.length = 0 ∨ (L.length ≤ capL ∧ capL ≤ maxLen) := by
        rcases hown.2 with ⟨_, h2⟩ | ⟨g, c, cur, hv, _, _, h3, h4, _⟩
        · exact .inl h2
        · cases hv; exact .inr ⟨h3, h4⟩
      unfold maxLen at hcapL
      have HOwn := Lib.hid hown
      have HBw := Lib.hid hbw
      clear hown hbw hi hz0 hz1 hz2
      obtain ⟨i1, hi1, hy0, hy1, hy2⟩ := info_parts infoPl
      go_wp2_with fail
      go_loopw [8, 9, 10] (fun pv nv iv wr => ∃ (j n : Nat) (pl : List (Tx × Nat)), j ≤ L.length ∧ n ≤ 512 ∧ pl.length ≤ j ∧ iv = .int .i64 (j : Int) ∧ nv = .int .i64 (n : Int) ∧ Hid (wr.ownsRow w.heap.size 89 2 pv pl.length (pcells pl) ∧ wr.ownsRow w.heap.size 9 1 (.slice adL L.length capL) L.length (strs L) ∧ Below w.heap.size w wr) ∧ Hid (round1 (1 + j) (L.drop j) pl n = R1)) (fun _ _ i _ => L.length + 1 - (intOf i).toNat)
      case atStart => exact ⟨0, 0, [], by omega, by omega, by simp, rfl, rfl, Lib.hid ⟨World.ownsRow_nil _ _ _ _, HOwn.out, HBw.out⟩, HR⟩
      case round =>
        obtain ⟨j, n, pl, hj2, hn, hpl, rfl, rfl, HX, HF⟩ := hrel
        by_cases hlt2 : j < L.length
        · obtain ⟨l, hl⟩ : ∃ l, L[j] = l := ⟨_, rfl⟩
          have HL := Lib.hid hl
          have hll := HLe.out l (by rw [← hl]; exact List.getElem_mem _)
          obtain ⟨g, cur, rfl, hgB, hcc, hmx, hgk, hgz, hcell⟩ := row_at HX.out.2.1 (by omega)
          have hc1 : wr.cell? ⟨g, j, none⟩ = some (.string (st l)) := by
            rw [hcell j (by omega)]
            unfold strs
            rw [List.getElem?_map, List.getElem?_eq_getElem hlt2, hl]
            rfl
          obtain ⟨S, hS⟩ : ∃ S, st l = S := ⟨_, rfl⟩
          have hSl : S.size ≤ 100000 := by rw [← hS, st_size]; exact hll
          rw [hS] at hc1
          have HS2 := Lib.hid hS
          have hltI : (j : Int) < (L.length : Int) := by omega
          clear hcell hgk hgz cur hl hS
          by_cases h58 : l.getLast? = some 58
          · obtain ⟨m, x, hm, ⟨hmS, hx⟩, hlx⟩ := (last_or l S HS2.out).resolve_left (fun e => by rw [h58] at e; cases e.2)
            have hx58 : x = 58 := by rw [h58] at hlx; exact (Option.some.inj hlx).symm
            have hq : ((x.toNat : Int) == 58) = true := by rw [hx58]; rfl
            have hcut := cut_last HS2.out hm
            have hdl : (st l.dropLast).size ≤ 100000 := by rw [st_size, List.length_dropLast]; omega
            have hlab := fun wx => rlabel_any (st l.dropLast) wx (by omega)
            rw [← hcut, show (S.extract 0 m).data.toList = l.dropLast by rw [hcut, st_data]] at hlab
            have hfi := Rfi.find_any w.heap.size _ pl l.dropLast wr HX.out.1 (by omega)
            rw [← hcut] at hfi
            have HCut := Lib.hid hcut
            have HOwnP := Lib.hid HX.out.1
            have hb0 := HX.out.2.2
            obtain ⟨adP, capP, rfl⟩ := row_form HX.out.1
            clear hx58 hlx hcut
            cases hnm : isNm l.dropLast with
            | false =>
              rw [hnm] at hlab
              have HLab := Lib.hid hlab
              have HFi := Lib.hid hfi
              have HE : Hid (rasm s.data.toList = .inl (1 + j)) := Lib.hid (rasm_e1 (HR1.out.trans (r1_stop hlt2 HL.out HF.out (one_lab_bad h58 hnm))))
              clear hlab hfi hnm
              go_wp2_with (first | (go_at_call 43; ((with_reducible refine (HLab.out _).mono ?_); rintro e w5 ⟨rfl, rfl⟩)) | (go_at_call 44; ((with_reducible refine HFi.out.mono ?_); rintro e w6 ⟨rfl, rfl⟩)))
              exact bodyPost_ret (v := .tuple #[.slice none 0 0, .int .i64 ((1 + j : Nat) : Int), .int .i64 31]) (by simp [results, Tryd.results23, go_sem] <;> omega) rfl (rasmN (1 + j) HE.out rfl (hb0))
            | true =>
              rw [hnm] at hlab
              have HLab := Lib.hid hlab
              cases hfn : fnd l.dropLast pl with
              | some q =>
                rw [show fndI l.dropLast pl = (q : Int) by unfold fndI; rw [hfn]] at hfi
                have HFi := Lib.hid hfi
                have HE : Hid (rasm s.data.toList = .inl (1 + j)) := Lib.hid (rasm_e1 (HR1.out.trans (r1_stop hlt2 HL.out HF.out (one_lab_old h58 hfn))))
                have hq0 : decide ((0 : Int) ≤ (q : Int)) = true := decide_eq_true (by omega)
                clear hlab hfi hnm hfn
                go_wp2_with (first | (go_at_call 43; ((with_reducible refine (HLab.out _).mono ?_); rintro e w5 ⟨rfl, rfl⟩)) | (go_at_call 44; ((with_reducible refine HFi.out.mono ?_); rintro e w6 ⟨rfl, rfl⟩)))
                exact bodyPost_ret (v := .tuple #[.slice none 0 0, .int .i64 ((1 + j : Nat) : Int), .int .i64 31]) (by simp [results, Tryd.results23, go_sem] <;> omega) rfl (rasmN (1 + j) HE.out rfl (hb0))
              | none =>
                rw [show fndI l.dropLast pl = -1 by unfold fndI; rw [hfn]] at hfi
                have HFi := Lib.hid hfi
                have HF2 := Lib.hid (r1_step hlt2 HL.out HF.out (one_lab h58 hnm hfn))
                clear hlab hfi hnm hfn
                go_wp2_with (first | (go_at_call 43; ((with_reducible refine (HLab.out _).mono ?_); rintro e w5 ⟨rfl, rfl⟩)) | (go_at_call 44; ((with_reducible refine HFi.out.mono ?_); rintro e w6 ⟨rfl, rfl⟩)) | (at_builtin; go_must (refine wpList_append_own _ rfl _ _ 85 rfl w.heap.size 89 i1 (.agg #[.string ⟨#[]⟩, .int .i64 0]) 2 24 Tryd.underlying85 hi1 hy0 hy1 hy2 rfl (by decide) _ pl.length (pcells pl) rfl (HOwnP.out.alloc _) ⟨wr.heap.size, 0, none⟩ 1 1 [.string (S.extract 0 m), .int .i64 (n : Int)] rfl rfl (new_two _ _ _ _) (fun u hu => by simp at hu; rcases hu with hu | hu <;> subst hu <;> rfl) (by unfold maxLen; omega) (by omega) (by have := hb0.size; simp; omega) ?_); intro v3 w3 hown3 hgr3 _))
                go_roundw
                case rel =>
                  refine ⟨j + 1, n, pl ++ [(l.dropLast, n)], by omega, hn, by rw [List.length_append]; simp; omega, by go_num, rfl, Lib.hid ⟨?_, ?_, ?_⟩, ?_⟩
                  · rw [List.length_append, pcells_snoc]
                    have e : pcell (l.dropLast, n) = [.string (S.extract 0 m), .int .i64 (n : Int)] := by rw [HCut.out]; rfl
                    rw [e]
                    exact hown3
                  · exact rows_kept (HX.out.2.1.alloc _) hgr3 (HOwnP.out.alloc _) (by decide)
                  · exact (hb0.alloc hb0.size _).grown hgr3 (by have h1 := hb0.size; simp; omega) (fun j h => (HOwnP.out.lt j h).1)
                  · exact HF2
                case measure => simp [intOf]; omega
          · have hSd : S.data.toList = l := by rw [← HS2.out, st_data]
            have HSd := Lib.hid hSd
            have HTk := Lib.hid (fun wx => rtake_any S hSl wx)
            have hSe : (S.extract 5 S.size).data.toList = l.drop 5 := by rw [ext_data, hSd]
            have HSe := Lib.hid hSe
            have hsz5 : (S.extract 5 S.size).size ≤ 1000000 := by
              have h1 : (S.extract 5 S.size).data.toList.length = (S.extract 5 S.size).size := by simp
              rw [← h1, hSe, List.length_drop]
              omega
            have HNu := Lib.hid (fun wx => rnum_any (S.extract 5 S.size) hsz5 wx)
            have hw := isWord_S HS2.out
            clear hSd hSe hsz5
            have hb0 := HX.out.2.2
            rcases last_or l S HS2.out with ⟨hz, _⟩ | ⟨m, x, hm, ⟨hmS, hx⟩, hlx⟩
            · have hz5 : decide (5 < S.size) = false := decide_eq_false (by omega)
              have HW : Hid (isWord l = false) := Lib.hid (by rw [hw, hz5]; rfl)
              clear hw hz5
              go_wp2_with (first | (go_at_call 38; ((with_reducible refine (HTk.out _).mono ?_); rintro e w3 ⟨⟨c0, a, b, i, lb, ok, rfl, hyes, hno⟩, hb3⟩; refine Hid.out ?_)))
              refine Lib.hid ?_
              rw [HSd.out] at hyes hno
              have D3 := hb0.trans (hb3.mono hb0.size)
              have E3 := D3.alloc D3.size (.cells #[.int .i64 c0, .int .i64 a, .int .i64 b, .int .i64 i] 23)
              have A3 : Below wr.heap.size wr (w3.alloc (.cells #[.int .i64 c0, .int .i64 a, .int .i64 b, .int .i64 i] 23)) := hb3.alloc hb3.size _
              cases ok with
              | false =>
                have HE : Hid (rasm s.data.toList = .inl (1 + j)) := Lib.hid (rasm_e1 (HR1.out.trans (r1_stop hlt2 HL.out HF.out (one_no h58 (.inl (by
                  rintro (⟨e, _⟩ | ⟨_, e⟩)
                  · rw [HW.out] at e; cases e
                  · rw [hno rfl] at e; cases e))))))
                clear hyes hno
                go_wp2
                exact bodyPost_ret (v := .tuple #[.slice none 0 0, .int .i64 ((1 + j : Nat) : Int), .int .i64 31]) (by simp [results, Tryd.results23, go_sem] <;> omega) rfl (rasmN (1 + j) HE.out rfl (E3))
              | true =>
                have HOk : Hid (okB l) := Lib.hid (by
                  obtain ⟨k, lb', _, _, hp⟩ := hyes rfl
                  exact .inr ⟨HW.out, by rw [hp]; rfl⟩)
                clear hyes hno
                by_cases hn5 : n = 512
                · have q5 : ((n : Int) == 512) = true := by rw [hn5]; rfl
                  have HE : Hid (rasm s.data.toList = .inl (1 + j)) := Lib.hid (rasm_e1 (HR1.out.trans (r1_stop hlt2 HL.out HF.out (one_no h58 (.inr hn5)))))
                  clear hn5
                  go_wp2
                  exact bodyPost_ret (v := .tuple #[.slice none 0 0, .int .i64 ((1 + j : Nat) : Int), .int .i64 31]) (by simp [results, Tryd.results23, go_sem] <;> omega) rfl (rasmN (1 + j) HE.out rfl (E3))
                · have q5 : ((n : Int) == 512) = false := by rw [beq_eq_false_iff_ne]; omega
                  have HF2 := Lib.hid (r1_step hlt2 HL.out HF.out (one_yes h58 HOk.out hn5))
                  have hn6 : n + 1 ≤ 512 := by omega
                  clear hn5
                  go_wp2
                  go_roundw
                  case rel => exact ⟨j + 1, n + 1, pl, by omega, by omega, by omega, by go_num, by go_num, Lib.hid ⟨own_below HX.out.1 A3, own_below HX.out.2.1 A3, E3⟩, HF2⟩
                  case measure => simp [intOf]; omega
            · have hq : ((x.toNat : Int) == 58) = false := by
                rw [beq_eq_false_iff_ne]
                intro e
                exact h58 (by rw [hlx, show x = 58 from UInt8.toNat_inj.1 (by show x.toNat = 58; omega)])
              clear hlx
              by_cases h5 : 5 < S.size
              · have h5d : decide (5 < S.size) = true := decide_eq_true h5
                rw [h5d, Bool.true_and] at hw
                cases hp5 : ((S.extract 0 5).toList == IsaH.wordP) with
                | true =>
                  rw [hp5] at hw
                  have HW := Lib.hid hw
                  have q6 : ((S.extract 0 5).toList == [119, 111, 114, 100, 32]) = true := hp5
                  have q7 : decide (5 < (S.size : Int)) = true := decide_eq_true (by omega)
                  clear hw h5d hp5
                  have hN2 := HNu.out
                  have hE2 := HSe.out
                  rw [hm] at hN2 hE2
                  have HNu := Lib.hid hN2
                  have HSe := Lib.hid hE2
                  clear hN2 hE2
                  go_wp2_with (first | (go_at_call 38; ((with_reducible refine (HTk.out _).mono ?_); rintro e w3 ⟨⟨c0, a, b, i, lb, ok, rfl, hyes, hno⟩, hb3⟩; refine Hid.out ?_)))
                  refine Lib.hid ?_
                  rw [HSd.out] at hyes hno
                  have D3 := hb0.trans (hb3.mono hb0.size)
                  have E3 := D3.alloc D3.size (.cells #[.int .i64 c0, .int .i64 a, .int .i64 b, .int .i64 i] 23)
                  have A3 : Below wr.heap.size wr (w3.alloc (.cells #[.int .i64 c0, .int .i64 a, .int .i64 b, .int .i64 i] 23)) := hb3.alloc hb3.size _
                  clear hyes hno
                  go_wp2_with (first | (go_at_call 45; ((with_reducible refine (HNu.out _).mono ?_); rintro e w5 ⟨⟨v5, ok5, rfl, hnr⟩, hb5⟩; refine Hid.out ?_)))
                  refine Lib.hid ?_
                  rw [HSe.out] at hnr
                  have D5 := E3.trans (hb5.mono E3.size)
                  have A5 := A3.trans (hb5.mono A3.size)
                  rcases numR_of hnr with ⟨rfl, hn5⟩ | ⟨rfl, hn5⟩
                  · by_cases hv0 : v5 < 0
                    · have q0 : decide ((0 : Int) ≤ v5) = false := decide_eq_false (by omega)
                      have HE : Hid (rasm s.data.toList = .inl (1 + j)) := Lib.hid (rasm_e1 (HR1.out.trans (r1_stop hlt2 HL.out HF.out (one_no h58 (.inl (by
                          rintro (⟨_, e⟩ | ⟨e, _⟩)
                          · unfold wordNo at e; rw [hn5] at e; simp only at e; rw [if_neg (by omega)] at e; cases e
                          · rw [HW.out] at e; cases e))))))
                      clear hnr hn5 hv0
                      go_wp2
                      exact bodyPost_ret (v := .tuple #[.slice none 0 0, .int .i64 ((1 + j : Nat) : Int), .int .i64 31]) (by simp [results, Tryd.results23, go_sem] <;> omega) rfl (rasmN (1 + j) HE.out rfl (D5))
                    · have q0 : decide ((0 : Int) ≤ v5) = true := decide_eq_true (by omega)
                      by_cases hv1 : v5 < 4294967296
                      · have q1 : decide (v5 < (4294967296 : Int)) = true := decide_eq_true hv1
                        have HOk : Hid (okB l) := Lib.hid (.inl ⟨HW.out, by unfold wordNo; rw [hn5]; simp only; rw [if_pos (by omega)]; rfl⟩)
                        clear hnr hn5 hv0 hv1
                        by_cases hn5 : n = 512
                        · have q5 : ((n : Int) == 512) = true := by rw [hn5]; rfl
                          have HE : Hid (rasm s.data.toList = .inl (1 + j)) := Lib.hid (rasm_e1 (HR1.out.trans (r1_stop hlt2 HL.out HF.out (one_no h58 (.inr hn5)))))
                          clear hn5
                          go_wp2
                          exact bodyPost_ret (v := .tuple #[.slice none 0 0, .int .i64 ((1 + j : Nat) : Int), .int .i64 31]) (by simp [results, Tryd.results23, go_sem] <;> omega) rfl (rasmN (1 + j) HE.out rfl (D5))
                        · have q5 : ((n : Int) == 512) = false := by rw [beq_eq_false_iff_ne]; omega
                          have HF2 := Lib.hid (r1_step hlt2 HL.out HF.out (one_yes h58 HOk.out hn5))
                          have hn6 : n + 1 ≤ 512 := by omega
                          clear hn5
                          go_wp2
                          go_roundw
                          case rel => exact ⟨j + 1, n + 1, pl, by omega, by omega, by omega, by go_num, by go_num, Lib.hid ⟨own_below HX.out.1 A5, own_below HX.out.2.1 A5, D5⟩, HF2⟩
                          case measure => simp [intOf]; omega
                      · have q1 : decide (v5 < (4294967296 : Int)) = false := decide_eq_false hv1
                        have HE : Hid (rasm s.data.toList = .inl (1 + j)) := Lib.hid (rasm_e1 (HR1.out.trans (r1_stop hlt2 HL.out HF.out (one_no h58 (.inl (by
                            rintro (⟨_, e⟩ | ⟨e, _⟩)
                            · unfold wordNo at e; rw [hn5] at e; simp only at e; rw [if_neg (by omega)] at e; cases e
                            · rw [HW.out] at e; cases e))))))
                        clear hnr hn5 hv0 hv1
                        go_wp2
                        exact bodyPost_ret (v := .tuple #[.slice none 0 0, .int .i64 ((1 + j : Nat) : Int), .int .i64 31]) (by simp [results, Tryd.results23, go_sem] <;> omega) rfl (rasmN (1 + j) HE.out rfl (D5))
                  · skip
                    have HE : Hid (rasm s.data.toList = .inl (1 + j)) := Lib.hid (rasm_e1 (HR1.out.trans (r1_stop hlt2 HL.out HF.out (one_no h58 (.inl (by
                        rintro (⟨_, e⟩ | ⟨e, _⟩)
                        · unfold wordNo at e; rw [hn5] at e; cases e
                        · rw [HW.out] at e; cases e))))))
                    clear hnr hn5
                    go_wp2
                    exact bodyPost_ret (v := .tuple #[.slice none 0 0, .int .i64 ((1 + j : Nat) : Int), .int .i64 31]) (by simp [results, Tryd.results23, go_sem] <;> omega) rfl (rasmN (1 + j) HE.out rfl (D5))
                | false =>
                  rw [hp5] at hw
                  have HW := Lib.hid hw
                  have q6 : ((S.extract 0 5).toList == [119, 111, 114, 100, 32]) = false := hp5
                  have q7 : decide (5 < (S.size : Int)) = true := decide_eq_true (by omega)
                  clear hw h5d hp5
                  go_wp2_with (first | (go_at_call 38; ((with_reducible refine (HTk.out _).mono ?_); rintro e w3 ⟨⟨c0, a, b, i, lb, ok, rfl, hyes, hno⟩, hb3⟩; refine Hid.out ?_)))
                  refine Lib.hid ?_
                  rw [HSd.out] at hyes hno
                  have D3 := hb0.trans (hb3.mono hb0.size)
                  have E3 := D3.alloc D3.size (.cells #[.int .i64 c0, .int .i64 a, .int .i64 b, .int .i64 i] 23)
                  have A3 : Below wr.heap.size wr (w3.alloc (.cells #[.int .i64 c0, .int .i64 a, .int .i64 b, .int .i64 i] 23)) := hb3.alloc hb3.size _
                  cases ok with
                  | false =>
                    have HE : Hid (rasm s.data.toList = .inl (1 + j)) := Lib.hid (rasm_e1 (HR1.out.trans (r1_stop hlt2 HL.out HF.out (one_no h58 (.inl (by
                      rintro (⟨e, _⟩ | ⟨_, e⟩)
                      · rw [HW.out] at e; cases e
                      · rw [hno rfl] at e; cases e))))))
                    clear hyes hno
                    go_wp2
                    exact bodyPost_ret (v := .tuple #[.slice none 0 0, .int .i64 ((1 + j : Nat) : Int), .int .i64 31]) (by simp [results, Tryd.results23, go_sem] <;> omega) rfl (rasmN (1 + j) HE.out rfl (E3))
                  | true =>
                    have HOk : Hid (okB l) := Lib.hid (by
                      obtain ⟨k, lb', _, _, hp⟩ := hyes rfl
                      exact .inr ⟨HW.out, by rw [hp]; rfl⟩)
                    clear hyes hno
                    by_cases hn5 : n = 512
                    · have q5 : ((n : Int) == 512) = true := by rw [hn5]; rfl
                      have HE : Hid (rasm s.data.toList = .inl (1 + j)) := Lib.hid (rasm_e1 (HR1.out.trans (r1_stop hlt2 HL.out HF.out (one_no h58 (.inr hn5)))))
                      clear hn5
                      go_wp2
                      exact bodyPost_ret (v := .tuple #[.slice none 0 0, .int .i64 ((1 + j : Nat) : Int), .int .i64 31]) (by simp [results, Tryd.results23, go_sem] <;> omega) rfl (rasmN (1 + j) HE.out rfl (E3))
                    · have q5 : ((n : Int) == 512) = false := by rw [beq_eq_false_iff_ne]; omega
                      have HF2 := Lib.hid (r1_step hlt2 HL.out HF.out (one_yes h58 HOk.out hn5))
                      have hn6 : n + 1 ≤ 512 := by omega
                      clear hn5
                      go_wp2
                      go_roundw
                      case rel => exact ⟨j + 1, n + 1, pl, by omega, by omega, by omega, by go_num, by go_num, Lib.hid ⟨own_below HX.out.1 A3, own_below HX.out.2.1 A3, E3⟩, HF2⟩
                      case measure => simp [intOf]; omega
              · have h5d : decide (5 < S.size) = false := decide_eq_false h5
                rw [h5d, Bool.false_and] at hw
                have HW := Lib.hid hw
                have q7 : decide (5 < (S.size : Int)) = false := decide_eq_false (by omega)
                clear hw h5d
                go_wp2_with (first | (go_at_call 38; ((with_reducible refine (HTk.out _).mono ?_); rintro e w3 ⟨⟨c0, a, b, i, lb, ok, rfl, hyes, hno⟩, hb3⟩; refine Hid.out ?_)))
                refine Lib.hid ?_
                rw [HSd.out] at hyes hno
                have D3 := hb0.trans (hb3.mono hb0.size)
                have E3 := D3.alloc D3.size (.cells #[.int .i64 c0, .int .i64 a, .int .i64 b, .int .i64 i] 23)
                have A3 : Below wr.heap.size wr (w3.alloc (.cells #[.int .i64 c0, .int .i64 a, .int .i64 b, .int .i64 i] 23)) := hb3.alloc hb3.size _
                cases ok with
                | false =>
                  have HE : Hid (rasm s.data.toList = .inl (1 + j)) := Lib.hid (rasm_e1 (HR1.out.trans (r1_stop hlt2 HL.out HF.out (one_no h58 (.inl (by
                    rintro (⟨e, _⟩ | ⟨_, e⟩)
                    · rw [HW.out] at e; cases e
                    · rw [hno rfl] at e; cases e))))))
                  clear hyes hno
                  go_wp2
                  exact bodyPost_ret (v := .tuple #[.slice none 0 0, .int .i64 ((1 + j : Nat) : Int), .int .i64 31]) (by simp [results, Tryd.results23, go_sem] <;> omega) rfl (rasmN (1 + j) HE.out rfl (E3))
                | true =>
                  have HOk : Hid (okB l) := Lib.hid (by
                    obtain ⟨k, lb', _, _, hp⟩ := hyes rfl
                    exact .inr ⟨HW.out, by rw [hp]; rfl⟩)
                  clear hyes hno
                  by_cases hn5 : n = 512
                  · have q5 : ((n : Int) == 512) = true := by rw [hn5]; rfl
                    have HE : Hid (rasm s.data.toList = .inl (1 + j)) := Lib.hid (rasm_e1 (HR1.out.trans (r1_stop hlt2 HL.out HF.out (one_no h58 (.inr hn5)))))
                    clear hn5
                    go_wp2
                    exact bodyPost_ret (v := .tuple #[.slice none 0 0, .int .i64 ((1 + j : Nat) : Int), .int .i64 31]) (by simp [results, Tryd.results23, go_sem] <;> omega) rfl (rasmN (1 + j) HE.out rfl (E3))
                  · have q5 : ((n : Int) == 512) = false := by rw [beq_eq_false_iff_ne]; omega
                    have HF2 := Lib.hid (r1_step hlt2 HL.out HF.out (one_yes h58 HOk.out hn5))
                    have hn6 : n + 1 ≤ 512 := by omega
                    clear hn5
                    go_wp2
                    go_roundw
                    case rel => exact ⟨j + 1, n + 1, pl, by omega, by omega, by omega, by go_num, by go_num, Lib.hid ⟨own_below HX.out.1 A3, own_below HX.out.2.1 A3, E3⟩, HF2⟩
                    case measure => simp [intOf]; omega
        · obtain rfl : j = L.length := by omega
          have hR1e : R1 = .inr (pl, n) := by
            have h := HF.out
            rw [List.drop_of_length_le (Nat.le_refl _)] at h
            exact h.symm
          obtain ⟨hoP, hoL, hb0⟩ := HX.out
          have hr1 := HR1.out
          rw [hR1e] at hr1
          have hpq := r1_pl _ _ _ _ _ hr1 (by omega) (fun t q h => by cases h)
          by_cases hrest : at' < s.size
          · have hne : restT s.data.toList ≠ [] := by
              rw [HRT.out]
              intro e
              have := congrArg List.length e
              rw [List.length_drop, hlen] at this
              simp at this
              omega
            have HE : Hid (rasm s.data.toList = .inl (L.length + 1)) := Lib.hid (by rw [rasm_e2 hr1 hne, HLT.out])
            have hrI : (at' : Int) < (s.size : Int) := by omega
            clear hne hr1 hpq hR1e
            go_wp2
            exact bodyPost_ret (v := .tuple #[.slice none 0 0, .int .i64 ((L.length + 1 : Nat) : Int), .int .i64 31]) (by simp [results, Tryd.results23, go_sem] <;> omega) rfl (rasmN (L.length + 1) HE.out rfl (hb0))
          · have hnil : restT s.data.toList = [] := by
              rw [HRT.out]
              exact List.drop_of_length_le (by rw [hlen]; omega)
            have hras := rasm_e3 hr1 hnil
            rw [HLT.out] at hras hr1
            obtain ⟨R2, hR2⟩ : ∃ R2, round2 pl 1 L [] = R2 := ⟨_, rfl⟩
            have HR2 := Lib.hid hR2
            have HRas : Hid (rasm s.data.toList = R2) := Lib.hid (hras.trans hR2)
            have HR1' := Lib.hid hr1
            have HPq := Lib.hid hpq
            have HoP := Lib.hid hoP
            have HoL := Lib.hid hoL
            have hrI : ¬ ((at' : Int) < (s.size : Int)) := by omega
            obtain ⟨adP, capP, rfl⟩ := row_form hoP
            obtain ⟨i2, hi2, hw0, hw1, hw2⟩ := info_parts info24
            have hlpI : pl.length ≤ 100000 := by omega
            clear hras hR2 hr1 hpq hoP hoL hR1e hnil hrest HX
            have HB0 := Lib.hid hb0
            clear hb0
            go_wp2_with fail
            go_loopw [20, 21] (fun ov iv wr => ∃ (j : Nat) (out : List Nat), j ≤ L.length ∧ out.length ≤ 512 ∧ iv = .int .i64 (j : Int) ∧ Hid (wr.ownsRow w.heap.size 24 1 ov out.length (u32s out) ∧ wr.ownsRow w.heap.size 89 2 (.slice adP pl.length capP) pl.length (pcells pl) ∧ wr.ownsRow w.heap.size 9 1 (.slice adL L.length capL) L.length (strs L) ∧ Below w.heap.size w wr) ∧ Hid (round2 pl (1 + j) (L.drop j) out = R2) ∧ Hid (∃ pl', round1 (1 + j) (L.drop j) pl' out.length = .inr (pl, n))) (fun _ i _ => L.length + 1 - (intOf i).toNat)
            case atStart => exact ⟨0, [], by omega, by simp, rfl, Lib.hid ⟨World.ownsRow_nil _ _ _ _, HoP.out, HoL.out, HB0.out⟩, HR2, Lib.hid ⟨[], HR1'.out⟩⟩
            case round =>
              obtain ⟨j, out, hj3, ho, rfl, HX, HF, HY⟩ := hrel
              by_cases hlt3 : j < L.length
              · obtain ⟨l, hl⟩ : ∃ l, L[j] = l := ⟨_, rfl⟩
                have HL := Lib.hid hl
                have hll := HLe.out l (by rw [← hl]; exact List.getElem_mem _)
                obtain ⟨g, cur, rfl, hgB, hcc, hmx, hgk, hgz, hcell⟩ := row_at HX.out.2.2.1 (by omega)
                have hc1 : wr.cell? ⟨g, j, none⟩ = some (.string (st l)) := by
                  rw [hcell j (by omega)]
                  unfold strs
                  rw [List.getElem?_map, List.getElem?_eq_getElem hlt3, hl]
                  rfl
                obtain ⟨S, hS⟩ : ∃ S, st l = S := ⟨_, rfl⟩
                have hSl : S.size ≤ 100000 := by rw [← hS, st_size]; exact hll
                rw [hS] at hc1
                have HS2 := Lib.hid hS
                have hltI : (j : Int) < (L.length : Int) := by omega
                obtain ⟨pl', hr⟩ := HY.out
                obtain ⟨pl2, n2, h1, hr2⟩ := r1_ex hlt3 HL.out hr
                have hn2 := (r1_le _ _ _ _ _ hr2 (by rcases one_some h1 with ⟨_, e⟩ | ⟨_, _, e, e2⟩ <;> omega)).1
                obtain ⟨adO, capO, rfl⟩ := row_form HX.out.1
                have hb0 := HX.out.2.2.2
                clear hcell hgk hgz cur hl hS
                rcases one_some h1 with ⟨h58, rfl⟩ | ⟨h58, hok, rfl, hn512⟩
                · have HF2 := Lib.hid (r2_step hlt3 HL.out HF.out (two_lab (pl := pl) (out := out) h58))
                  have HY2 := Lib.hid (show ∃ pl', round1 (1 + j + 1) (L.drop (j + 1)) pl' out.length = .inr (pl, n) from ⟨pl2, hr2⟩)
                  obtain ⟨m, x, hm, ⟨hmS, hx⟩, hlx⟩ := (last_or l S HS2.out).resolve_left (fun e => by rw [h58] at e; cases e.2)
                  have hx58 : x = 58 := by rw [h58] at hlx; exact (Option.some.inj hlx).symm
                  have hq : ((x.toNat : Int) == 58) = true := by rw [hx58]; rfl
                  clear hx58 hlx hr hr2 h1 h58 hn2
                  go_wp2
                  go_roundw
                  case rel => exact ⟨j + 1, out, by omega, by omega, by go_num, HX, HF2, HY2⟩
                  case measure => simp [intOf]; omega
                · have HY2 := Lib.hid (show ∃ pl', round1 (1 + j + 1) (L.drop (j + 1)) pl' (out.length + 1) = .inr (pl, n) from ⟨pl2, hr2⟩)
                  have ho2 : out.length + 1 ≤ 512 := by omega
                  have hSd : S.data.toList = l := by rw [← HS2.out, st_data]
                  have HSd := Lib.hid hSd
                  have HTk := Lib.hid (fun wx => rtake_any S hSl wx)
                  have hSe : (S.extract 5 S.size).data.toList = l.drop 5 := by rw [ext_data, hSd]
                  have HSe := Lib.hid hSe
                  have hsz5 : (S.extract 5 S.size).size ≤ 1000000 := by
                    have h1 : (S.extract 5 S.size).data.toList.length = (S.extract 5 S.size).size := by simp
                    rw [← h1, hSe, List.length_drop]
                    omega
                  have HNu := Lib.hid (fun wx => rnum_any (S.extract 5 S.size) hsz5 wx)
                  have hw := isWord_S HS2.out
                  have HOk := Lib.hid hok
                  clear hSd hSe hsz5 hr hr2 h1 hn2 hn512 hok
                  rcases last_or l S HS2.out with ⟨hz, _⟩ | ⟨m, x, hm, ⟨hmS, hx⟩, hlx⟩
                  · have hz5 : decide (5 < S.size) = false := decide_eq_false (by omega)
                    have HW : Hid (isWord l = false) := Lib.hid (by rw [hw, hz5]; rfl)
                    clear hw hz5
                    obtain ⟨hps⟩ : Nonempty ((parse l).isSome = true) := ⟨by
                      rcases HOk.out with ⟨e, _⟩ | ⟨_, e⟩
                      · rw [HW.out] at e; cases e
                      · exact e⟩
                    obtain ⟨⟨⟨k, a0, b0, i0'⟩, lb0⟩, hp⟩ := Option.isSome_iff_exists.1 hps
                    have HP := Lib.hid hp
                    have hmy := IsaI.parse_fits hp
                    clear hps
                    go_wp2_with (first | (go_at_call 38; ((with_reducible refine (HTk.out _).mono ?_); rintro e w3 ⟨⟨c0, a, b, i, lb, ok, rfl, hyes, hno⟩, hb3⟩; refine Hid.out ?_)))
                    refine Lib.hid ?_
                    rw [HSd.out] at hyes hno
                    have hokt : ok = true := by
                      cases ok with
                      | true => rfl
                      | false => rw [hno rfl] at hp; cases hp
                    subst hokt
                    obtain ⟨k', lb', rfl, rfl, hp'⟩ := hyes rfl
                    rw [hp'] at hp
                    simp only [Option.some.injEq, Prod.mk.injEq] at hp
                    obtain ⟨⟨rfl, rfl, rfl, rfl⟩, rfl⟩ := hp
                    have A3 : Below wr.heap.size wr (w3.alloc (.cells #[.int .i64 (k' : Int), .int .i64 a, .int .i64 b, .int .i64 i] 23)) := hb3.alloc hb3.size _
                    have X3 := Blk.new w3 #[.int .i64 (k' : Int), .int .i64 a, .int .i64 b, .int .i64 i] 23
                    have x0 := X3.cell 0
                    have x1 := X3.cell 1
                    have x2 := X3.cell 2
                    have x3 := X3.cell 3
                    have u3 := X3.free 3
                    clear hno hyes
                    by_cases hlb : lb' = []
                    · subst hlb
                      have e0 : st [] = ⟨#[]⟩ := rfl
                      have hEn := fun wx => renc_yes k' a b i hmy wx
                      rw [← encN_cast hmy] at hEn
                      have HEn := Lib.hid hEn
                      have HF2 := Lib.hid (r2_step hlt3 HL.out HF.out (two_ins (pl := pl) (out := out) h58 HW.out hp'))
                      clear hp' hEn hmy
                      rw [e0]
                      go_wp2_with (first | (go_at_call 13; ((with_reducible refine (HEn.out _).mono ?_); rintro e w4 ⟨rfl, hb4⟩; have A4 : Below wr.heap.size wr w4 := (hb3.alloc hb3.size _).trans (hb4.mono (hb3.alloc hb3.size _).size); have D4 := hb0.trans (A4.mono hb0.size))) | (at_builtin; go_must (refine wpList_append_own _ rfl _ _ 44 rfl w.heap.size 24 i2 (.int .u32 0) 1 4 Tryd.underlying44 hi2 hw0 hw1 hw2 rfl (by decide) _ out.length (u32s out) rfl ((own_below HX.out.1 A4).alloc _) ⟨w4.heap.size, 0, none⟩ 1 1 [_] rfl rfl (new_one _ _ _ rfl) (fun u hu => by simp at hu; subst hu; rfl) (by unfold maxLen; omega) (by omega) (by have := (D4).size; simp; omega) ?_); intro v7 w7 hown7 hgr7 _))
                      go_roundw
                      case rel =>
                        refine ⟨j + 1, out ++ [encN k' a b i], by omega, by rw [List.length_append]; simp; omega, by go_num, Lib.hid ⟨?_, ?_, ?_, ?_⟩, HF2, by rw [List.length_append]; exact HY2⟩
                        · rw [List.length_append, IsaF.u32s_snoc]
                          first | exact hown7 | (rw [← HV.out]; exact hown7) | (rw [show ((encN k' a b i : Nat) : Int) = _ from HV.out]; exact hown7)
                        · exact rows_kept ((own_below HX.out.2.1 A4).alloc _) hgr7 ((own_below HX.out.1 A4).alloc _) (by decide)
                        · exact rows_kept ((own_below HX.out.2.2.1 A4).alloc _) hgr7 ((own_below HX.out.1 A4).alloc _) (by decide)
                        · exact ((D4).alloc (D4).size _).grown hgr7 (by have h1 := (D4).size; simp; omega) (fun j h => ((own_below HX.out.1 A4).lt j h).1)
                      case measure => simp [intOf]; omega
                    · have hqe : ((st lb').toList == []) = false := by rw [ByteArray.toList_eq, st_data]; simpa using hlb
                      have hqe2 : (st lb').toList.isEmpty = false := by
                        rw [ByteArray.toList_eq, st_data]
                        cases lb' with
                        | nil => exact absurd rfl hlb
                        | cons c r => rfl
                      cases hfn : fnd lb' pl with
                      | none =>
                        have HFi : Hid (∀ wx, wx.ownsRow w.heap.size 89 2 (.slice adP pl.length capP) pl.length (pcells pl) → Calls Tryd.prog 44 #[.slice adP pl.length capP, .string (st lb')] wx fun e w' => e = .returned (.int .i64 (-1)) ∧ wx = w') := Lib.hid (fun wx ho => by
                          have := Rfi.find_any w.heap.size _ pl lb' wx ho (by omega)
                          rwa [show fndI lb' pl = -1 by unfold fndI; rw [hfn]] at this)
                        have HE : Hid (rasm s.data.toList = .inl (1 + j)) := Lib.hid (HRas.out.trans (r2_stop hlt3 HL.out HF.out (two_lost h58 HW.out hp' hlb hfn)))
                        have D3 := hb0.trans (A3.mono hb0.size)
                        clear hp' hmy hlb hfn
                        go_wp2_with (first | (go_at_call 44; ((with_reducible refine (HFi.out _ (own_below HX.out.2.1 A3)).mono ?_); rintro e w6 ⟨rfl, rfl⟩)))
                        exact bodyPost_ret (v := .tuple #[.slice none 0 0, .int .i64 ((1 + j : Nat) : Int), .int .i64 31]) (by simp [results, Tryd.results23, go_sem] <;> omega) rfl (rasmN (1 + j) HE.out rfl (D3))
                      | some q =>
                        have HFi : Hid (∀ wx, wx.ownsRow w.heap.size 89 2 (.slice adP pl.length capP) pl.length (pcells pl) → Calls Tryd.prog 44 #[.slice adP pl.length capP, .string (st lb')] wx fun e w' => e = .returned (.int .i64 (q : Int)) ∧ wx = w') := Lib.hid (fun wx ho => by
                          have := Rfi.find_any w.heap.size _ pl lb' wx ho (by omega)
                          rwa [show fndI lb' pl = (q : Int) by unfold fndI; rw [hfn]] at this)
                        have hqn : q ≤ 512 := Nat.le_trans (HPq.out lb' q hfn) hn
                        have hmy2 : May k' a b (immOf q out.length) := jump_may hp' hlb (by unfold immOf; omega) (by unfold immOf; omega)
                        have him : immOf q out.length = (q : Int) - (out.length : Int) - 1 := by unfold immOf; omega
                        have hEn := fun wx => renc_yes k' a b _ hmy2 wx
                        rw [← encN_cast hmy2] at hEn
                        obtain ⟨E, hE⟩ : ∃ E, encN k' a b (immOf q out.length) = E := ⟨_, rfl⟩
                        rw [hE, him] at hEn
                        have HEn := Lib.hid hEn
                        have hF2 := r2_step hlt3 HL.out HF.out (two_jump (out := out) h58 HW.out hp' hlb hfn)
                        rw [hE] at hF2
                        have HF2 := Lib.hid hF2
                        have hq0 : decide ((q : Int) < 0) = false := decide_eq_false (by omega)
                        clear hp' hEn hmy hmy2 him hE hF2 hlb hfn
                        go_wp2_with (first | (go_at_call 44; ((with_reducible refine (HFi.out _ (own_below HX.out.2.1 A3)).mono ?_); rintro e w6 ⟨rfl, rfl⟩)) | (go_at_call 13; ((with_reducible refine (HEn.out _).mono ?_); rintro e w4 ⟨rfl, hb4⟩; have A4 : Below wr.heap.size wr w4 := (hb3.alloc hb3.size _).trans (hb4.mono (hb3.alloc hb3.size _).size); have D4 := hb0.trans (A4.mono hb0.size))) | (at_builtin; go_must (refine wpList_append_own _ rfl _ _ 44 rfl w.heap.size 24 i2 (.int .u32 0) 1 4 Tryd.underlying44 hi2 hw0 hw1 hw2 rfl (by decide) _ out.length (u32s out) rfl ((own_below HX.out.1 A4).alloc _) ⟨w4.heap.size, 0, none⟩ 1 1 [_] rfl rfl (new_one _ _ _ rfl) (fun u hu => by simp at hu; subst hu; rfl) (by unfold maxLen; omega) (by omega) (by have := (D4).size; simp; omega) ?_); intro v7 w7 hown7 hgr7 _))
                        go_roundw
                        case rel =>
                          refine ⟨j + 1, out ++ [E], by omega, by rw [List.length_append]; simp; omega, by go_num, Lib.hid ⟨?_, ?_, ?_, ?_⟩, HF2, by rw [List.length_append]; exact HY2⟩
                          · rw [List.length_append, IsaF.u32s_snoc]
                            first | exact hown7 | (rw [← HV.out]; exact hown7) | (rw [show ((E : Nat) : Int) = _ from HV.out]; exact hown7)
                          · exact rows_kept ((own_below HX.out.2.1 A4).alloc _) hgr7 ((own_below HX.out.1 A4).alloc _) (by decide)
                          · exact rows_kept ((own_below HX.out.2.2.1 A4).alloc _) hgr7 ((own_below HX.out.1 A4).alloc _) (by decide)
                          · exact ((D4).alloc (D4).size _).grown hgr7 (by have h1 := (D4).size; simp; omega) (fun j h => ((own_below HX.out.1 A4).lt j h).1)
                        case measure => simp [intOf]; omega
                  · have hq : ((x.toNat : Int) == 58) = false := by
                      rw [beq_eq_false_iff_ne]
                      intro e
                      exact h58 (by rw [hlx, show x = 58 from UInt8.toNat_inj.1 (by show x.toNat = 58; omega)])
                    clear hlx
                    by_cases h5 : 5 < S.size
                    · have h5d : decide (5 < S.size) = true := decide_eq_true h5
                      rw [h5d, Bool.true_and] at hw
                      cases hp5 : ((S.extract 0 5).toList == IsaH.wordP) with
                      | true =>
                        rw [hp5] at hw
                        have HW := Lib.hid hw
                        have q6 : ((S.extract 0 5).toList == [119, 111, 114, 100, 32]) = true := hp5
                        have q7 : decide (5 < (S.size : Int)) = true := decide_eq_true (by omega)
                        clear hw h5d hp5
                        have hN2 := HNu.out
                        have hE2 := HSe.out
                        rw [hm] at hN2 hE2
                        have HNu := Lib.hid hN2
                        have HSe := Lib.hid hE2
                        clear hN2 hE2
                        obtain ⟨V, hV⟩ : ∃ V, wordNo l = some V := Option.isSome_iff_exists.1 (by
                          rcases HOk.out with ⟨_, e⟩ | ⟨e, _⟩
                          · exact e
                          · rw [HW.out] at e; cases e)
                        have hVn : numOf (l.drop 5) = some (V : Int) ∧ V < 4294967296 := by
                          unfold wordNo at hV
                          split at hV
                          · cases hV
                          · rename_i v hv
                            split at hV
                            · rename_i hr
                              have e := Option.some.inj hV
                              rw [hv]
                              exact ⟨congrArg some (by omega), by omega⟩
                            · cases hV
                        have HF2 := Lib.hid (r2_step hlt3 HL.out HF.out (two_word (pl := pl) (out := out) h58 HW.out hV))
                        clear hV
                        go_wp2_with (first | (go_at_call 45; ((with_reducible refine (HNu.out _).mono ?_); rintro e w5 ⟨⟨v5, ok5, rfl, hnr⟩, hb5⟩; refine Hid.out ?_)))
                        refine Lib.hid ?_
                        rw [HSe.out] at hnr
                        have hv5 : v5 = (V : Int) := by
                          rcases numR_of hnr with ⟨_, e⟩ | ⟨_, e⟩
                          · rw [hVn.1] at e; exact (Option.some.inj e).symm
                          · rw [hVn.1] at e; cases e
                        subst hv5
                        have hV2 := hVn.2
                        have hVm : (V : Int) % 4294967296 = (V : Int) := by omega
                        have hVw : IntKind.u32.wrap (V : Int) = (V : Int) := by rw [show IntKind.u32.wrap (V : Int) = (V : Int) % 4294967296 by simp [IntKind.wrap, IntKind.bits, IntKind.signed]]; exact hVm
                        have HV := Lib.hid hVm
                        have D5 := hb0.trans (hb5.mono hb0.size)
                        clear hnr hVn
                        go_wp2_with (first | (at_builtin; go_must (refine wpList_append_own _ rfl _ _ 44 rfl w.heap.size 24 i2 (.int .u32 0) 1 4 Tryd.underlying44 hi2 hw0 hw1 hw2 rfl (by decide) _ out.length (u32s out) rfl ((own_below HX.out.1 hb5).alloc _) ⟨w5.heap.size, 0, none⟩ 1 1 [_] rfl rfl (new_one _ _ _ rfl) (fun u hu => by simp at hu; subst hu; rfl) (by unfold maxLen; omega) (by omega) (by have := (D5).size; simp; omega) ?_); intro v7 w7 hown7 hgr7 _))
                        go_roundw
                        case rel =>
                          refine ⟨j + 1, out ++ [V], by omega, by rw [List.length_append]; simp; omega, by go_num, Lib.hid ⟨?_, ?_, ?_, ?_⟩, HF2, by rw [List.length_append]; exact HY2⟩
                          · rw [List.length_append, IsaF.u32s_snoc]
                            first | exact hown7 | (rw [← HV.out]; exact hown7) | (rw [show ((V : Nat) : Int) = _ from HV.out]; exact hown7)
                          · exact rows_kept ((own_below HX.out.2.1 hb5).alloc _) hgr7 ((own_below HX.out.1 hb5).alloc _) (by decide)
                          · exact rows_kept ((own_below HX.out.2.2.1 hb5).alloc _) hgr7 ((own_below HX.out.1 hb5).alloc _) (by decide)
                          · exact ((D5).alloc (D5).size _).grown hgr7 (by have h1 := (D5).size; simp; omega) (fun j h => ((own_below HX.out.1 hb5).lt j h).1)
                        case measure => simp [intOf]; omega
                      | false =>
                        rw [hp5] at hw
                        have HW := Lib.hid hw
                        have q6 : ((S.extract 0 5).toList == [119, 111, 114, 100, 32]) = false := hp5
                        have q7 : decide (5 < (S.size : Int)) = true := decide_eq_true (by omega)
                        clear hw h5d hp5
                        obtain ⟨hps⟩ : Nonempty ((parse l).isSome = true) := ⟨by
                          rcases HOk.out with ⟨e, _⟩ | ⟨_, e⟩
                          · rw [HW.out] at e; cases e
                          · exact e⟩
                        obtain ⟨⟨⟨k, a0, b0, i0'⟩, lb0⟩, hp⟩ := Option.isSome_iff_exists.1 hps
                        have HP := Lib.hid hp
                        have hmy := IsaI.parse_fits hp
                        clear hps
                        go_wp2_with (first | (go_at_call 38; ((with_reducible refine (HTk.out _).mono ?_); rintro e w3 ⟨⟨c0, a, b, i, lb, ok, rfl, hyes, hno⟩, hb3⟩; refine Hid.out ?_)))
                        refine Lib.hid ?_
                        rw [HSd.out] at hyes hno
                        have hokt : ok = true := by
                          cases ok with
                          | true => rfl
                          | false => rw [hno rfl] at hp; cases hp
                        subst hokt
                        obtain ⟨k', lb', rfl, rfl, hp'⟩ := hyes rfl
                        rw [hp'] at hp
                        simp only [Option.some.injEq, Prod.mk.injEq] at hp
                        obtain ⟨⟨rfl, rfl, rfl, rfl⟩, rfl⟩ := hp
                        have A3 : Below wr.heap.size wr (w3.alloc (.cells #[.int .i64 (k' : Int), .int .i64 a, .int .i64 b, .int .i64 i] 23)) := hb3.alloc hb3.size _
                        have X3 := Blk.new w3 #[.int .i64 (k' : Int), .int .i64 a, .int .i64 b, .int .i64 i] 23
                        have x0 := X3.cell 0
                        have x1 := X3.cell 1
                        have x2 := X3.cell 2
                        have x3 := X3.cell 3
                        have u3 := X3.free 3
                        clear hno hyes
                        by_cases hlb : lb' = []
                        · subst hlb
                          have e0 : st [] = ⟨#[]⟩ := rfl
                          have hEn := fun wx => renc_yes k' a b i hmy wx
                          rw [← encN_cast hmy] at hEn
                          have HEn := Lib.hid hEn
                          have HF2 := Lib.hid (r2_step hlt3 HL.out HF.out (two_ins (pl := pl) (out := out) h58 HW.out hp'))
                          clear hp' hEn hmy
                          rw [e0]
                          go_wp2_with (first | (go_at_call 13; ((with_reducible refine (HEn.out _).mono ?_); rintro e w4 ⟨rfl, hb4⟩; have A4 : Below wr.heap.size wr w4 := (hb3.alloc hb3.size _).trans (hb4.mono (hb3.alloc hb3.size _).size); have D4 := hb0.trans (A4.mono hb0.size))) | (at_builtin; go_must (refine wpList_append_own _ rfl _ _ 44 rfl w.heap.size 24 i2 (.int .u32 0) 1 4 Tryd.underlying44 hi2 hw0 hw1 hw2 rfl (by decide) _ out.length (u32s out) rfl ((own_below HX.out.1 A4).alloc _) ⟨w4.heap.size, 0, none⟩ 1 1 [_] rfl rfl (new_one _ _ _ rfl) (fun u hu => by simp at hu; subst hu; rfl) (by unfold maxLen; omega) (by omega) (by have := (D4).size; simp; omega) ?_); intro v7 w7 hown7 hgr7 _))
                          go_roundw
                          case rel =>
                            refine ⟨j + 1, out ++ [encN k' a b i], by omega, by rw [List.length_append]; simp; omega, by go_num, Lib.hid ⟨?_, ?_, ?_, ?_⟩, HF2, by rw [List.length_append]; exact HY2⟩
                            · rw [List.length_append, IsaF.u32s_snoc]
                              first | exact hown7 | (rw [← HV.out]; exact hown7) | (rw [show ((encN k' a b i : Nat) : Int) = _ from HV.out]; exact hown7)
                            · exact rows_kept ((own_below HX.out.2.1 A4).alloc _) hgr7 ((own_below HX.out.1 A4).alloc _) (by decide)
                            · exact rows_kept ((own_below HX.out.2.2.1 A4).alloc _) hgr7 ((own_below HX.out.1 A4).alloc _) (by decide)
                            · exact ((D4).alloc (D4).size _).grown hgr7 (by have h1 := (D4).size; simp; omega) (fun j h => ((own_below HX.out.1 A4).lt j h).1)
                          case measure => simp [intOf]; omega
                        · have hqe : ((st lb').toList == []) = false := by rw [ByteArray.toList_eq, st_data]; simpa using hlb
                          have hqe2 : (st lb').toList.isEmpty = false := by
                            rw [ByteArray.toList_eq, st_data]
                            cases lb' with
                            | nil => exact absurd rfl hlb
                            | cons c r => rfl
                          cases hfn : fnd lb' pl with
                          | none =>
                            have HFi : Hid (∀ wx, wx.ownsRow w.heap.size 89 2 (.slice adP pl.length capP) pl.length (pcells pl) → Calls Tryd.prog 44 #[.slice adP pl.length capP, .string (st lb')] wx fun e w' => e = .returned (.int .i64 (-1)) ∧ wx = w') := Lib.hid (fun wx ho => by
                              have := Rfi.find_any w.heap.size _ pl lb' wx ho (by omega)
                              rwa [show fndI lb' pl = -1 by unfold fndI; rw [hfn]] at this)
                            have HE : Hid (rasm s.data.toList = .inl (1 + j)) := Lib.hid (HRas.out.trans (r2_stop hlt3 HL.out HF.out (two_lost h58 HW.out hp' hlb hfn)))
                            have D3 := hb0.trans (A3.mono hb0.size)
                            clear hp' hmy hlb hfn
                            go_wp2_with (first | (go_at_call 44; ((with_reducible refine (HFi.out _ (own_below HX.out.2.1 A3)).mono ?_); rintro e w6 ⟨rfl, rfl⟩)))
                            exact bodyPost_ret (v := .tuple #[.slice none 0 0, .int .i64 ((1 + j : Nat) : Int), .int .i64 31]) (by simp [results, Tryd.results23, go_sem] <;> omega) rfl (rasmN (1 + j) HE.out rfl (D3))
                          | some q =>
                            have HFi : Hid (∀ wx, wx.ownsRow w.heap.size 89 2 (.slice adP pl.length capP) pl.length (pcells pl) → Calls Tryd.prog 44 #[.slice adP pl.length capP, .string (st lb')] wx fun e w' => e = .returned (.int .i64 (q : Int)) ∧ wx = w') := Lib.hid (fun wx ho => by
                              have := Rfi.find_any w.heap.size _ pl lb' wx ho (by omega)
                              rwa [show fndI lb' pl = (q : Int) by unfold fndI; rw [hfn]] at this)
                            have hqn : q ≤ 512 := Nat.le_trans (HPq.out lb' q hfn) hn
                            have hmy2 : May k' a b (immOf q out.length) := jump_may hp' hlb (by unfold immOf; omega) (by unfold immOf; omega)
                            have him : immOf q out.length = (q : Int) - (out.length : Int) - 1 := by unfold immOf; omega
                            have hEn := fun wx => renc_yes k' a b _ hmy2 wx
                            rw [← encN_cast hmy2] at hEn
                            obtain ⟨E, hE⟩ : ∃ E, encN k' a b (immOf q out.length) = E := ⟨_, rfl⟩
                            rw [hE, him] at hEn
                            have HEn := Lib.hid hEn
                            have hF2 := r2_step hlt3 HL.out HF.out (two_jump (out := out) h58 HW.out hp' hlb hfn)
                            rw [hE] at hF2
                            have HF2 := Lib.hid hF2
                            have hq0 : decide ((q : Int) < 0) = false := decide_eq_false (by omega)
                            clear hp' hEn hmy hmy2 him hE hF2 hlb hfn
                            go_wp2_with (first | (go_at_call 44; ((with_reducible refine (HFi.out _ (own_below HX.out.2.1 A3)).mono ?_); rintro e w6 ⟨rfl, rfl⟩)) | (go_at_call 13; ((with_reducible refine (HEn.out _).mono ?_); rintro e w4 ⟨rfl, hb4⟩; have A4 : Below wr.heap.size wr w4 := (hb3.alloc hb3.size _).trans (hb4.mono (hb3.alloc hb3.size _).size); have D4 := hb0.trans (A4.mono hb0.size))) | (at_builtin; go_must (refine wpList_append_own _ rfl _ _ 44 rfl w.heap.size 24 i2 (.int .u32 0) 1 4 Tryd.underlying44 hi2 hw0 hw1 hw2 rfl (by decide) _ out.length (u32s out) rfl ((own_below HX.out.1 A4).alloc _) ⟨w4.heap.size, 0, none⟩ 1 1 [_] rfl rfl (new_one _ _ _ rfl) (fun u hu => by simp at hu; subst hu; rfl) (by unfold maxLen; omega) (by omega) (by have := (D4).size; simp; omega) ?_); intro v7 w7 hown7 hgr7 _))
                            go_roundw
                            case rel =>
                              refine ⟨j + 1, out ++ [E], by omega, by rw [List.length_append]; simp; omega, by go_num, Lib.hid ⟨?_, ?_, ?_, ?_⟩, HF2, by rw [List.length_append]; exact HY2⟩
                              · rw [List.length_append, IsaF.u32s_snoc]
                                first | exact hown7 | (rw [← HV.out]; exact hown7) | (rw [show ((E : Nat) : Int) = _ from HV.out]; exact hown7)
                              · exact rows_kept ((own_below HX.out.2.1 A4).alloc _) hgr7 ((own_below HX.out.1 A4).alloc _) (by decide)
                              · exact rows_kept ((own_below HX.out.2.2.1 A4).alloc _) hgr7 ((own_below HX.out.1 A4).alloc _) (by decide)
                              · exact ((D4).alloc (D4).size _).grown hgr7 (by have h1 := (D4).size; simp; omega) (fun j h => ((own_below HX.out.1 A4).lt j h).1)
                            case measure => simp [intOf]; omega
                    · have h5d : decide (5 < S.size) = false := decide_eq_false h5
                      rw [h5d, Bool.false_and] at hw
                      have HW := Lib.hid hw
                      have q7 : decide (5 < (S.size : Int)) = false := decide_eq_false (by omega)
                      clear hw h5d
                      obtain ⟨hps⟩ : Nonempty ((parse l).isSome = true) := ⟨by
                        rcases HOk.out with ⟨e, _⟩ | ⟨_, e⟩
                        · rw [HW.out] at e; cases e
                        · exact e⟩
                      obtain ⟨⟨⟨k, a0, b0, i0'⟩, lb0⟩, hp⟩ := Option.isSome_iff_exists.1 hps
                      have HP := Lib.hid hp
                      have hmy := IsaI.parse_fits hp
                      clear hps
                      go_wp2_with (first | (go_at_call 38; ((with_reducible refine (HTk.out _).mono ?_); rintro e w3 ⟨⟨c0, a, b, i, lb, ok, rfl, hyes, hno⟩, hb3⟩; refine Hid.out ?_)))
                      refine Lib.hid ?_
                      rw [HSd.out] at hyes hno
                      have hokt : ok = true := by
                        cases ok with
                        | true => rfl
                        | false => rw [hno rfl] at hp; cases hp
                      subst hokt
                      obtain ⟨k', lb', rfl, rfl, hp'⟩ := hyes rfl
                      rw [hp'] at hp
                      simp only [Option.some.injEq, Prod.mk.injEq] at hp
                      obtain ⟨⟨rfl, rfl, rfl, rfl⟩, rfl⟩ := hp
                      have A3 : Below wr.heap.size wr (w3.alloc (.cells #[.int .i64 (k' : Int), .int .i64 a, .int .i64 b, .int .i64 i] 23)) := hb3.alloc hb3.size _
                      have X3 := Blk.new w3 #[.int .i64 (k' : Int), .int .i64 a, .int .i64 b, .int .i64 i] 23
                      have x0 := X3.cell 0
                      have x1 := X3.cell 1
                      have x2 := X3.cell 2
                      have x3 := X3.cell 3
                      have u3 := X3.free 3
                      clear hno hyes
                      by_cases hlb : lb' = []
                      · subst hlb
                        have e0 : st [] = ⟨#[]⟩ := rfl
                        have hEn := fun wx => renc_yes k' a b i hmy wx
                        rw [← encN_cast hmy] at hEn
                        have HEn := Lib.hid hEn
                        have HF2 := Lib.hid (r2_step hlt3 HL.out HF.out (two_ins (pl := pl) (out := out) h58 HW.out hp'))
                        clear hp' hEn hmy
                        rw [e0]
                        go_wp2_with (first | (go_at_call 13; ((with_reducible refine (HEn.out _).mono ?_); rintro e w4 ⟨rfl, hb4⟩; have A4 : Below wr.heap.size wr w4 := (hb3.alloc hb3.size _).trans (hb4.mono (hb3.alloc hb3.size _).size); have D4 := hb0.trans (A4.mono hb0.size))) | (at_builtin; go_must (refine wpList_append_own _ rfl _ _ 44 rfl w.heap.size 24 i2 (.int .u32 0) 1 4 Tryd.underlying44 hi2 hw0 hw1 hw2 rfl (by decide) _ out.length (u32s out) rfl ((own_below HX.out.1 A4).alloc _) ⟨w4.heap.size, 0, none⟩ 1 1 [_] rfl rfl (new_one _ _ _ rfl) (fun u hu => by simp at hu; subst hu; rfl) (by unfold maxLen; omega) (by omega) (by have := (D4).size; simp; omega) ?_); intro v7 w7 hown7 hgr7 _))
                        go_roundw
                        case rel =>
                          refine ⟨j + 1, out ++ [encN k' a b i], by omega, by rw [List.length_append]; simp; omega, by go_num, Lib.hid ⟨?_, ?_, ?_, ?_⟩, HF2, by rw [List.length_append]; exact HY2⟩
                          · rw [List.length_append, IsaF.u32s_snoc]
                            first | exact hown7 | (rw [← HV.out]; exact hown7) | (rw [show ((encN k' a b i : Nat) : Int) = _ from HV.out]; exact hown7)
                          · exact rows_kept ((own_below HX.out.2.1 A4).alloc _) hgr7 ((own_below HX.out.1 A4).alloc _) (by decide)
                          · exact rows_kept ((own_below HX.out.2.2.1 A4).alloc _) hgr7 ((own_below HX.out.1 A4).alloc _) (by decide)
                          · exact ((D4).alloc (D4).size _).grown hgr7 (by have h1 := (D4).size; simp; omega) (fun j h => ((own_below HX.out.1 A4).lt j h).1)
                        case measure => simp [intOf]; omega
                      · have hqe : ((st lb').toList == []) = false := by rw [ByteArray.toList_eq, st_data]; simpa using hlb
                        have hqe2 : (st lb').toList.isEmpty = false := by
                          rw [ByteArray.toList_eq, st_data]
                          cases lb' with
                          | nil => exact absurd rfl hlb
                          | cons c r => rfl
                        cases hfn : fnd lb' pl with
                        | none =>
                          have HFi : Hid (∀ wx, wx.ownsRow w.heap.size 89 2 (.slice adP pl.length capP) pl.length (pcells pl) → Calls Tryd.prog 44 #[.slice adP pl.length capP, .string (st lb')] wx fun e w' => e = .returned (.int .i64 (-1)) ∧ wx = w') := Lib.hid (fun wx ho => by
                            have := Rfi.find_any w.heap.size _ pl lb' wx ho (by omega)
                            rwa [show fndI lb' pl = -1 by unfold fndI; rw [hfn]] at this)
                          have HE : Hid (rasm s.data.toList = .inl (1 + j)) := Lib.hid (HRas.out.trans (r2_stop hlt3 HL.out HF.out (two_lost h58 HW.out hp' hlb hfn)))
                          have D3 := hb0.trans (A3.mono hb0.size)
                          clear hp' hmy hlb hfn
                          go_wp2_with (first | (go_at_call 44; ((with_reducible refine (HFi.out _ (own_below HX.out.2.1 A3)).mono ?_); rintro e w6 ⟨rfl, rfl⟩)))
                          exact bodyPost_ret (v := .tuple #[.slice none 0 0, .int .i64 ((1 + j : Nat) : Int), .int .i64 31]) (by simp [results, Tryd.results23, go_sem] <;> omega) rfl (rasmN (1 + j) HE.out rfl (D3))
                        | some q =>
                          have HFi : Hid (∀ wx, wx.ownsRow w.heap.size 89 2 (.slice adP pl.length capP) pl.length (pcells pl) → Calls Tryd.prog 44 #[.slice adP pl.length capP, .string (st lb')] wx fun e w' => e = .returned (.int .i64 (q : Int)) ∧ wx = w') := Lib.hid (fun wx ho => by
                            have := Rfi.find_any w.heap.size _ pl lb' wx ho (by omega)
                            rwa [show fndI lb' pl = (q : Int) by unfold fndI; rw [hfn]] at this)
                          have hqn : q ≤ 512 := Nat.le_trans (HPq.out lb' q hfn) hn
                          have hmy2 : May k' a b (immOf q out.length) := jump_may hp' hlb (by unfold immOf; omega) (by unfold immOf; omega)
                          have him : immOf q out.length = (q : Int) - (out.length : Int) - 1 := by unfold immOf; omega
                          have hEn := fun wx => renc_yes k' a b _ hmy2 wx
                          rw [← encN_cast hmy2] at hEn
                          obtain ⟨E, hE⟩ : ∃ E, encN k' a b (immOf q out.length) = E := ⟨_, rfl⟩
                          rw [hE, him] at hEn
                          have HEn := Lib.hid hEn
                          have hF2 := r2_step hlt3 HL.out HF.out (two_jump (out := out) h58 HW.out hp' hlb hfn)
                          rw [hE] at hF2
                          have HF2 := Lib.hid hF2
                          have hq0 : decide ((q : Int) < 0) = false := decide_eq_false (by omega)
                          clear hp' hEn hmy hmy2 him hE hF2 hlb hfn
                          go_wp2_with (first | (go_at_call 44; ((with_reducible refine (HFi.out _ (own_below HX.out.2.1 A3)).mono ?_); rintro e w6 ⟨rfl, rfl⟩)) | (go_at_call 13; ((with_reducible refine (HEn.out _).mono ?_); rintro e w4 ⟨rfl, hb4⟩; have A4 : Below wr.heap.size wr w4 := (hb3.alloc hb3.size _).trans (hb4.mono (hb3.alloc hb3.size _).size); have D4 := hb0.trans (A4.mono hb0.size))) | (at_builtin; go_must (refine wpList_append_own _ rfl _ _ 44 rfl w.heap.size 24 i2 (.int .u32 0) 1 4 Tryd.underlying44 hi2 hw0 hw1 hw2 rfl (by decide) _ out.length (u32s out) rfl ((own_below HX.out.1 A4).alloc _) ⟨w4.heap.size, 0, none⟩ 1 1 [_] rfl rfl (new_one _ _ _ rfl) (fun u hu => by simp at hu; subst hu; rfl) (by unfold maxLen; omega) (by omega) (by have := (D4).size; simp; omega) ?_); intro v7 w7 hown7 hgr7 _))
                          go_roundw
                          case rel =>
                            refine ⟨j + 1, out ++ [E], by omega, by rw [List.length_append]; simp; omega, by go_num, Lib.hid ⟨?_, ?_, ?_, ?_⟩, HF2, by rw [List.length_append]; exact HY2⟩
                            · rw [List.length_append, IsaF.u32s_snoc]
                              first | exact hown7 | (rw [← HV.out]; exact hown7) | (rw [show ((E : Nat) : Int) = _ from HV.out]; exact hown7)
                            · exact rows_kept ((own_below HX.out.2.1 A4).alloc _) hgr7 ((own_below HX.out.1 A4).alloc _) (by decide)
                            · exact rows_kept ((own_below HX.out.2.2.1 A4).alloc _) hgr7 ((own_below HX.out.1 A4).alloc _) (by decide)
                            · exact ((D4).alloc (D4).size _).grown hgr7 (by have h1 := (D4).size; simp; omega) (fun j h => ((own_below HX.out.1 A4).lt j h).1)
                          case measure => simp [intOf]; omega
              · obtain rfl : j = L.length := by omega
                have hfin : R2 = .inr out := by
                  have h := HF.out
                  rw [List.drop_of_length_le (Nat.le_refl _)] at h
                  exact h.symm
                have HE : Hid (rasm s.data.toList = .inr out) := Lib.hid (HRas.out.trans hfin)
                obtain ⟨hoO, -, -, hb0⟩ := HX.out
                have HoO := Lib.hid hoO
                have HB9 := Lib.hid hb0
                clear hfin hoO hb0
                go_wp2
                exact bodyPost_ret (v := .tuple #[_, .int .i64 0, .int .i64 0]) (by simp [results, Tryd.results23, go_sem] <;> rfl) rfl (rasmY out _ HE.out rfl HB9.out HoO.out)
end Go.Proofs.YtocbilaaklapkaaDoor.Ras
