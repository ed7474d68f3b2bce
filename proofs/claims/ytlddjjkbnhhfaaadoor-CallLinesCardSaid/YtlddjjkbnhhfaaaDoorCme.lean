/-
  The document's own Read: the walk (gen_cme.py).
-/
import Derived.Test.YtlddjjkbnhhfaaaDoorCmd
namespace Go.Proofs.YtlddjjkbnhhfaaaDoor.Cme
open Go Go.RowKit Go.Shelf Kit IsaM Cla Clt Clf Bk Clh Cli Clg Clm Clo Clra Clrc Cma Cmb Cmc Cmd
set_option linter.unusedVariables false
attribute [local go_sem] Oper.semAt_some

theorem read_none {s : ByteArray} (h : rdL s.data.toList = none) : ReadR s (.returned (.tuple #[.agg #[.int .i64 0, .int .u32 0, .int .u32 0, .int .u32 0], .int .i64 160])) := by
  have := rdR_ok (s := s) (fun c hc => by rw [h] at hc; cases hc)
  unfold rdR at this
  rw [h] at this
  exact this
theorem read_bad {s : ByteArray} {c : Cl} (h : rdL s.data.toList = some c) (hw : Wf c) (hn : ¬ (mayC c = true ∧ lineT c = s.data.toList)) : ReadR s (.returned (.tuple #[.agg #[.int .i64 0, .int .u32 0, .int .u32 0, .int .u32 0], .int .i64 160])) := by
  have := rdR_ok (s := s) (fun d hd => by rw [h] at hd; cases hd; exact hw)
  unfold rdR at this
  rw [h] at this
  simp only [if_neg hn] at this
  exact this
theorem read_yes {s : ByteArray} {c : Cl} (h : rdL s.data.toList = some c) (hw : Wf c) (hn : mayC c = true ∧ lineT c = s.data.toList) : ReadR s (.returned (.tuple #[.agg (ccs c), .int .i64 0])) := by
  have := rdR_ok (s := s) (fun d hd => by rw [h] at hd; cases hd; exact hw)
  unfold rdR at this
  rw [h] at this
  simp only [if_pos hn] at this
  exact this
set_option maxRecDepth 100000 in
set_option maxHeartbeats 8000000 in
theorem rread_any (s : ByteArray) (hs : s.size ≤ 1000) (w : World) :
    Calls Tryd.prog 25 #[.string s] w fun e w' => ReadR s e ∧ Below w.heap.size w w' := by
  have HNm : Hid (∀ k wx, 1 ≤ k → k < 23 → Calls Tryd.prog 9 #[.int .i64 ((k : Nat) : Int)] wx fun e w' => e = .returned (.string (tx (wd k))) ∧ Below wx.heap.size wx w') := Lib.hid (fun k wx h1 h2 => rname_in k h1 h2 wx)
  have b1 := (Below.refl w.heap.size w).alloc (Nat.le_refl _) (.cells #[.int .i64 0, .int .u32 0, .int .u32 0, .int .u32 0] 27)
  have k1 := Blk.new w #[.int .i64 0, .int .u32 0, .int .u32 0, .int .u32 0] 27
  have b2 := b1.alloc b1.size (.cells #[.int .i64 0, .int .u32 0, .int .u32 0, .int .u32 0] 27)
  have k2 := k1.below ((Below.refl _ _).alloc (Nat.le_refl _) (.cells #[.int .i64 0, .int .u32 0, .int .u32 0, .int .u32 0] 27))
  have k3 := Blk.new (w.alloc (.cells #[.int .i64 0, .int .u32 0, .int .u32 0, .int .u32 0] 27)) #[.int .i64 0, .int .u32 0, .int .u32 0, .int .u32 0] 27
  rw [World.size_alloc] at k3
  have HB := Lib.hid (And.intro b2 (And.intro k2 k3))
  clear b1 k1 b2 k2 k3
  go_enter Tryd.func25, Tryd.ntmps25
  go_wp2_with fail
  go_loopw [5] (fun a wr => ∃ j : Nat, j ≤ s.size ∧ a = .int .i64 (j : Int) ∧ Hid (Hd s j) ∧ Hid (Below w.heap.size w wr ∧ Blk wr w.heap.size #[.int .i64 0, .int .u32 0, .int .u32 0, .int .u32 0] 27 ∧ Blk wr (w.heap.size + 1) #[.int .i64 0, .int .u32 0, .int .u32 0, .int .u32 0] 27)) (fun a _ => s.size + 1 - (intOf a).toNat)
  case atStart => exact ⟨0, by omega, rfl, Lib.hid (Hd.zero s), HB⟩
  case round =>
    obtain ⟨j, hj, rfl, HH, HW⟩ := hrel
    have hgo : (j < s.size ∧ ∃ h : j < s.size, s[j].toNat ≠ 32) ∨ (hd s.data.toList = s.data.toList.take j ∧ tl s.data.toList = s.data.toList.drop j ∧ (j = s.size ∨ ∃ h : j < s.size, s[j].toNat = 32)) := by
      by_cases hlt : j < s.size
      · by_cases h32 : s[j].toNat = 32
        · have := HH.out.stop hlt h32
          exact .inr ⟨this.1, this.2, .inr ⟨hlt, h32⟩⟩
        · exact .inl ⟨hlt, hlt, h32⟩
      · obtain rfl : j = s.size := by omega
        have := HH.out.fin
        exact .inr ⟨this.1, this.2, .inl rfl⟩
    rcases hgo with ⟨hlt, hlt', h32⟩ | ⟨hh, ht, hend⟩
    · have HN := Lib.hid (HH.out.step hlt h32)
      obtain ⟨x, hx⟩ : ∃ x : UInt8, s[j]'hlt = x := ⟨_, rfl⟩
      rw [hx] at h32
      have dq : ((x.toNat : Int) == 32) = false := by rw [beq_eq_false_iff_ne]; omega
      clear HH h32
      go_wp2_with fail
      go_roundw
      case rel => exact ⟨j + 1, by omega, by go_num, HN, HW⟩
      case measure => simp [intOf]; omega
    · have HT : Hid (hd s.data.toList = s.data.toList.take j ∧ tl s.data.toList = s.data.toList.drop j) := Lib.hid ⟨hh, ht⟩
      clear hh ht HH
      have hrest : Hid (∀ (K : Prop), True) := Lib.hid (fun K => trivial)
      rcases hend with hje | ⟨hlt, h32⟩
      · clear hrest
        have hnl : ¬ (j : Int) < (s.size : Int) := by omega
        clear hje
        go_wp2_with fail
        obtain ⟨tk, htk⟩ : ∃ tk, s.data.toList.take j = tk := ⟨_, rfl⟩
        have HTk := Lib.hid htk
        have hex : s.extract 0 j = tx tk := by rw [ext_to, htk]
        clear htk
        go_loopw [6] (fun n wr => ∃ k : Nat, 1 ≤ k ∧ k ≤ 23 ∧ n = .int .i64 (k : Int) ∧ Hid (Below w.heap.size w wr ∧ Blk wr w.heap.size #[.int .i64 0, .int .u32 0, .int .u32 0, .int .u32 0] 27 ∧ Blk wr (w.heap.size + 1) #[.int .i64 (lastBy tk (k - 1) : Int), .int .u32 0, .int .u32 0, .int .u32 0] 27)) (fun n _ => 23 - (intOf n).toNat)
        case atStart => exact ⟨1, by omega, by omega, rfl, HW⟩
        case round =>
          obtain ⟨k, hk1, hk2, rfl, HI⟩ := hrel
          by_cases hlt2 : k ≤ 22
          · have HL := Lib.hid (Cmd.last_step (t := tk) hk1)
            have HK := Lib.hid (fun wx => HNm.out k wx hk1 (by omega))
            have KC := HI.out.2.2
            have c0 := KC.cell 0
            have f0 := KC.free 0
            simp only [List.getElem?_toArray, List.getElem?_cons_zero] at c0
            clear KC
            generalize lastBy tk (k - 1) = z at *
            by_cases he : wd k = tk
            · rw [he] at HK
              have HE := Lib.hid he
              clear he
              generalize tx tk = X at *
              go_wp2_with fail
              go_region_held (fun _ => True) (trivial) ((go_at_call 9; (with_reducible refine (HK.out _).mono ?_); rintro e w1 ⟨rfl, hb⟩))
              have hbw : Below wr.heap.size wr w1 := (Below.refl wr.heap.size wr).drew.trans (hb.mono (Nat.le_refl _))
              have KC := HI.out.2.2.below hbw
              have c1 := KC.cell 0
              have f1 := KC.free 0
              simp only [List.getElem?_toArray, List.getElem?_cons_zero] at c1
              have K5 := Lib.hid (And.intro (HI.out.1.trans (hbw.mono HI.out.1.size)) (And.intro (HI.out.2.1.below hbw) KC))
              clear KC c0 f0
              go_wp2_with fail
              go_roundw
              case rel => exact ⟨k + 1, by omega, by omega, by go_num, Lib.hid ⟨K5.out.1.setCell (p := ⟨w.heap.size + 1, 0, none⟩) (by show w.heap.size ≤ w.heap.size + 1; omega) _, K5.out.2.1.other (w.heap.size + 1) 0 _ (by omega), by rw [show k + 1 - 1 = k from rfl, HL.out, if_pos HE.out]; exact K5.out.2.2.set 0 _⟩⟩
              case measure => simp [intOf]; omega
            · have HE := Lib.hid he
              have hq : ((tx (wd k)).toList == (tx tk).toList) = false := by rw [tx_nil, tx_nil]; simpa using he
              clear he
              generalize tx (wd k) = Y at *
              generalize tx tk = X at *
              go_wp2_with fail
              go_region_held (fun _ => True) (trivial) ((go_at_call 9; (with_reducible refine (HK.out _).mono ?_); rintro e w1 ⟨rfl, hb⟩))
              have hbw : Below wr.heap.size wr w1 := (Below.refl wr.heap.size wr).drew.trans (hb.mono (Nat.le_refl _))
              have K5 := Lib.hid (And.intro (HI.out.1.trans (hbw.mono HI.out.1.size)) (And.intro (HI.out.2.1.below hbw) (HI.out.2.2.below hbw)))
              clear c0 f0
              go_wp2_with fail
              go_roundw
              case rel => exact ⟨k + 1, by omega, by omega, by go_num, Lib.hid ⟨K5.out.1, K5.out.2.1, by rw [show k + 1 - 1 = k from rfl, HL.out, if_neg HE.out]; exact K5.out.2.2⟩⟩
              case measure => simp [intOf]; omega
          · obtain rfl : k = 23 := by omega
            rw [show lastBy tk (23 - 1) = byT tk from lastBy_byT tk] at HI
            have hby := byT_lt tk
            have HS0 : Hid (St s j 0 ⟨(byT tk : Nat), 0, 0, 0⟩ ∧ Wf ⟨(byT tk : Nat), 0, 0, 0⟩) := Lib.hid ⟨by unfold St rdL; rw [HT.out.1, HT.out.2, HTk.out], wf_nat hby⟩
            go_wp2_with fail
            go_loopw [3, 5, 7] (fun rv av iv wr => ∃ (a i : Nat) (c : Cl), rv = .int .i64 0 ∧ a ≤ s.size ∧ i ≤ 3 ∧ av = .int .i64 (a : Int) ∧ iv = .int .i64 (i : Int) ∧ Hid (St s a i c ∧ Wf c) ∧ Hid (Below w.heap.size w wr ∧ Blk wr w.heap.size #[.int .i64 0, .int .u32 0, .int .u32 0, .int .u32 0] 27 ∧ Blk wr (w.heap.size + 1) (ccs c) 27)) (fun _ _ i _ => 4 - (intOf i).toNat)
            case atStart => exact ⟨j, 0, _, rfl, by omega, by omega, rfl, rfl, HS0, HI⟩
            case round =>
              obtain ⟨a, i, c, rfl, ha, hi, rfl, rfl, HS3, HI3⟩ := hrel
              by_cases hend3 : i < 3 ∧ a < s.size
              · obtain ⟨hi3, ha3⟩ := hend3
                go_wp2_with fail
                go_loopw [5, 8] (fun bv vv wr => ∃ (b v : Nat) (vi : Int), b ≤ s.size ∧ 0 ≤ vi ∧ vi < 50000000000 ∧ bv = .int .i64 (b : Int) ∧ vv = .int .u64 vi ∧ Hid (vi = v ∧ Dg s a b v) ∧ Hid (Below w.heap.size w wr ∧ Blk wr w.heap.size #[.int .i64 0, .int .u32 0, .int .u32 0, .int .u32 0] 27 ∧ Blk wr (w.heap.size + 1) (ccs c) 27)) (fun b _ _ => s.size + 1 - (intOf b).toNat)
                case atStart => exact ⟨a + 1, 0, 0, by omega, by omega, by omega, by go_num, rfl, Lib.hid ⟨rfl, rfl⟩, HI3⟩
                case round =>
                  obtain ⟨b, v, vi, hb, hv0, hv5, rfl, rfl, HD, HI4⟩ := hrel
                  by_cases hlt4 : b < s.size
                  · obtain ⟨x, hx⟩ : ∃ x : UInt8, s[b]'hlt4 = x := ⟨_, rfl⟩
                    have HX4 := Lib.hid hx
                    have hxb : x.toNat < 256 := x.toNat_lt
                    by_cases h48 : 48 ≤ x.toNat
                    · by_cases h57 : x.toNat ≤ 57
                      · by_cases h5 : vi < 5000000000
                        · have HN := Lib.hid (And.intro HD.out.1 (HD.out.2.step hlt4 (by rw [hx]; exact h48) (by rw [hx]; exact h57) (by have := HD.out.1; omega)))
                          go_wp2_with fail
                          go_roundw
                          case rel => exact ⟨b + 1, v * 10 + x.toNat - 48, vi * 10 + x.toNat - 48, by omega, by omega, by omega, by go_num, by go_num, by rw [← HX4.out]; exact Lib.hid ⟨by have := HN.out.1; have := h48; rw [← HX4.out] at this; omega, HN.out.2⟩, HI4⟩
                          case measure => simp [intOf]; omega
                        · have HN := HS3.out.1.next hi3 ha3 (HD.out.2.stop (.inr ⟨hlt4, fun h => h5 (by have := HD.out.1; have := h.2.2; omega)⟩))
                          have hv : 4294967295 < vi := by omega
                          rw [if_pos (by have := HD.out.1; omega)] at HN
                          have HX := Lib.hid (read_none HN)
                          have KB := HI4.out.2.1
                          have e0 := KB.cell 0
                          have e1 := KB.cell 1
                          have e2 := KB.cell 2
                          have e3 := KB.cell 3
                          have f0 := KB.free 0
                          have f1 := KB.free 1
                          have f2 := KB.free 2
                          have f3 := KB.free 3
                          simp only [List.getElem?_toArray, List.getElem?_cons_zero, List.getElem?_cons_succ] at e0 e1 e2 e3
                          clear HN KB
                          go_wp2_with fail
                          refine bodyPost_ret (v := .tuple #[.agg #[.int .i64 0, .int .u32 0, .int .u32 0, .int .u32 0], .int .i64 160]) ?res rfl ⟨HX.out, ?bel⟩
                          case res => simp [results, Tryd.results25, go_sem, e0, e1, e2, e3]
                          case bel => exact (((HI4.out.1.setCell (p := ⟨w.heap.size, 0, none⟩) (Nat.le_refl _) _).setCell (p := ⟨w.heap.size, 1, none⟩) (Nat.le_refl _) _).setCell (p := ⟨w.heap.size, 2, none⟩) (Nat.le_refl _) _).setCell (p := ⟨w.heap.size, 3, none⟩) (Nat.le_refl _) _
                      · have HN := HS3.out.1.next hi3 ha3 (HD.out.2.stop (.inr ⟨hlt4, fun h => h57 (by rw [← HX4.out]; exact h.2.1)⟩))
                        by_cases hv : 4294967295 < vi
                        · rw [if_pos (by have := HD.out.1; omega)] at HN
                          have HX := Lib.hid (read_none HN)
                          have KB := HI4.out.2.1
                          have e0 := KB.cell 0
                          have e1 := KB.cell 1
                          have e2 := KB.cell 2
                          have e3 := KB.cell 3
                          have f0 := KB.free 0
                          have f1 := KB.free 1
                          have f2 := KB.free 2
                          have f3 := KB.free 3
                          simp only [List.getElem?_toArray, List.getElem?_cons_zero, List.getElem?_cons_succ] at e0 e1 e2 e3
                          clear HN KB
                          go_wp2_with fail
                          refine bodyPost_ret (v := .tuple #[.agg #[.int .i64 0, .int .u32 0, .int .u32 0, .int .u32 0], .int .i64 160]) ?res rfl ⟨HX.out, ?bel⟩
                          case res => simp [results, Tryd.results25, go_sem, e0, e1, e2, e3]
                          case bel => exact (((HI4.out.1.setCell (p := ⟨w.heap.size, 0, none⟩) (Nat.le_refl _) _).setCell (p := ⟨w.heap.size, 1, none⟩) (Nat.le_refl _) _).setCell (p := ⟨w.heap.size, 2, none⟩) (Nat.le_refl _) _).setCell (p := ⟨w.heap.size, 3, none⟩) (Nat.le_refl _) _
                        · rw [if_neg (by have := HD.out.1; omega)] at HN
                          have HST := Lib.hid (And.intro HN (wf_set (i := i) HS3.out.2 (v := v) (by have := HD.out.1; omega)))
                          have KC := HI4.out.2.2
                          have fC := KC.free (1 + i)
                          have cC := KC.cell (1 + i)
                          rw [arc hi3] at cC
                          have hvm : vi % 4294967296 = vi := by omega
                          clear HN KC
                          go_wp2_with fail
                          go_roundw
                          case rel => exact ⟨.int .i64 0, .int .i64 (b : Int), .int .i64 ((i : Int) + 1), ⟨rfl, b, by omega, i + 1, by omega, rfl, by go_num, setA c i v, HST, Lib.hid ⟨HI4.out.1.setCell (p := ⟨w.heap.size + 1, 1 + i, none⟩) (by show w.heap.size ≤ w.heap.size + 1; omega) _, HI4.out.2.1.other (w.heap.size + 1) (1 + i) _ (by omega), by have h7 := HI4.out.2.2.set (1 + i) (.int .u32 (v : Int)); rw [ccs_set c hi3 v] at h7; rw [HD.out.1]; exact h7⟩⟩, rfl, rfl, rfl⟩
                          case measure => simp [intOf]; omega
                    · have HN := HS3.out.1.next hi3 ha3 (HD.out.2.stop (.inr ⟨hlt4, fun h => h48 (by rw [← HX4.out]; exact h.1)⟩))
                      by_cases hv : 4294967295 < vi
                      · rw [if_pos (by have := HD.out.1; omega)] at HN
                        have HX := Lib.hid (read_none HN)
                        have KB := HI4.out.2.1
                        have e0 := KB.cell 0
                        have e1 := KB.cell 1
                        have e2 := KB.cell 2
                        have e3 := KB.cell 3
                        have f0 := KB.free 0
                        have f1 := KB.free 1
                        have f2 := KB.free 2
                        have f3 := KB.free 3
                        simp only [List.getElem?_toArray, List.getElem?_cons_zero, List.getElem?_cons_succ] at e0 e1 e2 e3
                        clear HN KB
                        go_wp2_with fail
                        refine bodyPost_ret (v := .tuple #[.agg #[.int .i64 0, .int .u32 0, .int .u32 0, .int .u32 0], .int .i64 160]) ?res rfl ⟨HX.out, ?bel⟩
                        case res => simp [results, Tryd.results25, go_sem, e0, e1, e2, e3]
                        case bel => exact (((HI4.out.1.setCell (p := ⟨w.heap.size, 0, none⟩) (Nat.le_refl _) _).setCell (p := ⟨w.heap.size, 1, none⟩) (Nat.le_refl _) _).setCell (p := ⟨w.heap.size, 2, none⟩) (Nat.le_refl _) _).setCell (p := ⟨w.heap.size, 3, none⟩) (Nat.le_refl _) _
                      · rw [if_neg (by have := HD.out.1; omega)] at HN
                        have HST := Lib.hid (And.intro HN (wf_set (i := i) HS3.out.2 (v := v) (by have := HD.out.1; omega)))
                        have KC := HI4.out.2.2
                        have fC := KC.free (1 + i)
                        have cC := KC.cell (1 + i)
                        rw [arc hi3] at cC
                        have hvm : vi % 4294967296 = vi := by omega
                        clear HN KC
                        go_wp2_with fail
                        go_roundw
                        case rel => exact ⟨.int .i64 0, .int .i64 (b : Int), .int .i64 ((i : Int) + 1), ⟨rfl, b, by omega, i + 1, by omega, rfl, by go_num, setA c i v, HST, Lib.hid ⟨HI4.out.1.setCell (p := ⟨w.heap.size + 1, 1 + i, none⟩) (by show w.heap.size ≤ w.heap.size + 1; omega) _, HI4.out.2.1.other (w.heap.size + 1) (1 + i) _ (by omega), by have h7 := HI4.out.2.2.set (1 + i) (.int .u32 (v : Int)); rw [ccs_set c hi3 v] at h7; rw [HD.out.1]; exact h7⟩⟩, rfl, rfl, rfl⟩
                        case measure => simp [intOf]; omega
                  · have HN := HS3.out.1.next hi3 ha3 (HD.out.2.stop (.inl (by omega)))
                    by_cases hv : 4294967295 < vi
                    · rw [if_pos (by have := HD.out.1; omega)] at HN
                      have HX := Lib.hid (read_none HN)
                      have KB := HI4.out.2.1
                      have e0 := KB.cell 0
                      have e1 := KB.cell 1
                      have e2 := KB.cell 2
                      have e3 := KB.cell 3
                      have f0 := KB.free 0
                      have f1 := KB.free 1
                      have f2 := KB.free 2
                      have f3 := KB.free 3
                      simp only [List.getElem?_toArray, List.getElem?_cons_zero, List.getElem?_cons_succ] at e0 e1 e2 e3
                      clear HN KB
                      go_wp2_with fail
                      refine bodyPost_ret (v := .tuple #[.agg #[.int .i64 0, .int .u32 0, .int .u32 0, .int .u32 0], .int .i64 160]) ?res rfl ⟨HX.out, ?bel⟩
                      case res => simp [results, Tryd.results25, go_sem, e0, e1, e2, e3]
                      case bel => exact (((HI4.out.1.setCell (p := ⟨w.heap.size, 0, none⟩) (Nat.le_refl _) _).setCell (p := ⟨w.heap.size, 1, none⟩) (Nat.le_refl _) _).setCell (p := ⟨w.heap.size, 2, none⟩) (Nat.le_refl _) _).setCell (p := ⟨w.heap.size, 3, none⟩) (Nat.le_refl _) _
                    · rw [if_neg (by have := HD.out.1; omega)] at HN
                      have HST := Lib.hid (And.intro HN (wf_set (i := i) HS3.out.2 (v := v) (by have := HD.out.1; omega)))
                      have KC := HI4.out.2.2
                      have fC := KC.free (1 + i)
                      have cC := KC.cell (1 + i)
                      rw [arc hi3] at cC
                      have hvm : vi % 4294967296 = vi := by omega
                      clear HN KC
                      go_wp2_with fail
                      go_roundw
                      case rel => exact ⟨.int .i64 0, .int .i64 (b : Int), .int .i64 ((i : Int) + 1), ⟨rfl, b, by omega, i + 1, by omega, rfl, by go_num, setA c i v, HST, Lib.hid ⟨HI4.out.1.setCell (p := ⟨w.heap.size + 1, 1 + i, none⟩) (by show w.heap.size ≤ w.heap.size + 1; omega) _, HI4.out.2.1.other (w.heap.size + 1) (1 + i) _ (by omega), by have h7 := HI4.out.2.2.set (1 + i) (.int .u32 (v : Int)); rw [ccs_set c hi3 v] at h7; rw [HD.out.1]; exact h7⟩⟩, rfl, rfl, rfl⟩
                      case measure => simp [intOf]; omega
              · have HR := Lib.hid (And.intro (HS3.out.1.fin (by omega)) HS3.out.2)
                have hne : 3 ≤ i ∨ s.size ≤ a := by omega
                have HLi := Lib.hid (fun wx => rline_any c HS3.out.2 wx)
                have KC := HI3.out.2.2
                have g0 := KC.cell 0
                have g1 := KC.cell 1
                have g2 := KC.cell 2
                have g3 := KC.cell 3
                simp only [ccs, List.getElem?_toArray, List.getElem?_cons_zero, List.getElem?_cons_succ] at g0 g1 g2 g3
                clear KC hend3
                unfold cv ccs at HLi
                by_cases hmay : mayC c = true
                · have hlr : lineR c = .tuple #[.string (tx (lineT c)), .int .i64 0] := by unfold lineR; rw [hmay]; rfl
                  rw [hlr] at HLi
                  by_cases hls : lineT c = s.data.toList
                  · have HX := Lib.hid (read_yes HR.out.1 HR.out.2 ⟨hmay, hls⟩)
                    have hts : tx (lineT c) = s := by rw [hls, tx_mk]
                    rw [hts] at HLi
                    clear hls hmay hlr hts HR
                    go_wp2_with (first
                      | (go_at_call 23; (with_reducible refine (HLi.out _).mono ?_); rintro e w7 ⟨rfl, hb7⟩; have B7 := HI3.out.1.trans (hb7.mono HI3.out.1.size); have KB := HI3.out.2.1.below hb7; have KC := HI3.out.2.2.below hb7; have e0 := KB.cell 0; have e1 := KB.cell 1; have e2 := KB.cell 2; have e3 := KB.cell 3; have f0 := KB.free 0; have f1 := KB.free 1; have f2 := KB.free 2; have f3 := KB.free 3; have l0 := KC.cell 0; have l1 := KC.cell 1; have l2 := KC.cell 2; have l3 := KC.cell 3; simp only [ccs, List.getElem?_toArray, List.getElem?_cons_zero, List.getElem?_cons_succ] at e0 e1 e2 e3 l0 l1 l2 l3; have HB7 := Lib.hid B7; clear KB KC B7 g0 g1 g2 g3)
                      | fail)
                    all_goals (
                      refine bodyPost_ret (v := .tuple #[.agg #[.int .i64 c.n, .int .u32 (c.a : Int), .int .u32 (c.b : Int), .int .u32 (c.c : Int)], .int .i64 0]) ?res rfl ⟨HX.out, ?bel⟩
                      case res => simp [results, Tryd.results25, go_sem, e0, e1, e2, e3]
                      case bel => exact (((HB7.out.setCell (p := ⟨w.heap.size, 0, none⟩) (Nat.le_refl _) _).setCell (p := ⟨w.heap.size, 1, none⟩) (Nat.le_refl _) _).setCell (p := ⟨w.heap.size, 2, none⟩) (Nat.le_refl _) _).setCell (p := ⟨w.heap.size, 3, none⟩) (Nat.le_refl _) _)
                  · have HX := Lib.hid (read_bad HR.out.1 HR.out.2 (fun h => hls h.2))
                    have hq : ((tx (lineT c)).toList == s.toList) = false := by rw [tx_nil, toList_eq]; simpa using hls
                    clear hls hmay hlr HR
                    generalize tx (lineT c) = L at *
                    go_wp2_with (first
                      | (go_at_call 23; (with_reducible refine (HLi.out _).mono ?_); rintro e w7 ⟨rfl, hb7⟩; have B7 := HI3.out.1.trans (hb7.mono HI3.out.1.size); have KB := HI3.out.2.1.below hb7; have KC := HI3.out.2.2.below hb7; have e0 := KB.cell 0; have e1 := KB.cell 1; have e2 := KB.cell 2; have e3 := KB.cell 3; have f0 := KB.free 0; have f1 := KB.free 1; have f2 := KB.free 2; have f3 := KB.free 3; have l0 := KC.cell 0; have l1 := KC.cell 1; have l2 := KC.cell 2; have l3 := KC.cell 3; simp only [ccs, List.getElem?_toArray, List.getElem?_cons_zero, List.getElem?_cons_succ] at e0 e1 e2 e3 l0 l1 l2 l3; have HB7 := Lib.hid B7; clear KB KC B7 g0 g1 g2 g3)
                      | fail)
                    all_goals (
                      refine bodyPost_ret (v := .tuple #[.agg #[.int .i64 0, .int .u32 0, .int .u32 0, .int .u32 0], .int .i64 160]) ?res rfl ⟨HX.out, ?bel⟩
                      case res => simp [results, Tryd.results25, go_sem, e0, e1, e2, e3]
                      case bel => exact (((HB7.out.setCell (p := ⟨w.heap.size, 0, none⟩) (Nat.le_refl _) _).setCell (p := ⟨w.heap.size, 1, none⟩) (Nat.le_refl _) _).setCell (p := ⟨w.heap.size, 2, none⟩) (Nat.le_refl _) _).setCell (p := ⟨w.heap.size, 3, none⟩) (Nat.le_refl _) _)
                · have HX := Lib.hid (read_bad HR.out.1 HR.out.2 (fun h => hmay h.1))
                  have hlr : lineR c = .tuple #[.string (tx []), .int .i64 160] := by unfold lineR; rw [Bool.not_eq_true] at hmay; rw [hmay]; rfl
                  rw [hlr] at HLi
                  clear hmay hlr HR
                  go_wp2_with (first
                    | (go_at_call 23; (with_reducible refine (HLi.out _).mono ?_); rintro e w7 ⟨rfl, hb7⟩; have B7 := HI3.out.1.trans (hb7.mono HI3.out.1.size); have KB := HI3.out.2.1.below hb7; have KC := HI3.out.2.2.below hb7; have e0 := KB.cell 0; have e1 := KB.cell 1; have e2 := KB.cell 2; have e3 := KB.cell 3; have f0 := KB.free 0; have f1 := KB.free 1; have f2 := KB.free 2; have f3 := KB.free 3; have l0 := KC.cell 0; have l1 := KC.cell 1; have l2 := KC.cell 2; have l3 := KC.cell 3; simp only [ccs, List.getElem?_toArray, List.getElem?_cons_zero, List.getElem?_cons_succ] at e0 e1 e2 e3 l0 l1 l2 l3; have HB7 := Lib.hid B7; clear KB KC B7 g0 g1 g2 g3)
                    | fail)
                  all_goals (
                    refine bodyPost_ret (v := .tuple #[.agg #[.int .i64 0, .int .u32 0, .int .u32 0, .int .u32 0], .int .i64 160]) ?res rfl ⟨HX.out, ?bel⟩
                    case res => simp [results, Tryd.results25, go_sem, e0, e1, e2, e3]
                    case bel => exact (((HB7.out.setCell (p := ⟨w.heap.size, 0, none⟩) (Nat.le_refl _) _).setCell (p := ⟨w.heap.size, 1, none⟩) (Nat.le_refl _) _).setCell (p := ⟨w.heap.size, 2, none⟩) (Nat.le_refl _) _).setCell (p := ⟨w.heap.size, 3, none⟩) (Nat.le_refl _) _)
      · clear hrest
        obtain ⟨x, hx⟩ : ∃ x : UInt8, s[j]'hlt = x := ⟨_, rfl⟩
        rw [hx] at h32
        have dq : ((x.toNat : Int) == 32) = true := by rw [h32]; rfl
        go_wp2_with fail
        obtain ⟨tk, htk⟩ : ∃ tk, s.data.toList.take j = tk := ⟨_, rfl⟩
        have HTk := Lib.hid htk
        have hex : s.extract 0 j = tx tk := by rw [ext_to, htk]
        clear htk
        go_loopw [6] (fun n wr => ∃ k : Nat, 1 ≤ k ∧ k ≤ 23 ∧ n = .int .i64 (k : Int) ∧ Hid (Below w.heap.size w wr ∧ Blk wr w.heap.size #[.int .i64 0, .int .u32 0, .int .u32 0, .int .u32 0] 27 ∧ Blk wr (w.heap.size + 1) #[.int .i64 (lastBy tk (k - 1) : Int), .int .u32 0, .int .u32 0, .int .u32 0] 27)) (fun n _ => 23 - (intOf n).toNat)
        case atStart => exact ⟨1, by omega, by omega, rfl, HW⟩
        case round =>
          obtain ⟨k, hk1, hk2, rfl, HI⟩ := hrel
          by_cases hlt2 : k ≤ 22
          · have HL := Lib.hid (Cmd.last_step (t := tk) hk1)
            have HK := Lib.hid (fun wx => HNm.out k wx hk1 (by omega))
            have KC := HI.out.2.2
            have c0 := KC.cell 0
            have f0 := KC.free 0
            simp only [List.getElem?_toArray, List.getElem?_cons_zero] at c0
            clear KC
            generalize lastBy tk (k - 1) = z at *
            by_cases he : wd k = tk
            · rw [he] at HK
              have HE := Lib.hid he
              clear he
              generalize tx tk = X at *
              go_wp2_with fail
              go_region_held (fun _ => True) (trivial) ((go_at_call 9; (with_reducible refine (HK.out _).mono ?_); rintro e w1 ⟨rfl, hb⟩))
              have hbw : Below wr.heap.size wr w1 := (Below.refl wr.heap.size wr).drew.trans (hb.mono (Nat.le_refl _))
              have KC := HI.out.2.2.below hbw
              have c1 := KC.cell 0
              have f1 := KC.free 0
              simp only [List.getElem?_toArray, List.getElem?_cons_zero] at c1
              have K5 := Lib.hid (And.intro (HI.out.1.trans (hbw.mono HI.out.1.size)) (And.intro (HI.out.2.1.below hbw) KC))
              clear KC c0 f0
              go_wp2_with fail
              go_roundw
              case rel => exact ⟨k + 1, by omega, by omega, by go_num, Lib.hid ⟨K5.out.1.setCell (p := ⟨w.heap.size + 1, 0, none⟩) (by show w.heap.size ≤ w.heap.size + 1; omega) _, K5.out.2.1.other (w.heap.size + 1) 0 _ (by omega), by rw [show k + 1 - 1 = k from rfl, HL.out, if_pos HE.out]; exact K5.out.2.2.set 0 _⟩⟩
              case measure => simp [intOf]; omega
            · have HE := Lib.hid he
              have hq : ((tx (wd k)).toList == (tx tk).toList) = false := by rw [tx_nil, tx_nil]; simpa using he
              clear he
              generalize tx (wd k) = Y at *
              generalize tx tk = X at *
              go_wp2_with fail
              go_region_held (fun _ => True) (trivial) ((go_at_call 9; (with_reducible refine (HK.out _).mono ?_); rintro e w1 ⟨rfl, hb⟩))
              have hbw : Below wr.heap.size wr w1 := (Below.refl wr.heap.size wr).drew.trans (hb.mono (Nat.le_refl _))
              have K5 := Lib.hid (And.intro (HI.out.1.trans (hbw.mono HI.out.1.size)) (And.intro (HI.out.2.1.below hbw) (HI.out.2.2.below hbw)))
              clear c0 f0
              go_wp2_with fail
              go_roundw
              case rel => exact ⟨k + 1, by omega, by omega, by go_num, Lib.hid ⟨K5.out.1, K5.out.2.1, by rw [show k + 1 - 1 = k from rfl, HL.out, if_neg HE.out]; exact K5.out.2.2⟩⟩
              case measure => simp [intOf]; omega
          · obtain rfl : k = 23 := by omega
            rw [show lastBy tk (23 - 1) = byT tk from lastBy_byT tk] at HI
            have hby := byT_lt tk
            have HS0 : Hid (St s j 0 ⟨(byT tk : Nat), 0, 0, 0⟩ ∧ Wf ⟨(byT tk : Nat), 0, 0, 0⟩) := Lib.hid ⟨by unfold St rdL; rw [HT.out.1, HT.out.2, HTk.out], wf_nat hby⟩
            go_wp2_with fail
            go_loopw [3, 5, 7] (fun rv av iv wr => ∃ (a i : Nat) (c : Cl), rv = .int .i64 0 ∧ a ≤ s.size ∧ i ≤ 3 ∧ av = .int .i64 (a : Int) ∧ iv = .int .i64 (i : Int) ∧ Hid (St s a i c ∧ Wf c) ∧ Hid (Below w.heap.size w wr ∧ Blk wr w.heap.size #[.int .i64 0, .int .u32 0, .int .u32 0, .int .u32 0] 27 ∧ Blk wr (w.heap.size + 1) (ccs c) 27)) (fun _ _ i _ => 4 - (intOf i).toNat)
            case atStart => exact ⟨j, 0, _, rfl, by omega, by omega, rfl, rfl, HS0, HI⟩
            case round =>
              obtain ⟨a, i, c, rfl, ha, hi, rfl, rfl, HS3, HI3⟩ := hrel
              by_cases hend3 : i < 3 ∧ a < s.size
              · obtain ⟨hi3, ha3⟩ := hend3
                go_wp2_with fail
                go_loopw [5, 8] (fun bv vv wr => ∃ (b v : Nat) (vi : Int), b ≤ s.size ∧ 0 ≤ vi ∧ vi < 50000000000 ∧ bv = .int .i64 (b : Int) ∧ vv = .int .u64 vi ∧ Hid (vi = v ∧ Dg s a b v) ∧ Hid (Below w.heap.size w wr ∧ Blk wr w.heap.size #[.int .i64 0, .int .u32 0, .int .u32 0, .int .u32 0] 27 ∧ Blk wr (w.heap.size + 1) (ccs c) 27)) (fun b _ _ => s.size + 1 - (intOf b).toNat)
                case atStart => exact ⟨a + 1, 0, 0, by omega, by omega, by omega, by go_num, rfl, Lib.hid ⟨rfl, rfl⟩, HI3⟩
                case round =>
                  obtain ⟨b, v, vi, hb, hv0, hv5, rfl, rfl, HD, HI4⟩ := hrel
                  by_cases hlt4 : b < s.size
                  · obtain ⟨x, hx⟩ : ∃ x : UInt8, s[b]'hlt4 = x := ⟨_, rfl⟩
                    have HX4 := Lib.hid hx
                    have hxb : x.toNat < 256 := x.toNat_lt
                    by_cases h48 : 48 ≤ x.toNat
                    · by_cases h57 : x.toNat ≤ 57
                      · by_cases h5 : vi < 5000000000
                        · have HN := Lib.hid (And.intro HD.out.1 (HD.out.2.step hlt4 (by rw [hx]; exact h48) (by rw [hx]; exact h57) (by have := HD.out.1; omega)))
                          go_wp2_with fail
                          go_roundw
                          case rel => exact ⟨b + 1, v * 10 + x.toNat - 48, vi * 10 + x.toNat - 48, by omega, by omega, by omega, by go_num, by go_num, by rw [← HX4.out]; exact Lib.hid ⟨by have := HN.out.1; have := h48; rw [← HX4.out] at this; omega, HN.out.2⟩, HI4⟩
                          case measure => simp [intOf]; omega
                        · have HN := HS3.out.1.next hi3 ha3 (HD.out.2.stop (.inr ⟨hlt4, fun h => h5 (by have := HD.out.1; have := h.2.2; omega)⟩))
                          have hv : 4294967295 < vi := by omega
                          rw [if_pos (by have := HD.out.1; omega)] at HN
                          have HX := Lib.hid (read_none HN)
                          have KB := HI4.out.2.1
                          have e0 := KB.cell 0
                          have e1 := KB.cell 1
                          have e2 := KB.cell 2
                          have e3 := KB.cell 3
                          have f0 := KB.free 0
                          have f1 := KB.free 1
                          have f2 := KB.free 2
                          have f3 := KB.free 3
                          simp only [List.getElem?_toArray, List.getElem?_cons_zero, List.getElem?_cons_succ] at e0 e1 e2 e3
                          clear HN KB
                          go_wp2_with fail
                          refine bodyPost_ret (v := .tuple #[.agg #[.int .i64 0, .int .u32 0, .int .u32 0, .int .u32 0], .int .i64 160]) ?res rfl ⟨HX.out, ?bel⟩
                          case res => simp [results, Tryd.results25, go_sem, e0, e1, e2, e3]
                          case bel => exact (((HI4.out.1.setCell (p := ⟨w.heap.size, 0, none⟩) (Nat.le_refl _) _).setCell (p := ⟨w.heap.size, 1, none⟩) (Nat.le_refl _) _).setCell (p := ⟨w.heap.size, 2, none⟩) (Nat.le_refl _) _).setCell (p := ⟨w.heap.size, 3, none⟩) (Nat.le_refl _) _
                      · have HN := HS3.out.1.next hi3 ha3 (HD.out.2.stop (.inr ⟨hlt4, fun h => h57 (by rw [← HX4.out]; exact h.2.1)⟩))
                        by_cases hv : 4294967295 < vi
                        · rw [if_pos (by have := HD.out.1; omega)] at HN
                          have HX := Lib.hid (read_none HN)
                          have KB := HI4.out.2.1
                          have e0 := KB.cell 0
                          have e1 := KB.cell 1
                          have e2 := KB.cell 2
                          have e3 := KB.cell 3
                          have f0 := KB.free 0
                          have f1 := KB.free 1
                          have f2 := KB.free 2
                          have f3 := KB.free 3
                          simp only [List.getElem?_toArray, List.getElem?_cons_zero, List.getElem?_cons_succ] at e0 e1 e2 e3
                          clear HN KB
                          go_wp2_with fail
                          refine bodyPost_ret (v := .tuple #[.agg #[.int .i64 0, .int .u32 0, .int .u32 0, .int .u32 0], .int .i64 160]) ?res rfl ⟨HX.out, ?bel⟩
                          case res => simp [results, Tryd.results25, go_sem, e0, e1, e2, e3]
                          case bel => exact (((HI4.out.1.setCell (p := ⟨w.heap.size, 0, none⟩) (Nat.le_refl _) _).setCell (p := ⟨w.heap.size, 1, none⟩) (Nat.le_refl _) _).setCell (p := ⟨w.heap.size, 2, none⟩) (Nat.le_refl _) _).setCell (p := ⟨w.heap.size, 3, none⟩) (Nat.le_refl _) _
                        · rw [if_neg (by have := HD.out.1; omega)] at HN
                          have HST := Lib.hid (And.intro HN (wf_set (i := i) HS3.out.2 (v := v) (by have := HD.out.1; omega)))
                          have KC := HI4.out.2.2
                          have fC := KC.free (1 + i)
                          have cC := KC.cell (1 + i)
                          rw [arc hi3] at cC
                          have hvm : vi % 4294967296 = vi := by omega
                          clear HN KC
                          go_wp2_with fail
                          go_roundw
                          case rel => exact ⟨.int .i64 0, .int .i64 (b : Int), .int .i64 ((i : Int) + 1), ⟨rfl, b, by omega, i + 1, by omega, rfl, by go_num, setA c i v, HST, Lib.hid ⟨HI4.out.1.setCell (p := ⟨w.heap.size + 1, 1 + i, none⟩) (by show w.heap.size ≤ w.heap.size + 1; omega) _, HI4.out.2.1.other (w.heap.size + 1) (1 + i) _ (by omega), by have h7 := HI4.out.2.2.set (1 + i) (.int .u32 (v : Int)); rw [ccs_set c hi3 v] at h7; rw [HD.out.1]; exact h7⟩⟩, rfl, rfl, rfl⟩
                          case measure => simp [intOf]; omega
                    · have HN := HS3.out.1.next hi3 ha3 (HD.out.2.stop (.inr ⟨hlt4, fun h => h48 (by rw [← HX4.out]; exact h.1)⟩))
                      by_cases hv : 4294967295 < vi
                      · rw [if_pos (by have := HD.out.1; omega)] at HN
                        have HX := Lib.hid (read_none HN)
                        have KB := HI4.out.2.1
                        have e0 := KB.cell 0
                        have e1 := KB.cell 1
                        have e2 := KB.cell 2
                        have e3 := KB.cell 3
                        have f0 := KB.free 0
                        have f1 := KB.free 1
                        have f2 := KB.free 2
                        have f3 := KB.free 3
                        simp only [List.getElem?_toArray, List.getElem?_cons_zero, List.getElem?_cons_succ] at e0 e1 e2 e3
                        clear HN KB
                        go_wp2_with fail
                        refine bodyPost_ret (v := .tuple #[.agg #[.int .i64 0, .int .u32 0, .int .u32 0, .int .u32 0], .int .i64 160]) ?res rfl ⟨HX.out, ?bel⟩
                        case res => simp [results, Tryd.results25, go_sem, e0, e1, e2, e3]
                        case bel => exact (((HI4.out.1.setCell (p := ⟨w.heap.size, 0, none⟩) (Nat.le_refl _) _).setCell (p := ⟨w.heap.size, 1, none⟩) (Nat.le_refl _) _).setCell (p := ⟨w.heap.size, 2, none⟩) (Nat.le_refl _) _).setCell (p := ⟨w.heap.size, 3, none⟩) (Nat.le_refl _) _
                      · rw [if_neg (by have := HD.out.1; omega)] at HN
                        have HST := Lib.hid (And.intro HN (wf_set (i := i) HS3.out.2 (v := v) (by have := HD.out.1; omega)))
                        have KC := HI4.out.2.2
                        have fC := KC.free (1 + i)
                        have cC := KC.cell (1 + i)
                        rw [arc hi3] at cC
                        have hvm : vi % 4294967296 = vi := by omega
                        clear HN KC
                        go_wp2_with fail
                        go_roundw
                        case rel => exact ⟨.int .i64 0, .int .i64 (b : Int), .int .i64 ((i : Int) + 1), ⟨rfl, b, by omega, i + 1, by omega, rfl, by go_num, setA c i v, HST, Lib.hid ⟨HI4.out.1.setCell (p := ⟨w.heap.size + 1, 1 + i, none⟩) (by show w.heap.size ≤ w.heap.size + 1; omega) _, HI4.out.2.1.other (w.heap.size + 1) (1 + i) _ (by omega), by have h7 := HI4.out.2.2.set (1 + i) (.int .u32 (v : Int)); rw [ccs_set c hi3 v] at h7; rw [HD.out.1]; exact h7⟩⟩, rfl, rfl, rfl⟩
                        case measure => simp [intOf]; omega
                  · have HN := HS3.out.1.next hi3 ha3 (HD.out.2.stop (.inl (by omega)))
                    by_cases hv : 4294967295 < vi
                    · rw [if_pos (by have := HD.out.1; omega)] at HN
                      have HX := Lib.hid (read_none HN)
                      have KB := HI4.out.2.1
                      have e0 := KB.cell 0
                      have e1 := KB.cell 1
                      have e2 := KB.cell 2
                      have e3 := KB.cell 3
                      have f0 := KB.free 0
                      have f1 := KB.free 1
                      have f2 := KB.free 2
                      have f3 := KB.free 3
                      simp only [List.getElem?_toArray, List.getElem?_cons_zero, List.getElem?_cons_succ] at e0 e1 e2 e3
                      clear HN KB
                      go_wp2_with fail
                      refine bodyPost_ret (v := .tuple #[.agg #[.int .i64 0, .int .u32 0, .int .u32 0, .int .u32 0], .int .i64 160]) ?res rfl ⟨HX.out, ?bel⟩
                      case res => simp [results, Tryd.results25, go_sem, e0, e1, e2, e3]
                      case bel => exact (((HI4.out.1.setCell (p := ⟨w.heap.size, 0, none⟩) (Nat.le_refl _) _).setCell (p := ⟨w.heap.size, 1, none⟩) (Nat.le_refl _) _).setCell (p := ⟨w.heap.size, 2, none⟩) (Nat.le_refl _) _).setCell (p := ⟨w.heap.size, 3, none⟩) (Nat.le_refl _) _
                    · rw [if_neg (by have := HD.out.1; omega)] at HN
                      have HST := Lib.hid (And.intro HN (wf_set (i := i) HS3.out.2 (v := v) (by have := HD.out.1; omega)))
                      have KC := HI4.out.2.2
                      have fC := KC.free (1 + i)
                      have cC := KC.cell (1 + i)
                      rw [arc hi3] at cC
                      have hvm : vi % 4294967296 = vi := by omega
                      clear HN KC
                      go_wp2_with fail
                      go_roundw
                      case rel => exact ⟨.int .i64 0, .int .i64 (b : Int), .int .i64 ((i : Int) + 1), ⟨rfl, b, by omega, i + 1, by omega, rfl, by go_num, setA c i v, HST, Lib.hid ⟨HI4.out.1.setCell (p := ⟨w.heap.size + 1, 1 + i, none⟩) (by show w.heap.size ≤ w.heap.size + 1; omega) _, HI4.out.2.1.other (w.heap.size + 1) (1 + i) _ (by omega), by have h7 := HI4.out.2.2.set (1 + i) (.int .u32 (v : Int)); rw [ccs_set c hi3 v] at h7; rw [HD.out.1]; exact h7⟩⟩, rfl, rfl, rfl⟩
                      case measure => simp [intOf]; omega
              · have HR := Lib.hid (And.intro (HS3.out.1.fin (by omega)) HS3.out.2)
                have hne : 3 ≤ i ∨ s.size ≤ a := by omega
                have HLi := Lib.hid (fun wx => rline_any c HS3.out.2 wx)
                have KC := HI3.out.2.2
                have g0 := KC.cell 0
                have g1 := KC.cell 1
                have g2 := KC.cell 2
                have g3 := KC.cell 3
                simp only [ccs, List.getElem?_toArray, List.getElem?_cons_zero, List.getElem?_cons_succ] at g0 g1 g2 g3
                clear KC hend3
                unfold cv ccs at HLi
                by_cases hmay : mayC c = true
                · have hlr : lineR c = .tuple #[.string (tx (lineT c)), .int .i64 0] := by unfold lineR; rw [hmay]; rfl
                  rw [hlr] at HLi
                  by_cases hls : lineT c = s.data.toList
                  · have HX := Lib.hid (read_yes HR.out.1 HR.out.2 ⟨hmay, hls⟩)
                    have hts : tx (lineT c) = s := by rw [hls, tx_mk]
                    rw [hts] at HLi
                    clear hls hmay hlr hts HR
                    go_wp2_with (first
                      | (go_at_call 23; (with_reducible refine (HLi.out _).mono ?_); rintro e w7 ⟨rfl, hb7⟩; have B7 := HI3.out.1.trans (hb7.mono HI3.out.1.size); have KB := HI3.out.2.1.below hb7; have KC := HI3.out.2.2.below hb7; have e0 := KB.cell 0; have e1 := KB.cell 1; have e2 := KB.cell 2; have e3 := KB.cell 3; have f0 := KB.free 0; have f1 := KB.free 1; have f2 := KB.free 2; have f3 := KB.free 3; have l0 := KC.cell 0; have l1 := KC.cell 1; have l2 := KC.cell 2; have l3 := KC.cell 3; simp only [ccs, List.getElem?_toArray, List.getElem?_cons_zero, List.getElem?_cons_succ] at e0 e1 e2 e3 l0 l1 l2 l3; have HB7 := Lib.hid B7; clear KB KC B7 g0 g1 g2 g3)
                      | fail)
                    all_goals (
                      refine bodyPost_ret (v := .tuple #[.agg #[.int .i64 c.n, .int .u32 (c.a : Int), .int .u32 (c.b : Int), .int .u32 (c.c : Int)], .int .i64 0]) ?res rfl ⟨HX.out, ?bel⟩
                      case res => simp [results, Tryd.results25, go_sem, e0, e1, e2, e3]
                      case bel => exact (((HB7.out.setCell (p := ⟨w.heap.size, 0, none⟩) (Nat.le_refl _) _).setCell (p := ⟨w.heap.size, 1, none⟩) (Nat.le_refl _) _).setCell (p := ⟨w.heap.size, 2, none⟩) (Nat.le_refl _) _).setCell (p := ⟨w.heap.size, 3, none⟩) (Nat.le_refl _) _)
                  · have HX := Lib.hid (read_bad HR.out.1 HR.out.2 (fun h => hls h.2))
                    have hq : ((tx (lineT c)).toList == s.toList) = false := by rw [tx_nil, toList_eq]; simpa using hls
                    clear hls hmay hlr HR
                    generalize tx (lineT c) = L at *
                    go_wp2_with (first
                      | (go_at_call 23; (with_reducible refine (HLi.out _).mono ?_); rintro e w7 ⟨rfl, hb7⟩; have B7 := HI3.out.1.trans (hb7.mono HI3.out.1.size); have KB := HI3.out.2.1.below hb7; have KC := HI3.out.2.2.below hb7; have e0 := KB.cell 0; have e1 := KB.cell 1; have e2 := KB.cell 2; have e3 := KB.cell 3; have f0 := KB.free 0; have f1 := KB.free 1; have f2 := KB.free 2; have f3 := KB.free 3; have l0 := KC.cell 0; have l1 := KC.cell 1; have l2 := KC.cell 2; have l3 := KC.cell 3; simp only [ccs, List.getElem?_toArray, List.getElem?_cons_zero, List.getElem?_cons_succ] at e0 e1 e2 e3 l0 l1 l2 l3; have HB7 := Lib.hid B7; clear KB KC B7 g0 g1 g2 g3)
                      | fail)
                    all_goals (
                      refine bodyPost_ret (v := .tuple #[.agg #[.int .i64 0, .int .u32 0, .int .u32 0, .int .u32 0], .int .i64 160]) ?res rfl ⟨HX.out, ?bel⟩
                      case res => simp [results, Tryd.results25, go_sem, e0, e1, e2, e3]
                      case bel => exact (((HB7.out.setCell (p := ⟨w.heap.size, 0, none⟩) (Nat.le_refl _) _).setCell (p := ⟨w.heap.size, 1, none⟩) (Nat.le_refl _) _).setCell (p := ⟨w.heap.size, 2, none⟩) (Nat.le_refl _) _).setCell (p := ⟨w.heap.size, 3, none⟩) (Nat.le_refl _) _)
                · have HX := Lib.hid (read_bad HR.out.1 HR.out.2 (fun h => hmay h.1))
                  have hlr : lineR c = .tuple #[.string (tx []), .int .i64 160] := by unfold lineR; rw [Bool.not_eq_true] at hmay; rw [hmay]; rfl
                  rw [hlr] at HLi
                  clear hmay hlr HR
                  go_wp2_with (first
                    | (go_at_call 23; (with_reducible refine (HLi.out _).mono ?_); rintro e w7 ⟨rfl, hb7⟩; have B7 := HI3.out.1.trans (hb7.mono HI3.out.1.size); have KB := HI3.out.2.1.below hb7; have KC := HI3.out.2.2.below hb7; have e0 := KB.cell 0; have e1 := KB.cell 1; have e2 := KB.cell 2; have e3 := KB.cell 3; have f0 := KB.free 0; have f1 := KB.free 1; have f2 := KB.free 2; have f3 := KB.free 3; have l0 := KC.cell 0; have l1 := KC.cell 1; have l2 := KC.cell 2; have l3 := KC.cell 3; simp only [ccs, List.getElem?_toArray, List.getElem?_cons_zero, List.getElem?_cons_succ] at e0 e1 e2 e3 l0 l1 l2 l3; have HB7 := Lib.hid B7; clear KB KC B7 g0 g1 g2 g3)
                    | fail)
                  all_goals (
                    refine bodyPost_ret (v := .tuple #[.agg #[.int .i64 0, .int .u32 0, .int .u32 0, .int .u32 0], .int .i64 160]) ?res rfl ⟨HX.out, ?bel⟩
                    case res => simp [results, Tryd.results25, go_sem, e0, e1, e2, e3]
                    case bel => exact (((HB7.out.setCell (p := ⟨w.heap.size, 0, none⟩) (Nat.le_refl _) _).setCell (p := ⟨w.heap.size, 1, none⟩) (Nat.le_refl _) _).setCell (p := ⟨w.heap.size, 2, none⟩) (Nat.le_refl _) _).setCell (p := ⟨w.heap.size, 3, none⟩) (Nat.le_refl _) _)
end Go.Proofs.YtlddjjkbnhhfaaaDoor.Cme
