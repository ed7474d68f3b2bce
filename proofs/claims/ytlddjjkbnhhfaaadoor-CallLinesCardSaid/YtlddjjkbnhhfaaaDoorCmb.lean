/-
  The document's own Line.
-/
import Derived.Test.YtlddjjkbnhhfaaaDoorCma
namespace Go.Proofs.YtlddjjkbnhhfaaaDoor.Cmb
open Go Go.RowKit Go.Shelf Kit IsaM Cla Clt Clf Bk Clh Cli Clg Clm Clra Clrc Cma
set_option linter.unusedVariables false
attribute [local go_sem] Oper.semAt_some

theorem wd9 : ∀ k : Fin 23, (wd k.val).length ≤ 9 := by decide +kernel
set_option maxRecDepth 100000 in
set_option maxHeartbeats 2000000 in
theorem rline_any (x : Cl) (hw : Wf x) (w : World) :
    Calls Tryd.prog 23 #[cv x] w fun e w' => e = .returned (lineR x) ∧ Below w.heap.size w w' := by
  have HMy := Lib.hid (fun wx => rmay_any x hw wx)
  have HB := Lib.hid (And.intro ((Below.refl w.heap.size w).alloc (Nat.le_refl _) (.cells (ccs x) 27)) (Blk.new w (ccs x) 27))
  have c0 := HB.out.2.cell 0
  have c1 := HB.out.2.cell 1
  have c2 := HB.out.2.cell 2
  have c3 := HB.out.2.cell 3
  unfold lineR
  unfold cv at *
  cases hc : mayC x with
  | false =>
    rw [hc] at HMy
    rw [if_neg (by simp)]
    unfold ccs at *
    simp only [List.getElem?_toArray, List.getElem?_cons_zero, List.getElem?_cons_succ] at c0 c1 c2 c3
    clear hc
    go_enter Tryd.func23, Tryd.ntmps23
    go_wp2_with (first | (go_at_call 37; (with_reducible refine (HMy.out _).mono ?_); rintro e w1 ⟨rfl, hb1⟩) | fail)
    exact bodyPost_ret (results_tmp2 rfl _ _ _) rfl ⟨rfl, HB.out.1.trans (hb1.mono HB.out.1.size)⟩
  | true =>
    rw [hc] at HMy
    rw [if_pos rfl]
    obtain ⟨k, hk, h1, h2⟩ := isC_nat (may_isC hc)
    have hm3 := mn3 h2
    have hwd := wd9 ⟨k, h2⟩
    simp only at hwd
    have HMa := Lib.hid (fun wx => rmany_any (k : Int) wx)
    rw [many_nat h1 h2] at HMa
    have HNa := Lib.hid (fun wx => rname_in k h1 h2 wx)
    have HDi := Lib.hid (fun i wx => rdigits_any (ar x i) (ar_lt hw i) wx)
    have HL : Hid (lineT x = wd k ++ argsT x (mn k)) := Lib.hid (by unfold lineT; rw [hk, Int.toNat_natCast])
    have HLen := Lib.hid (fun j => (argsL_range x j) ▸ (by simpa using argsL_len hw (List.range j) : (argsL x (List.range j)).length ≤ 11 * j))
    have HD10 := Lib.hid (fun i => dd10 (ar_lt hw i))
    have hcs : ccs x = #[.int .i64 (k : Int), .int .u32 (x.a : Int), .int .u32 (x.b : Int), .int .u32 (x.c : Int)] := by unfold ccs; rw [hk]
    have HCe := Lib.hid (fun (i : Nat) (h : i < 3) => arc (x := x) h)
    rw [hcs] at HMy HB HCe c0 c1 c2 c3 ⊢
    simp only [List.getElem?_toArray, List.getElem?_cons_zero, List.getElem?_cons_succ] at c0 c1 c2 c3
    clear hc hcs hk h1 h2
    generalize mn k = m at *
    go_enter Tryd.func23, Tryd.ntmps23
    go_wp2_with (first
      | (go_at_call 37; (with_reducible refine (HMy.out _).mono ?_); rintro e w1 ⟨rfl, hb1⟩; have B1 := HB.out.1.trans (hb1.mono HB.out.1.size); have k1 := HB.out.2.below hb1; have HB1 := Lib.hid (And.intro B1 k1); have d0 := k1.cell 0; simp only [List.getElem?_toArray, List.getElem?_cons_zero] at d0; clear B1 k1)
      | (go_at_call 9; (with_reducible refine (HNa.out _).mono ?_); rintro e w2 ⟨rfl, hb2⟩; have HB2 := Lib.hid (And.intro (HB1.out.1.trans (hb2.mono HB1.out.1.size)) (HB1.out.2.below hb2)))
      | fail)
    clear c0 c1 c2 c3 d0
    go_loopw [5, 6] (fun s i wr => ∃ j : Nat, j ≤ m ∧ i = .int .i64 (j : Int) ∧ s = .string (tx (wd k ++ argsT x j)) ∧ Hid (Below w.heap.size w wr ∧ Blk wr w.heap.size #[.int .i64 (k : Int), .int .u32 (x.a : Int), .int .u32 (x.b : Int), .int .u32 (x.c : Int)] 27)) (fun _ i _ => m - (intOf i).toNat)
    case atStart => exact ⟨0, by omega, rfl, by rw [show argsT x 0 = [] from rfl, List.append_nil], HB2⟩
    case round =>
      obtain ⟨j, hj, rfl, rfl, HI⟩ := hrel
      have d0 := HI.out.2.cell 0
      simp only [List.getElem?_toArray, List.getElem?_cons_zero] at d0
      by_cases hlt : j < m
      · have cA := HI.out.2.cell (1 + j)
        rw [HCe.out j (by omega)] at cA
        have hs : (tx (wd k ++ argsT x j)).size ≤ 60 := by rw [tx_size, List.length_append]; have := HLen.out j; omega
        have hd : (tx (Lib.decDigits (ar x j))).size ≤ 10 := by rw [tx_size]; exact HD10.out j
        have HE : Hid (tx (wd k ++ argsT x j) ++ ⟨#[32]⟩ ++ tx (Lib.decDigits (ar x j)) = tx (wd k ++ argsT x (j + 1))) := Lib.hid (by
          rw [show (⟨#[32]⟩ : ByteArray) = tx [32] from rfl, tx_app, tx_app, show argsT x (j + 1) = argsT x j ++ 32 :: Lib.decDigits (ar x j) from rfl]
          simp [List.append_assoc])
        have HDj := Lib.hid (HDi.out j)
        generalize tx (wd k ++ argsT x j) = S at *
        generalize tx (Lib.decDigits (ar x j)) = D at *
        generalize ar x j = q at *
        go_wp2_with (first
          | (go_at_call 14; (with_reducible refine (HMa.out _).mono ?_); rintro e w9 ⟨rfl, rfl⟩)
          | (go_at_call 38; (with_reducible refine (HDj.out _).mono ?_); rintro e w3 ⟨rfl, hb3⟩)
          | fail)
        go_roundw
        case rel => exact ⟨j + 1, by omega, by go_num, by rw [← HE.out], Lib.hid ⟨HI.out.1.trans (hb3.mono HI.out.1.size), HI.out.2.below hb3⟩⟩
        case measure => simp [intOf]; omega
      · obtain rfl : j = m := by omega
        obtain ⟨S, hS⟩ : ∃ S, tx (wd k ++ argsT x j) = S := ⟨_, rfl⟩
        rw [hS]
        have HS := Lib.hid hS
        clear hS
        go_wp2_with (first
          | (go_at_call 14; (with_reducible refine (HMa.out _).mono ?_); rintro e w9 ⟨rfl, rfl⟩)
          | fail)
        exact bodyPost_ret (results_tmp2 rfl _ _ _) rfl ⟨by rw [HL.out, HS.out]; rfl, HI.out.1⟩
end Go.Proofs.YtlddjjkbnhhfaaaDoor.Cmb
