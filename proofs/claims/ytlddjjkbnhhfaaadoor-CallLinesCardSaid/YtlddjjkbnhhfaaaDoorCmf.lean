/-
  The document's own Program.
-/
import Derived.Test.YtlddjjkbnhhfaaaDoorCmb
import Derived.Test.YtlddjjkbnhhfaaaDoorClq
import Derived.BigRegion
import Derived.Deep.RegionHeld
namespace Go.Proofs.YtlddjjkbnhhfaaaDoor.Cmf
open Go Go.RowKit Go.Shelf Kit IsaM Cla Clt Clf Bk Clh Cli Clg Clm Clra Clrc Cma Cmb Clq
open Clv (ClAt ClsAt uv)
set_option linter.unusedVariables false
attribute [local go_sem] Oper.semAt_some

def progR (l : List Cl) : Value := if l.all okB then .tuple #[.string (tx (progT l)), .int .i64 0] else .tuple #[.string (tx []), .int .i64 160]
theorem bel2 {A C D : World} (h : Below A.heap.size A C) (k : Below C.heap.size C D) : Below A.heap.size A D := h.trans (k.mono h.size)
theorem lisT_len {x : Cl} (hw : Wf x) {i : Nat} (hi : i ≤ 3) : (lisT x i).length ≤ 75 := by
  have h := lisL_len hw (List.range i)
  rw [lisL_range x i hi, List.length_range] at h
  omega
theorem li0 (P : Tx) (k : Nat) : tx P ++ ⟨#[108, 105, 32, 48, 32]⟩ ++ tx (Lib.decDigits k) ++ ⟨#[10]⟩ = tx (P ++ liT 0 k) := by
  rw [show (⟨#[108, 105, 32, 48, 32]⟩ : ByteArray) = tx [108, 105, 32, 48, 32] from rfl, show (⟨#[10]⟩ : ByteArray) = tx [10] from rfl, tx_app, tx_app, tx_app]
  have e : Lib.decDigits 0 = [48] := Cma.dd_one (by omega)
  unfold liT
  rw [e]
  simp [List.append_assoc]
theorem lin (P : Tx) (r u : Nat) : tx P ++ ⟨#[108, 105, 32]⟩ ++ tx (Lib.decDigits r) ++ ⟨#[32]⟩ ++ tx (Lib.decDigits u) ++ ⟨#[10]⟩ = tx (P ++ liT r u) := by
  rw [show (⟨#[108, 105, 32]⟩ : ByteArray) = tx [108, 105, 32] from rfl, show (⟨#[32]⟩ : ByteArray) = tx [32] from rfl, show (⟨#[10]⟩ : ByteArray) = tx [10] from rfl, tx_app, tx_app, tx_app, tx_app, tx_app]
  unfold liT
  simp [List.append_assoc]
set_option maxRecDepth 100000 in
set_option maxHeartbeats 8000000 in
theorem rprog_any (v : Value) (l : List Cl) (hl : l.length ≤ 60) (w : World) (hv : ClsAt w v l) :
    Calls Tryd.prog 27 #[v] w fun e w' => e = .returned (progR l) ∧ Below w.heap.size w w' := by
  obtain ⟨a, cap, rfl, hcap, hmax, hcells⟩ := hv
  unfold maxLen at hmax
  have hli : (l.length : Int) ≤ 60 := by omega
  have HCL : Hid (∀ j (hj : j < l.length), ∃ b o, a = some ⟨b, o, none⟩ ∧ b < w.heap.size ∧ ∀ W, Below w.heap.size w W → ClAt W b (o + j * 4) l[j]) := Lib.hid (fun j hj => by
    rcases hcells with h0 | ⟨b, o, e, hlt, hc⟩
    · rw [h0] at hj; simp at hj
    · exact ⟨b, o, e, hlt, fun W hW => (hc j hj).below hlt hW⟩)
  have HALL : Hid (∀ x ∈ l, okB x = true → isC x.n = true ∧ Wf x) := Lib.hid (fun x hx hok => by
    obtain ⟨j, hj, rfl⟩ := List.getElem_of_mem hx
    obtain ⟨b, o, -, -, hc⟩ := HCL.out j hj
    refine ⟨?_, (hc w (Below.refl _ _)).2⟩
    unfold okB at hok
    rw [Bool.and_eq_true] at hok
    exact may_isC hok.1)
  clear hcells
  go_enter Tryd.func27, Tryd.ntmps27
  go_wp2_with fail
  go_loopw [2, 3, 4, 5] (fun r2 r3 sv iv wr => ∃ j : Nat, r2 = .string ⟨#[]⟩ ∧ r3 = .int .i64 0 ∧ j ≤ l.length ∧ iv = .int .i64 (j : Int) ∧ sv = .string (tx (progT (l.take j))) ∧ Hid (Below w.heap.size w wr ∧ ∀ x ∈ l.take j, okB x = true)) (fun _ _ _ i _ => l.length - (intOf i).toNat)
  case atStart => exact ⟨0, rfl, rfl, by omega, rfl, rfl, Lib.hid ⟨Below.refl _ _, by simp⟩⟩
  case round =>
    obtain ⟨j, rfl, rfl, hj, rfl, rfl, HI⟩ := hrel
    by_cases hlt : j < l.length
    · obtain ⟨b, o, rfl, hbl, hcl⟩ := HCL.out j hlt
      obtain ⟨⟨c0, c1, c2, c3⟩, hwf⟩ := hcl wr HI.out.1
      unfold uv at c1 c2 c3
      obtain ⟨x, hx⟩ : ∃ x, l[j] = x := ⟨_, rfl⟩
      rw [hx] at c0 c1 c2 c3 hwf
      have HM := Lib.hid (fun wx => rmay_any x hwf wx)
      have HX := Lib.hid (And.intro hx hwf)
      have hcv : cv x = .agg #[.int .i64 x.n, .int .u32 (x.a : Int), .int .u32 (x.b : Int), .int .u32 (x.c : Int)] := rfl
      rw [hcv] at HM
      have hjb : (progT (l.take j)).length ≤ 7200 := by
        have := progT_len (l.take j) (fun x hx => HALL.out x (List.mem_of_mem_take hx) (HI.out.2 x hx))
        rw [List.length_take] at this
        omega
      have HCl : Hid (∀ W, Below w.heap.size w W → ClAt W b (o + j * 4) x) := Lib.hid (fun W hW => hx ▸ hcl W hW)
      clear hcl hcv
      cases hmay : mayC x with
      | false =>
        rw [hmay] at HM
        have HF : Hid (progR l = .tuple #[.string (tx []), .int .i64 160]) := Lib.hid (by unfold progR; rw [all_no hlt (by rw [hx]; unfold okB; rw [hmay]; rfl)]; rfl)
        clear hx hwf hmay
        go_wp2_with (first
          | (go_at_call 37; (with_reducible refine (HM.out _).mono ?_); rintro e w1 ⟨rfl, hb1⟩)
          | fail)
        exact bodyPost_ret (results_tmp2 rfl _ _ _) rfl ⟨by rw [HF.out]; rfl, bel2 HI.out.1 hb1⟩
      | true =>
        rw [hmay] at HM
        obtain ⟨k, hk, h1, h2⟩ := isC_nat (may_isC hmay)
        have hm3 := mn3 h2
        rw [hk] at c0 HM
        have hki : (k : Int) % 4294967296 = (k : Int) := by omega
        have HDk := Lib.hid (fun wx => rdigits_any k (by omega) wx)
        have HMa := Lib.hid (fun wx => rmany_any (k : Int) wx)
        rw [many_nat h1 h2] at HMa
        have hs : (tx (progT (l.take j))).size ≤ 7200 := by rw [tx_size]; exact hjb
        have hd : (tx (Lib.decDigits k)).size ≤ 10 := by rw [tx_size]; exact dd10 (by omega)
        have HE := Lib.hid (li0 (progT (l.take j)) k)
        have HLe : Hid (∀ i, i ≤ 3 → (tx (progT (l.take j) ++ liT 0 k ++ lisT x i)).size ≤ 7400) := Lib.hid (fun i hi => by
          have h4 := lisT_len hwf hi
          have h5 : (liT 0 k).length ≤ 25 := liT_len (by omega) (by omega)
          rw [tx_size, List.length_append, List.length_append]
          omega)
        have HPT : Hid (lisT x (mn k) = lisT x (mn k)) := Lib.hid rfl
        have HAr := Lib.hid (fun i => ar_lt hwf i)
        obtain ⟨S0, hS0⟩ : ∃ S0, tx (progT (l.take j)) = S0 := ⟨_, rfl⟩
        obtain ⟨D0, hD0⟩ : ∃ D0, tx (Lib.decDigits k) = D0 := ⟨_, rfl⟩
        rw [hS0] at hs HE ⊢
        rw [hD0] at hd HE HDk
        have HK := Lib.hid (And.intro hk (And.intro h1 (And.intro h2 (And.intro hx (And.intro hwf hmay)))))
        clear hS0 hD0 hk h1 h2 hx hwf hmay
        go_wp2_with (first
          | (go_at_call 37; (with_reducible refine (HM.out _).mono ?_); rintro e w1 ⟨rfl, hb1⟩; have B1 := bel2 HI.out.1 hb1; have q0 := (HCl.out _ B1).1.1; rw [HK.out.1] at q0; have HB1 := Lib.hid B1; clear B1)
          | (go_at_call 38; (with_reducible refine (HDk.out _).mono ?_); rintro e w2 ⟨rfl, hb2⟩; have HB2 := Lib.hid (bel2 HB1.out hb2))
          | fail)
        clear c0 c1 c2 c3 q0
        obtain ⟨m, hm⟩ : ∃ m, mn k = m := ⟨_, rfl⟩
        rw [hm] at HMa hm3
        have HMm := Lib.hid hm
        clear hm
        go_loopw [2, 3, 4, 7] (fun r2 r3 sv iv wr => ∃ i : Nat, r2 = .string ⟨#[]⟩ ∧ r3 = .int .i64 0 ∧ i ≤ m ∧ iv = .int .i64 (i : Int) ∧ sv = .string (tx (progT (l.take j) ++ liT 0 k ++ lisT x i)) ∧ Hid (Below w.heap.size w wr ∧ ∀ i', i' < i → ar x i' ≤ 32767)) (fun _ _ _ i _ => m + 1 - (intOf i).toNat)
        case atStart => exact ⟨0, rfl, rfl, by omega, rfl, by rw [HE.out, show lisT x 0 = [] from rfl, List.append_nil], Lib.hid ⟨HB2.out, fun i hi => by omega⟩⟩
        case round =>
          obtain ⟨i, rfl, rfl, hi, rfl, rfl, HI5⟩ := hrel
          have c0 := (HCl.out _ HI5.out.1).1.1
          rw [HK.out.1] at c0
          by_cases hil : i < m
          · have hcs3 : i = 0 ∨ i = 1 ∨ i = 2 := by omega
            rcases hcs3 with rfl | rfl | rfl
            · rw [show ((0 : Nat) : Int) = 0 from rfl] at *
              have HCA : Hid (∀ W, Below w.heap.size w W → W.cell? ⟨b, o + j * 4 + 1 + 0, none⟩ = some (.int .u32 ((ar x 0 : Nat) : Int)) ∧ W.cell? ⟨b, o + j * 4 + 1, none⟩ = some (.int .u32 ((ar x 0 : Nat) : Int))) := Lib.hid (fun W hW => by
                have h9 := (HCl.out _ hW).1
                exact ⟨h9.2.1, h9.2.1⟩)
              obtain ⟨cA, cB⟩ := HCA.out _ HI5.out.1
              by_cases hfar : 32767 < ((ar x 0 : Nat) : Int)
              · have HF : Hid (progR l = .tuple #[.string (tx []), .int .i64 160]) := Lib.hid (by
                  have hnr : near x = false := near_no HK.out.1 (i := 0) (by rw [HMm.out]; exact hil) (by omega)
                  unfold progR
                  rw [all_no hlt (by rw [HK.out.2.2.2.1]; unfold okB; rw [hnr, Bool.and_false])]
                  rfl)
                have dfar : decide (32767 < ((ar x 0 : Nat) : Int)) = true := decide_eq_true hfar
                clear HE HAr hfar
                generalize tx (progT (l.take j) ++ liT 0 k ++ lisT x 0) = S at *
                generalize ((ar x 0 : Nat) : Int) = q at *
                go_wp2_with (first
                  | (go_at_call 14; (with_reducible refine (HMa.out _).mono ?_); rintro e w9 ⟨rfl, rfl⟩)
                  | fail)
                exact bodyPost_ret (results_tmp2 rfl _ _ _) rfl ⟨by rw [HF.out]; rfl, HI5.out.1⟩
              · have hs5 := HLe.out 0 (by omega)
                have hq := HAr.out 0
                have HD1 := Lib.hid (fun wx => rdigits_any 1 (by omega) wx)
                rw [show ((1 : Nat) : Int) = 1 from rfl] at HD1
                have HD3 : Hid (∀ wx, Calls Tryd.prog 38 #[.int .u32 (IntKind.u32.wrap (IntKind.i64.wrap 1))] wx fun e w' => e = .returned (.string (tx (Lib.decDigits 1))) ∧ Below wx.heap.size wx w') := Lib.hid (fun wx => by
                  rw [show IntKind.u32.wrap (IntKind.i64.wrap 1) = 1 from rfl]
                  exact HD1.out wx)
                have HD2 := Lib.hid (fun wx => rdigits_any (ar x 0) hq wx)
                have hd1 : (tx (Lib.decDigits 1)).size ≤ 10 := by rw [tx_size]; exact dd10 (by omega)
                have hd2 : (tx (Lib.decDigits (ar x 0))).size ≤ 10 := by rw [tx_size]; exact dd10 hq
                have HE2 : Hid (tx (progT (l.take j) ++ liT 0 k ++ lisT x 0) ++ ⟨#[108, 105, 32]⟩ ++ tx (Lib.decDigits 1) ++ ⟨#[32]⟩ ++ tx (Lib.decDigits (ar x 0)) ++ ⟨#[10]⟩ = tx (progT (l.take j) ++ liT 0 k ++ lisT x 1)) := Lib.hid (by
                  rw [lin, show lisT x 1 = lisT x 0 ++ liT 1 (ar x 0) from rfl]
                  simp only [List.append_assoc])
                have HNear : Hid (∀ i', i' < 1 → ar x i' ≤ 32767) := Lib.hid (fun i' h9 => by
                  by_cases e : i' = 0
                  · rw [e]; omega
                  · exact HI5.out.2 i' (by omega))
                have dfar : decide (32767 < ((ar x 0 : Nat) : Int)) = false := decide_eq_false hfar
                have hil' := Lib.hid hil
                have B0 := HI5.out.1.drew
                clear HE HAr hfar hq
                generalize tx (progT (l.take j) ++ liT 0 k ++ lisT x 0) = S at *
                generalize tx (Lib.decDigits 1) = D1 at *
                generalize tx (Lib.decDigits (ar x 0)) = D2 at *
                generalize ((ar x 0 : Nat) : Int) = q at *
                go_wp2_with (first
                  | (go_at_call 14; (with_reducible refine (HMa.out _).mono ?_); rintro e w9 ⟨rfl, rfl⟩)
                  | fail)
                clear cA cB dfar c0 hil hi
                go_region_held (fun w' => w'.cell? ⟨b, o + j * 4 + 1 + 0, none⟩ = some (.int .u32 q) ∧ w'.cell? ⟨b, o + j * 4 + 1, none⟩ = some (.int .u32 q)) (exact HCA.out _ (by first | exact B3 | exact B2 | exact B1 | exact B0)) ((first
                  | (go_at_call 38; (with_reducible refine (HD1.out _).mono ?_); rintro e w3 ⟨rfl, hb3⟩; have B1 := bel2 (A := w) (by first | exact B2 | exact B0) hb3)
                  | (go_at_call 38; (with_reducible refine (HD3.out _).mono ?_); rintro e w3 ⟨rfl, hb3⟩; have B1 := bel2 (A := w) (by first | exact B2 | exact B0) hb3)
                  | (go_at_call 38; (with_reducible refine (HD2.out _).mono ?_); rintro e w4 ⟨rfl, hb4⟩; have B2 := bel2 (A := w) (by first | exact B1 | exact B0) hb4)))
                all_goals go_wp2_with fail
                all_goals exact ⟨⟨1, rfl, rfl, by have := hil'.out; omega, rfl, by rw [HE2.out], Lib.hid ⟨B2, HNear.out⟩⟩, by have := hil'.out; simp [intOf]; try omega⟩
            · rw [show ((1 : Nat) : Int) = 1 from rfl] at *
              have HCA : Hid (∀ W, Below w.heap.size w W → W.cell? ⟨b, o + j * 4 + 1 + 1, none⟩ = some (.int .u32 ((ar x 1 : Nat) : Int)) ∧ W.cell? ⟨b, o + j * 4 + 2, none⟩ = some (.int .u32 ((ar x 1 : Nat) : Int))) := Lib.hid (fun W hW => by
                have h9 := (HCl.out _ hW).1
                exact ⟨h9.2.2.1, h9.2.2.1⟩)
              obtain ⟨cA, cB⟩ := HCA.out _ HI5.out.1
              by_cases hfar : 32767 < ((ar x 1 : Nat) : Int)
              · have HF : Hid (progR l = .tuple #[.string (tx []), .int .i64 160]) := Lib.hid (by
                  have hnr : near x = false := near_no HK.out.1 (i := 1) (by rw [HMm.out]; exact hil) (by omega)
                  unfold progR
                  rw [all_no hlt (by rw [HK.out.2.2.2.1]; unfold okB; rw [hnr, Bool.and_false])]
                  rfl)
                have dfar : decide (32767 < ((ar x 1 : Nat) : Int)) = true := decide_eq_true hfar
                clear HE HAr hfar
                generalize tx (progT (l.take j) ++ liT 0 k ++ lisT x 1) = S at *
                generalize ((ar x 1 : Nat) : Int) = q at *
                go_wp2_with (first
                  | (go_at_call 14; (with_reducible refine (HMa.out _).mono ?_); rintro e w9 ⟨rfl, rfl⟩)
                  | fail)
                exact bodyPost_ret (results_tmp2 rfl _ _ _) rfl ⟨by rw [HF.out]; rfl, HI5.out.1⟩
              · have hs5 := HLe.out 1 (by omega)
                have hq := HAr.out 1
                have HD1 := Lib.hid (fun wx => rdigits_any 2 (by omega) wx)
                rw [show ((2 : Nat) : Int) = 2 from rfl] at HD1
                have HD3 : Hid (∀ wx, Calls Tryd.prog 38 #[.int .u32 (IntKind.u32.wrap (IntKind.i64.wrap 2))] wx fun e w' => e = .returned (.string (tx (Lib.decDigits 2))) ∧ Below wx.heap.size wx w') := Lib.hid (fun wx => by
                  rw [show IntKind.u32.wrap (IntKind.i64.wrap 2) = 2 from rfl]
                  exact HD1.out wx)
                have HD2 := Lib.hid (fun wx => rdigits_any (ar x 1) hq wx)
                have hd1 : (tx (Lib.decDigits 2)).size ≤ 10 := by rw [tx_size]; exact dd10 (by omega)
                have hd2 : (tx (Lib.decDigits (ar x 1))).size ≤ 10 := by rw [tx_size]; exact dd10 hq
                have HE2 : Hid (tx (progT (l.take j) ++ liT 0 k ++ lisT x 1) ++ ⟨#[108, 105, 32]⟩ ++ tx (Lib.decDigits 2) ++ ⟨#[32]⟩ ++ tx (Lib.decDigits (ar x 1)) ++ ⟨#[10]⟩ = tx (progT (l.take j) ++ liT 0 k ++ lisT x 2)) := Lib.hid (by
                  rw [lin, show lisT x 2 = lisT x 1 ++ liT 2 (ar x 1) from rfl]
                  simp only [List.append_assoc])
                have HNear : Hid (∀ i', i' < 2 → ar x i' ≤ 32767) := Lib.hid (fun i' h9 => by
                  by_cases e : i' = 1
                  · rw [e]; omega
                  · exact HI5.out.2 i' (by omega))
                have dfar : decide (32767 < ((ar x 1 : Nat) : Int)) = false := decide_eq_false hfar
                have hil' := Lib.hid hil
                have B0 := HI5.out.1.drew
                clear HE HAr hfar hq
                generalize tx (progT (l.take j) ++ liT 0 k ++ lisT x 1) = S at *
                generalize tx (Lib.decDigits 2) = D1 at *
                generalize tx (Lib.decDigits (ar x 1)) = D2 at *
                generalize ((ar x 1 : Nat) : Int) = q at *
                go_wp2_with (first
                  | (go_at_call 14; (with_reducible refine (HMa.out _).mono ?_); rintro e w9 ⟨rfl, rfl⟩)
                  | fail)
                clear cA cB dfar c0 hil hi
                go_region_held (fun w' => w'.cell? ⟨b, o + j * 4 + 1 + 1, none⟩ = some (.int .u32 q)) (exact (HCA.out _ (by first | exact B3 | exact B2 | exact B1 | exact B0)).1) ((first
                  | (go_at_call 38; (with_reducible refine (HD1.out _).mono ?_); rintro e w3 ⟨rfl, hb3⟩; have B1 := bel2 (A := w) (by first | exact B2 | exact B0) hb3)
                  | (go_at_call 38; (with_reducible refine (HD3.out _).mono ?_); rintro e w3 ⟨rfl, hb3⟩; have B1 := bel2 (A := w) (by first | exact B2 | exact B0) hb3)
                  | (go_at_call 38; (with_reducible refine (HD2.out _).mono ?_); rintro e w4 ⟨rfl, hb4⟩; have B2 := bel2 (A := w) (by first | exact B1 | exact B0) hb4)))
                all_goals go_wp2_with fail
                all_goals exact ⟨⟨2, rfl, rfl, by have := hil'.out; omega, rfl, by rw [HE2.out], Lib.hid ⟨B2, HNear.out⟩⟩, by have := hil'.out; simp [intOf]; try omega⟩
            · rw [show ((2 : Nat) : Int) = 2 from rfl] at *
              have HCA : Hid (∀ W, Below w.heap.size w W → W.cell? ⟨b, o + j * 4 + 1 + 2, none⟩ = some (.int .u32 ((ar x 2 : Nat) : Int)) ∧ W.cell? ⟨b, o + j * 4 + 3, none⟩ = some (.int .u32 ((ar x 2 : Nat) : Int))) := Lib.hid (fun W hW => by
                have h9 := (HCl.out _ hW).1
                exact ⟨h9.2.2.2, h9.2.2.2⟩)
              obtain ⟨cA, cB⟩ := HCA.out _ HI5.out.1
              by_cases hfar : 32767 < ((ar x 2 : Nat) : Int)
              · have HF : Hid (progR l = .tuple #[.string (tx []), .int .i64 160]) := Lib.hid (by
                  have hnr : near x = false := near_no HK.out.1 (i := 2) (by rw [HMm.out]; exact hil) (by omega)
                  unfold progR
                  rw [all_no hlt (by rw [HK.out.2.2.2.1]; unfold okB; rw [hnr, Bool.and_false])]
                  rfl)
                have dfar : decide (32767 < ((ar x 2 : Nat) : Int)) = true := decide_eq_true hfar
                clear HE HAr hfar
                generalize tx (progT (l.take j) ++ liT 0 k ++ lisT x 2) = S at *
                generalize ((ar x 2 : Nat) : Int) = q at *
                go_wp2_with (first
                  | (go_at_call 14; (with_reducible refine (HMa.out _).mono ?_); rintro e w9 ⟨rfl, rfl⟩)
                  | fail)
                exact bodyPost_ret (results_tmp2 rfl _ _ _) rfl ⟨by rw [HF.out]; rfl, HI5.out.1⟩
              · have hs5 := HLe.out 2 (by omega)
                have hq := HAr.out 2
                have HD1 := Lib.hid (fun wx => rdigits_any 3 (by omega) wx)
                rw [show ((3 : Nat) : Int) = 3 from rfl] at HD1
                have HD3 : Hid (∀ wx, Calls Tryd.prog 38 #[.int .u32 (IntKind.u32.wrap (IntKind.i64.wrap 3))] wx fun e w' => e = .returned (.string (tx (Lib.decDigits 3))) ∧ Below wx.heap.size wx w') := Lib.hid (fun wx => by
                  rw [show IntKind.u32.wrap (IntKind.i64.wrap 3) = 3 from rfl]
                  exact HD1.out wx)
                have HD2 := Lib.hid (fun wx => rdigits_any (ar x 2) hq wx)
                have hd1 : (tx (Lib.decDigits 3)).size ≤ 10 := by rw [tx_size]; exact dd10 (by omega)
                have hd2 : (tx (Lib.decDigits (ar x 2))).size ≤ 10 := by rw [tx_size]; exact dd10 hq
                have HE2 : Hid (tx (progT (l.take j) ++ liT 0 k ++ lisT x 2) ++ ⟨#[108, 105, 32]⟩ ++ tx (Lib.decDigits 3) ++ ⟨#[32]⟩ ++ tx (Lib.decDigits (ar x 2)) ++ ⟨#[10]⟩ = tx (progT (l.take j) ++ liT 0 k ++ lisT x 3)) := Lib.hid (by
                  rw [lin, show lisT x 3 = lisT x 2 ++ liT 3 (ar x 2) from rfl]
                  simp only [List.append_assoc])
                have HNear : Hid (∀ i', i' < 3 → ar x i' ≤ 32767) := Lib.hid (fun i' h9 => by
                  by_cases e : i' = 2
                  · rw [e]; omega
                  · exact HI5.out.2 i' (by omega))
                have dfar : decide (32767 < ((ar x 2 : Nat) : Int)) = false := decide_eq_false hfar
                have hil' := Lib.hid hil
                have B0 := HI5.out.1.drew
                clear HE HAr hfar hq
                generalize tx (progT (l.take j) ++ liT 0 k ++ lisT x 2) = S at *
                generalize tx (Lib.decDigits 3) = D1 at *
                generalize tx (Lib.decDigits (ar x 2)) = D2 at *
                generalize ((ar x 2 : Nat) : Int) = q at *
                go_wp2_with (first
                  | (go_at_call 14; (with_reducible refine (HMa.out _).mono ?_); rintro e w9 ⟨rfl, rfl⟩)
                  | fail)
                clear cA cB dfar c0 hil hi
                go_region_held (fun w' => w'.cell? ⟨b, o + j * 4 + 1 + 2, none⟩ = some (.int .u32 q)) (exact (HCA.out _ (by first | exact B3 | exact B2 | exact B1 | exact B0)).1) ((first
                  | (go_at_call 38; (with_reducible refine (HD1.out _).mono ?_); rintro e w3 ⟨rfl, hb3⟩; have B1 := bel2 (A := w) (by first | exact B2 | exact B0) hb3)
                  | (go_at_call 38; (with_reducible refine (HD3.out _).mono ?_); rintro e w3 ⟨rfl, hb3⟩; have B1 := bel2 (A := w) (by first | exact B2 | exact B0) hb3)
                  | (go_at_call 38; (with_reducible refine (HD2.out _).mono ?_); rintro e w4 ⟨rfl, hb4⟩; have B2 := bel2 (A := w) (by first | exact B1 | exact B0) hb4)))
                all_goals go_wp2_with fail
                all_goals exact ⟨⟨3, rfl, rfl, by have := hil'.out; omega, rfl, by rw [HE2.out], Lib.hid ⟨B2, HNear.out⟩⟩, by have := hil'.out; simp [intOf]; try omega⟩
          · obtain rfl : i = m := by omega
            have hs5 := HLe.out i (by omega)
            have HOK : Hid (∀ y ∈ l.take (j + 1), okB y = true) := Lib.hid (fun y hy => by
              rw [List.take_succ_eq_append_getElem hlt, List.mem_append, List.mem_singleton] at hy
              rcases hy with hy | rfl
              · exact HI.out.2 y hy
              · rw [HK.out.2.2.2.1]
                unfold okB
                rw [HK.out.2.2.2.2.2, near_yes HK.out.1 (fun i' hi' => HI5.out.2 i' (by rw [List.mem_range, HMm.out] at hi'; exact hi'))]
                rfl)
            have HE3 : Hid (tx (progT (l.take j) ++ liT 0 k ++ lisT x i) ++ ⟨#[115, 121, 115, 10]⟩ = tx (progT (l.take (j + 1)))) := Lib.hid (by
              rw [prog_take hlt, HK.out.2.2.2.1, show (⟨#[115, 121, 115, 10]⟩ : ByteArray) = tx sysT from rfl, tx_app]
              unfold callT
              rw [HK.out.1, Int.toNat_natCast, HMm.out]
              simp only [List.append_assoc])
            generalize tx (progT (l.take j) ++ liT 0 k ++ lisT x i) = S at *
            go_wp2_with (first
              | (go_at_call 14; (with_reducible refine (HMa.out _).mono ?_); rintro e w9 ⟨rfl, rfl⟩)
              | fail)
            go_roundw
            case rel => exact ⟨j + 1, rfl, rfl, by omega, by go_num, by rw [HE3.out], Lib.hid ⟨HI5.out.1, HOK.out⟩⟩
            case measure => simp [intOf]; omega
    · obtain rfl : j = l.length := by omega
      have HF : Hid (progR l = .tuple #[.string (tx (progT (l.take l.length))), .int .i64 0]) := Lib.hid (by
        have h9 := HI.out.2
        rw [List.take_length] at h9 ⊢
        unfold progR
        rw [all_yes h9]
        rfl)
      generalize tx (progT (l.take l.length)) = S at *
      go_wp2_with fail
      exact bodyPost_ret (results_tmp2 rfl _ _ _) rfl ⟨by rw [HF.out]; rfl, HI.out.1⟩
end Go.Proofs.YtlddjjkbnhhfaaaDoor.Cmf
