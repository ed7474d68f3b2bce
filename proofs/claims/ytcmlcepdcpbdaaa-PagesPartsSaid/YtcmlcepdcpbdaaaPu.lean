/-
  PagesParts.
-/
import Derived.Test.YtcmlcepdcpbdaaaPt
namespace Go.Proofs.Ytcmlcepdcpbdaaa.Pu
open Go Go.RowKit Kit Bk Tm Ts Tc Ti Tl Th Td Tq Tr Tn En Ov Gd Ho Pt
set_option linter.unusedVariables false

set_option maxRecDepth 100000 in
set_option maxHeartbeats 4000000 in
theorem parts_law (v : Value) (ops : List Opr) (w : World) (h : OpsAt w v ops) :
    Calls Try.prog 8 #[v] w fun e w' => e = .returned (.bool true) ∧ Below w.heap.size w w' := by
  have hva := list_long v ops w h
  by_cases hlen : ops.length ≤ 150
  case neg =>
    obtain ⟨a, cap, rfl⟩ := hva
    have d : decide ((150 : Int) < (ops.length : Int)) = true := decide_eq_true (by omega)
    clear h hlen
    go_enter Try.func8, Try.ntmps8
    go_wp2_with (first | (go_at_call 23; (with_reducible refine (alive_any _).mono ?_); rintro e w1 ⟨rfl, hb⟩))
    go_ret
    exact ⟨rfl, hb⟩
  case pos =>
    have HG : Hid (∀ w1, Below w.heap.size w w1 → _) := Lib.hid (fun w1 hb => grown_at v ops w w1 h hlen hb)
    obtain ⟨T, hT⟩ : ∃ T, acts (fun _ => none) ops = T := ⟨_, rfl⟩
    rw [hT] at HG
    obtain ⟨a, cap, rfl⟩ := hva
    have d : decide ((150 : Int) < (ops.length : Int)) = false := decide_eq_false (by omega)
    have hl : (ops.length : Int) ≤ 150 := by omega
    clear h hlen hT
    go_enter Try.func8, Try.ntmps8
    go_wp2_with (first | (go_at_call 23; (with_reducible refine (alive_any _).mono ?_); rintro e w1 ⟨rfl, hb⟩; have HB := Lib.hid hb; clear hb) | (go_at_call 28; (with_reducible refine (HG.out _ HB.out).mono ?_); rintro e w2 ⟨p, rfl, hlo, hb, hm⟩; replace HB := Lib.hid hb; have HM := Lib.hid hm; have HLo := Lib.hid hlo; clear hb hm hlo))
    go_loopw [5, 6, 7] (fun a b c wr => ∃ k : Nat, k ≤ 64 ∧ a = .int .i64 (pf (ents T k)).1 ∧ b = .int .i64 (pf (ents T k)).2 ∧ c = .int .i64 (k : Int) ∧ Mem wr p T ∧ Below w.heap.size w wr) (fun _ _ c _ => 64 - (intOf c).toNat)
    case atStart => exact ⟨0, Nat.zero_le _, rfl, rfl, rfl, HM.out, HB.out⟩
    case round =>
      obtain ⟨k, hk, rfl, rfl, rfl, hMr, hBr⟩ := hrel
      by_cases hlt : k < 64
      · have hlti : (k : Int) < 64 := by omega
        have HGt := Lib.hid (get_in _ p T hMr k hlt)
        have HMs := Lib.hid hMr
        have HBs := Lib.hid hBr
        have hbd := pf_bd (ents T k)
        have hlk := ents_len T k
        clear hMr hBr
        obtain ⟨u, hu⟩ : ∃ u, (pf (ents T k)).1 = u := ⟨_, rfl⟩
        obtain ⟨la, hla⟩ : ∃ la, (pf (ents T k)).2 = la := ⟨_, rfl⟩
        rw [hu, hla] at hbd ⊢
        have hu0 : 0 ≤ u := hbd.1
        have hu1 : u ≤ 64 := by omega
        have hwr : wrap64 ((k : Int) / 8) = (k : Int) / 8 := by rw [wrap64]; omega
        cases hx : T k with
        | none =>
          have hxn : (T k).isSome = false := by rw [hx]; rfl
          have HU := Lib.hid (And.intro (by rw [ents_none hx]; exact hu : (pf (ents T (k + 1))).1 = u) (by rw [ents_none hx]; exact hla : (pf (ents T (k + 1))).2 = la))
          obtain ⟨e0, he0⟩ : ∃ e0, (T k).getD z0 = e0 := ⟨_, rfl⟩
          rw [hxn, he0] at HGt
          clear hx hxn he0 hu hla hbd
          go_wp2_with (go_at_call 21; (with_reducible refine HGt.out.mono ?_); rintro e w5 ⟨rfl, hb5⟩; have HB5 := Lib.hid hb5; clear hb5)
          go_roundw
          case rel => exact ⟨k + 1, by omega, by rw [HU.out.1], by rw [HU.out.2], by go_num, Mem.below (Mem.below HMs.out HB5.out) ((Below.refl _ _).alloc (Nat.le_refl _) _), (HBs.out.trans (HB5.out.mono HBs.out.size)).alloc (Nat.le_trans HBs.out.size HB5.out.size) _⟩
          case measure => simp [intOf]; omega
        | some e1 =>
          have hxn : (T k).isSome = true := by rw [hx]; rfl
          have hpa := pf_app (ents T k) (k, e1)
          rw [← ents_some hx] at hpa
          unfold pstep at hpa
          rw [pg_of hlt] at hpa
          obtain ⟨e0, he0⟩ : ∃ e0, (T k).getD z0 = e0 := ⟨_, rfl⟩
          rw [hxn, he0] at HGt
          have hq : (k : Int) / 8 = ((k / 8 : Nat) : Int) := rfl
          by_cases he : ((k / 8 : Nat) : Int) = la
          · have hd : ((k : Int) / 8 == la) = true := beq_iff_eq.2 (hq.trans he)
            rw [if_pos (by rw [hla]; exact he)] at hpa
            have HU := Lib.hid (And.intro (by rw [hpa]; exact hu : (pf (ents T (k + 1))).1 = u) (by rw [hpa]; exact hla : (pf (ents T (k + 1))).2 = la))
            clear hx hxn he0 hu hla hbd hpa he hq
            go_wp2_with (go_at_call 21; (with_reducible refine HGt.out.mono ?_); rintro e w5 ⟨rfl, hb5⟩; have HB5 := Lib.hid hb5; clear hb5)
            go_roundw
            case rel => exact ⟨k + 1, by omega, by rw [HU.out.1], by rw [HU.out.2], by go_num, Mem.below (Mem.below HMs.out HB5.out) ((Below.refl _ _).alloc (Nat.le_refl _) _), (HBs.out.trans (HB5.out.mono HBs.out.size)).alloc (Nat.le_trans HBs.out.size HB5.out.size) _⟩
            case measure => simp [intOf]; omega
          · have hd : ((k : Int) / 8 == la) = false := beq_eq_false_iff_ne.2 (fun e => he (hq.symm.trans e))
            rw [if_neg (by rw [hla]; exact he)] at hpa
            have HU := Lib.hid (And.intro (by rw [hpa, hu] : (pf (ents T (k + 1))).1 = u + 1) (by rw [hpa]; rfl : (pf (ents T (k + 1))).2 = (k : Int) / 8))
            clear hx hxn he0 hu hla hbd hpa he hq
            go_wp2_with (go_at_call 21; (with_reducible refine HGt.out.mono ?_); rintro e w5 ⟨rfl, hb5⟩; have HB5 := Lib.hid hb5; clear hb5)
            go_roundw
            case rel => exact ⟨k + 1, by omega, by rw [HU.out.1], by rw [HU.out.2], by go_num, Mem.below (Mem.below HMs.out HB5.out) ((Below.refl _ _).alloc (Nat.le_refl _) _), (HBs.out.trans (HB5.out.mono HBs.out.size)).alloc (Nat.le_trans HBs.out.size HB5.out.size) _⟩
            case measure => simp [intOf]; omega
      · obtain rfl : k = 64 := by omega
        have hL := ents_len T 64
        have HMs := Lib.hid hMr
        have HBs := Lib.hid hBr
        obtain ⟨pn, hpn⟩ : ∃ pn, (pf (ents T 64)).1 = pn := ⟨_, rfl⟩
        have hpn2 : parts T = pn := hpn
        obtain ⟨la, hla⟩ : ∃ la, (pf (ents T 64)).2 = la := ⟨_, rfl⟩
        rw [hpn, hla]
        have HLn : Hid (∀ W, Mem W p T → _) := Lib.hid (fun W hM => len_mem W p T hM)
        have HPa : Hid (∀ W, Mem W p T → _) := Lib.hid (fun W hM => parts_mem W p T hM)
        rw [hpn2] at HPa
        have HLi : Hid (∀ W, Mem W p T → _) := Lib.hid (fun W hM => list_mem W p T hM)
        obtain ⟨L, hLL⟩ : ∃ L, ents T 64 = L := ⟨_, rfl⟩
        rw [hLL] at HLn HLi hL
        clear hMr hBr hpn hpn2 hla
        go_wp2_with (first | (go_at_call 26; (with_reducible refine (HLn.out _ HMs.out).mono ?_); rintro e w5 ⟨rfl, hb5⟩; replace HMs := Lib.hid (Mem.below HMs.out hb5); replace HBs := Lib.hid (HBs.out.trans (hb5.mono HBs.out.size)); clear hb5) | (go_at_call 24; (with_reducible refine (HPa.out _ HMs.out).mono ?_); rintro e w5 ⟨rfl, hb5⟩; replace HMs := Lib.hid (Mem.below HMs.out hb5); replace HBs := Lib.hid (HBs.out.trans (hb5.mono HBs.out.size)); clear hb5) | (go_at_call 25; (with_reducible refine (HLi.out _ HMs.out).mono ?_); rintro e w5 ⟨hb5, r, rfl, hrd⟩; replace HMs := Lib.hid (Mem.below HMs.out hb5); replace HBs := Lib.hid (HBs.out.trans (hb5.mono HBs.out.size)); have HR := Lib.hid hrd; obtain ⟨-, ra, rcap, rfl, -⟩ := hrd; clear hb5))
        have HNth : Hid (∀ i (h : i < L.length), ∃ q e, q < 64 ∧ T q = some e ∧ (ents T q).length = i ∧ L[i] = (q, e)) := Lib.hid (by rw [← hLL]; exact ents_nth 64)
        have HLen : Hid (∀ i, (ents (rem T i) 64).length = L.length - i) := Lib.hid (fun i => by rw [← hLL]; exact rem_len T i 64)
        obtain ⟨N, hN⟩ : ∃ N, L.length = N := ⟨_, rfl⟩
        have HN := Lib.hid hN
        rw [hN] at HR HLen hL ⊢
        have hNi : (N : Int) ≤ 64 := by omega
        clear hLL hN HLn HPa HLi
        go_loopw [10, 58] (fun m i wr => ∃ k : Nat, k ≤ N ∧ m = .int .i64 ((N : Int) - (k : Int)) ∧ i = .int .i64 (k : Int) ∧ Mem wr p (rem T k) ∧ Rd wr 59 (.slice ra N rcap) 6 N (mcells L) ∧ Below w.heap.size w wr) (fun _ i _ => N - (intOf i).toNat)
        case atStart => exact ⟨0, Nat.zero_le _, by simp, rfl, by rw [rem_zero]; exact HMs.out, HR.out, HBs.out⟩
        case round =>
          obtain ⟨k, hk, rfl, rfl, hMr, hRr, hBr⟩ := hrel
          by_cases hlt : k < N
          · have hlt2 : k < L.length := by rw [HN.out]; exact hlt
            obtain ⟨q, e, hq, hTq, hlq, hLq⟩ := HNth.out k hlt2
            have hRr2 := hRr
            rw [← HN.out] at hRr2
            obtain ⟨g, cap', he, hc1, hc2, c0, c1, c2, c3, c4, c5⟩ := Rd.at_ hRr2 hlt2 hLq
            rw [HN.out] at he hc1
            cases he
            have hstep := rem_step hTq hlq
            have hrq : rem T k q = some e := (rem_at hlq).trans hTq
            have hplt := hMr.lt
            have HC : Hid (∀ W, Below wr.heap.size wr W → Calls Try.prog 12 #[.pointer (some ⟨p, 0, none⟩), .int .i64 (q : Int)] W fun e' w' => e' = .returned (.tuple #[ev e, .bool true]) ∧ Kp (fun j => j = p) W w' ∧ Mem w' p (rem T (k + 1))) := Lib.hid (fun W hb => by
              have := clear_some W p (rem T k) (Mem.below hMr hb) q hq e hrq
              rw [hstep] at this
              exact this)
            have hlen1 := HLen.out (k + 1)
            obtain ⟨M, hM⟩ : ∃ M : Int, (N : Int) - (k : Int) = M := ⟨_, rfl⟩
            have hM1 : ((N - (k + 1) : Nat) : Int) = M - 1 := by omega
            have hM2 : 1 ≤ M := by omega
            have hM3 : M ≤ 64 := by omega
            have HLn : Hid (∀ W, Mem W p (rem T (k + 1)) → Calls Try.prog 26 #[.pointer (some ⟨p, 0, none⟩)] W fun e w' => e = .returned (.int .i64 (M - 1)) ∧ Below W.heap.size W w') := Lib.hid (fun W hMm => by
              have := len_mem W p _ hMm
              rw [hlen1, hM1] at this
              exact this)
            have HRr := Lib.hid hRr
            have HMr := Lib.hid hMr
            have HBr := Lib.hid hBr
            have HQ : Hid ((N : Int) - ((k + 1 : Nat) : Int) = M - 1) := Lib.hid (by omega)
            have HPl := Lib.hid hplt
            have hlti : (k : Int) < (N : Int) := by omega
            rw [hM]
            obtain ⟨ef, ew, es, ec, ed⟩ := e
            dsimp only at c1 c2 c3 c4 c5
            clear hRr hRr2 hMr hBr hstep hrq hlen1 hM hM1 hTq hlq hLq hplt HNth
            go_wp2_with (first | (go_at_call 12; (with_reducible refine (HC.out _ ((Below.refl _ _).alloc (Nat.le_refl _) _)).mono ?_); rintro e' w5 ⟨rfl, hk5, hm5⟩; have hx5 := (Blk.new wr #[.int .i64 (q : Int), .int .i64 ef, .bool ew, .bool es, .bool ec, .bool ed] 59).kept hk5 (by have := HPl.out; omega); have x1 : ∀ o, (w5.alloc o).cell? ⟨wr.heap.size, 1, none⟩ = some (.int .i64 ef) := (fun o => (hx5.below ((Below.refl _ _).alloc (Nat.le_refl _) o)).cell 1); have x2 : ∀ o, (w5.alloc o).cell? ⟨wr.heap.size, 2, none⟩ = some (.bool ew) := (fun o => (hx5.below ((Below.refl _ _).alloc (Nat.le_refl _) o)).cell 2); have x3 : ∀ o, (w5.alloc o).cell? ⟨wr.heap.size, 3, none⟩ = some (.bool es) := (fun o => (hx5.below ((Below.refl _ _).alloc (Nat.le_refl _) o)).cell 3); have x4 : ∀ o, (w5.alloc o).cell? ⟨wr.heap.size, 4, none⟩ = some (.bool ec) := (fun o => (hx5.below ((Below.refl _ _).alloc (Nat.le_refl _) o)).cell 4); have x5 : ∀ o, (w5.alloc o).cell? ⟨wr.heap.size, 5, none⟩ = some (.bool ed) := (fun o => (hx5.below ((Below.refl _ _).alloc (Nat.le_refl _) o)).cell 5); clear hx5; have HK5 := Lib.hid hk5; have HM5 := Lib.hid hm5; clear hk5 hm5) | (go_at_call 26; (with_reducible refine (HLn.out _ (Mem.below HM5.out ((Below.refl _ _).alloc (Nat.le_refl _) _))).mono ?_); rintro e' w6 ⟨rfl, hb6⟩; have HB6 := Lib.hid hb6; clear hb6))
            have hal : Below wr.heap.size wr (wr.alloc (.cells #[.int .i64 (q : Int), .int .i64 ef, .bool ew, .bool es, .bool ec, .bool ed] 59)) := (Below.refl _ _).alloc (Nat.le_refl _) _
            have hal5 : Below w5.heap.size w5 (w5.alloc (.cells #[.int .i64 ef, .bool ew, .bool es, .bool ec, .bool ed] 25)) := (Below.refl _ _).alloc (Nat.le_refl _) _
            have hMa := Mem.below HMr.out hal
            have hRn := Rd.below (Rd.below (Rd.beside (Rd.below HRr.out hal) hMa HK5.out (by decide)) hal5) HB6.out
            have hMn := Mem.below (Mem.below HM5.out hal5) HB6.out
            have hBa := HBr.out.trans (hal.mono HBr.out.size)
            have hB5 : Below w.heap.size w w5 := hBa.trans (HK5.out.below hBa.size (fun j e => by have := HLo.out; omega))
            have hBn := (hB5.trans (hal5.mono hB5.size)).trans (HB6.out.mono (Nat.le_trans hB5.size hal5.size))
            go_roundw
            case rel => exact ⟨k + 1, by omega, by rw [HQ.out], by go_num, hMn, hRn, hBn⟩
            case measure => simp [intOf]; omega
          · obtain rfl : k = N := by omega
            have hnil : ents (rem T k) 64 = [] := List.eq_nil_of_length_eq_zero (by rw [HLen.out]; omega)
            have HHo : Hid (∀ W, Mem W p (rem T k) → _) := Lib.hid (fun W hM => hole_lit W p (rem T k) hM 64 0 true (by omega) (hole_all hnil))
            have HPz : Hid (∀ W, Mem W p (rem T k) → Calls Try.prog 24 #[.pointer (some ⟨p, 0, none⟩)] W fun e w' => e = .returned (.int .i64 0) ∧ Below W.heap.size W w') := Lib.hid (fun W hM => by
              have := parts_mem W p (rem T k) hM
              rw [parts_all hnil] at this
              exact this)
            have HMr := Lib.hid hMr
            have HBr := Lib.hid hBr
            have hzz : (k : Int) - (k : Int) = 0 := by omega
            clear hMr hBr hRr hnil HNth
            go_wp2_with (first | (go_at_call 22; (with_reducible refine (HHo.out _ HMr.out).mono ?_); rintro e' w5 ⟨rfl, hb5⟩; replace HMr := Lib.hid (Mem.below HMr.out hb5); replace HBr := Lib.hid (HBr.out.trans (hb5.mono HBr.out.size)); clear hb5) | (go_at_call 24; (with_reducible refine (HPz.out _ HMr.out).mono ?_); rintro e' w5 ⟨rfl, hb5⟩; replace HMr := Lib.hid (Mem.below HMr.out hb5); replace HBr := Lib.hid (HBr.out.trans (hb5.mono HBr.out.size)); clear hb5))
            go_ret
            exact ⟨rfl, HBr.out⟩
end Go.Proofs.Ytcmlcepdcpbdaaa.Pu
namespace Go.Proofs.Ytcmlcepdcpbdaaa.Walk
open Go Go.RowKit Ov
theorem pagesParts (v : Value) (ops : List Opr) (w : World) (h : OpsAt w v ops) :
    Calls Try.prog 8 #[v] w fun e w' => e = .returned (.bool true) ∧ Below w.heap.size w w' := Pu.parts_law v ops w h
end Go.Proofs.Ytcmlcepdcpbdaaa.Walk
