/-
  counts: the frames that are used are those of pages that are mapped, as often as they are mapped.
-/
import Derived.Test.YtclpokkjbkbkgaaUm
import Derived.Test.YtclpokkjbkbkgaaQc
import Derived.Laws.MakeOwn
namespace Go.Proofs.Ytclpokkjbkbkgaa.Cn
open Go Go.RowKit Go.Shelf Kit Bk
open Fm hiding Mem made_any len_any
open Fo Fr Fw Fx Fu Fq
open Tm hiding Mem
open Ts Tc Ti Sp Sa Pz To My Pv Mp Mq Dr Cl Iv Iw Ix Wr Sy Al Pg So Oq Sn Tg Un Zf Um Qc
set_option linter.unusedVariables false
attribute [local go_sem ↓] mk_wrap

def cnA (n : Nat) (g : Nat → Nat) : Array Value := ((List.range n).map fun x => Value.int .i64 (g x : Int)).toArray
theorem cnA_size (n : Nat) (g : Nat → Nat) : (cnA n g).size = n := by simp [cnA]
theorem cnA_at (n : Nat) (g : Nat → Nat) {x : Nat} (h : x < n) : (cnA n g)[x]? = some (.int .i64 (g x : Int)) := by simp [cnA, h]
theorem cnA_out (n : Nat) (g : Nat → Nat) {x : Nat} (h : ¬ x < n) : (cnA n g)[x]? = none := Array.getElem?_eq_none (by rw [cnA_size]; omega)
theorem cnA_set (n : Nat) (g : Nat → Nat) {x v : Nat} (h : x < n) : (cnA n g).setIfInBounds x (.int .i64 (v : Int)) = cnA n (up g x v) := by
  apply Array.ext_getElem?
  intro j
  rw [Array.getElem?_setIfInBounds]
  by_cases hj : j < n
  · rw [cnA_at n _ hj, cnA_at n _ hj, cnA_size]
    by_cases e : x = j
    · subst e
      rw [if_pos rfl, if_pos h, up_same]
    · rw [if_neg e, up_other _ _ _ _ (fun h => e h.symm)]
  · rw [cnA_out n _ hj, cnA_out n _ hj, cnA_size]
    by_cases e : x = j
    · rw [if_pos e, if_neg (by omega)]
    · rw [if_neg e]
theorem cnA_made (n : Nat) : madeCells #[.int .i64 0] (n * 1) = cnA n (fun _ => 0) := by
  apply Array.ext_getElem?
  intro j
  by_cases hj : j < n
  · rw [cnA_at n _ hj]
    simp [madeCells, hj, Nat.mod_one]
  · rw [cnA_out n _ hj]
    exact Array.getElem?_eq_none (by rw [size_madeCells]; omega)
theorem tot_take (Ls : List Tab) (k : Nat) (h : k < Ls.length) (f : Nat) : tot (Ls.take (k + 1)) f = tot (Ls.take k) f + occ Ls[k] f := by
  rw [List.take_succ_eq_append_getElem h, tot_app]

set_option maxRecDepth 100000 in
set_option maxHeartbeats 4000000 in
theorem counts_any (w : World) {p b n : Nat} {R : Nat → Nat} {B : Nat → Nat → Nat} {qs ts : Nat → Nat} {Ls : List Tab} (h : Sy.Sys w p b n R B qs ts Ls) (L : Nat) (hL : Ls.length = L) (h4 : L ≤ 4) (g cap : Nat) (hc1 : L ≤ cap) (hc2 : cap ≤ maxLen) (hg : g < w.heap.size)
    (hcell : ∀ i, i < L → w.cell? ⟨g, i, none⟩ = some (.pointer (some ⟨qs i, 0, none⟩))) :
    Calls Try.prog 20 #[.pointer (some ⟨p, 0, none⟩), .slice (some ⟨g, 0, none⟩) L cap] w fun e w' => e = .returned (.bool true) ∧ Below w.heap.size w w' := by
  obtain ⟨i0, hi, hz0, hz1, hz2⟩ := info_parts Th.info3
  have hn := h.fm.pos
  have hr := run_make (P := Try.prog) w 38 3 i0 (.int .i64 0) Try.underlying38 hi hz0 .i64 .i64 (n : Int) (n : Int) (by omega) (Int.le_refl _) (by rw [hz2]; omega) (by omega)
  rw [Int.toNat_natCast, hz1] at hr
  have hr2 : (mkO 38 (.int .i64 (n : Int)) (.int .i64 (n : Int))).run Try.prog w = .ok (.slice (some ⟨w.heap.size, 0, none⟩) n n) (w.alloc (.cells (cnA n fun _ => 0) 3)) := by rw [← cnA_made]; exact hr
  have hb := Blk.new w (cnA n fun _ => 0) 3
  have hb1 : Below w.heap.size w (w.alloc (.cells (cnA n fun _ => 0) 3)) := (Below.refl _ _).alloc (Nat.le_refl _) _
  generalize w.alloc (.cells (cnA n fun _ => 0) 3) = W at *
  have HLen := Lib.hid (Fm.len_any w p b n R B h.fm)
  have HBK := Lib.hid hb
  have HB1 := Lib.hid hb1
  have HS := Lib.hid h
  have HL := Lib.hid hL
  have HC := Lib.hid hcell
  have hn1 : (n : Int) ≤ 256 := by omega
  have hL4 : (L : Int) ≤ 4 := by omega
  have hnm : n ≤ maxLen := by unfold maxLen; omega
  clear hr hb hb1 hi hz0 hz1 hz2 h hL hcell hn
  go_enter Try.func20, Try.ntmps20
  go_wp2_with (first | (go_at_call 24; (with_reducible refine HLen.out.mono ?_); rintro e w1 ⟨rfl, rfl⟩))
  go_loopw [6] (fun i wr => ∃ k : Nat, k ≤ L ∧ i = .int .i64 (k : Int) ∧ Blk wr w.heap.size (cnA n (tot (Ls.take k))) 3 ∧ Below w.heap.size w wr) (fun i _ => L - (intOf i).toNat)
  case atStart => exact ⟨0, Nat.zero_le _, rfl, HBK.out, HB1.out⟩
  case round =>
    obtain ⟨k, hk, rfl, hbk, hB⟩ := hrel
    by_cases hlt : k < L
    · have hkl : k < Ls.length := by rw [HL.out]; exact hlt
      have hS := HS.out.below hB
      have hli := list_any wr (qs k) p (ts k) Ls[k] (hS.sp k hkl) (hS.tm k hkl)
      obtain ⟨T, hT⟩ : ∃ T, ∀ h : k < Ls.length, Ls[k] = T := ⟨Ls[k], fun _ => rfl⟩
      obtain ⟨E, hE⟩ : ∃ E, ents T 64 = E := ⟨_, rfl⟩
      rw [hT hkl, hE] at hli
      have HLI := Lib.hid hli
      have HT := Lib.hid hT
      have HE := Lib.hid hE
      have hrng := HS.out.inv.rng k hkl
      rw [hT hkl] at hrng
      have HRNG := Lib.hid hrng
      have HKL := Lib.hid hkl
      have hck := (hB.cell (p := ⟨g, k, none⟩) hg).trans (HC.out k hlt)
      have htk : ∀ f, tot (Ls.take k) f ≤ 256 := fun f => by
        have h1 := tot_le (Ls.take k) f
        have h2 : (Ls.take k).length ≤ 4 := by rw [List.length_take]; omega
        omega
      have HTK := Lib.hid htk
      have HBK2 := Lib.hid hbk
      have HB := Lib.hid hB
      clear hS hli hT hE hrng hkl hbk hB htk
      have hlti : (k : Int) < (L : Int) := by omega
      go_wp2_with (first | (go_at_call 25; (with_reducible refine HLI.out.mono ?_); rintro e w5 ⟨hb5, r, rfl, ho⟩; obtain ⟨ln, hln, ad, cap2, rfl, hr1, hr2', hrd⟩ := row_len ho; have HLN := Lib.hid hln; have HRD := Lib.hid hrd; have HBK5 := Lib.hid (Blk.below HBK2.out hb5); have HB5 := Lib.hid (HB.out.trans (hb5.mono HB.out.size)); clear hb5 ho hrd))
      have hln64 : (ln : Int) ≤ 64 := by
        have h1 := HLN.out
        have h2 : E.length ≤ 64 := by rw [← HE.out]; exact ents_len T 64
        omega
      go_loopw [8] (fun i wv => ∃ j : Nat, j ≤ ln ∧ i = .int .i64 (j : Int) ∧ Blk wv w.heap.size (cnA n (cls ⟨tot (Ls.take k), fun _ _ => 0, T⟩ E j).R) 3 ∧ Rd.Rd wv 62 (.slice ad ln cap2) 6 ln (Tl.mcells E) ∧ Below w.heap.size w wv) (fun i _ => ln - (intOf i).toNat)
      case atStart => exact ⟨0, Nat.zero_le _, rfl, HBK5.out, HRD.out, HB5.out⟩
      case round =>
        obtain ⟨j, hj, rfl, hbk, hrd, hB⟩ := hrel
        by_cases hjlt : j < ln
        · have hj2 : j < E.length := by rw [HLN.out]; exact hjlt
          obtain ⟨⟨pq, en⟩, hq⟩ : ∃ x, E[j] = x := ⟨_, rfl⟩
          obtain ⟨_, f, hf, hfn⟩ := HRNG.out pq en (by
            have := List.getElem_mem hj2
            rw [hq, ← HE.out] at this
            exact (ents_mem.1 this).2)
          obtain ⟨ef, ew, es, ec, ed⟩ := en
          dsimp only at hf
          subst hf
          have hrd' := hrd
          rw [← HLN.out] at hrd'
          obtain ⟨ga, ca, hea, hca, hca2, a0, a1, a2, a3, a4, a5⟩ := Rd.Rd.at_ hrd' hj2 hq
          rw [HLN.out] at hea
          cases hea
          obtain ⟨gv, hgv⟩ : ∃ gv, (cls ⟨tot (Ls.take k), fun _ _ => 0, T⟩ E j).R f = gv := ⟨_, rfl⟩
          have hgb : (gv : Int) ≤ 1000 := by
            have h1 := (cls_bound ⟨tot (Ls.take k), fun _ _ => 0, T⟩ E f j (by omega)).2
            have h2 := HTK.out f
            rw [hgv] at h1
            have h3 : (gv : Int) ≤ (tot (Ls.take k) f : Int) + j := by
              have : gv ≤ tot (Ls.take k) f + j := h1
              omega
            omega
          have hset := (Blk.set hbk f (.int .i64 ((gv + 1 : Nat) : Int)))
          rw [cnA_set n _ hfn] at hset
          have hstep : (cls ⟨tot (Ls.take k), fun _ _ => 0, T⟩ E (j + 1)).R = up (cls ⟨tot (Ls.take k), fun _ _ => 0, T⟩ E j).R f (gv + 1) := by
            rw [cls_succ _ _ _ hj2, hq]
            show up _ (Int.toNat (f : Int)) ((cls _ E j).R (Int.toNat (f : Int)) + 1) = _
            rw [Int.toNat_natCast, hgv]
          rw [← hstep] at hset
          have hrd2 := hrd.kept (Kp.set (S := fun j => j = w.heap.size) wr w.heap.size f (.int .i64 ((gv + 1 : Nat) : Int)) rfl) (fun g' cs hb' e => by
            subst e
            exact absurd (Blk.inj hb' hbk).2 (by decide))
          have hbs : Below w.heap.size w (wr.setCell ⟨w.heap.size, f, none⟩ (.int .i64 ((gv + 1 : Nat) : Int))) := hB.trans ((Kp.set (S := fun j => j = w.heap.size) wr w.heap.size f _ rfl).below hB.size (fun j hj => by rw [hj]; exact Nat.le_refl _))
          rw [show ((gv + 1 : Nat) : Int) = (gv : Int) + 1 by omega] at hset hrd2 hbs
          have HN := Lib.hid (And.intro hset (And.intro hrd2 hbs))
          have hcm := (Blk.cell hbk f).trans (cnA_at n _ hfn)
          have hfm := Blk.free hbk f
          rw [hgv] at hcm
          have hjl : (j : Int) < (ln : Int) := by omega
          have hfl : (f : Int) < (n : Int) := by omega
          clear hset hrd2 hbs hrd hrd' hbk hB hq hgv hstep hca hca2
          go_wp2
          go_roundw
          case rel => exact ⟨j + 1, by omega, by go_num, HN.out.1, HN.out.2.1, HN.out.2.2⟩
          case measure => simp [intOf]; omega
        · obtain rfl : j = ln := by omega
          have hall := (cls_all ⟨tot (Ls.take k), fun _ _ => 0, T⟩ (fun q x hx => by
            obtain ⟨h1, f, h2, _⟩ := HRNG.out q x hx
            exact ⟨h1, f, h2⟩)).2.2
          have hfin : (cls ⟨tot (Ls.take k), fun _ _ => 0, T⟩ E j).R = tot (Ls.take (k + 1)) := by
            funext f
            rw [tot_take Ls k HKL.out f, HT.out HKL.out, ← HLN.out]
            have := hall f
            dsimp only at this
            rw [HE.out] at this
            exact this
          rw [hfin] at hbk
          have HF := Lib.hid (And.intro hbk hB)
          clear hbk hB hrd hall hfin
          go_wp2
          go_roundw
          case rel => exact ⟨k + 1, by omega, by go_num, HF.out.1, HF.out.2⟩
          case measure => simp [intOf]; omega
    · obtain rfl : k = L := by omega
      obtain ⟨wo, rfl⟩ : ∃ wo, wo = wr := ⟨_, rfl⟩
      have hR : tot (Ls.take k) = R := by
        funext f
        rw [← HL.out, List.take_length, HS.out.inv.cnt f]
      rw [hR] at hbk
      have HBKf := Lib.hid hbk
      have HBf := Lib.hid hB
      clear hbk hB hR
      go_wp2
      go_loopw [10] (fun i wv => ∃ x : Nat, x ≤ n ∧ i = .int .i64 (x : Int) ∧ Below wo.heap.size wo wv) (fun i _ => n - (intOf i).toNat)
      case atStart => exact ⟨0, Nat.zero_le _, rfl, Below.refl _ _⟩
      case round =>
        obtain ⟨x, hx, rfl, hbx⟩ := hrel
        by_cases hxn : x < n
        · have hxi : (x : Int) < (n : Int) := by omega
          have hG0 : Below wo.heap.size wo wr.drew := hbx.drew
          have hne : Nonempty (Wq fun W => Below wo.heap.size wo W) := ⟨⟨_, hG0⟩⟩
          have hld : ∀ y : Wq fun W => Below wo.heap.size wo W, y.w.cell? ⟨w.heap.size, x, none⟩ = some (.int .i64 (R x : Int)) := fun y => (Blk.cell (Blk.below HBKf.out y.ok) x).trans (cnA_at n _ hxn)
          have HRC : Hid (∀ y : Wq fun W => Below wo.heap.size wo W, Calls Try.prog 45 #[.pointer (some ⟨p, 0, none⟩), .int .i64 (x : Int)] y.w fun e w'' => e = .returned (.int .i64 (R x : Int)) ∧ ∃ z : Wq fun W => Below wo.heap.size wo W, w'' = z.w) := Lib.hid fun y => by
            refine (refs_in y.w p b n R B ((HS.out.fm.below HBf.out).below y.ok) x hxn).mono ?_
            rintro e w'' ⟨rfl, rfl⟩
            exact ⟨rfl, y, rfl⟩
          have HG0 := Lib.hid hG0
          clear hG0 hbx
          go_wp2
          refine region_class (fun W => Below wo.heap.size wo W) (by kernel_rfl) (by kernel_rfl) HG0.out ?_
          repeat (first | go_big_quiet_skip | (go_big_quiet_want; go_big_quiet_op; first | go_big_quiet_on | (apply Exists.intro; refine ⟨fun _ => ?_, ?_⟩; (first | exact HRC.out _); go_big_quiet_on)))
          refine wpQuiet_nil ?_
          intro w20 ⟨y, hy⟩
          have HX := Lib.hid (show Below wo.heap.size wo w20 from hy ▸ y.ok)
          clear hy y
          go_wp2
          go_roundw
          case rel => exact ⟨x + 1, by omega, by go_num, HX.out⟩
          case measure => simp [intOf]; omega
        · obtain rfl : x = n := by omega
          have HX := Lib.hid hbx
          clear hbx
          go_wp2
          go_ret
          exact ⟨rfl, HBf.out.trans (HX.out.mono HBf.out.size)⟩
end Go.Proofs.Ytclpokkjbkbkgaa.Cn
