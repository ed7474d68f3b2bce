/-
  pages: all of a space's pages, as texts.
-/
import Derived.Test.YtclpokkjbkbkgaaOq
import Derived.Lib.SmallJoins
import Derived.Lib.SlBytesConst
import Derived.Deep.MidRow
import Derived.Laws.Rows
namespace Go.Proofs.Ytclpokkjbkbkgaa.Pg
open Go Go.RowKit Go.Shelf Kit Bk
open Fm hiding Mem made_any len_any
open Fo Fr Fw Fx Fu Fq
open Tm hiding Mem
open Ts Tc Ti Sp Sa Pz To My Pv Mp Mq Dr Cl Iv Iw Ix Wr Sy Al
set_option linter.unusedVariables false

def bstr (l : List Nat) : ByteArray := strOfNums (l.map fun (x : Nat) => (x : Int))
set_option maxRecDepth 100000 in
theorem slc_string {w : World} {v : Value} {l : List Nat} (h : Slc .u8 w v l) : (convert 26 9 v).run Try.prog w = .ok (.string (bstr l)) w := by
  obtain ⟨a, cap, rfl, h1, h2, h3⟩ := h
  rcases h3 with rfl | ⟨b, off, rfl, hlt, hc⟩
  · cases a with
    | none =>
      refine (run_convert_bytes_nil w 26 5 Try.underlying26 Try.underlying5 0 cap 9 Try.underlying9).trans ?_
      rfl
    | some a =>
      obtain ⟨b, off, sp⟩ := a
      refine (run_convert_bytes_arg w 26 5 Try.underlying26 Try.underlying5 b off 0 cap [] (by simp) (fun i hi => by omega) 9 Try.underlying9).trans ?_
      rfl
  · refine run_convert_bytes_arg w 26 5 Try.underlying26 Try.underlying5 b off l.length cap (l.map fun (x : Nat) => (x : Int)) (by simp) (fun i hi => ?_) 9 Try.underlying9
    rw [hc i hi]
    simp [List.getD, List.getElem?_eq_getElem hi]
/-- Bytes of a block of the call's own, as numbers. -/
def bts (f : Nat → Nat) (m : Nat) : List Nat := (List.range m).map f
theorem bts_len (f : Nat → Nat) (m : Nat) : (bts f m).length = m := by simp [bts]
theorem u8f_bts (f : Nat → Nat) (m : Nat) : u8f f m = u8s (bts f m) := by simp [u8f, u8s, bts, Function.comp_def]
theorem own_slc {w : World} {base : Nat} {r : Value} {n : Nat} {l : List Nat} (h : w.ownsRow base 5 1 r n (u8s l)) : Slc .u8 w r l := by
  have hl : l.length = n := by have := h.1; simpa [u8s] using this
  rcases h.2 with ⟨rfl, rfl⟩ | ⟨g, cap, cur, rfl, hg, hh, h1, h2, h3, h4⟩
  · obtain rfl : l = [] := List.eq_nil_of_length_eq_zero hl
    exact ⟨none, 0, rfl, Nat.le_refl _, Nat.zero_le _, .inl rfl⟩
  · subst hl
    refine ⟨some ⟨g, 0, none⟩, cap, rfl, h1, h2, .inr ⟨g, 0, rfl, (Array.getElem?_eq_some_iff.1 hh).1, fun i hi => ?_⟩⟩
    rw [Nat.zero_add, cell_of_row w g i cur _ _ hh]
    have := congrArg (fun z => z[i]?) h4
    simp only [List.getElem?_take, Nat.mul_one, hi, if_true, Array.getElem?_toList] at this
    rw [this, u8s_at l i hi]
/-- A page's text; all of them; the first k of them. -/
def pgS (B : Nat → Nat → Nat) (T : Tab) (j : Nat) : ByteArray := match T j with
  | some x => bstr (bts (B x.f.toNat) 64)
  | none => ByteArray.empty
def pgP (B : Nat → Nat → Nat) (T : Tab) (k : Nat) : Array Value := ((List.range 64).map fun j => Value.string (if j < k then pgS B T j else ByteArray.empty)).toArray
theorem pgP_size (B : Nat → Nat → Nat) (T : Tab) (k : Nat) : (pgP B T k).size = 64 := by simp [pgP]
theorem pgP_at (B : Nat → Nat → Nat) (T : Tab) (k j : Nat) (h : j < 64) : (pgP B T k)[j]? = some (.string (if j < k then pgS B T j else ByteArray.empty)) := by simp [pgP, h]
theorem pgP_set (B : Nat → Nat → Nat) (T : Tab) (k : Nat) : (pgP B T k).setIfInBounds k (.string (pgS B T k)) = pgP B T (k + 1) := by
  apply Array.ext_getElem?
  intro j
  rw [Array.getElem?_setIfInBounds]
  by_cases hj : j < 64
  · rw [pgP_at _ _ _ _ hj, pgP_at _ _ _ _ hj, pgP_size]
    by_cases e : k = j
    · subst e
      rw [if_pos rfl, if_pos hj, if_pos (Nat.lt_succ_self k)]
    · rw [if_neg e]
      by_cases h2 : j < k
      · rw [if_pos h2, if_pos (by omega)]
      · rw [if_neg h2, if_neg (by omega)]
  · have h1 : ∀ k', (pgP B T k')[j]? = none := fun k' => Array.getElem?_eq_none (by rw [pgP_size]; omega)
    rw [h1, h1, pgP_size]
    by_cases e : k = j
    · rw [if_pos e, if_neg (by omega)]
    · rw [if_neg e]
theorem pgP_one (B : Nat → Nat → Nat) (T : Tab) (k : Nat) : (pgP B T k).all (·.oneCell') = true := by
  rw [Array.all_eq_true']
  intro v hv
  simp only [pgP, List.mem_toArray, List.mem_map] at hv
  obtain ⟨j, _, rfl⟩ := hv
  rfl
def zS : Array Value := Array.replicate 64 (.string ByteArray.empty)
theorem infoS : (Try.prog.info? 52).map (fun i => (i.zero, i.size)) = some (some (.agg zS), 64) := by kernel_rfl
theorem infoS2 : (Try.prog.info? 52).map (·.size) = some 64 := by kernel_rfl
theorem run_zeroS (w : World) : (zeroValue 52).run Try.prog w = .ok (.agg zS) w := by
  have hi := infoS
  cases hq : Try.prog.info? 52 with
  | none => rw [hq] at hi; cases hi
  | some i => rw [hq] at hi; simp at hi; simp [zeroValue, typeInfo, hq, hi.1]
theorem zS_pgP (B : Nat → Nat → Nat) (T : Tab) : zS = pgP B T 0 := by
  apply Array.ext_getElem?
  intro j
  by_cases hj : j < 64
  · rw [pgP_at _ _ _ _ hj, if_neg (Nat.not_lt_zero j)]
    simp [zS, hj]
  · rw [Array.getElem?_eq_none (by simp [zS]; omega), Array.getElem?_eq_none (by rw [pgP_size]; omega)]
/-- A load, a store of all of them, behind names that a walk does not open. -/
def ldP (p : Value) : Sem Value := Instr.loadAt 52 p
theorem ldp_wrap (p : Value) : Instr.loadAt 52 p = ldP p := rfl
def stP (p v : Value) : Sem Unit := Instr.storeAt 52 p v
theorem stp_wrap (p v : Value) : Instr.storeAt 52 p v = stP p v := rfl
attribute [local go_sem ↓] ldp_wrap stp_wrap
theorem run_ldP (w : World) (b : Nat) (cs : Array Value) (h : Blk w b cs 52) (hs : cs.size = 64) : (ldP (.pointer (some ⟨b, 0, none⟩))).run Try.prog w = .ok (.agg cs) w := by
  unfold ldP
  have := run_loadAt_mid (P := Try.prog) w b 0 52 cs.toList _ (fun j v hj => by rw [h.cell, Nat.zero_add, ← hj, Array.getElem?_toList]) Try.underlying52 rfl (by rw [infoS2]; simp [hs])
  simpa using this
theorem run_stP (w : World) (b : Nat) (cs ds : Array Value) (T : TypeId) (h : Blk w b cs T) (hs : cs.size = 64) (hd : ds.size = 64) (h1 : ds.all (·.oneCell') = true) : (stP (.pointer (some ⟨b, 0, none⟩)) (.agg ds)).run Try.prog w = .ok () (w.setCells b 0 ds.toList) := by
  unfold stP
  exact run_storeAt_mid w b 0 _ ds (h.there _ _ (by omega)) (by rw [infoS2, hd]) h1
set_option maxRecDepth 100000 in
set_option maxHeartbeats 2000000 in
theorem pages_any (w : World) (q p t b n : Nat) (T : Tab) (R : Nat → Nat) (B : Nat → Nat → Nat) (h : Sp w q p t) (hF : Fm.Mem w p b n R B) (hT : Tm.Mem w t T) (hfit : Fit n R T) :
    Calls Try.prog 21 #[.pointer (some ⟨q, 0, none⟩)] w fun e w' => e = .returned (.agg (pgP B T 64)) ∧ Below w.heap.size w w' := by
  have hz := run_zeroS
  have hb2 := ((Below.refl w.heap.size w).alloc (Nat.le_refl _) (.cells zS 52)).alloc (by simp) (.cells zS 52)
  have k1 : Blk ((w.alloc (.cells zS 52)).alloc (.cells zS 52)) w.heap.size zS 52 := (Blk.new w zS 52).kept (.alloc (fun _ => False) _ _) (fun e => e)
  have k2 := Blk.new (w.alloc (.cells zS 52)) zS 52
  rw [World.size_alloc] at k2
  rw [zS_pgP B T] at k2
  have HZ := Lib.hid (And.intro hb2 (And.intro k1 k2))
  have hzs : zS.size = 64 := by simp [zS]
  have HH := Lib.hid (And.intro h (And.intro hF hT))
  clear hb2 k1 k2 h hF hT
  rw [zS_pgP B T] at hz HZ
  generalize hZ : pgP B T 0 = Z at *
  go_enter Try.func21, Try.ntmps21
  go_wp2
  go_loopw [4] (fun i wr => ∃ k : Nat, k ≤ 64 ∧ i = .int .i64 (k : Int) ∧ Blk wr (w.heap.size + 1) (pgP B T k) 52 ∧ Blk wr w.heap.size Z 52 ∧ Below w.heap.size w wr) (fun i _ => 64 - (intOf i).toNat)
  case atStart => exact ⟨0, Nat.zero_le _, rfl, by rw [hZ]; exact HZ.out.2.2, HZ.out.2.1, HZ.out.1⟩
  case round =>
    obtain ⟨k, hk, rfl, hob, hrb, hB⟩ := hrel
    by_cases hlt : k < 64
    · have hlt' : (k : Int) < 64 := by omega
      have HPG : Hid (Calls Try.prog 22 #[.pointer (some ⟨q, 0, none⟩), .int .i64 (k : Int)] wr fun e w' => ∃ r, e = .returned r ∧ Below wr.heap.size wr w' ∧ (convert 26 9 r).run Try.prog w' = .ok (.string (pgS B T k)) w') := Lib.hid (by
        have h1 := Sp.below HH.out.1 hB
        have h2 := HH.out.2.1.below hB
        have h3 := HH.out.2.2.below hB
        cases hx : T k with
        | none =>
          refine (Nw.page_none wr q p t T h1 h3 k hx).mono ?_
          rintro e w' ⟨hb, rfl⟩
          refine ⟨_, rfl, hb, ?_⟩
          unfold pgS
          rw [hx]
          exact slc_string (l := []) ⟨none, 0, rfl, Nat.le_refl _, Nat.zero_le _, .inl rfl⟩
        | some x =>
          obtain ⟨f, e1, e2, e3⟩ := hfit.rng k x hx
          refine (Nw.page_some wr q p t b n T R B h1 h2 h3 k x hx f e1 e2 e3).mono ?_
          rintro e w' ⟨hb, r, rfl, ho⟩
          refine ⟨r, rfl, hb, ?_⟩
          unfold pgS
          rw [hx]
          show (convert 26 9 r).run Try.prog w' = .ok (.string (bstr (bts (B x.f.toNat) 64))) w'
          rw [show x.f.toNat = f by omega]
          exact slc_string (own_slc (n := 64) (by rw [← u8f_bts]; exact ho)))
      have hset := pgP_set B T k
      have HO := Lib.hid (And.intro hob (And.intro hrb (And.intro hB hset)))
      have hat := pgP_at B T k k hlt
      clear hob hrb hB hset
      go_wp2_with (first | (go_at_call 22; (with_reducible refine HPG.out.mono ?_); rintro e w5 ⟨r, rfl, hb5, hcv⟩; have hc5 := ((Blk.below HO.out.1 hb5).cell k).trans hat; have hf5 := (Blk.below HO.out.1 hb5).free k; have HB5 := Lib.hid hb5; clear hb5))
      go_roundw
      case rel =>
        refine ⟨k + 1, by omega, by go_num, ?_, ?_, ?_⟩
        · have := (Blk.below HO.out.1 HB5.out).set k (.string (pgS B T k))
          rw [HO.out.2.2.2] at this
          exact this
        · exact (Blk.below HO.out.2.1 HB5.out).other _ _ _ (by omega)
        · exact (HO.out.2.2.1.trans (HB5.out.mono HO.out.2.2.1.size)).setCell (by simp) _
      case measure => simp [intOf]; omega
    · obtain rfl : k = 64 := by omega
      have hld := run_ldP wr (w.heap.size + 1) (pgP B T 64) hob (pgP_size _ _ _)
      have hzz : Z.size = 64 := by rw [← hZ]; exact pgP_size _ _ _
      have hst := run_stP wr w.heap.size Z (pgP B T 64) _ hrb hzz (pgP_size _ _ _) (pgP_one _ _ _)
      have hob2 := Tc.Blk.setAll hrb (ds := pgP B T 64) (by rw [pgP_size, hzz])
      have hkp := Kp.sets (S := fun j => j = w.heap.size) w.heap.size rfl (pgP B T 64).toList 0 wr
      have HBK := Lib.hid hob2
      have HSZ : Hid ((Try.prog.info? 52).map (·.size) = some (pgP B T 64).size) := Lib.hid (by rw [infoS2, pgP_size])
      have HBF := Lib.hid (hB.trans (hkp.below hB.size (fun j hj => by rw [hj]; exact Nat.le_refl _)))
      clear hob hrb hB hob2 hkp hzs
      generalize hPP : pgP B T 64 = PP at *
      have HPP := Lib.hid hPP
      clear hPP
      generalize wr.setCells w.heap.size 0 PP.toList = WW at *
      go_wp2
      refine bodyPost_ret (v := .agg PP) ?_ rfl ⟨by rw [HPP.out], HBF.out⟩
      exact results_cell_row rfl _ _ w.heap.size 52 PP (0, 0) _ rfl HBK.out Try.underlying52 rfl HSZ.out
end Go.Proofs.Ytclpokkjbkbkgaa.Pg
