/-
  What counts of a space's pages: an array of all of them (uses).
-/
import Derived.Test.YtjoapeeljigjcaaDoorSy
import Derived.OrdersHeld
import Derived.Test.YtjoapeeljigjcaaDoorBackNums
import Derived.Test.YtjoapeeljigjcaaDoorShelfU
import Derived.DeepKeys
import Derived.Deep.RegionHeld
namespace Go.Proofs.YtjoapeeljigjcaaDoor.Usa
open Go Go.RowKit Go.Shelf Kit Bk
open Fm hiding Mem made_any len_any
open Fo Fr Fw Fx Fu Fq
open Tm hiding Mem
open Ts Tc Ti Tl Sp Sa Pz To My Pv Mp Mq Dr Cl Iv Iw Ix Wr Sy Rd
set_option linter.unusedVariables false

/-- What counts of a page: whether it is mapped, Write, Shared. -/
def uc (x : Option En) (i : Nat) : Value := if i = 0 then .bool x.isSome else if i = 1 then .bool (x.getD z0).w else .bool (x.getD z0).s
def usA (F : Nat → Option En) : Array Value := ((List.range 192).map fun i => uc (F (i / 3)) (i % 3)).toArray
theorem usA_size (F : Nat → Option En) : (usA F).size = 192 := by simp [usA]
theorem usA_at (F : Nat → Option En) (i : Nat) (h : i < 192) : (usA F)[i]? = some (uc (F (i / 3)) (i % 3)) := by simp [usA, h]
theorem uc_one (x : Option En) (i : Nat) : (uc x i).oneCell' = true := by unfold uc; split <;> (try split) <;> rfl
theorem usA_one (F : Nat → Option En) : (usA F).all (·.oneCell') = true := by
  rw [Array.all_eq_true']
  intro v hv
  simp only [usA, List.mem_toArray, List.mem_map] at hv
  obtain ⟨j, _, rfl⟩ := hv
  exact uc_one _ _
theorem usA_congr {F G : Nat → Option En} (h : ∀ k, k < 64 → (F k).isSome = (G k).isSome ∧ ((F k).getD z0).w = ((G k).getD z0).w ∧ ((F k).getD z0).s = ((G k).getD z0).s) : usA F = usA G := by
  unfold usA
  congr 1
  refine List.map_congr_left fun j hj => ?_
  have hj := List.mem_range.1 hj
  obtain ⟨h1, h2, h3⟩ := h (j / 3) (by omega)
  unfold uc
  rw [h1, h2, h3]
/-- The first of some entries. -/
def tk (T : Nat → Option En) (l : List (Nat × En)) (j : Nat) : Nat → Option En := fun k => if k ∈ (l.take j).map Prod.fst then T k else none
theorem tk_zero (T : Nat → Option En) (l : List (Nat × En)) : tk T l 0 = fun _ => none := by funext k; simp [tk]
theorem tk_succ {T : Nat → Option En} {l : List (Nat × En)} {j : Nat} (h : j < l.length) {k : Nat} {e : En} (hk : l[j] = (k, e)) (hT : T k = some e) : tk T l (j + 1) = up (tk T l j) k (some e) := by
  funext m
  unfold tk up
  rw [List.take_succ_eq_append_getElem h, List.map_append, hk]
  by_cases e1 : m = k
  · subst e1
    rw [if_pos rfl, if_pos (by simp), hT]
  · rw [if_neg e1]
    simp only [List.mem_append, List.map_cons, List.map_nil, List.mem_singleton, e1, or_false]
theorem tk_all {T : Nat → Option En} (ht : ∀ k, 64 ≤ k → T k = none) : tk T (ents T 64) (ents T 64).length = T := by
  funext k
  unfold tk
  rw [List.take_length]
  split
  · rfl
  · rename_i h
    cases hx : T k with
    | none => rfl
    | some e =>
      have hk : k < 64 := by
        rcases Nat.lt_or_ge k 64 with hk | hk
        · exact hk
        · rw [ht k hk] at hx; cases hx
      exact absurd (List.mem_map.2 ⟨(k, e), ents_mem.2 ⟨hk, hx⟩, rfl⟩) h

/-- Loads and stores of these, behind names that a walk does not open. -/
def ldA (p : Value) : Sem Value := Instr.loadAt 115 p
theorem lda_wrap (p : Value) : Instr.loadAt 115 p = ldA p := rfl
def stA (p v : Value) : Sem Unit := Instr.storeAt 115 p v
theorem sta_wrap (p v : Value) : Instr.storeAt 115 p v = stA p v := rfl
def stU (p v : Value) : Sem Unit := Instr.storeAt 114 p v
theorem stu_wrap (p v : Value) : Instr.storeAt 114 p v = stU p v := rfl
def ldU (p : Value) : Sem Value := Instr.loadAt 114 p
theorem ldu_wrap (p : Value) : Instr.loadAt 114 p = ldU p := rfl
attribute [local go_sem ↓] lda_wrap sta_wrap stu_wrap ldu_wrap
def zA : Array Value := usA fun _ => none
theorem infoA : (Tryd.prog.info? 115).map (fun i => (i.zero, i.size)) = some (some (.agg zA), 192) := by kernel_rfl
theorem infoA2 : (Tryd.prog.info? 115).map (·.size) = some 192 := by kernel_rfl
theorem infoU2 : (Tryd.prog.info? 114).map (·.size) = some 3 := by kernel_rfl
theorem run_zeroA (w : World) : (zeroValue 115).run Tryd.prog w = .ok (.agg zA) w := by
  have hi := infoA
  cases hq : Tryd.prog.info? 115 with
  | none => rw [hq] at hi; cases hi
  | some i => rw [hq] at hi; simp at hi; simp [zeroValue, typeInfo, hq, hi.1]
theorem run_ldA (w : World) (b : Nat) (cs : Array Value) (T : TypeId) (h : Blk w b cs T) (hs : cs.size = 192) : (ldA (.pointer (some ⟨b, 0, none⟩))).run Tryd.prog w = .ok (.agg cs) w := by
  unfold ldA
  have := run_loadAt_mid (P := Tryd.prog) w b 0 115 cs.toList _ (fun j v hj => by rw [h.cell, Nat.zero_add, ← hj, Array.getElem?_toList]) Tryd.underlying115 rfl (by rw [infoA2]; simp [hs])
  simpa using this
theorem run_stA (w : World) (b : Nat) (cs ds : Array Value) (T : TypeId) (h : Blk w b cs T) (hs : cs.size = 192) (hd : ds.size = 192) (h1 : ds.all (·.oneCell') = true) : (stA (.pointer (some ⟨b, 0, none⟩)) (.agg ds)).run Tryd.prog w = .ok () (w.setCells b 0 ds.toList) := by
  unfold stA
  exact run_storeAt_mid w b 0 _ ds (h.there _ _ (by omega)) (by rw [infoA2, hd]) h1
/-- One page's stored. -/
theorem usA_set {w : World} {g : Nat} {F : Nat → Option En} (h : Blk w g (usA F) 115) {k : Nat} (hk : k < 64) (e : En) :
    ∃ w', (stU (.pointer (some ⟨g, k * 3, none⟩)) (.agg #[.bool true, .bool e.w, .bool e.s])).run Tryd.prog w = .ok () w' ∧ Blk w' g (usA (up F k (some e))) 115 ∧ Kp (fun j => j = g) w w' := by
  have hrun : (stU (.pointer (some ⟨g, k * 3, none⟩)) (.agg #[.bool true, .bool e.w, .bool e.s])).run Tryd.prog w = .ok () (w.setCells g (k * 3) [.bool true, .bool e.w, .bool e.s]) := by
    unfold stU
    exact run_storeAt_mid w g (k * 3) _ #[.bool true, .bool e.w, .bool e.s] (h.there _ _ (by rw [usA_size]; simp; omega)) (by rw [infoU2]; rfl) (by simp [Value.oneCell'])
  obtain ⟨ds, h1, h2, h3, h4⟩ := Blk.sets [.bool true, .bool e.w, .bool e.s] (k * 3) _ _ h
  have hd : ds = usA (up F k (some e)) := by
    apply Array.ext_getElem?
    intro i
    by_cases hi : i < 192
    · rw [usA_at _ i hi]
      by_cases e1 : i < k * 3 ∨ k * 3 + 3 ≤ i
      · rw [h3 i e1, usA_at _ i hi, up_other _ _ _ _ (by omega)]
      · obtain ⟨c, rfl⟩ : ∃ c, i = k * 3 + c := ⟨i - k * 3, by omega⟩
        have hc : c < 3 := by omega
        rw [h4 c hc (by rw [usA_size]; omega), show (k * 3 + c) / 3 = k by omega, up_same, show (k * 3 + c) % 3 = c by omega]
        rcases c with _ | _ | _ | c
        · rfl
        · rfl
        · rfl
        · omega
    · rw [Array.getElem?_eq_none (by rw [h2, usA_size]; omega), Array.getElem?_eq_none (by rw [usA_size]; omega)]
  rw [hd] at h1
  exact ⟨_, hrun, h1, Kp.sets (S := fun j => j = g) g rfl _ _ _⟩

set_option maxRecDepth 100000 in
set_option maxHeartbeats 4000000 in
theorem uses_any (w : World) (q p t : Nat) (T : Nat → Option En) (h : Sp w q p t) (hT : Tm.Mem w t T) :
    Calls Tryd.prog 54 #[.pointer (some ⟨q, 0, none⟩)] w fun e w' => e = .returned (.agg (usA T)) ∧ Below w.heap.size w w' := by
  have hz := run_zeroA
  have hll := ents_len T 64
  have hb2 := ((Below.refl w.heap.size w).alloc (Nat.le_refl _) (.cells zA 115)).alloc (by simp) (.cells zA 115)
  have k1 : Blk ((w.alloc (.cells zA 115)).alloc (.cells zA 115)) w.heap.size zA 115 := (Blk.new w zA 115).kept (.alloc (fun _ => False) _ _) (fun e => e)
  have k2 := Blk.new (w.alloc (.cells zA 115)) zA 115
  rw [World.size_alloc] at k2
  obtain ⟨l, hl⟩ : ∃ l, ents T 64 = l := ⟨_, rfl⟩
  have hmem : ∀ k e, (k, e) ∈ l → k < 64 ∧ T k = some e := fun k e hm => ents_mem.1 (by rw [hl]; exact hm)
  have hall := tk_all hT.2
  rw [hl] at hall hll
  obtain ⟨L, hL⟩ : ∃ L, l.length = L := ⟨_, rfl⟩
  obtain ⟨W0, hW0⟩ : ∃ W0, (w.alloc (.cells zA 115)).alloc (.cells zA 115) = W0 := ⟨_, rfl⟩
  have hsz : W0.heap.size = w.heap.size + 2 := by rw [← hW0]; simp
  rw [hW0] at hb2 k1 k2
  have HLI : Hid (Calls Tryd.prog 23 #[.pointer (some ⟨q, 0, none⟩)] W0 fun e w' => ∃ r, e = .returned r ∧ Below W0.heap.size W0 w' ∧ Rd w' 58 r 6 L (mcells l)) := Lib.hid (by
    have := list_any W0 q p t T (Sp.below (w' := W0) h (hb2)) (hT.below hb2)
    rw [hl, hL] at this
    exact this.mono fun e w' ⟨h1, r, h2, h3⟩ => ⟨r, h2, h1, Rd.of_own h3⟩)
  rw [← hW0] at HLI
  have HZ := Lib.hid (And.intro hb2 (And.intro k1 (And.intro k2 (And.intro hsz hW0))))
  have HM := Lib.hid (And.intro hmem (And.intro hall hL))
  have hzs : zA.size = 192 := usA_size _
  rw [hL] at hll
  clear hb2 k1 k2 h hT hmem hall hL hW0 hsz hl
  have hzz : zA = usA (tk T l 0) := by rw [tk_zero]; rfl
  have HZZ := Lib.hid hzz
  clear hzz
  generalize zA = Z at *
  go_enter Tryd.func54, Tryd.ntmps54
  go_wp2_with (first | (go_at_call 23; (with_reducible refine HLI.out.mono ?_); rintro e w1 ⟨r, rfl, hb1, hr1⟩; obtain ⟨ad, cap, rfl⟩ : ∃ ad cap, r = .slice ad L cap := (by obtain ⟨_, ad, cap, h1, _⟩ := hr1; exact ⟨ad, cap, h1⟩); have H1 := Lib.hid (And.intro hb1 hr1); clear hb1 hr1))
  go_loopw [9] (fun i wr => ∃ j : Nat, j ≤ L ∧ i = .int .i64 (j : Int) ∧ Blk wr (w.heap.size + 1) (usA (tk T l j)) 115 ∧ Blk wr w.heap.size Z 115 ∧ Below w.heap.size w wr ∧ Rd wr 58 (.slice ad L cap) 6 L (mcells l)) (fun i _ => L - (intOf i).toNat)
  case atStart => exact ⟨0, Nat.zero_le _, rfl, by rw [← HZZ.out]; exact HZ.out.2.2.1.below (by rw [HZ.out.2.2.2.2] at H1; exact H1.out.1), HZ.out.2.1.below (by rw [HZ.out.2.2.2.2] at H1; exact H1.out.1), HZ.out.1.trans ((by rw [HZ.out.2.2.2.2] at H1; exact H1.out.1 : Below W0.heap.size W0 w1).mono (by rw [HZ.out.2.2.2.1]; omega)), H1.out.2⟩
  case round =>
    obtain ⟨j, hj, rfl, hob, hrb, hB, hrd⟩ := hrel
    by_cases hlt : j < L
    · have hlt2 : j < l.length := by rw [HM.out.2.2]; exact hlt
      obtain ⟨k, e, hke⟩ : ∃ k e, l[j] = (k, e) := ⟨_, _, rfl⟩
      obtain ⟨hk64, hTk⟩ := HM.out.1 k e (by rw [← hke]; exact List.getElem_mem _)
      have hst := tk_succ hlt2 hke hTk
      obtain ⟨gl, cap', hv, hc1, hc2, d0, d1, d2, d3, d4, d5⟩ := Rd.at_ (by rw [HM.out.2.2]; exact hrd) hlt2 hke
      obtain ⟨ef, ew, es, ec, ed⟩ := e
      dsimp only at d1 d2 d3 d4 d5
      rw [HM.out.2.2] at hv hc1
      cases hv
      have hjm : (j : Int) < (L : Int) := by omega
      obtain ⟨W, hW⟩ : ∃ W, wr.alloc (.cells #[.int .i64 (k : Int), .int .i64 ef, .bool ew, .bool es, .bool ec, .bool ed] 58) = W := ⟨_, rfl⟩
      have hbw : Below wr.heap.size wr W := by rw [← hW]; exact (Below.refl _ _).alloc (Nat.le_refl _) _
      obtain ⟨gm, hgm⟩ : ∃ gm, wr.heap.size = gm := ⟨_, rfl⟩
      have hme : Blk W gm #[.int .i64 (k : Int), .int .i64 ef, .bool ew, .bool es, .bool ec, .bool ed] 58 := by
        rw [← hW, ← hgm]
        exact Blk.new wr _ _
      have hob2 := hob.below hbw
      have hrb2 := hrb.below hbw
      have hrd2 := Rd.below hrd hbw
      have hBW := hB.trans (hbw.mono hB.size)
      obtain ⟨w', hrun, hob3, hk3⟩ := usA_set hob2 hk64 ⟨ef, ew, es, ec, ed⟩
      dsimp only at hrun
      have hrb3 := hrb2.kept hk3 (fun e => by omega)
      have hrd3 := Rd.kept hrd2 hk3 (fun g cs hg e => by subst e; exact (hg.ne hob2 (by decide)) rfl)
      have hB3 := hBW.trans (hk3.below (n := w.heap.size) hBW.size (fun j hj => by rw [hj]; omega))
      have HO := Lib.hid (And.intro (by rw [hst]; exact hob3 : Blk w' (w.heap.size + 1) (usA (tk T l (j + 1))) 115) (And.intro hrb3 (And.intro hB3 hrd3)))
      have i0 := hme.cell 0
      have i2 := hme.cell 2
      have i3 := hme.cell 3
      have hk0 : (k : Int) < 64 := by omega
      clear hob hrb hB hrd hst hbw hme hob2 hrb2 hrd2 hBW hob3 hk3 hrb3 hrd3 hB3 hTk hke hlt2 hk64
      go_wp2
      go_roundw
      case rel => exact ⟨j + 1, by omega, by go_num, HO.out.1, HO.out.2.1, HO.out.2.2.1, HO.out.2.2.2⟩
      case measure => simp [intOf]; omega
    · obtain rfl : j = L := by omega
      have hfin : tk T l j = T := by have := HM.out.2.1; rw [HM.out.2.2] at this; exact this
      rw [hfin] at hob
      have hzz : Z.size = 192 := hzs
      have hld := run_ldA wr (w.heap.size + 1) (usA T) _ hob (usA_size _)
      have hst := run_stA wr w.heap.size Z (usA T) _ hrb hzz (usA_size _) (usA_one _)
      have hob2 := Tc.Blk.setAll hrb (ds := usA T) (by rw [usA_size, hzz])
      have hkp := Kp.sets (S := fun j => j = w.heap.size) w.heap.size rfl (usA T).toList 0 wr
      have HBK := Lib.hid hob2
      have HSZ : Hid ((Tryd.prog.info? 115).map (·.size) = some (usA T).size) := Lib.hid (by rw [infoA2, usA_size])
      have HBF := Lib.hid (hB.trans (hkp.below hB.size (fun j hj => by rw [hj]; exact Nat.le_refl _)))
      clear hob hrb hB hob2 hkp hzs hfin hrd
      generalize hPP : usA T = PP at *
      have HPP := Lib.hid hPP
      clear hPP
      generalize wr.setCells w.heap.size 0 PP.toList = WW at *
      go_wp2
      refine bodyPost_ret (v := .agg PP) ?_ rfl ⟨by rw [HPP.out], HBF.out⟩
      exact results_cell_row rfl _ _ w.heap.size 115 PP (0, 0) _ rfl HBK.out Tryd.underlying115 rfl HSZ.out
end Go.Proofs.YtjoapeeljigjcaaDoor.Usa

/-
  comparing: the closure by which two spaces' pages are held against each other; a region's orders by an invariant.
-/
namespace Go.Proofs.YtjoapeeljigjcaaDoor.Usb
open Go Go.RowKit Go.Shelf Kit Bk
open Fm hiding Mem made_any len_any
open Fo Fr Fw Fx Fu Fq
open Tm hiding Mem
open Ts Tc Ti Tl Sp Sa Pz To My Pv Mp Mq Dr Cl Iv Iw Ix Wr Sy Rd Usa
set_option linter.unusedVariables false
attribute [local go_sem ↓] Usa.lda_wrap Usa.sta_wrap Usa.stu_wrap Usa.ldu_wrap

theorem count_set : ∀ (L : List Bool) (i : Nat), L[i]? = some false → (L.set i true).count false + 1 = L.count false
  | [], i, h => by simp at h
  | b :: r, 0, h => by
    simp at h
    subst h
    simp
  | b :: r, i + 1, h => by
    have := count_set r i (by simpa using h)
    rw [List.set_cons_succ, List.count_cons, List.count_cons]
    omega
/-- A region's orders, by what holds whichever operations have come up. -/
theorem wpAny_inv {P : Program} {ops : Array Oper} {Q : Exit → Act → World → Prop} {md : Region.Mode} (J : Array Bool → Act → World → Prop)
    (hdone : ∀ l a w, J l a w → Region.ready md ops l = [] → Q .normal a w)
    (hstep : ∀ l a w i, J l a w → i ∈ Region.ready md ops l → wpOp P ops Q i (J (l.setIfInBounds i true)) a w) :
    ∀ (fuel : Nat) (l : Array Bool) (a : Act) (w : World), l.toList.count false ≤ fuel → J l a w → wpAny P md ops Q fuel l a w
  | 0, l, a, w, hc, hJ => by
    have : Region.ready md ops l = [] := List.eq_nil_iff_forall_not_mem.2 fun i hi => by
      have h1 := (mem_ready.1 hi).1
      have h2 : l[i]? = some false := by
        unfold Array.getD at h1
        split at h1
        · rename_i h; rw [Array.getElem?_eq_getElem h]; exact congrArg some h1
        · cases h1
      have h3 := count_set l.toList i (by rw [Array.getElem?_toList]; exact h2)
      omega
    exact ⟨this, hdone l a w hJ this⟩
  | fuel + 1, l, a, w, hc, hJ => by
    refine ⟨fun h => hdone l a w hJ h, fun i hi => wpOp_mono (fun a' w' h => wpAny_inv J hdone hstep fuel _ a' w' ?_ h) (hstep l a w i hJ hi)⟩
    have h1 := (mem_ready.1 hi).1
    have h2 : l[i]? = some false := by
      unfold Array.getD at h1
      split at h1
      · rename_i h; rw [Array.getElem?_eq_getElem h]; exact congrArg some h1
      · cases h1
    have h3 := count_set l.toList i (by rw [Array.getElem?_toList]; exact h2)
    rw [Array.toList_setIfInBounds]
    omega

theorem ready_pre {md : Region.Mode} {ops : Array Oper} {l : Array Bool} {i : Nat} {o : Oper} (hr : i ∈ Region.ready md ops l) (ho : ops[i]? = some o) : l.getD i true = false ∧ o.after.toList.all (fun e => !Region.binds md e || l.getD e.on false) = true := by
  obtain ⟨h1, o', ho', h2⟩ := mem_ready.1 hr
  rw [ho] at ho'
  cases ho'
  refine ⟨h1, List.all_eq_true.2 fun e he => ?_⟩
  have he := Array.mem_toList_iff.1 he
  cases hb : Region.binds md e with
  | false => rfl
  | true => rw [h2 e he hb]; rfl
theorem ready_none {md : Region.Mode} {ops : Array Oper} {l : Array Bool} {i : Nat} {o : Oper} {b : Bool} (hr : Region.ready md ops l = []) (ho : ops[i]? = some o) (hb : l.getD i true = b) (hp : o.after.toList.all (fun e => l.getD e.on false) = true) : b = true := by
  cases b with
  | true => rfl
  | false =>
    have : i ∈ Region.ready md ops l := mem_ready.2 ⟨hb, o, ho, fun e he _ => List.all_eq_true.1 hp e (Array.mem_toList_iff.2 he)⟩
    rw [hr] at this
    cases this

/-- What lies there, whichever of the region's operations have come up. -/
def J (n₀ : Nat) (w0 : World) (b2 b3 : Nat) (ps pt : Value) (U1 U2 : Array Value) (l : Array Bool) (a : Act) (w : World) : Prop :=
  ∃ (l0 l1 l2 l3 l4 l5 l6 l7 : Bool) (x5 x6 x7 x8 x9 x10 : Value), l = #[l0, l1, l2, l3, l4, l5, l6, l7] ∧
    a = { tmps := #[ps, pt, .pointer (some ⟨b2, 0, none⟩), .pointer (some ⟨b3, 0, none⟩), .nilFunc, x5, x6, x7, x8, x9, x10, undef], defers := [] } ∧
    (l0 = true → x7 = ps) ∧ (l1 = true → x8 = .agg U1) ∧ (l2 = true → x9 = pt) ∧ (l3 = true → x10 = .agg U2) ∧
    (l4 = true → ∃ g, x5 = .pointer (some ⟨g, 0, none⟩) ∧ n₀ ≤ g ∧ Blk w g (if l6 then U1 else zA) 115 ∧ (l5 = true → ∃ g', x6 = .pointer (some ⟨g', 0, none⟩) ∧ g ≠ g')) ∧
    (l5 = true → ∃ g, x6 = .pointer (some ⟨g, 0, none⟩) ∧ n₀ ≤ g ∧ Blk w g (if l7 then U2 else zA) 115) ∧
    (l6 = true → l4 = true) ∧ (l7 = true → l5 = true) ∧ Below n₀ w0 w

abbrev CL (ga gb b2 b3 : Nat) : Value := .func (.func 55) #[] #[.pointer (some ⟨ga, 0, none⟩), .pointer (some ⟨gb, 0, none⟩), .pointer (some ⟨b2, 0, none⟩), .pointer (some ⟨b3, 0, none⟩)]

set_option maxRecDepth 100000 in
set_option maxHeartbeats 4000000 in
theorem comparing_any (w : World) (q p t q' p' t' : Nat) (T T' : Nat → Option En) (h : Sp w q p t) (hT : Tm.Mem w t T) (h' : Sp w q' p' t') (hT' : Tm.Mem w t' T') :
    Calls Tryd.prog 30 #[.pointer (some ⟨q, 0, none⟩), .pointer (some ⟨q', 0, none⟩)] w fun e w' => ∃ ga gb b2 b3, e = .returned (CL ga gb b2 b3) ∧
      Below w.heap.size w w' ∧ Blk w' ga (usA T) 115 ∧ Blk w' gb (usA T') 115 ∧ Blk w' b2 #[.pointer (some ⟨q, 0, none⟩)] 22 ∧ Blk w' b3 #[.pointer (some ⟨q', 0, none⟩)] 22 := by
  go_enter Tryd.func30, Tryd.ntmps30
  go_wp2
  refine wp_region_any (by kernel_rfl) ?_
  obtain ⟨W0, hW0⟩ : ∃ W0, (w.alloc (.cells #[.pointer (some ⟨q, 0, none⟩)] 22)).alloc (.cells #[.pointer (some ⟨q', 0, none⟩)] 22) = W0 := ⟨_, rfl⟩
  have hsz : W0.heap.size = w.heap.size + 2 := by rw [← hW0]; simp
  have k1 : Blk W0 w.heap.size #[.pointer (some ⟨q, 0, none⟩)] 22 := by rw [← hW0]; exact (Blk.new w _ _).kept (.alloc (fun _ => False) _ _) (fun e => e)
  have k2 : Blk W0 (w.heap.size + 1) #[.pointer (some ⟨q', 0, none⟩)] 22 := by
    rw [← hW0]
    have := Blk.new (w.alloc (.cells #[.pointer (some ⟨q, 0, none⟩)] 22)) #[.pointer (some ⟨q', 0, none⟩)] 22
    rwa [World.size_alloc] at this
  have hB0 : Below w.heap.size w W0 := by rw [← hW0]; exact ((Below.refl _ _).alloc (Nat.le_refl _) _).alloc (by simp) _
  rw [hW0]
  clear hW0
  have HC1 : Hid (∀ W, Below W0.heap.size W0 W → Calls Tryd.prog 54 #[.pointer (some ⟨q, 0, none⟩)] W fun e w' => e = .returned (.agg (usA T)) ∧ Below W.heap.size W w') := Lib.hid (fun W hb => uses_any W q p t T (Sp.below (Sp.below h hB0) hb) ((hT.below hB0).below hb))
  have HC2 : Hid (∀ W, Below W0.heap.size W0 W → Calls Tryd.prog 54 #[.pointer (some ⟨q', 0, none⟩)] W fun e w' => e = .returned (.agg (usA T')) ∧ Below W.heap.size W w') := Lib.hid (fun W hb => uses_any W q' p' t' T' (Sp.below (Sp.below h' hB0) hb) ((hT'.below hB0).below hb))
  refine wpAny_inv (J W0.heap.size W0 w.heap.size (w.heap.size + 1) (.pointer (some ⟨q, 0, none⟩)) (.pointer (some ⟨q', 0, none⟩)) (usA T) (usA T')) ?done ?step _ _ _ _ (by simp) ?start
  case start => exact ⟨false, false, false, false, false, false, false, false, undef, undef, undef, undef, undef, undef, rfl, rfl, by simp, by simp, by simp, by simp, by simp, by simp, by simp, by simp, (Below.refl _ _).drew⟩
  case done =>
    rintro l a wl ⟨l0, l1, l2, l3, l4, l5, l6, l7, x5, x6, x7, x8, x9, x10, rfl, rfl, h0, h1, h2, h3, h4, h5, h6, h7, hb⟩ hr
    obtain rfl := ready_none (i := 0) (b := l0) hr rfl rfl rfl
    obtain rfl := ready_none (i := 1) (b := l1) hr rfl rfl rfl
    obtain rfl := ready_none (i := 2) (b := l2) hr rfl rfl rfl
    obtain rfl := ready_none (i := 3) (b := l3) hr rfl rfl rfl
    obtain rfl := ready_none (i := 4) (b := l4) hr rfl rfl rfl
    obtain rfl := ready_none (i := 5) (b := l5) hr rfl rfl rfl
    obtain rfl := ready_none (i := 6) (b := l6) hr rfl rfl rfl
    obtain rfl := ready_none (i := 7) (b := l7) hr rfl rfl rfl
    clear hr
    obtain ⟨ga, rfl, n5, a5, -⟩ := h4 rfl
    obtain ⟨gb, rfl, n6, a6⟩ := h5 rfl
    rw [if_pos rfl] at a5 a6
    obtain rfl := h0 rfl
    obtain rfl := h1 rfl
    obtain rfl := h2 rfl
    obtain rfl := h3 rfl
    have HX := Lib.hid (And.intro (hB0.trans (hb.mono (by rw [hsz]; omega))) (And.intro a5 (And.intro a6 (And.intro (k1.below hb) (k2.below hb)))))
    clear h0 h1 h2 h3 h4 h5 h6 h7 n5 n6 a5 a6 hb h hT h' hT' k1 k2 hB0 hsz HC1 HC2
    go_wp2
    go_ret
    exact ⟨_, _, _, _, rfl, HX.out⟩
  case step =>
    rintro l a wl i ⟨l0, l1, l2, l3, l4, l5, l6, l7, x5, x6, x7, x8, x9, x10, rfl, rfl, h0, h1, h2, h3, h4, h5, h6, h7, hb⟩ hr
    have hi8 : i < 8 := by
      obtain ⟨hi, o, ho, hpre⟩ := mem_ready.1 hr
      rcases Nat.lt_or_ge i 8 with h | h
      · exact h
      · rw [Array.getElem?_eq_none (by simpa using h)] at ho; cases ho
    match i, hi8 with
    | 0, _ =>
      clear hr
      have c := (k1.below hb).cell 0
      refine wpOp_step rfl (fun K hK => ?_)
      go_simp
      exact hK _ _ ⟨true, l1, l2, l3, l4, l5, l6, l7, x5, x6, _, x8, x9, x10, rfl, rfl, fun _ => rfl, h1, h2, h3, h4, h5, h6, h7, hb⟩
    | 1, _ =>
      have hp := (ready_pre hr rfl).2
      simp [Region.binds] at hp
      clear hr
      obtain rfl := h0 hp
      refine wpOp_step rfl (fun K hK => ?_)
      have HKK := Lib.hid hK
      clear hK
      go_simp
      go_wp2_with (first | (go_at_call 54; (with_reducible refine (HC1.out _ hb).mono ?_); rintro e w5 ⟨rfl, hb5⟩))
      exact HKK.out _ _ ⟨l0, true, l2, l3, l4, l5, l6, l7, x5, x6, _, _, x9, x10, rfl, rfl, fun _ => rfl, fun _ => rfl, h2, h3, fun e => let ⟨g, a, b, c, d⟩ := h4 e; ⟨g, a, b, c.below hb5, d⟩, fun e => let ⟨g, a, b, c⟩ := h5 e; ⟨g, a, b, c.below hb5⟩, h6, h7, hb.trans (hb5.mono hb.size)⟩
    | 2, _ =>
      clear hr
      have c := (k2.below hb).cell 0
      refine wpOp_step rfl (fun K hK => ?_)
      go_simp
      exact hK _ _ ⟨l0, l1, true, l3, l4, l5, l6, l7, x5, x6, x7, x8, _, x10, rfl, rfl, h0, h1, fun _ => rfl, h3, h4, h5, h6, h7, hb⟩
    | 3, _ =>
      have hp := (ready_pre hr rfl).2
      simp [Region.binds] at hp
      clear hr
      obtain rfl := h2 hp.1
      refine wpOp_step rfl (fun K hK => ?_)
      have HKK := Lib.hid hK
      clear hK
      go_simp
      go_wp2_with (first | (go_at_call 54; (with_reducible refine (HC2.out _ hb).mono ?_); rintro e w5 ⟨rfl, hb5⟩))
      exact HKK.out _ _ ⟨l0, l1, l2, true, l4, l5, l6, l7, x5, x6, x7, _, _, _, rfl, rfl, h0, fun _ => rfl, fun _ => rfl, fun _ => rfl, fun e => let ⟨g, a, b, c, d⟩ := h4 e; ⟨g, a, b, c.below hb5, d⟩, fun e => let ⟨g, a, b, c⟩ := h5 e; ⟨g, a, b, c.below hb5⟩, h6, h7, hb.trans (hb5.mono hb.size)⟩
    | 4, _ =>
      have hl := (ready_pre hr rfl).1
      have hl4 : l4 = false := hl
      clear hr
      have hz := run_zeroA
      have hl6 : l6 = false := by cases e : l6 with | false => rfl | true => rw [h6 e] at hl4; cases hl4
      subst hl6
      have hba := (Below.refl wl.heap.size wl).alloc (Nat.le_refl _) (.cells zA 115)
      have hbk := Blk.new wl zA 115
      refine wpOp_step rfl (fun K hK => ?_)
      go_simp
      exact hK _ _ ⟨l0, l1, l2, l3, true, l5, false, l7, _, x6, x7, x8, x9, x10, rfl, rfl, h0, h1, h2, h3, fun _ => ⟨_, rfl, hb.size, hbk, fun e => let ⟨g, a, b, c⟩ := h5 e; ⟨g, a, fun e => by have := c.lt; omega⟩⟩, fun e => let ⟨g, a, b, c⟩ := h5 e; ⟨g, a, b, c.below hba⟩, fun _ => rfl, h7, hb.trans (hba.mono hb.size)⟩
    | 5, _ =>
      have hl := (ready_pre hr rfl).1
      have hl5 : l5 = false := hl
      clear hr
      have hz := run_zeroA
      have hl7 : l7 = false := by cases e : l7 with | false => rfl | true => rw [h7 e] at hl5; cases hl5
      subst hl7
      have hba := (Below.refl wl.heap.size wl).alloc (Nat.le_refl _) (.cells zA 115)
      have hbk := Blk.new wl zA 115
      refine wpOp_step rfl (fun K hK => ?_)
      go_simp
      exact hK _ _ ⟨l0, l1, l2, l3, l4, true, l6, false, x5, _, x7, x8, x9, x10, rfl, rfl, h0, h1, h2, h3, fun e => let ⟨g, a, b, c, d⟩ := h4 e; ⟨g, a, b, c.below hba, fun _ => ⟨_, rfl, fun e => by have := c.lt; omega⟩⟩, fun _ => ⟨_, rfl, hb.size, hbk⟩, h6, fun _ => rfl, hb.trans (hba.mono hb.size)⟩
    | 6, _ =>
      have hl := (ready_pre hr rfl).1
      have hl6 : l6 = false := hl
      subst hl6
      have hp := (ready_pre hr rfl).2
      simp [Region.binds] at hp
      clear hr
      have e4 : l4 = true := by simp [hp]
      have e5 : l5 = true := by simp [hp]
      have e1 : l1 = true := by simp [hp]
      clear hp
      subst e4 e5 e1
      obtain ⟨ga, rfl, n5, a5, a7⟩ := h4 rfl
      obtain ⟨gb, rfl, n6, a6⟩ := h5 rfl
      obtain ⟨_, e, hne⟩ := a7 rfl
      cases e
      obtain rfl := h1 rfl
      rw [if_neg (by decide)] at a5
      have hst := Usa.run_stA wl ga zA (usA T) _ a5 (usA_size _) (usA_size _) (usA_one _)
      have hk := Kp.sets (S := fun j => j = ga) ga rfl (usA T).toList 0 wl
      have b5 := Tc.Blk.setAll a5 (ds := usA T) (by rw [usA_size]; exact (usA_size _).symm)
      have b6 := a6.kept hk (fun e => hne e.symm)
      have hbb := hk.below (n := W0.heap.size) hb.size (fun j hj => by rw [hj]; exact n5)
      have HK := Lib.hid (And.intro b5 (And.intro b6 (hb.trans hbb)))
      clear h4 h5 a5 a6 a7 hk b5 b6 hbb hb HC1 HC2
      refine wpOp_step rfl (fun K hK => ?_)
      go_simp
      exact hK _ _ ⟨l0, true, l2, l3, true, true, true, l7, _, _, x7, _, x9, x10, rfl, rfl, h0, h1, h2, h3, fun _ => ⟨_, rfl, n5, HK.out.1, fun _ => ⟨_, rfl, hne⟩⟩, fun _ => ⟨_, rfl, n6, HK.out.2.1⟩, fun _ => rfl, fun _ => rfl, HK.out.2.2⟩
    | 7, _ =>
      have hl := (ready_pre hr rfl).1
      have hl7 : l7 = false := hl
      subst hl7
      have hp := (ready_pre hr rfl).2
      simp [Region.binds] at hp
      clear hr
      have e4 : l4 = true := by simp [hp]
      have e5 : l5 = true := by simp [hp]
      have e3 : l3 = true := by simp [hp]
      clear hp
      subst e4 e5 e3
      obtain ⟨ga, rfl, n5, a5, a7⟩ := h4 rfl
      obtain ⟨gb, rfl, n6, a6⟩ := h5 rfl
      obtain ⟨_, e, hne⟩ := a7 rfl
      cases e
      obtain rfl := h3 rfl
      rw [if_neg (by decide)] at a6
      have hst := Usa.run_stA wl gb zA (usA T') _ a6 (usA_size _) (usA_size _) (usA_one _)
      have hk := Kp.sets (S := fun j => j = gb) gb rfl (usA T').toList 0 wl
      have b6 := Tc.Blk.setAll a6 (ds := usA T') (by rw [usA_size]; exact (usA_size _).symm)
      have b5 := a5.kept hk (fun e => hne e)
      have hbb := hk.below (n := W0.heap.size) hb.size (fun j hj => by rw [hj]; exact n6)
      have HK := Lib.hid (And.intro b5 (And.intro b6 (hb.trans hbb)))
      clear h4 h5 a5 a6 a7 hk b5 b6 hbb hb HC1 HC2
      refine wpOp_step rfl (fun K hK => ?_)
      go_simp
      exact hK _ _ ⟨l0, l1, l2, true, true, true, l6, true, _, _, x7, x8, x9, _, rfl, rfl, h0, h1, h2, h3, fun _ => ⟨_, rfl, n5, HK.out.1, fun _ => ⟨_, rfl, hne⟩⟩, fun _ => ⟨_, rfl, n6, HK.out.2.1⟩, fun _ => rfl, fun _ => rfl, HK.out.2.2⟩
end Go.Proofs.YtjoapeeljigjcaaDoor.Usb

/-
  Whether two spaces are alike by a page: the closure that comparing answers.
-/
namespace Go.Proofs.YtjoapeeljigjcaaDoor.Usc
open Go Go.RowKit Go.Shelf Kit Bk
open Fm hiding Mem made_any len_any
open Fo Fr Fw Fx Fu Fq
open Tm hiding Mem
open Ts Tc Ti Tl Sp Sa Pz To My Pv Mp Mq Dr Cl Iv Iw Ix Wr Sy Rd Usa Usb
set_option linter.unusedVariables false
attribute [local go_sem ↓] Usa.lda_wrap Usa.sta_wrap Usa.stu_wrap Usa.ldu_wrap

/-- A page's bytes. -/
def bts (f : Nat → Nat) (m : Nat) : List Nat := (List.range m).map f
theorem bts_len (f : Nat → Nat) (m : Nat) : (bts f m).length = m := by simp [bts]
theorem u8f_bts (f : Nat → Nat) (m : Nat) : u8f f m = Bytes.u8s (bts f m) := by simp [u8f, Bytes.u8s, bts, Function.comp_def]
def pgL (B : Nat → Nat → Nat) (x : Option En) : List Nat := match x with
  | some e => bts (B e.f.toNat) 64
  | none => []
def uq (x y : Option En) : Bool := x.isSome == y.isSome && ((x.getD z0).w == (y.getD z0).w && (x.getD z0).s == (y.getD z0).s)
def uv (x : Option En) : Value := .agg #[.bool x.isSome, .bool (x.getD z0).w, .bool (x.getD z0).s]
/-- Two of these held against each other. -/
def eqU (x y : Value) : Sem Value := binOp .eql 114 x y
theorem equ_wrap (x y : Value) : binOp .eql 114 x y = eqU x y := rfl
attribute [local go_sem ↓] equ_wrap
theorem eqGuard_uv (o o' : Operand) (x y : Option En) (w : World) : (eqGuard .eql 114 o o' (uv x) (uv y)).run Tryd.prog w = .ok () w := run_eqGuard_agg w .eql 114 o o' _ _ (by kernel_rfl)
attribute [local go_sem ↓] eqGuard_uv
theorem use_lits (a b c : Bool) : Tryd.prog.keyLits 3 114 [.bool a, .bool b, .bool c] = some [.bool a, .bool b, .bool c] := by
  have hc : Tryd.prog.cellsOf 114 = 3 := by kernel_rfl
  have hc1 : Tryd.prog.cellsOf 4 = 1 := by kernel_rfl
  have hi : ∀ a : Bool, Tryd.prog.keyLits 2 4 [.bool a] = some [.bool a] := fun a => by
    rw [Program.keyLits.eq_def]
    simp only [Tryd.underlying4]
  rw [Program.keyLits.eq_def]
  simp only [Tryd.underlying114]
  rw [if_pos ⟨by rw [hc]; rfl, by kernel_rfl⟩]
  simp [hc1, hi]
theorem run_eqU (x y : Option En) (w : World) : (eqU (uv x) (uv y)).run Tryd.prog w = .ok (.bool (uq x y)) w := by
  have hf : ∀ a b c : Bool, (Value.agg #[.bool a, .bool b, .bool c]).formed Tryd.prog 114 = true := fun a b c => by
    unfold Value.formed
    rw [Tryd.underlying114]
    kernel_rfl
  obtain ⟨r, h1, h2⟩ := run_equalIn_deep (P := Tryd.prog) 9997 3 114 (by kernel_rfl) w 3 3 (uv x) (uv y) _ _ (hf _ _ _) (hf _ _ _) (use_lits _ _ _) (use_lits _ _ _)
  unfold eqU
  rw [show binOp .eql 114 (uv x) (uv y) = binOp .eql 114 (.agg #[.bool x.isSome, .bool (x.getD z0).w, .bool (x.getD z0).s]) (.agg #[.bool y.isSome, .bool (y.getD z0).w, .bool (y.getD z0).s]) from rfl, run_eql_struct]
  rw [show (Op.equalIn 10000 114 (.agg #[.bool x.isSome, .bool (x.getD z0).w, .bool (x.getD z0).s]) (.agg #[.bool y.isSome, .bool (y.getD z0).w, .bool (y.getD z0).s])).run Tryd.prog w = .ok r w from h1]
  have : r = uq x y := by
    rw [Bool.eq_iff_iff, h2]
    unfold uq
    simp
  rw [this]
  rfl
theorem run_ldU {w : World} {g : Nat} {F : Nat → Option En} (h : Blk w g (usA F) 115) {k : Nat} (hk : k < 64) : (ldU (.pointer (some ⟨g, k * 3, none⟩))).run Tryd.prog w = .ok (uv (F k)) w := by
  unfold ldU uv
  have := run_loadAt_mid (P := Tryd.prog) w g (k * 3) 114 [.bool (F k).isSome, .bool ((F k).getD z0).w, .bool ((F k).getD z0).s] _ (fun j v hj => by
    have hj3 : j < 3 := (List.getElem?_eq_some_iff.1 hj).1
    rw [h.cell, usA_at _ _ (by omega), show (k * 3 + j) / 3 = k by omega, show (k * 3 + j) % 3 = j by omega, ← hj]
    rcases j with _ | _ | _ | j
    · rfl
    · rfl
    · rfl
    · omega) Tryd.underlying114 rfl (by rw [infoU2]; rfl)
  simpa using this
/-- Texts' bytes held against each other. -/
theorem bytes_eq {l l' : List Nat} (h : ∀ x ∈ l, x < 256) (h' : ∀ x ∈ l', x < 256) : (Lib.bytesOf (l.map fun (x : Nat) => (x : Int)) == Lib.bytesOf (l'.map fun (x : Nat) => (x : Int))) = decide (l = l') := by
  have inj : ∀ l l' : List Nat, (∀ x ∈ l, x < 256) → (∀ x ∈ l', x < 256) → (l.map fun x => UInt8.ofNat x) = (l'.map fun x => UInt8.ofNat x) → l = l' := fun l => by
    induction l with
    | nil => intro l' _ _ h; cases l' with | nil => rfl | cons _ _ => cases h
    | cons a r ih =>
      intro l' h1 h2 h
      cases l' with
      | nil => cases h
      | cons b s =>
        simp only [List.map_cons, List.cons.injEq] at h
        have e : a = b := by
          have := congrArg UInt8.toNat h.1
          have ha := h1 a (by simp)
          have hb := h2 b (by simp)
          simp at this
          omega
        rw [e, ih s (fun x hx => h1 x (by simp [hx])) (fun x hx => h2 x (by simp [hx])) h.2]
  unfold Lib.bytesOf
  rw [List.map_map, List.map_map]
  rw [Bool.eq_iff_iff, beq_iff_eq, decide_eq_true_eq]
  constructor
  · intro e
    refine inj l l' h h' ?_
    simpa [Function.comp_def] using e
  · rintro rfl
    rfl
/-- Are they alike by a page? -/
def sm (B B' : Nat → Nat → Nat) (x y : Option En) : Bool := uq x y && decide (pgL B x = pgL B' y)
theorem pgL_lt {B : Nat → Nat → Nat} (h : ∀ k i, B k i < 256) (x : Option En) : ∀ y ∈ pgL B x, y < 256 := fun y hy => by
  unfold pgL at hy
  split at hy
  · obtain ⟨i, _, rfl⟩ := List.mem_map.1 hy
    exact h _ _
  · cases hy
/-- Page, of whatever page. -/
theorem page_slc (w : World) (q p t b n : Nat) (T : Nat → Option En) (R : Nat → Nat) (B : Nat → Nat → Nat) (h : Sp w q p t) (hF : Fm.Mem w p b n R B) (hT : Tm.Mem w t T) (hfit : Fit n R T) (k : Nat) :
    Calls Tryd.prog 26 #[.pointer (some ⟨q, 0, none⟩), .int .i64 (k : Int)] w fun e w' => ∃ r, e = .returned r ∧ Below w.heap.size w w' ∧ Slc .u8 w' r (pgL B (T k)) := by
  cases hx : T k with
  | none =>
    refine (Nw.page_none w q p t T h hT k hx).mono ?_
    rintro e w' ⟨hb, rfl⟩
    exact ⟨_, rfl, hb, none, 0, rfl, Nat.le_refl _, Nat.zero_le _, .inl rfl⟩
  | some x =>
    obtain ⟨f, e1, e2, e3⟩ := hfit.rng k x hx
    refine (Nw.page_some w q p t b n T R B h hF hT k x hx f e1 e2 e3).mono ?_
    rintro e w' ⟨hb, r, rfl, ho⟩
    refine ⟨_, rfl, hb, ?_⟩
    rw [u8f_bts] at ho
    show Slc .u8 w' r (bts (B x.f.toNat) 64)
    rw [show x.f.toNat = f by omega]
    exact BackNums.own_slc8 ho

/-- What the closure holds. -/
structure Cmp (w : World) (q p t b n : Nat) (R : Nat → Nat) (B : Nat → Nat → Nat) (T : Nat → Option En) (ga b2 : Nat) : Prop where
  sp : Sp w q p t
  fm : Fm.Mem w p b n R B
  tm : Tm.Mem w t T
  fit : Fit n R T
  us : Blk w ga (usA T) 115
  bx : Blk w b2 #[.pointer (some ⟨q, 0, none⟩)] 22
theorem Cmp.below {w w' : World} {q p t b n : Nat} {R : Nat → Nat} {B : Nat → Nat → Nat} {T : Nat → Option En} {ga b2 : Nat} (h : Cmp w q p t b n R B T ga b2) (hb : Below w.heap.size w w') : Cmp w' q p t b n R B T ga b2 :=
  ⟨Sp.below h.sp hb, h.fm.below hb, h.tm.below hb, h.fit, h.us.below hb, h.bx.below hb⟩

set_option maxRecDepth 100000 in
set_option maxHeartbeats 4000000 in
theorem cmp_any (w : World) (q p t b n q' p' t' b' n' : Nat) (R R' : Nat → Nat) (B B' : Nat → Nat → Nat) (T T' : Nat → Option En) (ga gb b2 b3 : Nat) (h : Cmp w q p t b n R B T ga b2) (h' : Cmp w q' p' t' b' n' R' B' T' gb b3) (k : Nat) (hk : k < 64) :
    Calls Tryd.prog 55 #[.int .i64 (k : Int), .pointer (some ⟨ga, 0, none⟩), .pointer (some ⟨gb, 0, none⟩), .pointer (some ⟨b2, 0, none⟩), .pointer (some ⟨b3, 0, none⟩)] w fun e w' => e = .returned (.bool (sm B B' (T k) (T' k))) ∧ Below w.heap.size w w' := by
  have e1 := run_ldU h.us hk
  have e2 := run_ldU h'.us hk
  have eq := fun W => run_eqU (T k) (T' k) W
  have hk0 : (k : Int) < 64 := by omega
  by_cases hu : uq (T k) (T' k) = true
  case neg =>
    have hu : uq (T k) (T' k) = false := by simpa using hu
    rw [show sm B B' (T k) (T' k) = false by unfold sm; rw [hu]; rfl]
    rw [hu] at eq
    have E1 : ∀ nq, (ldU (.pointer (some ⟨ga, k * 3, none⟩))).run Tryd.prog (w.drewN nq) = .ok (uv (T k)) (w.drewN nq) := fun nq => run_ldU (h.us.below (below_drewN (Below.refl w.heap.size w) nq)) hk
    have E2 : ∀ nq, (ldU (.pointer (some ⟨gb, k * 3, none⟩))).run Tryd.prog (w.drewN nq) = .ok (uv (T' k)) (w.drewN nq) := fun nq => run_ldU (h'.us.below (below_drewN (Below.refl w.heap.size w) nq)) hk
    clear h h' hu e1 e2
    generalize T k = y1 at *
    generalize T' k = y2 at *
    go_enter Tryd.func55, Tryd.ntmps55
    go_wp2
    go_quiet (fail)
    go_wp2
    go_ret
    exact ⟨rfl, below_drewN (Below.refl w.heap.size w) _⟩
  case pos =>
    have hd : ∀ W, Below w.heap.size w W → Slc .u8 W (.slice none 0 0) [] := fun W _ => ⟨none, 0, rfl, Nat.le_refl _, Nat.zero_le _, .inl rfl⟩
    have HP1 : Hid (∀ W, Below w.heap.size w W → Calls Tryd.prog 26 #[.pointer (some ⟨q, 0, none⟩), .int .i64 (k : Int)] W fun e w' => ∃ r, e = .returned r ∧ Below W.heap.size W w' ∧ Slc .u8 w' r (pgL B (T k))) := Lib.hid (fun W hb => have g := h.below hb; page_slc W q p t b n T R B g.sp g.fm g.tm g.fit k)
    have HP2 : Hid (∀ W, Below w.heap.size w W → Calls Tryd.prog 26 #[.pointer (some ⟨q', 0, none⟩), .int .i64 (k : Int)] W fun e w' => ∃ r, e = .returned r ∧ Below W.heap.size W w' ∧ Slc .u8 w' r (pgL B' (T' k))) := Lib.hid (fun W hb => have g := h'.below hb; page_slc W q' p' t' b' n' T' R' B' g.sp g.fm g.tm g.fit k)
    have HEQ : Hid (∀ W r r', Slc .u8 W r (pgL B (T k)) → Slc .u8 W r' (pgL B' (T' k)) → Calls Tryd.prog 56 #[r, r'] W fun e w' => e = .returned (.bool (decide (pgL B (T k) = pgL B' (T' k)))) ∧ w' = W) := Lib.hid (fun W r r' s1 s2 => by
      have := Shl.bytes_Equal r r' _ _ W (BackNums.slc_string s1) (BackNums.slc_string s2)
      rw [bytes_eq (pgL_lt h.fm.u8 _) (pgL_lt h'.fm.u8 _)] at this
      exact this)
    have HG : Hid (∀ W, Below w.heap.size w W → (ldU (.pointer (some ⟨ga, k * 3, none⟩))).run Tryd.prog W = .ok (uv (T k)) W ∧ (ldU (.pointer (some ⟨gb, k * 3, none⟩))).run Tryd.prog W = .ok (uv (T' k)) W ∧ W.cell? ⟨b2, 0, none⟩ = some (.pointer (some ⟨q, 0, none⟩)) ∧ W.cell? ⟨b3, 0, none⟩ = some (.pointer (some ⟨q', 0, none⟩))) := Lib.hid (fun W hb => ⟨run_ldU (h.us.below hb) hk, run_ldU (h'.us.below hb) hk, (h.bx.below hb).cell 0, (h'.bx.below hb).cell 0⟩)
    have HB0 : Hid (Below w.heap.size w w.drew) := Lib.hid (Below.refl _ _).drew
    have hs : sm B B' (T k) (T' k) = decide (pgL B (T k) = pgL B' (T' k)) := by unfold sm; rw [hu]; rfl
    rw [hs]
    rw [hu] at eq
    clear h h' hu e1 e2 hs hd
    generalize T k = y1 at *
    generalize T' k = y2 at *
    generalize pgL B y1 = l1 at *
    generalize pgL B' y2 = l2 at *
    obtain ⟨z, hz⟩ : ∃ z, decide (l1 = l2) = z := ⟨_, rfl⟩
    rw [hz] at HEQ ⊢
    clear hz
    go_enter Tryd.func55, Tryd.ntmps55
    go_wp2
    go_region_held (fun X => (ldU (.pointer (some ⟨ga, k * 3, none⟩))).run Tryd.prog X = .ok (uv y1) X ∧ (ldU (.pointer (some ⟨gb, k * 3, none⟩))).run Tryd.prog X = .ok (uv y2) X ∧ X.cell? ⟨b2, 0, none⟩ = some (.pointer (some ⟨q, 0, none⟩)) ∧ X.cell? ⟨b3, 0, none⟩ = some (.pointer (some ⟨q', 0, none⟩)))
      (first | exact HG.out _ HB0.out | exact HG.out _ HB1.out.1 | exact HG.out _ HB2.out.1)
      (first
        | (go_at_call 56; (with_reducible refine (HEQ.out _ _ _ (HB1.out.2.below HB2.out.2.2) HB2.out.2.1).mono ?_); rintro e w7 ⟨rfl, rfl⟩)
        | (go_at_call 26; (with_reducible refine (HP1.out _ HB0.out).mono ?_); rintro e w5 ⟨r1, rfl, hb5, hs5⟩; have HB1 := Lib.hid (And.intro (HB0.out.trans (hb5.mono HB0.out.size)) hs5); clear hb5 hs5)
        | (go_at_call 26; (with_reducible refine (HP2.out _ HB1.out.1).mono ?_); rintro e w6 ⟨r2, rfl, hb6, hs6⟩; have HB2 := Lib.hid (And.intro (HB1.out.1.trans (hb6.mono HB1.out.1.size)) (And.intro hs6 hb6)); clear hb6 hs6))
    go_wp2
    go_ret
    exact ⟨rfl, HB2.out.1⟩
end Go.Proofs.YtjoapeeljigjcaaDoor.Usc

/-
  First and Alike: the first page by which two spaces are not alike.
-/
namespace Go.Proofs.YtjoapeeljigjcaaDoor.Usd
open Go Go.RowKit Go.Shelf Kit Bk
open Fm hiding Mem made_any len_any
open Fo Fr Fw Fx Fu Fq
open Tm hiding Mem
open Ts Tc Ti Tl Sp Sa Pz To My Pv Mp Mq Dr Cl Iv Iw Ix Wr Sy Rd Usa Usb Usc
set_option linter.unusedVariables false

/-- A space over its memory. -/
structure Spc (w : World) (q p t b n : Nat) (R : Nat → Nat) (B : Nat → Nat → Nat) (T : Nat → Option En) : Prop where
  sp : Sp w q p t
  fm : Fm.Mem w p b n R B
  tm : Tm.Mem w t T
  fit : Fit n R T
theorem Spc.below {w w' : World} {q p t b n : Nat} {R : Nat → Nat} {B : Nat → Nat → Nat} {T : Nat → Option En} (h : Spc w q p t b n R B T) (hb : Below w.heap.size w w') : Spc w' q p t b n R B T :=
  ⟨Sp.below h.sp hb, h.fm.below hb, h.tm.below hb, h.fit⟩

/-- What First answers, where k pages are alike, and the next one is not (64: all are). -/
def fsr (k : Nat) : Int := if k < 64 then (k : Int) else -1

set_option maxRecDepth 100000 in
set_option maxHeartbeats 4000000 in
theorem first_any (w : World) (q p t b n q' p' t' b' n' : Nat) (R R' : Nat → Nat) (B B' : Nat → Nat → Nat) (T T' : Nat → Option En) (h : Spc w q p t b n R B T) (h' : Spc w q' p' t' b' n' R' B' T') (k : Nat) (hk : k ≤ 64)
    (hall : ∀ j, j < k → sm B B' (T j) (T' j) = true) (hno : k < 64 → sm B B' (T k) (T' k) = false) :
    Calls Tryd.prog 14 #[.pointer (some ⟨q, 0, none⟩), .pointer (some ⟨q', 0, none⟩)] w fun e w' => e = .returned (.int .i64 (fsr k)) ∧ Below w.heap.size w w' := by
  have HC := Lib.hid (comparing_any w q p t q' p' t' T T' h.sp h.tm h'.sp h'.tm)
  have H := Lib.hid (And.intro h h')
  have HA := Lib.hid (And.intro hall hno)
  clear h h' hall hno
  go_enter Tryd.func14, Tryd.ntmps14
  go_wp2_with (first | (go_at_call 30; (with_reducible refine HC.out.mono ?_); rintro e w1 ⟨ga, gb, b2, b3, rfl, hb, c1, c2, c3, c4⟩; have HB := Lib.hid hb; have HCL : Hid (∀ W, Below w1.heap.size w1 W → ∀ j : Nat, j < 64 → Calls Tryd.prog 55 #[.int .i64 (j : Int), .pointer (some ⟨ga, 0, none⟩), .pointer (some ⟨gb, 0, none⟩), .pointer (some ⟨b2, 0, none⟩), .pointer (some ⟨b3, 0, none⟩)] W fun e w' => e = .returned (.bool (sm B B' (T j) (T' j))) ∧ Below W.heap.size W w') := Lib.hid (fun W hW j hj => cmp_any W q p t b n q' p' t' b' n' R R' B B' T T' ga gb b2 b3 ((⟨(H.out.1.below hb).sp, (H.out.1.below hb).fm, (H.out.1.below hb).tm, H.out.1.fit, c1, c3⟩ : Cmp w1 q p t b n R B T ga b2).below hW) ((⟨(H.out.2.below hb).sp, (H.out.2.below hb).fm, (H.out.2.below hb).tm, H.out.2.fit, c2, c4⟩ : Cmp w1 q' p' t' b' n' R' B' T' gb b3).below hW) j hj); clear hb c1 c2 c3 c4))
  go_loopw [10] (fun i wr => ∃ j : Nat, j ≤ k ∧ i = .int .i64 (j : Int) ∧ Below w1.heap.size w1 wr) (fun i _ => 64 - (intOf i).toNat)
  case atStart => exact ⟨0, Nat.zero_le _, rfl, Below.refl _ _⟩
  case round =>
    obtain ⟨j, hj, rfl, hB⟩ := hrel
    by_cases hlt : j < k
    · have hj64 : (j : Int) < 64 := by omega
      have HR := Lib.hid (HCL.out wr hB j (by omega))
      rw [HA.out.1 j hlt] at HR
      have HB2 := Lib.hid hB
      clear hB
      go_wp2_with (first | (go_at_call 55; (with_reducible refine HR.out.mono ?_); rintro e w5 ⟨rfl, hb5⟩; have HB5 := Lib.hid (HB2.out.trans (hb5.mono HB2.out.size)); clear hb5))
      go_roundw
      case rel => exact ⟨j + 1, by omega, by go_num, HB5.out⟩
      case measure => simp [intOf]; omega
    · obtain rfl : j = k := by omega
      by_cases h64 : j < 64
      · have hj64 : (j : Int) < 64 := by omega
        have HR := Lib.hid (HCL.out wr hB j (by omega))
        rw [HA.out.2 h64] at HR
        have HB2 := Lib.hid hB
        have hf : fsr j = (j : Int) := if_pos h64
        clear hB
        go_wp2_with (first | (go_at_call 55; (with_reducible refine HR.out.mono ?_); rintro e w5 ⟨rfl, hb5⟩; have HB5 := Lib.hid (HB2.out.trans (hb5.mono HB2.out.size)); clear hb5))
        go_ret
        exact ⟨by rw [hf]; rfl, HB.out.trans (HB5.out.mono HB.out.size)⟩
      · obtain rfl : j = 64 := by omega
        go_wp2
        go_ret
        exact ⟨rfl, HB.out.trans (hB.mono HB.out.size)⟩

/-- Two entries that count alike. -/
theorem sm_iff {B B' : Nat → Nat → Nat} {x y : Option En} : sm B B' x y = true ↔ (x = none ∧ y = none) ∨ ∃ e f, x = some e ∧ y = some f ∧ e.w = f.w ∧ e.s = f.s ∧ ∀ i, i < 64 → B e.f.toNat i = B' f.f.toNat i := by
  have hb : ∀ f g : Nat → Nat, bts f 64 = bts g 64 ↔ ∀ i, i < 64 → f i = g i := fun f g => by
    unfold bts
    constructor
    · intro h i hi
      have := congrArg (fun l => l[i]?) h
      simpa [hi] using this
    · intro h
      exact List.map_congr_left fun i hi => h i (List.mem_range.1 hi)
  unfold sm uq
  cases x with
  | none =>
    cases y with
    | none => simp [pgL]
    | some f => simp
  | some e =>
    cases y with
    | none => simp
    | some f =>
      simp only [Option.isSome_some, Option.getD_some, beq_self_eq_true, Bool.true_and, Bool.and_eq_true, beq_iff_eq, decide_eq_true_eq, reduceCtorEq, false_and, false_or, Option.some.injEq]
      show ((e.w = f.w ∧ e.s = f.s) ∧ bts (B e.f.toNat) 64 = bts (B' f.f.toNat) 64) ↔ _
      rw [hb]
      constructor
      · rintro ⟨⟨h1, h2⟩, h3⟩
        exact ⟨e, f, rfl, rfl, h1, h2, h3⟩
      · rintro ⟨_, _, rfl, rfl, h1, h2, h3⟩
        exact ⟨⟨h1, h2⟩, h3⟩
end Go.Proofs.YtjoapeeljigjcaaDoor.Usd
