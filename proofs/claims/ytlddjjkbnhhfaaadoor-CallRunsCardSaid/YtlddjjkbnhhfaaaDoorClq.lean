/-
  Program.
-/
import Derived.Test.YtlddjjkbnhhfaaaDoorCll
import Derived.Test.YtlddjjkbnhhfaaaDoorClm
import Derived.Test.YtlddjjkbnhhfaaaDoorClp
import Derived.Test.YtlddjjkbnhhfaaaDoorClv
namespace Go.Proofs.YtlddjjkbnhhfaaaDoor.Clq
open Go Go.RowKit Go.Shelf Kit IsaM Cla Clt Clf Bk Clh Cli Clg Cll Clm Clp
open Clv (ClAt ClsAt uv)
set_option linter.unusedVariables false
attribute [local go_sem] Oper.semAt_some

/-- What stays but for the builder's block, the flag's, and rows of bytes. -/
structure Ke (b : Nat) (w w' : World) : Prop where
  size : w.heap.size ≤ w'.heap.size
  cells : ∀ k cs T, k ≠ b → k ≠ b + 1 → T ≠ 5 → Blk w k cs T → Blk w' k cs T
  oth : ∀ (k : Nat) (o : Obj), w.heap[k]? = some o → o.isCells = false → w'.heap[k]? = some o
theorem Ke.trans {b : Nat} {u v w : World} (h : Ke b u v) (k : Ke b v w) : Ke b u w := ⟨Nat.le_trans h.size k.size, fun x cs T h1 h2 h3 h4 => k.cells x cs T h1 h2 h3 (h.cells x cs T h1 h2 h3 h4), fun x o h1 h2 => k.oth x o (h.oth x o h1 h2) h2⟩
theorem Ke.of_fr {b : Nat} {w w' : World} (h : Fr b w w') : Ke b w w' := ⟨h.size, fun k cs T h1 _ h3 h4 => h.cells k cs T h1 h3 h4, h.oth⟩
theorem Ke.of_below {b : Nat} {w w' : World} (h : Below w.heap.size w w') : Ke b w w' := Ke.of_fr (Fr.of_below h)
theorem Ke.set (b : Nat) (w : World) (v : Value) : Ke b w (w.setCell ⟨b + 1, 0, none⟩ v) := ⟨by rw [Deep.nblk_setCell]; exact Nat.le_refl _, fun k cs T _ h2 _ hb => hb.other (b + 1) 0 v h2, fun k o hk hc => (KeepsOthers.setCell _ _ _).same k o hk hc⟩
theorem Ke.from {b B : Nat} {w w' : World} (h : Ke b w w') : KeepsFrom B w w' := ⟨h.size, fun k o _ ho hc => h.oth k o ho hc⟩
theorem bu_set {B b : Nat} {t : Tx} {w : World} (h : Bu B b t w) {k : Nat} {cs : Array Value} {T : TypeId} (hk : Blk w k cs T) (hkb : k ≠ b) (hT : T ≠ 5) (v : Value) : Bu B b t (w.setCell ⟨k, 0, none⟩ v) := by
  have key : ∀ p bs, Lib.BuilderAt 78 5 B b p bs w → Lib.BuilderAt 78 5 B b p bs (w.setCell ⟨k, 0, none⟩ v) := fun p bs h => by
    obtain ⟨hB, u, hb, hown, hne⟩ := h
    refine ⟨hB, u, (Deep.blk_setCell_other w ⟨k, 0, none⟩ v b (fun e => hkb e.symm)).trans hb, ⟨hown.1, ?_⟩, hne⟩
    rcases hown.2 with h2 | ⟨g, cap, cur, hv, hg, hh, h3⟩
    · exact .inl h2
    · refine .inr ⟨g, cap, cur, hv, hg, (Deep.blk_setCell_other w ⟨k, 0, none⟩ v g (fun e => ?_)).trans hh, h3⟩
      subst e
      rw [show w.heap[g]? = _ from hk] at hh
      cases hh
      exact hT rfl
  exact h.elim (fun x => .inl (key _ _ x)) (fun x => .inr (key _ _ x))

theorem bu_grown {B b : Nat} {t : Tx} {w w' : World} {row : Option Nat} (h : Bu B b t w) (hg : w.grownBy w' row) (hr : ∀ r, row = some r → ∃ o : Obj, w.heap[r]? = some o ∧ o.isCells = false) : Bu B b t w' := by
  have hne : ∀ k cs T z, w.heap[k]? = some (.cells cs T z) → some k ≠ row := fun k cs T z hk e => by
    obtain ⟨o, ho, hc⟩ := hr k e.symm
    rw [hk] at ho
    cases ho
    cases hc
  have key : ∀ p bs, Lib.BuilderAt 78 5 B b p bs w → Lib.BuilderAt 78 5 B b p bs w' := fun p bs h => by
    have hlt := h.lt
    obtain ⟨hB, u, hb, hown, hne2⟩ := h
    refine ⟨hB, u, (hg.block b hlt (hne _ _ _ _ hb)).trans hb, ⟨hown.1, ?_⟩, hne2⟩
    rcases hown.2 with h2 | ⟨g, cap, cur, hv, hg2, hh, h3⟩
    · exact .inl h2
    · exact .inr ⟨g, cap, cur, hv, hg2, (hg.block g (Array.getElem?_eq_some_iff.1 hh).1 (hne _ _ _ _ hh)).trans hh, h3⟩
  exact h.elim (fun x => .inl (key _ _ x)) (fun x => .inr (key _ _ x))
/-- What lies there between the rounds. -/
structure Ps (w0 : World) (t : Tx) (ok : Bool) (W : World) : Prop where
  bu : Bu w0.heap.size w0.heap.size t W
  box : Boxed W (w0.heap.size + 1) 4 (.bool ok)
  bel : Below w0.heap.size w0 W
theorem Ps.below {w0 W W' : World} {t : Tx} {ok : Bool} (h : Ps w0 t ok W) (hb : Below W.heap.size W W') : Ps w0 t ok W' := ⟨h.bu.below hb, (hb.block _ h.box.lt).trans h.box, h.bel.trans (hb.mono h.bel.size)⟩
theorem Ps.set {w0 W : World} {t : Tx} {ok : Bool} (h : Ps w0 t ok W) (ok' : Bool) : Ps w0 t ok' (W.setCell ⟨w0.heap.size + 1, 0, none⟩ (.bool ok')) :=
  ⟨bu_set h.bu (show Blk W (w0.heap.size + 1) _ _ from h.box) (by omega) (by decide) _, h.box.set _, h.bel.setCell (p := ⟨w0.heap.size + 1, 0, none⟩) (Nat.le_succ _) _⟩
theorem Ps.write {w0 W W' : World} {t s : Tx} {ok : Bool} (h : Ps w0 t ok W) (hw : Bu w0.heap.size w0.heap.size (t ++ s) W' ∧ Below w0.heap.size W W' ∧ Fr w0.heap.size W W') : Ps w0 (t ++ s) ok W' :=
  ⟨hw.1, hw.2.2.cells _ _ _ (by omega) (by decide) h.box, h.bel.trans hw.2.1⟩
theorem Ps.grown {w0 W W' : World} {t : Tx} {ok : Bool} {row : Option Nat} {B : Nat} (h : Ps w0 t ok W) (hg : W.grownBy W' row) (hB : w0.heap.size + 2 ≤ B) (hr : ∀ r, row = some r → B ≤ r ∧ ∃ o : Obj, W.heap[r]? = some o ∧ o.isCells = false) : Ps w0 t ok W' :=
  ⟨bu_grown h.bu hg (fun r e => (hr r e).2), h.box.kept hg (fun e => by have := (hr _ e.symm).1; omega), h.bel.grown hg h.bel.size (fun r e => by have := (hr r e).1; omega)⟩
def lisL (x : Cl) (pre : List Nat) : Tx := pre.flatMap fun i => liT (rg i) (ar x i)
theorem lisL_app (x : Cl) (pre : List Nat) (i : Nat) : lisL x (pre ++ [i]) = lisL x pre ++ liT (rg i) (ar x i) := by simp [lisL]
theorem lisL_range (x : Cl) : ∀ m, m ≤ 3 → lisL x (List.range m) = lisT x m
  | 0, _ => rfl
  | m + 1, h => by rw [List.range_succ, lisL_app, lisL_range x m (by omega)]; show _ = lisT x m ++ liT (m + 1) (ar x m); rw [show rg m = m + 1 by unfold rg; omega]
theorem lisL_len {x : Cl} (hw : Wf x) : ∀ pre : List Nat, (lisL x pre).length ≤ 25 * pre.length
  | [] => by simp [lisL]
  | i :: r => by
    have h1 := lisL_len hw r
    have h2 : (liT (rg i) (ar x i)).length ≤ 25 := liT_len (by unfold rg; omega) (ar_lt hw i)
    show (liT (rg i) (ar x i) ++ lisL x r).length ≤ _
    rw [List.length_append, List.length_cons]
    omega
theorem near_yes {x : Cl} {k : Nat} (hk : x.n = k) (h : ∀ i ∈ List.range (mn k), ar x i ≤ 32767) : near x = true := by
  unfold near
  rw [hk, Int.toNat_natCast, List.all_eq_true]
  intro i hi
  exact decide_eq_true (h i hi)
theorem near_no {x : Cl} {k i : Nat} (hk : x.n = k) (hi : i < mn k) (h : 32767 < ar x i) : near x = false := by
  cases e : near x with
  | false => rfl
  | true =>
    unfold near at e
    rw [hk, Int.toNat_natCast, List.all_eq_true] at e
    have := of_decide_eq_true (e i (List.mem_range.2 hi))
    omega
theorem prog_take {l : List Cl} {j : Nat} (h : j < l.length) : progT (l.take (j + 1)) = progT (l.take j) ++ callT l[j] := by
  rw [List.take_succ_eq_append_getElem h, progT_app]
  show _ ++ (callT l[j] ++ []) = _
  rw [List.append_nil]
theorem wstr_any {w0 W : World} {t : Tx} {ok : Bool} (h : Ps w0 t ok W) (s : Tx) (hlen : t.length + s.length ≤ 100000) :
    Calls Tryd.prog 41 #[.pointer (some ⟨w0.heap.size, 0, none⟩), .string (tx s)] W fun e w' => e = .returned (.tuple #[.int .i64 (tx s).size, .nilIface]) ∧ (Ps w0 (t ++ s) ok w' ∧ Fr w0.heap.size W w' ∧ Below w0.heap.size W w') :=
  (wstr _ _ t (tx s) W h.bu (by rw [tx_size]; omega) h.bel.size).mono fun e w' ⟨he, hb⟩ => ⟨he, h.write hb, hb.2.2, hb.2.1⟩
/-- What the loops over the iterator have left behind. -/
def dfs (Ds : List Nat) : List Deferred := Ds.map fun D => { target := .collected D, args := #[] }
structure Df (w0 : World) (Ds : List Nat) (W : World) : Prop where
  nd : Ds.Nodup
  at_ : ∀ D ∈ Ds, w0.heap.size ≤ D ∧ W.heap[D]? = some (.deferred (some []))
theorem Df.ke {w0 W W' : World} {Ds : List Nat} (h : Df w0 Ds W) (hk : ∀ (k : Nat) (o : Obj), W.heap[k]? = some o → o.isCells = false → W'.heap[k]? = some o) : Df w0 Ds W' := ⟨h.nd, fun D hD => ⟨(h.at_ D hD).1, hk D _ (h.at_ D hD).2 rfl⟩⟩
theorem Df.lt {w0 W : World} {Ds : List Nat} (h : Df w0 Ds W) {D : Nat} (hD : D ∈ Ds) : D < W.heap.size := (Array.getElem?_eq_some_iff.1 (h.at_ D hD).2).1
theorem Df.cons {w0 W : World} {Ds : List Nat} {D : Nat} (h : Df w0 Ds W) (hD : w0.heap.size ≤ D) (hn : D ∉ Ds) (hK : W.heap[D]? = some (.deferred (some []))) : Df w0 (D :: Ds) W :=
  ⟨List.nodup_cons.2 ⟨hn, h.nd⟩, fun E hE => by
    rcases List.mem_cons.1 hE with rfl | hE
    · exact ⟨hD, hK⟩
    · exact h.at_ E hE⟩
theorem Df.grown {w0 W W' : World} {Ds : List Nat} {row : Option Nat} {B : Nat} (h : Df w0 Ds W) (hg : W.grownBy W' row) (hB : ∀ D ∈ Ds, D < B) (hr : ∀ r, row = some r → B ≤ r) : Df w0 Ds W' :=
  ⟨h.nd, fun D hD => ⟨(h.at_ D hD).1, (hg.block D (h.lt hD) (fun e => by have := hr D e.symm; have := hB D hD; omega)).trans (h.at_ D hD).2⟩⟩
theorem leaves_all {n : Nat} {fn : Func} {tmps : Array Value} {R : Ending → World → Prop} {w0 : World} {v : Value} (hres : ∀ W, (results fn tmps).run Tryd.prog W = .ok v W) (hR : ∀ W, Below w0.heap.size w0 W → R (.returned v) W) :
    ∀ (Ds : List Nat) (W : World), Df w0 Ds W → Below w0.heap.size w0 W → LeavesInM Fence.wide n Tryd.prog fn tmps R (dfs Ds) .returning W
  | [], W, _, hb => ⟨v, hres W, hR W hb⟩
  | D :: Ds, W, h, hb => by
    have hK := h.at_ D (by simp)
    refine ⟨by simp, .inl ⟨_, _, rfl, run_takeDeferred hK.2, leaves_all hres hR Ds _ ⟨(List.nodup_cons.1 h.nd).2, fun E hE => ⟨(h.at_ E (by simp [hE])).1, ?_⟩⟩ (hb.trans (belowK_b (w := w0) (Nat.le_refl _) W D _ _ hK.1 hK.2 rfl rfl))⟩⟩
    exact (World.putObj_heap_other (fun e => (List.nodup_cons.1 h.nd).1 (by rw [e] at hE; exact hE))).trans (h.at_ E (by simp [hE])).2
theorem all_no {l : List Cl} {j : Nat} (h : j < l.length) (hx : okB l[j] = false) : l.all okB = false := by
  cases e : l.all okB with
  | false => rfl
  | true => rw [List.all_eq_true.1 e _ (List.getElem_mem h)] at hx; cases hx
theorem all_yes {l : List Cl} (h : ∀ x ∈ l, okB x = true) : l.all okB = true := List.all_eq_true.2 h
set_option maxRecDepth 100000 in
set_option maxHeartbeats 4000000 in
theorem prog_in (n : Nat) (hn : 8 ≤ n) (v : Value) (l : List Cl) (hl : l.length ≤ 60) (w : World) (hv : ClsAt w v l) (hT : Rw w) (hP : Pow w) :
    CallsIn Fence.wide n Tryd.prog 26 #[v] w fun e w' => e = .returned (if l.all okB then .tuple #[.string (tx (progT l)), .int .i64 0] else .tuple #[.string (tx []), .int .i64 160]) ∧ Below w.heap.size w w' := by
  obtain ⟨a, cap, rfl, hcap, hmax, hcells⟩ := hv
  unfold maxLen at hmax
  have hli : (l.length : Int) ≤ 60 := by omega
  have HP0 : Hid (Ps w [] true ((w.alloc (.cells #[.pointer none, .slice none 0 0] 78)).alloc (.cells #[.bool true] 4))) := Lib.hid (by
    have b1 := (Below.refl w.heap.size w).alloc (Nat.le_refl _) (.cells #[.pointer none, .slice none 0 0] 78)
    have hbx := Boxed.new (w.alloc (.cells #[.pointer none, .slice none 0 0] 78)) 4 (.bool true)
    rw [World.size_alloc] at hbx
    exact ⟨(Bu.new w).below ((Below.refl _ _).alloc (Nat.le_refl _) _), hbx, b1.alloc b1.size _⟩)
  have HT := Lib.hid (And.intro hT hP)
  have HCL : Hid (∀ j (hj : j < l.length), ∃ b o, a = some ⟨b, o, none⟩ ∧ b < w.heap.size ∧ ∀ W, Below w.heap.size w W → ClAt W b (o + j * 4) l[j]) := Lib.hid (fun j hj => by
    rcases hcells with h0 | ⟨b, o, e, hlt, hc⟩
    · rw [h0] at hj; simp at hj
    · exact ⟨b, o, e, hlt, fun W hW => (hc j hj).below hlt hW⟩)
  have HALL : Hid (∀ x ∈ l, okB x = true → isC x.n = true ∧ Wf x) := Lib.hid (fun x hx hok => by
    obtain ⟨j, hj, rfl⟩ := List.getElem_of_mem hx
    obtain ⟨b, o, -, -, hc⟩ := HCL.out j hj
    refine ⟨?_, (hc w (Below.refl _ _)).2⟩
    unfold okB at hok
    rw [Bool.and_eq_true] at hok
    exact may_isC hok.1)
  clear hT hP hcells
  refine callsIn_of_wp_marks Tryd.func26 rfl trivial ?_ rfl
  simp only [Tryd.ntmps26, List.size_toArray, List.length_cons, List.length_nil, Nat.reduceAdd, Nat.reduceSub, Array.replicate_succ, Array.replicate_zero, List.push_toArray, List.append_toArray, List.nil_append, List.cons_append]
  gi_wp2
  refine wpIn_wide.2 (wp_scope_straight ((wpIn_wide (n := n)).1 ?_))
  gi_wp2
  refine wpIn_label ?_
  gi_wp2
  refine wpIn_loop (fun a' wr => ∃ (u7 u8 u9 u13 u14 u15 u16 u17 u18 u19 u20 u21 u22 u23 u24 u25 u26 u29 u30 u31 u32 u33 u34 u35 u36 u37 u38 u12 : Value) (dd : List Deferred), (∃ (j : Nat) (Ds : List Nat), j ≤ l.length ∧ u12 = .int .i64 (j : Int) ∧ dd = dfs Ds ∧ Hid (Ps w (progT (l.take j)) true wr ∧ ∀ x ∈ l.take j, okB x = true) ∧ Hid (Df w Ds wr)) ∧ a' = { tmps := #[.slice a l.length cap, undef, .string { data := #[] }, .int .i64 0, .pointer (some ⟨w.heap.size, 0, none⟩), .pointer (some ⟨w.heap.size + 1, 0, none⟩), undef, u7, u8, u9, .slice a l.length cap, .int .i64 (l.length : Int), u12, u13, u14, u15, u16, u17, u18, u19, u20, u21, u22, u23, u24, u25, u26, undef, undef, u29, u30, u31, u32, u33, u34, u35, u36, u37, u38, undef, undef, undef], defers := dd })
    (fun a' _ => l.length - (intOf (a'.tmps.getD 12 undef)).toNat) ?atStart ?round
  case atStart =>
    (repeat apply Exists.intro)
    refine ⟨?_, rfl⟩
    exact ⟨0, [], Nat.zero_le _, rfl, rfl, Lib.hid ⟨HP0.out, by simp⟩, Lib.hid ⟨by simp, by simp⟩⟩
  case round =>
    rintro a' wr ⟨u7, u8, u9, u13, u14, u15, u16, u17, u18, u19, u20, u21, u22, u23, u24, u25, u26, u29, u30, u31, u32, u33, u34, u35, u36, u37, u38, u12, dd, ⟨j, Ds, hj, rfl, rfl, HI, HDs⟩, rfl⟩
    by_cases hlt : j < l.length
    · obtain ⟨b, o, rfl, hbl, hcl⟩ := HCL.out j hlt
      obtain ⟨⟨c0, c1, c2, c3⟩, hwf⟩ := hcl wr HI.out.1.bel
      unfold uv at c1 c2 c3
      have hx : ∃ x, l[j] = x := ⟨_, rfl⟩
      obtain ⟨x, hx⟩ := hx
      rw [hx] at c0 c1 c2 c3 hwf
      have hcx : ccs x = #[.int .i64 x.n, .int .u32 (x.a : Int), .int .u32 (x.b : Int), .int .u32 (x.c : Int)] := rfl
      have B1 := (Below.refl wr.heap.size wr).alloc (Nat.le_refl _) (.cells (ccs x) 27)
      have HM := Lib.hid (mayBe_any x hwf _ ((HT.out.1.below HI.out.1.bel).below B1))
      have HB1 := Lib.hid (And.intro (HI.out.1.below B1) (And.intro B1 (Blk.new wr (ccs x) 27)))
      have hg : w.heap.size + 1 < wr.heap.size := HI.out.1.box.lt
      have HX := Lib.hid (And.intro hx hwf)
      unfold cv at HM
      rw [hcx] at HM HB1
      clear B1 hcl hx hwf hcx
      cases hmay : mayC x with
      | false =>
        rw [hmay] at HM
        gi_wp2_with (first
          | (refine ⟨trivial, fun _ => (by omega), ?_⟩; gi_at_call 34; refine (callsIn_wide.2 HM.out).mono ?_; rintro e w1 ⟨rfl, hb1⟩; have P1 := HB1.out.1.below hb1; have cO := P1.box.cell; have fO := P1.box.frozen; have HP1 := Lib.hid P1; clear P1)
          | fail)
        have HF := Lib.hid (all_no hlt (by rw [HX.out.1]; unfold okB; rw [hmay]; rfl))
        clear hmay
        rw [Exit.noGoto_ret]
        exact leaves_all (fun W => results_tmp2 rfl _ _ W) (fun W hW => ⟨by rw [HF.out]; rfl, hW⟩) Ds _ ((HDs.out.ke (Ke.of_below (b := w.heap.size) (HB1.out.2.1.trans (hb1.mono HB1.out.2.1.size))).oth).ke (Ke.set w.heap.size w1 (.bool false)).oth) (HP1.out.set false).bel
      | true =>
        rw [hmay] at HM
        obtain ⟨k, hk, h1, h2⟩ := isC_nat (may_isC hmay)
        have HA : Hid (∀ wx, CallsIn Fence.wide (n - 1) Tryd.prog 35 #[.agg #[.int .i64 (k : Int), .int .u32 (x.a : Int), .int .u32 (x.b : Int), .int .u32 (x.c : Int)]] wx fun e w' => e = .returned (.func (.func 49) #[] #[.pointer (some ⟨wx.heap.size, 0, none⟩)]) ∧ w' = wx.alloc (.cells #[.int .i64 (k : Int), .int .u32 (x.a : Int), .int .u32 (x.b : Int), .int .u32 (x.c : Int)] 27)) := Lib.hid (fun wx => by
          have := args_in (n - 1) x wx
          unfold cv ccs at this
          rw [hk] at this
          exact this)
        have HLd := Lib.hid (fun wx (hb : Below w.heap.size w wx) => load_any 0 k (by omega) (by omega) wx (HT.out.2.below hb))
        have hcx : #[.int .i64 (k : Int), .int .u32 (x.a : Int), .int .u32 (x.b : Int), .int .u32 (x.c : Int)] = ccs x := by unfold ccs; rw [hk]
        have hkm : (k : Int) % 4294967296 = (k : Int) := by omega
        have hjb : (progT (l.take j)).length ≤ 7200 := by
          have := progT_len (l.take j) (fun y hy => HALL.out y (List.mem_of_mem_take hy) (HI.out.2 y hy))
          rw [List.length_take] at this
          omega
        have h0 : (liT 0 k).length ≤ 25 := liT_len (by omega) (by omega)
        rw [hk] at c0 HM HB1
        have HY := Lib.hid (And.intro hmay (And.intro hcx (And.intro h1 h2)))
        clear hmay hcx
        gi_wp2_with (first
          | (refine ⟨trivial, fun _ => (by omega), ?_⟩; gi_at_call 34; refine (callsIn_wide.2 HM.out).mono ?_; rintro e w1 ⟨rfl, hb1⟩; have P1 := HB1.out.1.below hb1; have cO := P1.box.cell; have fO := P1.box.frozen; have K1 := (HB1.out.2.2.below hb1).other (w.heap.size + 1) 0 (.bool true) (by omega); have P2 := P1.set true; have d0 := K1.cell 0; have d1 := K1.cell 1; have d2 := K1.cell 2; have d3 := K1.cell 3; simp only [List.getElem?_toArray, List.getElem?_cons_zero, List.getElem?_cons_succ] at d0 d1 d2 d3; have HP2 := Lib.hid (And.intro P2 (And.intro K1 ((Ke.of_below (b := w.heap.size) (HB1.out.2.1.trans (hb1.mono HB1.out.2.1.size))).trans (Ke.set w.heap.size w1 (.bool true))))); clear P1 P2 K1)
          | (refine ⟨trivial, fun _ => (by omega), ?_⟩; gi_at_call 42; refine (callsIn_wide.2 (HLd.out _ HP2.out.1.bel)).mono ?_; rintro e w3 ⟨rfl, hb3⟩; have P3 := HP2.out.1.below hb3; have HW3 := Lib.hid (wstr_any P3 (liT 0 k) (by omega)); have HP3 := Lib.hid (HP2.out.2.1.below hb3); have HO3 := Lib.hid (HP2.out.2.2.trans (Ke.of_below (b := w.heap.size) hb3)); clear P3)
          | (refine ⟨trivial, fun _ => (by omega), ?_⟩; gi_at_call 41; refine (callsIn_wide.2 HW3.out).mono ?_; rintro e w4 ⟨rfl, hp4, hf4, hb4⟩; have K4 := hf4.cells _ _ _ (by omega) (by decide) HP3.out; have g0 := K4.cell 0; have g1 := K4.cell 1; have g2 := K4.cell 2; have g3 := K4.cell 3; simp only [List.getElem?_toArray, List.getElem?_cons_zero, List.getElem?_cons_succ] at g0 g1 g2 g3; have HP4 := Lib.hid (And.intro hp4 hb4); have HOth := Lib.hid (HO3.out.trans (Ke.of_fr hf4)).oth; clear K4 hp4)
          | (refine ⟨trivial, fun _ => (by omega), ?_⟩; gi_at_call 35; refine (HA.out _).mono ?_; rintro e w9 ⟨rfl, rfl⟩)
          | fail)
        have hm3 := mn3 HY.out.2.2.2
        have hwf := HX.out.2
        have B0 := (Below.refl w4.heap.size w4).alloc (Nat.le_refl _) (.cells #[.int .i64 (k : Int), .int .u32 (x.a : Int), .int .u32 (x.b : Int), .int .u32 (x.c : Int)] 27)
        have P0 := HP4.out.1.below B0
        have bC := Blk.new w4 #[.int .i64 (k : Int), .int .u32 (x.a : Int), .int .u32 (x.b : Int), .int .u32 (x.c : Int)] 27
        rw [HY.out.2.1] at bC
        have hsz : (w4.alloc (.cells #[.int .i64 (k : Int), .int .u32 (x.a : Int), .int .u32 (x.b : Int), .int .u32 (x.c : Int)] 27)).heap.size = w4.heap.size + 1 := by simp
        have hg4 : w.heap.size + 1 < w4.heap.size := HP4.out.1.box.lt
        have hT0 := HT.out.1.below P0.bel
        have hds0 : Df w Ds w4 := HDs.out.ke (fun z q hz hc => HOth.out z q hz hc)
        have hds0w : Df w Ds (w4.alloc (.cells #[.int .i64 (k : Int), .int .u32 (x.a : Int), .int .u32 (x.b : Int), .int .u32 (x.c : Int)] 27)) := hds0.ke (Ke.of_below (b := w.heap.size) B0).oth
        have hdl : ∀ D ∈ Ds, D < w4.heap.size + 1 := fun D hD => by have := hds0w.lt hD; omega
        rw [HY.out.2.1] at P0 hT0 hsz hds0w ⊢
        clear hds0 B0 d0 d1 d2 d3 g0 g1 g2 g3 c0 c1 c2 c3 cO fO
        generalize w4.alloc (.cells (ccs x) 27) = W0 at *
        generalize hcc : Value.agg (ccs x) = cc
        refine wpIn_rangeFunc_ownH rfl (by omega) (gf := 49) (lb := #[.pointer (some ⟨w4.heap.size, 0, none⟩)]) rfl trivial (enters_of Tryd.func49 (by kernel_rfl) rfl)
          (args_stops (n - 1) (by omega) w4.heap.size w.heap.size k x hk HY.out.2.2.1 HY.out.2.2.2 W0 hT0 (by omega) bC) Kq.trans (Kq.put (by omega)) (Below.refl _ _) (fun _ => rfl)
          (fun pre W => Ps w (progT (l.take j) ++ liT 0 k ++ lisL x pre) true W ∧ Blk W w4.heap.size (ccs x) 27 ∧ Df w Ds W ∧ ∀ i ∈ pre, ar x i ≤ 32767)
          (fun c pre W => c = .exit 0 ∧ (∃ t, Ps w t false W) ∧ Df w Ds W ∧ ∃ ini i, pre = ini ++ [i] ∧ 32767 < ar x i)
          ?own ?ownx ⟨by rw [show lisL x [] = [] from rfl, List.append_nil]; exact P0, bC, hds0w, by simp⟩
          (fun i a' _ => a' = { tmps := #[.slice (some ⟨b, o, none⟩) l.length cap, undef, .string { data := #[] }, .int .i64 0, .pointer (some ⟨w.heap.size, 0, none⟩), .pointer (some ⟨w.heap.size + 1, 0, none⟩), undef, .pointer (some ⟨wr.heap.size, 0, none⟩), .int .i64 ((rg i : Nat) : Int), .int .u32 (ar x i : Int), .slice (some ⟨b, o, none⟩) l.length cap, .int .i64 (l.length : Int), .int .i64 (j : Int), .bool true, .pointer (some ⟨b, o + j * 4, none⟩), cc, cc, .bool true, .bool true, .bool false, .pointer (some ⟨wr.heap.size, 0, none⟩), .int .i64 (k : Int), .int .u32 (k : Int), .string (tx (liT 0 k)), .tuple #[.int .i64 ((tx (liT 0 k)).size : Int), .nilIface], cc, .func (.func 49) #[] #[.pointer (some ⟨w4.heap.size, 0, none⟩)], .int .i64 ((rg i : Nat) : Int), .int .u32 (ar x i : Int), u29, u30, u31, u32, u33, u34, u35, u36, u37, u38, undef, undef, undef], defers := [] })
          (fun i a' _ X Y row hs hg hr => hs)
          ?assign ?body ?done ?stop
        case own =>
          rintro pre X Y row ⟨hp, hC, hds, hs⟩ hg2 hr
          exact ⟨hp.grown hg2 (B := W0.heap.size) (by omega) hr, hC.kept (Bk.Kp.of_grown hg2) (fun e => by have := (hr _ e.symm).1; omega), hds.grown hg2 (B := W0.heap.size) (fun D hD => by have := hdl D hD; omega) (fun r e => (hr r e).1), hs⟩
        case ownx =>
          rintro c pre X Y row ⟨hc, ⟨t, hp⟩, hds, h5⟩ hg2 hr
          exact ⟨hc, ⟨t, hp.grown hg2 (B := W0.heap.size) (by omega) hr⟩, hds.grown hg2 (B := W0.heap.size) (fun D hD => by have := hdl D hD; omega) (fun r e => (hr r e).1), h5⟩
        case assign =>
          rintro lp pre i W K hI hK
          dsimp only [encs]
          gi_wp2
          exact hK _ _ (KeepsFrom.refl _ _) (Kq.refl _ _ _) hI rfl
        case body =>
          rintro lp pre i a' W hl2 ⟨rr, hr⟩ ⟨hp, hC, hds, hs⟩ rfl hltN
          clear hr rr
          have cO := hp.box.cell
          have fO := hp.box.frozen
          have HI2 := Lib.hid (And.intro hp (And.intro hC hds))
          have HK1 := Lib.hid (Ke.set w.heap.size W (.bool true))
          have HLd2 := Lib.hid (fun wx (hb : Below w.heap.size w wx) => CallsIn.inRound lp (callsIn_wide (n := n - 1 - 1 - 1).2 (load_any (rg i) (ar x i) (by unfold rg; omega) (ar_lt hwf i) wx (HT.out.2.below hb))))
          have hlen : (progT (l.take j) ++ liT 0 k ++ lisL x pre).length ≤ 7400 := by
            have := lisL_len hwf pre
            rw [List.length_append, List.length_append]
            omega
          have hlen2 : (liT (rg i) (ar x i)).length ≤ 25 := liT_len (by unfold rg; omega) (ar_lt hwf i)
          have HA2 := Lib.hid (lisL_app x pre i)
          have HU := Lib.hid (show ∀ y ∈ pre, ar x y ≤ 32767 from hs)
          clear hp hC hs hds P0 hT0 bC
          by_cases hu : ar x i ≤ 32767
          · have hui : (ar x i : Int) ≤ 32767 := by omega
            have HUi := Lib.hid hu
            clear hu
            generalize hari : ar x i = u at *
            generalize hlt0 : liT (rg i) u = T at *
            have du : decide ((u : Int) ≤ 32767) = true := decide_eq_true hui
            gi_wp2_with (first
              | (refine ⟨trivial, fun _ => (by omega), ?_⟩; gi_at_call 42; refine (HLd2.out _ (HI2.out.1.set true).bel).mono ?_; rintro e w5 ⟨rfl, hb5⟩; have P5 := (HI2.out.1.set true).below hb5; have HW5 := Lib.hid (CallsIn.inRound lp (callsIn_wide (n := n - 1 - 1 - 1).2 (wstr_any P5 T (by omega)))); have HK5 := Lib.hid (And.intro (HK1.out.trans (Ke.of_below (b := w.heap.size) hb5)) (((Below.refl w.heap.size W).setCell (p := ⟨w.heap.size + 1, 0, none⟩) (Nat.le_succ _) (.bool true)).trans (hb5.mono (by have := HI2.out.1.bel.size; simp; omega)))); clear P5)
              | (refine ⟨trivial, fun _ => (by omega), ?_⟩; gi_at_call 41; refine HW5.out.mono ?_; rintro e w6 ⟨rfl, hp6, hf6, hb6⟩)
              | fail)
            have K6 := HK5.out.1.trans (Ke.of_fr hf6)
            refine ⟨K6.from, ⟨HK5.out.2.trans hb6, fun cs hcs => K6.cells _ _ _ (by omega) (by omega) (by decide) hcs⟩, ?_, K6.cells _ _ _ (by omega) (by omega) (by decide) HI2.out.2.1, HI2.out.2.2.ke K6.oth, fun y hy => ?_⟩
            · rw [HA2.out, ← List.append_assoc]
              exact hp6
            · rcases List.mem_append.1 hy with hy | hy
              · exact HU.out y hy
              · obtain rfl : y = i := by simpa using hy
                rw [hari]
                exact HUi.out
          · have hui : (32767 : Int) < (ar x i : Int) := by omega
            have HUi := Lib.hid (show 32767 < ar x i by omega)
            clear hu
            generalize hari : ar x i = u at *
            have du : decide ((u : Int) ≤ 32767) = false := decide_eq_false (by omega)
            gi_wp2
            try rw [du]
            refine ⟨(Ke.set w.heap.size W (.bool false)).from, rfl, ⟨_, HI2.out.1.set false⟩, HI2.out.2.2.ke (Ke.set w.heap.size W (.bool false)).oth, pre, i, rfl, ?_⟩
            rw [hari]
            exact HUi.out
        case done =>
          rintro D ys W hD rfl ⟨hp, hC, hds, hs⟩ hK
          have hnD : D ∉ Ds := fun hD2 => by have := hdl D hD2; omega
          have HW7 := Lib.hid (wstr_any hp sysT (by
            have h3 := lisL_len hwf (List.range (mn k))
            have h4 : sysT.length = 4 := rfl
            rw [List.length_range] at h3
            rw [List.length_append, List.length_append]
            omega))
          clear P0 hT0 bC
          gi_wp2_with (first
            | (refine ⟨trivial, fun _ => (by omega), ?_⟩; gi_at_call 41; refine (callsIn_wide.2 HW7.out).mono ?_; rintro e w7 ⟨rfl, hp7, hf7, hb7⟩)
            | fail)
          have HD7 := Lib.hid (And.intro hp7 (hds.ke hf7.oth))
          refine ⟨?_, ?_⟩
          · (repeat apply Exists.intro)
            refine ⟨?_, rfl⟩
            refine ⟨j + 1, D :: Ds, by omega, by go_num, rfl, Lib.hid ⟨?_, ?_⟩, Lib.hid ((HD7.out.2).cons (by omega) hnD (hf7.oth D _ hK rfl))⟩
            · rw [prog_take hlt, HX.out.1, show callT x = liT 0 k ++ lisT x (mn k) ++ sysT by unfold callT; rw [hk, Int.toNat_natCast], ← lisL_range x (mn k) hm3, ← List.append_assoc, ← List.append_assoc]
              exact HD7.out.1
            · intro y hy
              rw [List.take_succ_eq_append_getElem hlt] at hy
              rcases List.mem_append.1 hy with hy | hy
              · exact HI.out.2 y hy
              · obtain rfl : y = x := by simpa [HX.out.1] using hy
                unfold okB
                rw [HY.out.1, near_yes hk hs]
                rfl
          · simp [intOf]; omega
        case stop =>
          rintro D c pre W hD ⟨jj, hjj, rfl⟩ ⟨rfl, ⟨t, hp⟩, hds, ini, i, hpre, hi⟩ hK
          have hnD : D ∉ Ds := fun hD2 => by have := hdl D hD2; omega
          have cO := hp.box.cell
          have HF := Lib.hid (all_no hlt (by
            rw [HX.out.1]
            unfold okB
            have : i < mn k := by
              have h3 : i ∈ List.range jj := by rw [hpre]; simp
              have := List.mem_range.1 h3
              omega
            rw [near_no hk this hi, Bool.and_false]))
          have HP9 := Lib.hid hp
          clear P0 hT0 bC hp hpre hi
          gi_wp2
          rw [Exit.noGoto_ret]
          exact leaves_all (fun W => results_tmp2 rfl _ _ W) (fun W hW => ⟨by rw [HF.out]; rfl, hW⟩) (D :: Ds) _ (hds.cons (by omega) hnD hK) HP9.out.bel
    · obtain rfl : j = l.length := by omega
      rw [List.take_length] at HI
      have HF := Lib.hid (all_yes HI.out.2)
      have cO := HI.out.1.box.cell
      have HS := Lib.hid (bstring _ _ _ wr HI.out.1.bu HI.out.1.bel.size)
      gi_wp2_with (first
          | (refine ⟨trivial, fun _ => (by omega), ?_⟩; gi_at_call 43; refine (callsIn_wide.2 HS.out).mono ?_; rintro e w1 ⟨rfl, hb1, hoth⟩)
          | fail)
      rw [Exit.noGoto_ret]
      exact leaves_all (fun W => results_tmp2 rfl _ _ W) (fun W hW => ⟨by rw [HF.out]; rfl, hW⟩) Ds _ (HDs.out.ke hoth) (HI.out.1.bel.trans hb1)
end Go.Proofs.YtlddjjkbnhhfaaaDoor.Clq
