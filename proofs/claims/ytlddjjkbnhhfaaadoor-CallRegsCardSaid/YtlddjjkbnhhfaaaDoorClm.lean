/-
  Line.
-/
import Derived.Test.YtlddjjkbnhhfaaaDoorCll
import Derived.Test.YtlddjjkbnhhfaaaDoorClg
namespace Go.Proofs.YtlddjjkbnhhfaaaDoor.Clm
open Go Go.RowKit Go.Shelf Kit IsaM Cla Clt Clf Bk Clh Cli Clg Cll
set_option linter.unusedVariables false
attribute [local go_sem] Oper.semAt_some

/-- What of a line is there behind some rounds. -/
def argsL (x : Cl) (pre : List Nat) : Tx := pre.flatMap fun i => 32 :: Lib.decDigits (ar x i)
theorem argsL_app (x : Cl) (pre : List Nat) (i : Nat) : argsL x (pre ++ [i]) = argsL x pre ++ 32 :: Lib.decDigits (ar x i) := by simp [argsL]
theorem argsL_range (x : Cl) : ∀ m, argsL x (List.range m) = argsT x m
  | 0 => rfl
  | m + 1 => by rw [List.range_succ, argsL_app, argsL_range x m]; rfl
theorem argsL_len {x : Cl} (hw : Wf x) : ∀ pre : List Nat, (argsL x pre).length ≤ 11 * pre.length
  | [] => by simp [argsL]
  | i :: r => by
    have h1 := argsL_len hw r
    have h2 := dd10 (ar_lt hw i)
    show ((32 :: Lib.decDigits (ar x i)) ++ argsL x r).length ≤ _
    rw [List.length_append, List.length_cons, List.length_cons]
    omega
theorem kf_set {B g : Nat} {X Y : World} (h : Below X.heap.size X Y) (v : Value) : KeepsFrom B X (Y.setCell ⟨g, 0, none⟩ v) :=
  ⟨by rw [Deep.nblk_setCell]; exact h.size, fun k o hk ho hc => (KeepsOthers.setCell _ _ _).same k o ((h.block k (Array.getElem?_eq_some_iff.1 ho).1).trans ho) hc⟩
def lineR (x : Cl) : Value := if mayC x then .tuple #[.string (tx (lineT x)), .int .i64 0] else .tuple #[.string (tx []), .int .i64 160]
set_option maxRecDepth 100000 in
set_option maxHeartbeats 2000000 in
theorem line_no (n : Nat) (hn : 6 ≤ n) (x : Cl) (hw : Wf x) (w : World) (hT : Rw w) (h : mayC x = false) :
    CallsIn Fence.wide n Tryd.prog 22 #[cv x] w fun e w' => e = .returned (.tuple #[.string (tx []), .int .i64 160]) ∧ Below w.heap.size w w' := by
  have b1 := (Below.refl w.heap.size w).alloc (Nat.le_refl _) (.cells (ccs x) 27)
  have HM := Lib.hid (mayBe_any x hw _ (hT.below b1))
  rw [h] at HM
  have HB := Lib.hid b1
  unfold cv at *
  unfold ccs at *
  refine callsIn_of_wp_marks Tryd.func22 rfl trivial ?_ rfl
  simp only [Tryd.ntmps22, List.size_toArray, List.length_cons, List.length_nil, Nat.reduceAdd, Nat.reduceSub, Array.replicate_succ, Array.replicate_zero, List.push_toArray, List.append_toArray, List.nil_append, List.cons_append]
  clear b1 hT hw h
  gi_wp2_with (first | (refine ⟨trivial, fun _ => (by omega), ?_⟩; gi_at_call 34; refine (callsIn_wide.2 HM.out).mono ?_; rintro e w9 ⟨rfl, hb⟩) | fail)
  exact ⟨_, results_tmp2 rfl _ _ _, rfl, HB.out.trans (hb.mono HB.out.size)⟩
set_option maxRecDepth 100000 in
set_option maxHeartbeats 2000000 in
theorem line_yes (n : Nat) (hn : 6 ≤ n) (x : Cl) (k : Nat) (hk : x.n = (k : Int)) (h1 : 1 ≤ k) (h2 : k < 23) (hw : Wf x) (w : World) (hT : Rw w) (hP : Pow w) (h : mayC x = true) :
    CallsIn Fence.wide n Tryd.prog 22 #[cv x] w fun e w' => e = .returned (.tuple #[.string (tx (lineT x)), .int .i64 0]) ∧ Below w.heap.size w w' := by
  have b1 := (Below.refl w.heap.size w).alloc (Nat.le_refl _) (.cells (ccs x) 27)
  have HM := Lib.hid (mayBe_any x hw _ (hT.below b1))
  rw [h] at HM
  have HN := Lib.hid (fun wx (hb : Below w.heap.size w wx) => name_any (k : Int) wx (hT.below hb))
  rw [show nameT (k : Int) = wd k by unfold nameT; rw [isC_iff.2 ⟨by omega, by omega⟩, if_pos rfl, Int.toNat_natCast]] at HN
  have HA : Hid (∀ wx, CallsIn Fence.wide (n - 1) Tryd.prog 35 #[.agg #[.int .i64 (k : Int), .int .u32 (x.a : Int), .int .u32 (x.b : Int), .int .u32 (x.c : Int)]] wx fun e w' => e = .returned (.func (.func 49) #[] #[.pointer (some ⟨wx.heap.size, 0, none⟩)]) ∧ w' = wx.alloc (.cells #[.int .i64 (k : Int), .int .u32 (x.a : Int), .int .u32 (x.b : Int), .int .u32 (x.c : Int)] 27)) := Lib.hid (fun wx => by
    have := args_in (n - 1) x wx
    unfold cv ccs at this
    rw [hk] at this
    exact this)
  have HB := Lib.hid (And.intro b1 (Blk.new w (ccs x) 27))
  unfold cv at HM ⊢
  unfold ccs at *
  rw [hk] at HM HB ⊢
  refine callsIn_of_wp_marks Tryd.func22 rfl trivial ?_ rfl
  simp only [Tryd.ntmps22, List.size_toArray, List.length_cons, List.length_nil, Nat.reduceAdd, Nat.reduceSub, Array.replicate_succ, Array.replicate_zero, List.push_toArray, List.append_toArray, List.nil_append, List.cons_append]
  clear b1
  gi_wp2_with (first
    | (refine ⟨trivial, fun _ => (by omega), ?_⟩; gi_at_call 34; refine (callsIn_wide.2 HM.out).mono ?_; rintro e w1 ⟨rfl, hb⟩; have B1 := HB.out.1.trans (hb.mono HB.out.1.size); have K1 := HB.out.2.below hb; have c0 := K1.cell 0; have c1 := K1.cell 1; have c2 := K1.cell 2; have c3 := K1.cell 3; simp only [List.getElem?_toArray, List.getElem?_cons_zero, List.getElem?_cons_succ] at c0 c1 c2 c3; have KK := K1.below ((Below.refl _ _).alloc (Nat.le_refl _) (.cells #[.string (tx (wd k))] 9)); have d0 := KK.cell 0; have d1 := KK.cell 1; have d2 := KK.cell 2; have d3 := KK.cell 3; simp only [List.getElem?_toArray, List.getElem?_cons_zero, List.getElem?_cons_succ] at d0 d1 d2 d3; have HB1 := Lib.hid B1; clear B1 K1 KK hb)
    | (refine ⟨trivial, fun _ => (by omega), ?_⟩; gi_at_call 12; refine (callsIn_wide.2 (HN.out _ HB1.out)).mono ?_; rintro e w9 ⟨rfl, rfl⟩)
    | (refine ⟨trivial, fun _ => (by omega), ?_⟩; gi_at_call 35; refine (HA.out _).mono ?_; rintro e w9 ⟨rfl, rfl⟩)
    | fail)
  have B0 := (HB1.out.alloc HB1.out.size (.cells #[.string (tx (wd k))] 9)).alloc (HB1.out.alloc HB1.out.size (.cells #[.string (tx (wd k))] 9)).size (.cells #[.int .i64 (k : Int), .int .u32 (x.a : Int), .int .u32 (x.b : Int), .int .u32 (x.c : Int)] 27)
  have bS := (Boxed.new w1 9 (.string (tx (wd k)))).alloc (.cells #[.int .i64 (k : Int), .int .u32 (x.a : Int), .int .u32 (x.b : Int), .int .u32 (x.c : Int)] 27)
  have bC := Blk.new (w1.alloc (.cells #[.string (tx (wd k))] 9)) #[.int .i64 (k : Int), .int .u32 (x.a : Int), .int .u32 (x.b : Int), .int .u32 (x.c : Int)] 27
  have hsz : ((w1.alloc (.cells #[.string (tx (wd k))] 9)).alloc (.cells #[.int .i64 (k : Int), .int .u32 (x.a : Int), .int .u32 (x.b : Int), .int .u32 (x.c : Int)] 27)).heap.size = w1.heap.size + 2 := by simp
  rw [World.size_alloc] at bC
  have hcx : ccs x = #[.int .i64 (k : Int), .int .u32 (x.a : Int), .int .u32 (x.b : Int), .int .u32 (x.c : Int)] := by unfold ccs; rw [hk]
  have hw1 := HB1.out.size
  have hm3 := mn3 h2
  have hT0 := hT.below B0
  clear c0 c1 c2 c3 d0 d1 d2 d3
  generalize (w1.alloc (.cells #[.string (tx (wd k))] 9)).alloc (.cells #[.int .i64 (k : Int), .int .u32 (x.a : Int), .int .u32 (x.b : Int), .int .u32 (x.c : Int)] 27) = W0 at *
  rw [← hcx] at bC
  refine wpIn_rangeFunc_ownH rfl (by omega) (gf := 49) (lb := #[.pointer (some ⟨w1.heap.size + 1, 0, none⟩)]) rfl trivial (enters_of Tryd.func49 (by kernel_rfl) rfl)
    (args_stops (n - 1) (by omega) (w1.heap.size + 1) w.heap.size k x hk h1 h2 W0 hT0 (by omega) bC) Kq.trans (Kq.put (by omega)) (Below.refl _ _) (fun _ => rfl)
    (fun pre W => Boxed W w1.heap.size 9 (.string (tx (wd k ++ argsL x pre))) ∧ Blk W (w1.heap.size + 1) (ccs x) 27 ∧ Below w.heap.size w W)
    (fun _ _ _ => False)
    ?own (fun _ _ _ _ _ e _ _ => e) ⟨by rw [show argsL x [] = [] from rfl, List.append_nil]; exact bS, bC, B0⟩
    (fun i a' _ => a' = { tmps := #[.agg #[.int .i64 (k : Int), .int .u32 (x.a : Int), .int .u32 (x.b : Int), .int .u32 (x.c : Int)], .pointer (some ⟨w.heap.size, 0, none⟩), .string { data := #[] }, .int .i64 0, .pointer (some ⟨w1.heap.size, 0, none⟩), undef, .int .u32 (ar x i : Int), .agg #[.int .i64 (k : Int), .int .u32 (x.a : Int), .int .u32 (x.b : Int), .int .u32 (x.c : Int)], .bool true, .bool false, .pointer (some ⟨w.heap.size, 0, none⟩), .int .i64 (k : Int), .string (tx (wd k)), .agg #[.int .i64 (k : Int), .int .u32 (x.a : Int), .int .u32 (x.b : Int), .int .u32 (x.c : Int)], .func (.func 49) #[] #[.pointer (some ⟨w1.heap.size + 1, 0, none⟩)], .int .i64 ((rg i : Nat) : Int), .int .u32 (ar x i : Int), undef, undef, undef, undef, undef, undef], defers := [] })
    (fun i a' _ X Y row hs hg hr => hs)
    ?assign ?body ?done (fun _ _ _ _ _ _ e _ => e.elim)
  case own =>
    rintro pre X Y row ⟨hS, hC, hb⟩ hg hr
    have hrow : ∀ r, row = some r → w1.heap.size + 2 ≤ r := fun r e => by have := (hr r e).1; omega
    exact ⟨hS.kept hg (fun e => by have := hrow _ e.symm; omega), hC.kept (Bk.Kp.of_grown hg) (fun e => by have := hrow _ e.symm; omega), hb.grown hg (by have := hb.size; omega) (fun r e => by have := hrow r e; omega)⟩
  case assign =>
    rintro l pre i W K hI hK
    dsimp only [encs]
    gi_wp2
    exact hK _ _ (KeepsFrom.refl _ _) (Kq.refl _ _ _) hI rfl
  case body =>
    rintro l pre i a' W hl ⟨rr, hr⟩ ⟨hS, hC, hb⟩ rfl hlt
    clear hr rr
    have hD := fun wx hbx => CallsIn.inRound l (callsIn_wide (n := n - 1 - 1 - 1).2 (digits_any (ar x i) (ar_lt hw i) wx (hP.below hbx)))
    have hTl : (tx (wd k ++ argsL x pre)).size ≤ 50 := by
      have h3 := argsL_len hw pre
      have h4 := wd_len ⟨k, h2⟩
      rw [tx_size, List.length_append]
      simp only at h4
      omega
    have hDl : (tx (Lib.decDigits (ar x i))).size ≤ 10 := by rw [tx_size]; exact dd10 (ar_lt hw i)
    have hE : tx (wd k ++ argsL x pre) ++ (⟨#[32]⟩ ++ tx (Lib.decDigits (ar x i))) = tx (wd k ++ argsL x (pre ++ [i])) := by
      rw [argsL_app, show (⟨#[32]⟩ : ByteArray) = tx [32] from rfl, tx_app, tx_app]
      simp
    have HE := Lib.hid hE
    have HD := Lib.hid hD
    have cS := hS.cell
    have fS := hS.frozen
    have HI := Lib.hid (And.intro hS (And.intro hC hb))
    clear hE hD hS hC hT0 hw hT hP hk hcx bC bS B0
    generalize tx (wd k ++ argsL x pre) = T at *
    obtain ⟨T', hT'⟩ : ∃ T', tx (wd k ++ argsL x (pre ++ [i])) = T' := ⟨_, rfl⟩
    rw [hT'] at HE
    have HT' := Lib.hid hT'
    clear hT'
    generalize tx (Lib.decDigits (ar x i)) = D at *
    generalize ar x i = u at *
    have hmx : Tryd.prog.follows .mixedOrders = true := by kernel_rfl
    gi_wp2
    gi_region_with_o (refine ⟨trivial, fun _ => (by omega), ?_⟩; gi_at_call 36; refine (HD.out _ (by first | exact HI.out.2.2 | exact HI.out.2.2.drew)).mono ?_; rintro e w9 ⟨rfl, hb9⟩; have k9 : Below W.heap.size W w9 := (by first | exact hb9 | exact ((Below.refl _ _).drew).trans hb9); have S9 : Boxed w9 w1.heap.size 9 (.string T) := (k9.block _ HI.out.1.lt).trans HI.out.1; have cS9 := S9.cell; have fS9 := S9.frozen)
    all_goals gi_wp2
    all_goals
      rw [HE.out]
      have S10 := S9.set (.string T')
      first
        | exact ⟨kf_set k9 _, ⟨k9.mono (by have := HI.out.2.2.size; omega) |>.setCell (p := ⟨w1.heap.size, 0, none⟩) hw1 _, fun cs hcs => (hcs.below k9).other w1.heap.size 0 _ (by omega)⟩, (by rw [HT'.out]; exact S10), (HI.out.2.1.below k9).other w1.heap.size 0 _ (by omega), (HI.out.2.2.trans (k9.mono HI.out.2.2.size)).setCell (p := ⟨w1.heap.size, 0, none⟩) hw1 _⟩
        | exact ⟨kf_set k9.drew _, ⟨k9.drew.mono (by have := HI.out.2.2.size; omega) |>.setCell (p := ⟨w1.heap.size, 0, none⟩) hw1 _, fun cs hcs => (hcs.below k9.drew).other w1.heap.size 0 _ (by omega)⟩, (by rw [HT'.out]; exact S10), (HI.out.2.1.below k9.drew).other w1.heap.size 0 _ (by omega), (HI.out.2.2.trans (k9.drew.mono HI.out.2.2.size)).setCell (p := ⟨w1.heap.size, 0, none⟩) hw1 _⟩
  case done =>
    rintro D ys W hD rfl ⟨hS, hC, hb⟩ hK
    rw [argsL_range] at hS
    have e : wd k ++ argsT x (mn k) = lineT x := by unfold lineT; rw [hk, Int.toNat_natCast]
    rw [e] at hS
    have cS := hS.cell
    have HI := Lib.hid (And.intro hS (And.intro hC hb))
    clear hS hC hb bS bC B0 hT0 hcx hw hT hP e
    gi_wp2
    refine ⟨by simp, .inl ⟨_, _, rfl, run_takeDeferred hK, ?_⟩⟩
    refine ⟨_, results_tmp2 rfl _ _ _, rfl, HI.out.2.2.trans (belowK_b (w := w) (Nat.le_refl _) W D _ _ (by omega) hK rfl rfl)⟩
theorem line_any (x : Cl) (hw : Wf x) (w : World) (hT : Rw w) (hP : Pow w) :
    Calls Tryd.prog 22 #[cv x] w fun e w' => e = .returned (lineR x) ∧ Below w.heap.size w w' := by
  refine (callsIn_wide (n := 6)).1 ?_
  unfold lineR
  cases h : mayC x with
  | false => exact line_no 6 (Nat.le_refl _) x hw w hT h
  | true =>
    obtain ⟨k, hk, h1, h2⟩ := isC_nat (may_isC h)
    exact line_yes 6 (Nat.le_refl _) x k hk h1 h2 hw w hT hP h
end Go.Proofs.YtlddjjkbnhhfaaaDoor.Clm
