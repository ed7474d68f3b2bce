/-
  The core of a mask with the fewest: two ranges over the iterator, one within the other; May.
-/
import Derived.Test.YtkjmpkoogjbjnaaQrq
namespace Go.Proofs.Ytkjmpkoogjbjnaa.Que
open Go Go.RowKit Go.Shelf Kit Bk Qua Qub Quc Qud
set_option linter.unusedVariables false
attribute [local go_sem] Oper.semAt_some

/-- How long the queues are, whatever is done above n₀. -/
def Lens (n₀ : Nat) (w : World) (ad : Option Addr) (c : Nat) (L : Nat → Nat) : Prop := ∀ k, k < c → ∃ q, ad = some ⟨q, 0, none⟩ ∧ q < n₀ ∧ ∃ a n, w.cell? ⟨q, 1 + k, none⟩ = some (.slice a (L k) n)
theorem box_below {W W' : World} {B : Nat} {t : TypeId} {v : Value} (h : Boxed W B t v) (hb : Below W.heap.size W W') : Boxed W' B t v := (hb.block B h.lt).trans h
theorem keeps_below {B : Nat} {w w' : World} (h : Below w.heap.size w w') : KeepsFrom B w w' := ⟨h.size, fun k o _ h0 _ => (h.block k (Array.getElem?_eq_some_iff.1 h0).1).trans h0⟩
theorem least_no {c m : Nat} {n : Nat → Nat} {k x y : Nat} (hk : k ≤ c) (hy : y ∈ ws k m) (h : n y < n x) : least c m n x = false := by
  rw [Bool.eq_false_iff]
  intro e
  have := least_iff.1 e y (ws_mem.2 ⟨by have := (ws_mem.1 hy).1; omega, (ws_mem.1 hy).2⟩)
  omega
theorem few_first {c m : Nat} {n : Nat → Nat} {k x : Nat} {pre : List Nat} (hk : k ≤ c) (h : pre ++ [x] = ws k m) (hno : ∀ y ∈ pre, least c m n y = false) (hx : least c m n x = true) : few c m n = (x : Int) := by
  refine few_eq_some ?_
  unfold fewN
  have hpre : ws c m = ws k m ++ (ws c m).drop (ws k m).length := by
    have hp : ws k m <+: ws c m := by
      unfold ws
      exact (List.IsPrefix.filter _ (by rw [List.prefix_iff_eq_take]; simp [Nat.min_eq_left hk]))
    obtain ⟨t, ht⟩ := hp
    rw [← ht]
    simp
  rw [hpre, ← h, List.append_assoc, List.find?_append, List.find?_eq_none.2 (by intro y hy; rw [hno y hy]; simp)]
  simp [hx]
theorem few_nobody {c m : Nat} {n : Nat → Nat} (hno : ∀ y ∈ ws c m, least c m n y = false) : few c m n = -1 := by
  refine few_eq_none ?_
  unfold fewN
  rw [List.find?_eq_none]
  intro y hy
  rw [hno y hy]
  simp
theorem Lens.low {n₀ c : Nat} {w w' : World} {ad : Option Addr} {L : Nat → Nat} (h : Lens n₀ w ad c L) (hb : Below n₀ w w') : Lens n₀ w' ad c L := fun k hk => by
  obtain ⟨q, h1, h2, a, n, h3⟩ := h k hk
  exact ⟨q, h1, h2, a, n, (hb.cell (p := ⟨q, 1 + k, none⟩) h2).trans h3⟩

set_option maxRecDepth 100000 in
set_option maxHeartbeats 4000000 in
theorem fewest_in (n : Nat) (hn : 8 ≤ n) (ad : Option Addr) (c m : Nat) (hc8 : c ≤ 8) (hm : m < 4294967296) (L : Nat → Nat) (w : World) (hC : Cs w.heap.size w ad c) (hL : Lens w.heap.size w ad c L) :
    CallsIn Fence.wide n Try.prog 31 #[.pointer ad, .int .u32 (m : Int)] w fun e w' => e = .returned (.int .i64 (few c m L)) ∧ Below w.heap.size w w' := by
  have hmx : Try.prog.follows .mixedOrders = true := by kernel_rfl
  refine callsIn_of_wp_marks Try.func31 rfl trivial ?_ rfl
  simp only [Try.ntmps31, List.size_toArray, List.length_cons, List.length_nil, Nat.reduceAdd, Nat.reduceSub, Array.replicate_succ, Array.replicate_zero, List.push_toArray, List.append_toArray, List.nil_append, List.cons_append]
  gi_wp2
  refine wpIn_wide.2 (wp_scope_straight ((wpIn_wide (n := n)).1 ?_))
  gi_wp2
  refine wpIn_label ?_
  gi_wp2_with (first | (refine ⟨trivial, ?_⟩; gi_at_call 41; refine (within_in (n - 1) ad m _).mono ?_; rintro e w' ⟨rfl, rfl⟩) | (refine ⟨trivial, fun _ => (by omega), ?_⟩; gi_at_call 41; refine (within_in (n - 1) ad m _).mono ?_; rintro e w' ⟨rfl, rfl⟩))
  have b1 := (Below.refl w.heap.size w).alloc (Nat.le_refl _) (.cells #[.pointer ad] 24)
  have b2 := b1.alloc b1.size (.cells #[.int .u32 (m : Int)] 23)
  have b3 := b2.alloc b2.size (.cells #[.int .i64 0] 3)
  have b4 := b3.alloc b3.size (.cells #[.pointer ad] 24)
  have hB0 := b4.alloc b4.size (.cells #[.int .u32 (m : Int)] 23)
  have bQ := ((((Boxed.new w 24 (.pointer ad)).alloc (.cells #[.int .u32 (m : Int)] 23)).alloc (.cells #[.int .i64 0] 3)).alloc (.cells #[.pointer ad] 24)).alloc (.cells #[.int .u32 (m : Int)] 23)
  have bM := (((Boxed.new (w.alloc (.cells #[.pointer ad] 24)) 23 (.int .u32 (m : Int))).alloc (.cells #[.int .i64 0] 3)).alloc (.cells #[.pointer ad] 24)).alloc (.cells #[.int .u32 (m : Int)] 23)
  have bR := ((Boxed.new ((w.alloc (.cells #[.pointer ad] 24)).alloc (.cells #[.int .u32 (m : Int)] 23)) 3 (.int .i64 0)).alloc (.cells #[.pointer ad] 24)).alloc (.cells #[.int .u32 (m : Int)] 23)
  have bP := (Boxed.new (((w.alloc (.cells #[.pointer ad] 24)).alloc (.cells #[.int .u32 (m : Int)] 23)).alloc (.cells #[.int .i64 0] 3)) 24 (.pointer ad)).alloc (.cells #[.int .u32 (m : Int)] 23)
  have bI := Boxed.new ((((w.alloc (.cells #[.pointer ad] 24)).alloc (.cells #[.int .u32 (m : Int)] 23)).alloc (.cells #[.int .i64 0] 3)).alloc (.cells #[.pointer ad] 24)) 23 (.int .u32 (m : Int))
  have hsz : (((((w.alloc (.cells #[.pointer ad] 24)).alloc (.cells #[.int .u32 (m : Int)] 23)).alloc (.cells #[.int .i64 0] 3)).alloc (.cells #[.pointer ad] 24)).alloc (.cells #[.int .u32 (m : Int)] 23)).heap.size = w.heap.size + 5 := by simp
  simp only [World.size_alloc] at bM bR bP bI
  obtain ⟨W0, hW0⟩ : ∃ W0, ((((w.alloc (.cells #[.pointer ad] 24)).alloc (.cells #[.int .u32 (m : Int)] 23)).alloc (.cells #[.int .i64 0] 3)).alloc (.cells #[.pointer ad] 24)).alloc (.cells #[.int .u32 (m : Int)] 23) = W0 := ⟨_, rfl⟩
  clear b1 b2 b3 b4
  rw [hW0] at bQ bM bR bP bI hB0 hsz ⊢
  clear hW0
  have hC0 := hC.low hB0
  refine wpIn_rangeFunc_ownH rfl (by omega) (gf := 45) (lb := #[.pointer (some ⟨w.heap.size + 1 + 1 + 1, 0, none⟩), .pointer (some ⟨w.heap.size + 1 + 1 + 1 + 1, 0, none⟩)]) rfl trivial (enters_of Try.func45 (by kernel_rfl) rfl)
    (within_stops (n - 1) (by omega) (w.heap.size + 1 + 1 + 1) (w.heap.size + 1 + 1 + 1 + 1) w.heap.size ad c m hc8 hm W0 (by omega) hC0 bP bI) Kq.trans (Kq.put (by omega)) (Below.refl _ _) (fun _ => rfl)
    (fun pre W => ((((Boxed W w.heap.size 24 (.pointer ad) ∧ Boxed W (w.heap.size + 1) 23 (.int .u32 (m : Int))) ∧ Boxed W (w.heap.size + 1 + 1) 3 (.int .i64 0)) ∧ (∀ x ∈ vals pre, least c m L x = false)) ∧ w.heap.size + 5 ≤ W.heap.size) ∧ Below w.heap.size w W)
    (fun c' pre W => (∃ (x : Nat) (ini : List Nat), Boxed W (w.heap.size + 1 + 1) 3 (.int .i64 (x : Int)) ∧ (c' = .ret ∧ vals pre = ini ++ [x] ∧ (∀ y ∈ ini, least c m L y = false) ∧ least c m L x = true)) ∧ Below w.heap.size w W)
    (OwnFrom.and (OwnFrom.and (OwnFrom.and (OwnFrom.and (OwnFrom.and (Own.from (boxed_own _ _ (fun (pre : List (Cr c)) => Value.pointer ad)) _) (Own.from (boxed_own _ _ (fun (pre : List (Cr c)) => Value.int .u32 (m : Int))) _)) (Own.from (boxed_own _ _ (fun (pre : List (Cr c)) => Value.int .i64 0)) _)) (ownFrom_pure _ _)) (fun s X Y row h hg hr => Nat.le_trans h hg.size)) (ownFrom_below (Nat.le_refl _) (by omega)))
    (fun c' => OwnFrom.and (fun s X Y row ⟨x, ini, h1, h2⟩ hg hr => ⟨x, ini, Own.from (boxed_own _ _ (fun (_ : Unit) => Value.int .i64 (x : Int))) _ () X Y row h1 hg hr, h2⟩) (ownFrom_below (Nat.le_refl _) (by omega)))
    ⟨⟨⟨⟨⟨bQ, bM⟩, bR⟩, (fun x h => by cases h)⟩, by omega⟩, hB0⟩
    (fun x a' W => ∃ Bx, w.heap.size + 4 < Bx ∧ Boxed W Bx 3 (.int .i64 (x.val : Int)) ∧ a' = { tmps := #[.pointer ad, .int .u32 (m : Int), .pointer (some ⟨w.heap.size, 0, none⟩), .pointer (some ⟨w.heap.size + 1, 0, none⟩), .pointer (some ⟨w.heap.size + 1 + 1, 0, none⟩), .pointer (some ⟨Bx, 0, none⟩), undef, .pointer ad, .int .u32 (m : Int), .func (.func 45) #[] #[.pointer (some ⟨w.heap.size + 1 + 1 + 1, 0, none⟩), .pointer (some ⟨w.heap.size + 1 + 1 + 1 + 1, 0, none⟩)], .int .i64 (x.val : Int), undef, undef, undef, undef, undef, undef, undef, undef, undef, undef, undef, undef, undef, undef, undef, undef, undef, undef, undef, undef], defers := [] })
    (fun x a' _ X Y row hs hg hr => by obtain ⟨Bx, h1, h2, h3⟩ := hs; exact ⟨Bx, h1, boxed_own Bx 3 (fun (_ : Unit) => Value.int .i64 (x.val : Int)) () X Y row h2 hg (fun r e => (hr r e).2), h3⟩)
    ?assign ?body ?done ?stop
  case assign =>
    rintro l pre ⟨x, hxc⟩ W K ⟨⟨⟨⟨⟨bQ1, bM1⟩, bR1⟩, hno⟩, hs5⟩, hB1⟩ hK
    dsimp only [encs]
    gi_wp2
    exact hK _ _ ((KeepsOthers.alloc _ _).from _) (Kq.below ((Below.refl _ W).alloc (Nat.le_refl _) _) hB1.size) ⟨⟨⟨⟨⟨bQ1.alloc _, bM1.alloc _⟩, bR1.alloc _⟩, hno⟩, by simp; omega⟩, hB1.alloc hB1.size _⟩ ⟨W.heap.size, by omega, Boxed.new W 3 _, rfl⟩
  case body =>
    rintro l pre ⟨x, hxc⟩ a' W hl ⟨r, hr⟩ ⟨⟨⟨⟨⟨bQ1, bM1⟩, bR1⟩, hno⟩, hs5⟩, hB1⟩ ⟨Bx, hBx, bX, rfl⟩ hlt
    have cQ := bQ1.cell
    have cM := bM1.cell
    have h1' : 1 ≤ n - 1 - 1 := by omega
    gi_wp2_with (first | (refine ⟨trivial, ?_⟩; gi_at_call 41; refine (CallsIn.inRound l (within_in (n - 1 - 1 - 1) ad m _)).mono ?_; rintro e w' ⟨rfl, rfl⟩) | (refine ⟨trivial, fun _ => (by omega), ?_⟩; gi_at_call 41; refine (CallsIn.inRound l (within_in (n - 1 - 1 - 1) ad m _)).mono ?_; rintro e w' ⟨rfl, rfl⟩))
    have hsW := hB1.size
    have bN := (Boxed.new W 24 (.pointer ad)).alloc (.cells #[.int .u32 (m : Int)] 23)
    have bN2 := Boxed.new (W.alloc (.cells #[.pointer ad] 24)) 23 (.int .u32 (m : Int))
    simp only [World.size_alloc] at bN2
    have k1 := (Below.refl W.heap.size W).alloc (Nat.le_refl _) (.cells #[.pointer ad] 24)
    have hBN := k1.alloc k1.size (.cells #[.int .u32 (m : Int)] 23)
    have hKN : KeepsFrom W0.heap.size W ((W.alloc (.cells #[.pointer ad] 24)).alloc (.cells #[.int .u32 (m : Int)] 23)) := (KeepsFrom.trans ((KeepsOthers.alloc _ _).from _) ((KeepsOthers.alloc _ _).from _))
    have hszN : ((W.alloc (.cells #[.pointer ad] 24)).alloc (.cells #[.int .u32 (m : Int)] 23)).heap.size = W.heap.size + 2 := by simp
    have hrl : l < W.heap.size := (Array.getElem?_eq_some_iff.1 hr).1
    obtain ⟨WN, hWN⟩ : ∃ WN, (W.alloc (.cells #[.pointer ad] 24)).alloc (.cells #[.int .u32 (m : Int)] 23) = WN := ⟨_, rfl⟩
    clear k1
    rw [hWN] at bN bN2 hBN hKN hszN ⊢
    clear hWN
    have hr' : WN.heap[l]? = some (.loop r) := (hBN.block l hrl).trans hr
    have hCN := hC.low (hB1.trans (hBN.mono hsW))
    have HQ := Lib.hid (And.intro bQ1 (And.intro bM1 (And.intro bR1 (And.intro bX (And.intro hno (And.intro hB1 hs5))))))
    clear bQ1 bM1 bR1 bX hno hB1
    refine wpIn_rangeFunc_ownN (l₀ := l) (r₀ := r) rfl hr' h1' (gf := 45) (lb := #[.pointer (some ⟨W.heap.size, 0, none⟩), .pointer (some ⟨W.heap.size + 1, 0, none⟩)]) rfl trivial (enters_of Try.func45 (by kernel_rfl) rfl)
      ((within_stops (n - 1 - 1 - 1) (by omega) W.heap.size (W.heap.size + 1) w.heap.size ad c m hc8 hm WN (by omega) hCN bN bN2).inRound l) Kq.trans (Kq.put (by omega)) (Below.refl _ _) (fun _ => rfl)
      (fun pre' W' => (∀ y ∈ vals pre', ¬ L y < L x) ∧ (Below W.heap.size W W' ∧ KeepsFrom W0.heap.size W W'))
      (fun c' pre' W' => (c' = .exit 1 ∧ ∃ y ∈ vals pre', L y < L x) ∧ (Below W.heap.size W W' ∧ KeepsFrom W0.heap.size W W'))
      (OwnFrom.and (ownFrom_pure _ _) (OwnFrom.and (ownFrom_below (Nat.le_refl _) (by omega)) (ownFrom_keepsFrom (by omega))))
      (fun c' => OwnFrom.and (ownFrom_pure _ _) (OwnFrom.and (ownFrom_below (Nat.le_refl _) (by omega)) (ownFrom_keepsFrom (by omega))))
      ⟨(fun y h => by cases h), hBN, hKN⟩
      (fun y a'' _ => a'' = { tmps := #[.pointer ad, .int .u32 (m : Int), .pointer (some ⟨w.heap.size, 0, none⟩), .pointer (some ⟨w.heap.size + 1, 0, none⟩), .pointer (some ⟨w.heap.size + 1 + 1, 0, none⟩), .pointer (some ⟨Bx, 0, none⟩), .int .i64 (y.val : Int), .pointer ad, .int .u32 (m : Int), .func (.func 45) #[] #[.pointer (some ⟨w.heap.size + 1 + 1 + 1, 0, none⟩), .pointer (some ⟨w.heap.size + 1 + 1 + 1 + 1, 0, none⟩)], .int .i64 (x : Int), .pointer ad, .int .u32 (m : Int), .func (.func 45) #[] #[.pointer (some ⟨W.heap.size, 0, none⟩), .pointer (some ⟨W.heap.size + 1, 0, none⟩)], .int .i64 (y.val : Int), undef, undef, undef, undef, undef, undef, undef, undef, undef, undef, undef, undef, undef, undef, undef, undef], defers := [] })
      (fun y a'' => ownFrom_pure _ (fun _ : Unit => _))
      ?assign2 ?body2 ?done2 ?stop2
    case assign2 =>
      rintro l2 pre' ⟨y, hyc⟩ W' K hi hK
      dsimp only [encs]
      gi_wp2
      exact hK _ _ (KeepsFrom.refl _ _) (Kq.refl _ _ _ _) hi (by simp)
    case body2 =>
      rintro l2 pre' ⟨y, hyc⟩ a'' W' _ _ ⟨hq, hBW, hKF⟩ rfl _
      have cQ2 := (box_below HQ.out.1 hBW).cell
      have cX2 := (box_below HQ.out.2.2.2.1 hBW).cell
      obtain ⟨q, rfl, hq0, a1, n1, e1⟩ := hL x hxc
      obtain ⟨q2, hq2, -, a2, n2, e2⟩ := hL y hyc
      obtain rfl : q = q2 := by injection hq2 with h; injection h
      have hBw := HQ.out.2.2.2.2.2.1.trans (hBW.mono hsW)
      have f1 : W'.cell? ⟨q, 1 + x, none⟩ = some (.slice a1 (L x) n1) := (hBw.cell (p := ⟨q, 1 + x, none⟩) hq0).trans e1
      have f2 : W'.cell? ⟨q, 1 + y, none⟩ = some (.slice a2 (L y) n2) := (hBw.cell (p := ⟨q, 1 + y, none⟩) hq0).trans e2
      have hx8 : x < 8 := by omega
      have hy8 : y < 8 := by omega
      have hxI : (x : Int) < 8 := by omega
      have hyI : (y : Int) < 8 := by omega
      have HY := Lib.hid (And.intro hq (And.intro hBW hKF))
      have HD : Hid (Below W'.heap.size W' W'.drew) := Lib.hid (Below.refl _ _).drew
      clear e1 e2 hBw hq hBW hKF hq2
      dsimp only
      by_cases hlt2 : L y < L x
      · have d0 : decide ((L y : Int) < (L x : Int)) = true := decide_eq_true (by omega)
        have d1 : decide (L y < L x) = true := decide_eq_true hlt2
        have HE := Lib.hid hlt2
        clear hlt2
        gi_wp2
        refine Qrq.region_round (by intro i o ho c e; rcases i with _ | _ | _ | _ | _ | _ | _ | _ | _ | _ | _ | _ | _ | _ | _ | i <;> simp at ho <;> subst ho <;> simp at e) (by assumption) (by kernel_rfl) ?_
        repeat (gi_big_quiet_step (fail))
        refine wpQuietIn_nil ?_
        intro _ hw'
        obtain ⟨nq, hw''⟩ := hw'
        subst hw''
        have hDn := Lib.hid (below_drewN (Below.refl W'.heap.size W') nq)
        generalize W'.drewN nq = wq at *
        gi_wp2
        exact ⟨keeps_below hDn.out, ⟨rfl, y, by rw [vals_app]; simp, HE.out⟩, HY.out.2.1.trans (hDn.out.mono HY.out.2.1.size), HY.out.2.2.trans (keeps_below hDn.out)⟩
      · have d0 : decide ((L y : Int) < (L x : Int)) = false := decide_eq_false (by omega)
        have d1 : decide (L y < L x) = false := decide_eq_false hlt2
        have HE := Lib.hid hlt2
        clear hlt2
        gi_wp2
        refine Qrq.region_round (by intro i o ho c e; rcases i with _ | _ | _ | _ | _ | _ | _ | _ | _ | _ | _ | _ | _ | _ | _ | i <;> simp at ho <;> subst ho <;> simp at e) (by assumption) (by kernel_rfl) ?_
        repeat (gi_big_quiet_step (fail))
        refine wpQuietIn_nil ?_
        intro _ hw'
        obtain ⟨nq, hw''⟩ := hw'
        subst hw''
        have hDn := Lib.hid (below_drewN (Below.refl W'.heap.size W') nq)
        generalize W'.drewN nq = wq at *
        gi_wp2
        refine ⟨keeps_below hDn.out, Kq.below hDn.out (Nat.le_trans hsW HY.out.2.1.size), fun z hz => ?_, HY.out.2.1.trans (hDn.out.mono HY.out.2.1.size), HY.out.2.2.trans (keeps_below hDn.out)⟩
        rw [vals_app] at hz
        rcases List.mem_append.1 hz with h | h
        · exact HY.out.1 z h
        · rw [List.mem_singleton] at h; subst h; exact HE.out
    case done2 =>
      rintro ys' W' hys ⟨hq, hBW, hKF⟩
      rw [hys] at hq
      have bX2 := box_below HQ.out.2.2.2.1 hBW
      have bR2 := box_below HQ.out.2.2.1 hBW
      have cX2 := bX2.cell
      have cR2 := bR2.cell
      have fR2 := bR2.frozen
      have HY := Lib.hid (And.intro (least_iff.2 (fun j hj => Nat.not_lt.1 (hq j hj))) (And.intro hBW (And.intro hKF bR2)))
      clear hq hBW hKF bX2 bR2
      gi_wp2
      exact ⟨HY.out.2.2.1.trans ((KeepsOthers.setCell _ _ _).from _), ⟨x, vals pre, HY.out.2.2.2.set _, rfl, vals_app _ _, HQ.out.2.2.2.2.1, HY.out.1⟩, (HQ.out.2.2.2.2.2.1.trans (HY.out.2.1.mono hsW)).setCell (p := ⟨w.heap.size + 1 + 1, 0, none⟩) (by simp; omega) _⟩
    case stop2 =>
      rintro c' pre' W' ⟨k, hk, hpre⟩ ⟨⟨rfl, y, hy, hlt2⟩, hBW, hKF⟩
      rw [hpre] at hy
      have HY := Lib.hid (And.intro (least_no hk hy hlt2) (And.intro hBW hKF))
      clear hy hlt2 hBW hKF
      gi_wp2
      refine ⟨HY.out.2.2, Kq.below HY.out.2.1 hsW, ⟨⟨⟨⟨box_below HQ.out.1 HY.out.2.1, box_below HQ.out.2.1 HY.out.2.1⟩, box_below HQ.out.2.2.1 HY.out.2.1⟩, fun z hz => ?_⟩, Nat.le_trans HQ.out.2.2.2.2.2.2 HY.out.2.1.size⟩, HQ.out.2.2.2.2.2.1.trans (HY.out.2.1.mono hsW)⟩
      rw [vals_app] at hz
      rcases List.mem_append.1 hz with h | h
      · exact HQ.out.2.2.2.2.1 z h
      · rw [List.mem_singleton] at h; subst h; exact HY.out.1
  case done =>
    rintro D ys W hD hys ⟨⟨⟨⟨⟨bQ1, bM1⟩, bR1⟩, hno⟩, hs5⟩, hB1⟩ hK
    rw [hys] at hno
    have cL := bR1.cell
    have fL := bR1.frozen
    have hK' := (KeepsOthers.setCell W ⟨w.heap.size + 1 + 1, 0, none⟩ (.int .i64 (-1))).same D _ hK rfl
    have hc5 := cell_kept (bR1.set (.int .i64 (-1))).cell (grownBy_putObj' _ D (.deferred none)) (fun r e => by cases e; exact ⟨_, hK', rfl⟩)
    have HX := Lib.hid (And.intro (few_nobody hno) hB1)
    clear hno hB1 bQ1 bM1
    gi_wp2
    refine ⟨by simp, .inl ⟨_, _, rfl, run_takeDeferred hK', ?_⟩⟩
    refine ⟨.int .i64 (-1), ?_, by rw [HX.out.1], (HX.out.2.setCell (p := ⟨w.heap.size + 1 + 1, 0, none⟩) (by simp; omega) _).trans (belowK_b (w := w) (Nat.le_refl _) _ D _ _ (by omega) hK' rfl rfl)⟩
    simp [results, go_sem, hc5]
  case stop =>
    rintro D c' pre W hD ⟨k, hk, hpre⟩ ⟨⟨x, ini, hv, rfl, hpx, hno, hx⟩, hB⟩ hK
    rw [hpx] at hpre
    have hc5 := cell_kept hv.cell (grownBy_putObj' _ D (.deferred none)) (fun r e => by cases e; exact ⟨_, hK, rfl⟩)
    have HX := Lib.hid (And.intro (few_first hk hpre hno hx) hB)
    clear hB hx hno hpre
    gi_wp2
    refine ⟨by simp, .inl ⟨_, _, rfl, run_takeDeferred hK, ?_⟩⟩
    refine ⟨.int .i64 (x : Int), ?_, by rw [HX.out.1], HX.out.2.trans (belowK_b (w := w) (Nat.le_refl _) W D _ _ (by omega) hK rfl rfl)⟩
    simp [results, go_sem, hc5]
theorem fewest_any (ad : Option Addr) (c m : Nat) (hc8 : c ≤ 8) (hm : m < 4294967296) (L : Nat → Nat) (w : World) (hC : Cs w.heap.size w ad c) (hL : Lens w.heap.size w ad c L) :
    Calls Try.prog 31 #[.pointer ad, .int .u32 (m : Int)] w fun e w' => e = .returned (.int .i64 (few c m L)) ∧ Below w.heap.size w w' := (callsIn_wide (n := 8)).1 (fewest_in 8 (Nat.le_refl _) ad c m hc8 hm L w hC hL)
theorem may_any (ad : Option Addr) (c m : Nat) (hc8 : c ≤ 8) (hm : m < 4294967296) (L : Nat → Nat) (w : World) (hC : Cs w.heap.size w ad c) (hL : Lens w.heap.size w ad c L) :
    Calls Try.prog 19 #[.pointer ad, .int .u32 (m : Int)] w fun e w' => e = .returned (.bool (may c m)) ∧ Below w.heap.size w w' := by
  have HF := Lib.hid (fewest_any ad c m hc8 hm L w hC hL)
  have d0 : decide (0 ≤ few c m L) = may c m := may_few
  generalize few c m L = z at *
  generalize may c m = b at *
  clear hC hL
  go_enter Try.func19, Try.ntmps19
  go_wp2_with (go_at_call 31; (with_reducible refine HF.out.mono ?_); rintro e w1 ⟨rfl, hb⟩)
  go_ret
  exact ⟨rfl, hb⟩
theorem lens_nil (n₀ : Nat) (w : World) (L : Nat → Nat) : Lens n₀ w none 0 L := fun k hk => absurd hk (Nat.not_lt_zero _)
theorem lens_zero (n₀ : Nat) (w : World) (ad : Option Addr) (L : Nat → Nat) : Lens n₀ w ad 0 L := fun k hk => absurd hk (Nat.not_lt_zero _)
theorem lens_qs {w : World} {q c : Nat} {S : Nat → Prop} {l : Ls} (h : Qs w q S c l) : Lens w.heap.size w (some ⟨q, 0, none⟩) c (lens l) := fun k hk => by
  obtain ⟨vs, G, h⟩ := h
  have h8 := h.c8
  obtain ⟨a, n, e, _⟩ := (h.row k (by omega)).form
  exact ⟨q, rfl, h.blk.lt, a, n, by rw [h.ck k (by omega), e]; rfl⟩
end Go.Proofs.Ytkjmpkoogjbjnaa.Que
