/-
  Next, and Wakes.
-/
import Derived.Test.YtlhhgapimhpgnaaSgf
namespace Go.Proofs.Ytlhhgapimhpgnaa.Sgg
open Go Go.RowKit Go.Shelf Kit Bk Sga Sgb Sgc Sgd Sge Sgf
set_option linter.unusedVariables false
attribute [local go_sem] Oper.semAt_some
attribute [local go_sem ↓] lds_wrap sts_wrap eqv_wrap nev_wrap

theorem res_iis {fn : Func} {p q x : Tmp} (h : fn.results = #[.cell p 3, .cell q 3, .cell x 25]) (tmps : Array Value) (w : World) (g1 g2 g : Nat) (a b : Int) (s : Sg) (hp : tmps.getD p undef = sp g1) (hq : tmps.getD q undef = sp g2) (hx : tmps.getD x undef = sp g)
    (ha : w.cell? ⟨g1, 0, none⟩ = some (.int .i64 a)) (hb : w.cell? ⟨g2, 0, none⟩ = some (.int .i64 b)) (hg : V w g s) :
    (results fn tmps).run Try.prog w = .ok (.tuple #[.int .i64 a, .int .i64 b, cv s]) w := by
  have hp' : tmps[p]?.getD undef = sp g1 := by simpa using hp
  have hq' : tmps[q]?.getD undef = sp g2 := by simpa using hq
  have hx' : tmps[x]?.getD undef = sp g := by simpa using hx
  have la : (loadVar 3 ⟨g1, 0, none⟩).run Try.prog w = .ok (.int .i64 a) w := by simp [go_sem, ha]
  have lb : (loadVar 3 ⟨g2, 0, none⟩).run Try.prog w = .ok (.int .i64 b) w := by simp [go_sem, hb]
  simp [results, h, hp', hq', hx', asAddr, run_loadVar_row w g _ 25 _ (0, 0) _ hg Try.underlying25 rfl (by rw [infoS]; rfl), la, lb]
/-- The four boxes of Next: what came in, which is told, what becomes of it, what is answered. -/
structure Four (n : Nat) (w : World) (s t : Sg) (a b : Int) : Prop where
  i : V w n s
  x : Boxed w (n + 1) 3 (.int .i64 a)
  y : Boxed w (n + 1 + 1) 3 (.int .i64 b)
  t : V w (n + 1 + 1 + 1) t
theorem Four.below {n : Nat} {w w' : World} {s t : Sg} {a b : Int} (h : Four n w s t a b) (hb : Below w.heap.size w w') : Four n w' s t a b := ⟨h.i.below hb, (hb.block _ h.x.lt).trans h.x, (hb.block _ h.y.lt).trans h.y, h.t.below hb⟩
theorem Four.lt {n : Nat} {w : World} {s t : Sg} {a b : Int} (h : Four n w s t a b) : n + 1 + 1 + 1 < w.heap.size := h.t.lt
theorem Four.drew {n : Nat} {w : World} {s t : Sg} {a b : Int} (h : Four n w s t a b) : Four n w.drew s t a b := h.below (Below.refl _ _).drew
theorem Four.setx {n : Nat} {w : World} {s t : Sg} {a b : Int} (h : Four n w s t a b) (a' : Int) : Four n (w.setCell ⟨n + 1, 0, none⟩ (.int .i64 a')) s t a' b := ⟨Blk.other h.i _ _ _ (by omega), heap_setCell_same w _ _ _ _ _ h.x, Boxed.other h.y (by omega) _, Blk.other h.t _ _ _ (by omega)⟩
theorem Four.setb {n : Nat} {w : World} {s t : Sg} {a b : Int} (h : Four n w s t a b) (p : Bool) : Four n (w.setCell ⟨n + 1 + 1 + 1, 18, none⟩ (.bool p)) s (setB t p) a b := ⟨Blk.other h.i _ _ _ (by omega), (Deep.blk_setCell_other w ⟨n + 1 + 1 + 1, 18, none⟩ (.bool p) _ (by show n + 1 ≠ n + 1 + 1 + 1; omega)).trans h.x, (Deep.blk_setCell_other w ⟨n + 1 + 1 + 1, 18, none⟩ (.bool p) _ (by show n + 1 + 1 ≠ n + 1 + 1 + 1; omega)).trans h.y, h.t.setb p⟩
theorem Four.sety {n : Nat} {w : World} {s t : Sg} {a b : Int} (h : Four n w s t a b) (b' : Int) : Four n (w.setCell ⟨n + 1 + 1, 0, none⟩ (.int .i64 b')) s t a b' := ⟨Blk.other h.i _ _ _ (by omega), Boxed.other h.x (by omega) _, heap_setCell_same w _ _ _ _ _ h.y, Blk.other h.t _ _ _ (by omega)⟩
theorem box_other {W : World} {B B' i : Nat} {t : TypeId} {v : Value} (h : Boxed W B t v) (hne : B ≠ B') (u : Value) : Boxed (W.setCell ⟨B', i, none⟩ u) B t v := (Deep.blk_setCell_other W ⟨B', i, none⟩ u B hne).trans h
theorem Four.setp {n : Nat} {w : World} {s t : Sg} {a b : Int} (h : Four n w s t a b) (p : Nat) : Four n (w.setCell ⟨n + 1 + 1 + 1, 0, none⟩ (uv p)) s (setP t p) a b := ⟨Blk.other h.i _ _ _ (by omega), box_other h.x (by omega) _, box_other h.y (by omega) _, h.t.setp p⟩
/-- What is stored as a whole. -/
theorem Four.st {n : Nat} {w : World} {s t : Sg} {a b : Int} (h : Four n w s t a b) (u : Sg) : ∃ w', (stS (sp (n + 1 + 1 + 1)) (cv u)).run Try.prog w = .ok () w' ∧ Four n w' s u a b ∧ Kp (fun j => j = n + 1 + 1 + 1) w w' := by
  obtain ⟨w', h1, h2, h3, h4⟩ := h.t.st u
  exact ⟨w', h1, ⟨h.i.kept h3 (by omega), (h3.block _ h.x.lt (by omega)).trans h.x, (h3.block _ h.y.lt (by omega)).trans h.y, h2⟩, h3⟩
theorem four0 (w : World) (s : Sg) : Four w.heap.size ((((w.alloc (.cells (cs s) 25)).alloc (.cells #[.int .i64 0] 3)).alloc (.cells #[.int .i64 0] 3)).alloc (.cells zcs 25)) s z0 0 0 ∧ Below w.heap.size w ((((w.alloc (.cells (cs s) 25)).alloc (.cells #[.int .i64 0] 3)).alloc (.cells #[.int .i64 0] 3)).alloc (.cells zcs 25)) := by
  have h1 := V.new w s
  generalize hW1 : w.alloc (.cells (cs s) 25) = W1 at *
  have s1 : W1.heap.size = w.heap.size + 1 := by rw [← hW1]; simp
  have d1 : Below w.heap.size w W1 := by rw [← hW1]; exact (Below.refl _ _).alloc (Nat.le_refl _) _
  have h2 := Boxed.new W1 3 (.int .i64 0)
  have h1 := h1.below ((Below.refl _ _).alloc (Nat.le_refl _) (.cells #[.int .i64 0] 3))
  have d2 := d1.alloc d1.size (.cells #[.int .i64 0] 3)
  generalize hW2 : W1.alloc (.cells #[.int .i64 0] 3) = W2 at *
  have s2 : W2.heap.size = w.heap.size + 2 := by rw [← hW2]; simp [s1]
  have h3 := Boxed.new W2 3 (.int .i64 0)
  have b3 := (Below.refl W2.heap.size W2).alloc (Nat.le_refl _) (.cells #[.int .i64 0] 3)
  have h1 := h1.below b3
  have h2 := (b3.block _ h2.lt).trans h2
  have d3 := d2.alloc d2.size (.cells #[.int .i64 0] 3)
  generalize hW3 : W2.alloc (.cells #[.int .i64 0] 3) = W3 at *
  have s3 : W3.heap.size = w.heap.size + 3 := by rw [← hW3]; simp [s2]
  have b4 := (Below.refl W3.heap.size W3).alloc (Nat.le_refl _) (.cells zcs 25)
  have h4 := V.zero W3
  have d4 := d3.alloc d3.size (.cells zcs 25)
  rw [s3] at h4
  rw [s2] at h3
  rw [s1] at h2
  exact ⟨⟨h1.below b4, (b4.block _ (by omega)).trans h2, (b4.block _ (by omega)).trans h3, h4⟩, d4⟩

set_option maxRecDepth 100000 in
set_option maxHeartbeats 4000000 in
theorem next_no (m : Nat) (hm : 4 ≤ m) (w : World) (s : Sg) (hs : s.Ok) (h : may s = false) :
    CallsIn Fence.wide m Try.prog 19 #[cv s] w fun e w' => e = .returned (.tuple #[.int .i64 0, .int .i64 0, cv s]) ∧ Below w.heap.size w w' := by
  obtain ⟨F0, D0⟩ := four0 w s
  have HC : Hid (∀ W, CallsIn Fence.wide (m - 1) Try.prog 14 #[cv s] W fun e w' => e = .returned (.int .i64 120) ∧ Below W.heap.size W w') := Lib.hid (fun W => by have := check_any W s hs; rw [ckE_no h] at this; exact (callsIn_wide (n := m - 1)).2 this)
  have HF := Lib.hid (And.intro F0 D0)
  have l0 := F0.i.ld
  clear F0 D0
  refine callsIn_of_wp_marks Try.func19 rfl trivial ?_ rfl
  simp only [Try.ntmps19, List.size_toArray, List.length_cons, List.length_nil, Nat.reduceAdd, Nat.reduceSub, Array.replicate_succ, Array.replicate_zero, List.push_toArray, List.append_toArray, List.nil_append, List.cons_append]
  gi_wp2
  refine wpIn_wide.2 (wp_scope_straight ((wpIn_wide (n := m)).1 ?_))
  gi_wp2_with (first | (refine ⟨trivial, fun _ => (by omega), ?_⟩; gi_at_call 14; refine (HC.out _).mono ?_; rintro e w1 ⟨rfl, hb1⟩))
  have F1 := HF.out.1.below hb1
  have D1 := HF.out.2.trans (hb1.mono HF.out.2.size)
  have l1 := F1.drew.i.ld
  have x1 := F1.drew.x.cell
  have fx1 := F1.drew.x.frozen
  have F2 := (F1.setx 0).drew
  have l2 := F2.i.ld
  have y2 := F2.y.cell
  have fy2 := F2.y.frozen
  have F3 := ((F1.setx 0).sety 0).drew
  have l3 := F3.i.ld
  obtain ⟨w4, h4, F4, k4⟩ := F3.st s
  have D4 : Below w.heap.size w w4 := (((D1.setCell (p := ⟨w.heap.size + 1, 0, none⟩) (by show w.heap.size ≤ w.heap.size + 1; omega) (.int .i64 0)).setCell (p := ⟨w.heap.size + 1 + 1, 0, none⟩) (by show w.heap.size ≤ w.heap.size + 1 + 1; omega) (.int .i64 0)).drew).trans (k4.below (by have := F3.lt; omega) (fun j e => by omega))
  have H4 := Lib.hid (And.intro F4 D4)
  clear F1 D1 F2 F3 F4 k4 D4 hb1 l0
  have hmx : Try.prog.follows .mixedOrders = true := by kernel_rfl
  gi_big_region_o
  gi_wp2
  rw [Exit.noGoto_ret]
  exact ⟨_, res_iis rfl _ _ (w.heap.size + 1) (w.heap.size + 1 + 1) (w.heap.size + 1 + 1 + 1) 0 0 s rfl rfl rfl H4.out.1.x.cell H4.out.1.y.cell H4.out.1.t, rfl, H4.out.2⟩

/-- A region that goes on, and in no other way. -/
def Only (K : Act → World → Prop) : Exit → Act → World → Prop
  | .normal, a, w => K a w
  | _, _, _ => False
theorem kp_low {S : Nat → Prop} {w a b : World} (h : Kp S w a) (hb : Below a.heap.size a b) : Kp S w b :=
  h.trans (.of_below hb) (fun j e => .inl e)
theorem keeps_kp {S : Nat → Prop} {W W' : World} {B : Nat} (hk : Kp S W W') (hS : ∀ j, S j → j < B) : KeepsFrom B W W' :=
  ⟨hk.size, fun k o hB h _ => (hk.block k (Array.getElem?_eq_some_iff.1 h).1 (fun e => by have := hS k e; omega)).trans h⟩
def mn (x : Nat) : Nat := min x 15
def encm (x : Nat) : Array Value := #[.int .i64 ((mn x : Nat) : Int)]
theorem mn_lt (x : Nat) : mn x < 16 := by unfold mn; omega
theorem mn_id {x : Nat} (h : x ≤ 15) : mn x = x := by unfold mn; omega
theorem map_mn {d k : Nat} (hk : k ≤ 15) : (sgs d k).map mn = sgs d k := by
  conv => rhs; rw [← List.map_id (sgs d k)]
  exact List.map_congr_left fun x hx => mn_id (Nat.le_trans (mem_sgs.1 hx).2.1 hk)
/-- What Next's loop knows when some are passed. -/
structure Iv (n : Nat) (w0 : World) (s : Sg) (pre : List Nat) (W : World) : Prop where
  four : Four n W s (setP s (clrs s.p (pre.map mn))) 0 0
  ign : ∀ x ∈ pre, ft s (mn x) = 0
  d : Below n w0 W
/-- What it knows when it is left. -/
structure Ivx (n : Nat) (w0 : World) (s : Sg) (pre : List Nat) (W : World) : Prop where
  out : ∃ ini x, pre = ini ++ [x] ∧ (∀ y ∈ ini, ft s (mn y) = 0) ∧ ft s (mn x) ≠ 0 ∧ Four n W s (setB (setP s (clrs s.p (pre.map mn))) (s.b || ft s (mn x) == 2)) (mn x : Nat) (ft s (mn x) : Nat)
  d : Below n w0 W
theorem blk_own {X Y : World} {row : Option Nat} {b B : Nat} {cs : Array Value} {T : TypeId} (h : Blk X b cs T) (hg : X.grownBy Y row) (hr : ∀ r, row = some r → B ≤ r ∧ ∃ o : Obj, X.heap[r]? = some o ∧ o.isCells = false) : Blk Y b cs T :=
  (hg.block b h.lt (fun e => by
    obtain ⟨_, o, ho, hc⟩ := hr b e.symm
    rw [show X.heap[b]? = _ from h] at ho
    cases ho
    cases hc)).trans h
theorem Four.own {X Y : World} {row : Option Nat} {B n : Nat} {s t : Sg} {a b : Int} (h : Four n X s t a b) (hg : X.grownBy Y row) (hr : ∀ r, row = some r → B ≤ r ∧ ∃ o : Obj, X.heap[r]? = some o ∧ o.isCells = false) : Four n Y s t a b :=
  ⟨blk_own h.i hg hr, blk_own h.x hg hr, blk_own h.y hg hr, blk_own h.t hg hr⟩
theorem iv_own {n B : Nat} {w0 : World} {s : Sg} (hn : n ≤ w0.heap.size) (hB : n ≤ B) : OwnFrom B (Iv n w0 s) := fun pre X Y row h hg hr =>
  ⟨h.four.own hg hr, h.ign, h.d.grown hg (Nat.le_trans hn h.d.size) (fun k e => Nat.le_trans hB (hr k e).1)⟩
theorem ivx_own {n B : Nat} {w0 : World} {s : Sg} (hn : n ≤ w0.heap.size) (hB : n ≤ B) (c : Code) : OwnFrom B (fun pre W => c = .exit 0 ∧ Ivx n w0 s pre W) := fun pre X Y row h hg hr =>
  ⟨h.1, by
    obtain ⟨ini, x, h1, h2, h3, h4⟩ := h.2.out
    exact ⟨ini, x, h1, h2, h3, h4.own hg hr⟩, h.2.d.grown hg (Nat.le_trans hn h.2.d.size) (fun k e => Nat.le_trans hB (hr k e).1)⟩

set_option maxRecDepth 100000 in
set_option maxHeartbeats 4000000 in
theorem next_yes (m : Nat) (hm : 4 ≤ m) (w : World) (s : Sg) (hs : s.Ok) (h : may s = true) :
    CallsIn Fence.wide m Try.prog 19 #[cv s] w fun e w' => e = .returned (.tuple #[.int .i64 (nN s : Nat), .int .i64 (nB s : Nat), cv (nS s)]) ∧ Below w.heap.size w w' := by
  have hmx : Try.prog.follows .mixedOrders = true := by kernel_rfl
  obtain ⟨F0, D0⟩ := four0 w s
  have HC : Hid (∀ W, CallsIn Fence.wide (m - 1) Try.prog 14 #[cv s] W fun e w' => e = .returned (.int .i64 0) ∧ Below W.heap.size W w') := Lib.hid (fun W => by have := check_any W s hs; rw [ckE_yes h] at this; exact (callsIn_wide (n := m - 1)).2 this)
  have HD : Hid (∀ W, CallsIn Fence.wide (m - 1) Try.prog 36 #[cv s] W fun e w' => e = .returned (uv (dv s)) ∧ Below W.heap.size W w') := Lib.hid (fun W => (callsIn_wide (n := m - 1)).2 (deliverable_any W s hs))
  have HF := Lib.hid (And.intro F0 D0)
  have l0 := F0.i.ld
  have hdl := dv_lt hs
  generalize hdd : dv s = d at *
  have HDD := Lib.hid hdd
  clear F0 D0 hdd
  refine callsIn_of_wp_marks Try.func19 rfl trivial ?_ rfl
  simp only [Try.ntmps19, List.size_toArray, List.length_cons, List.length_nil, Nat.reduceAdd, Nat.reduceSub, Array.replicate_succ, Array.replicate_zero, List.push_toArray, List.append_toArray, List.nil_append, List.cons_append]
  gi_wp2
  refine wpIn_wide.2 (wp_scope_straight ((wpIn_wide (n := m)).1 ?_))
  gi_wp2_with (first | (refine ⟨trivial, fun _ => (by omega), ?_⟩; gi_at_call 14; refine (HC.out _).mono ?_; rintro e w1 ⟨rfl, hb1⟩; refine Hid.out ?_))
  refine Lib.hid ?_
  have F1 := HF.out.1.below hb1
  have D1 := HF.out.2.trans (hb1.mono HF.out.2.size)
  have l1 := F1.i.ld
  obtain ⟨w2, h2, F2, k2⟩ := F1.st s
  have D2 : Below w.heap.size w w2 := D1.trans (k2.below (by have := F1.lt; omega) (fun j e => by omega))
  have l2 := F2.i.ld
  have H2 := Lib.hid (And.intro F2 D2)
  clear F1 D1 F2 k2 D2 hb1 l0
  gi_wp2
  refine wpIn_label ?_
  gi_wp2_with (first | (refine ⟨trivial, fun _ => (by omega), ?_⟩; gi_at_call 36; refine (HD.out _).mono ?_; rintro e w3 ⟨rfl, hb3⟩; refine Hid.out ?_) | (refine ⟨trivial, fun _ => (by omega), ?_⟩; gi_at_call 33; refine (signals_in (m - 1) d _).mono ?_; rintro e w4 ⟨rfl, rfl⟩))
  refine Lib.hid ?_
  have F3 := H2.out.1.below hb3
  have D3 := H2.out.2.trans (hb3.mono H2.out.2.size)
  have b4 := (Below.refl w3.heap.size w3).alloc (Nat.le_refl _) (.cells #[uv d] 22)
  have F4 := F3.below b4
  have D4 := D3.alloc D3.size (.cells #[uv d] 22)
  have bB := Boxed.new w3 22 (uv d)
  have s4 : (w3.alloc (.cells #[uv d] 22)).heap.size = w3.heap.size + 1 := by simp
  have s3 := F3.lt
  gi_wp2_with (first | (refine ⟨trivial, fun _ => (by omega), ?_⟩; gi_at_call 33; refine (signals_in (m - 1) d _).mono ?_; rintro e w4 ⟨rfl, rfl⟩))
  obtain ⟨W0, hW0⟩ : ∃ W0, w3.alloc (.cells #[uv d] 22) = W0 := ⟨_, rfl⟩
  rw [hW0] at F4 D4 bB s4 ⊢
  clear hW0 b4
  generalize hB3 : w3.heap.size = B3 at *
  clear hB3 hb3 F3 D3 l1 h2 l2
  refine wpIn_rangeFunc_ownH rfl (by omega) (gf := 40) (lb := #[.pointer (some ⟨B3, 0, none⟩)]) rfl trivial (enters_of Try.func40 (by kernel_rfl) rfl)
    (signals_stops encm (fun x hx => by unfold encm encs; rw [mn_id hx]) (m - 1) (by omega) B3 w.heap.size d hdl W0 D4.size bB) Kq.trans (Kq.put (by omega)) (Below.refl _ _) (fun _ => rfl)
    (Iv w.heap.size w s)
    (fun c pre W => c = .exit 0 ∧ Ivx w.heap.size w s pre W)
    (iv_own (Nat.le_refl _) (by omega))
    (fun c => ivx_own (Nat.le_refl _) (by omega) c)
    ⟨F4, (fun x h => by cases h), D4⟩
    (fun x a' W => a' = { tmps := #[cv s, sp w.heap.size, sp (w.heap.size + 1), sp (w.heap.size + 1 + 1), sp (w.heap.size + 1 + 1 + 1), .int .i64 ((mn x : Nat) : Int), cv s, .int .i64 0, .bool false, undef, cv s, cv s, uv d, .func (.func 40) #[] #[.pointer (some ⟨B3, 0, none⟩)], .int .i64 ((mn x : Nat) : Int), undef, undef, undef, undef, undef, undef, undef, undef, undef, undef, undef, undef, undef, undef, undef, undef, undef, undef, undef, undef], defers := [] })
    (fun x a' => ownFrom_pure _ (fun _ : Unit => _))
    ?assign ?body ?done ?stop
  case assign =>
    rintro l pre x W K hI hK
    dsimp only [encm]
    gi_wp2
    exact hK _ _ ((KeepsOthers.refl _).from _) (Kq.refl _ _ _) hI (by simp)
  case body =>
    rintro l pre x a' W hl ⟨rr, hr⟩ hIv rfl hlt
    have hx16 := mn_lt x
    have hmap : clrs s.p ((pre ++ [x]).map mn) = clr (clrs s.p (pre.map mn)) (mn x) := by rw [List.map_append]; exact clrs_app _ _ _
    obtain ⟨F5, ign, D5⟩ := hIv
    have HIg := Lib.hid (And.intro ign (And.intro hmap s4))
    have hp5 := clrs_lt hs.p (pre.map mn)
    have hB3 : w.heap.size + 1 + 1 + 1 < B3 := s3
    generalize clrs s.p (pre.map mn) = p5 at *
    have HF := Lib.hid (And.intro F5 D5)
    have e1 : bits .andNot .u32 (p5 : Int) (bt (mn x) : Nat) = ((clr p5 (mn x) : Nat) : Int) := u32_andNot_nat _ _ hp5 (bt_lt (by omega))
    have HT : Hid (∀ Y, CallsIn (Fence.wide.inRound l) (m - 1 - 1 - 1) Try.prog 37 #[.int .i64 ((mn x : Nat) : Int)] Y fun e w' => e = .returned (uv (bt (mn x))) ∧ Y = w') := Lib.hid (fun Y => CallsIn.inRound l ((callsIn_wide (n := m - 1 - 1 - 1)).2 (bit_any Y (mn x) (by omega))))
    have HX : Hid (∀ Y, CallsIn (Fence.wide.inRound l) (m - 1 - 1 - 1) Try.prog 38 #[cv s, .int .i64 ((mn x : Nat) : Int)] Y fun e w' => e = .returned (.int .i64 (ft s (mn x) : Nat)) ∧ Below Y.heap.size Y w') := Lib.hid (fun Y => CallsIn.inRound l ((callsIn_wide (n := m - 1 - 1 - 1)).2 (fate_any Y s (mn x) hx16)))
    have F6 := F5.drew
    have c6 : W.drew.cell? ⟨w.heap.size + 1 + 1 + 1, 0, none⟩ = some (uv p5) := F6.t.p0
    have f6 := F6.t.free 0
    have F7 := (F5.setp (clr p5 (mn x))).drew
    have K7 : Kp (fun j => j = w.heap.size + 1 ∨ j = w.heap.size + 1 + 1 ∨ j = w.heap.size + 1 + 1 + 1) W (W.setCell ⟨w.heap.size + 1 + 1 + 1, 0, none⟩ (uv (clr p5 (mn x)))).drew := (Kp.set W _ 0 _ (.inr (.inr rfl))).drew
    have l7 := F7.i.ld
    have H7 := Lib.hid (And.intro F7 K7)
    have hz : ft s (mn x) = 0 ∨ ft s (mn x) = 1 ∨ ft s (mn x) = 2 := by
      unfold ft
      split
      · exact .inl rfl
      · split
        · exact .inr (.inl rfl)
        · exact .inr (.inr rfl)
    generalize hft : ft s (mn x) = z at *
    generalize hqx : mn x = q at *
    have HQ := Lib.hid (And.intro hqx hft)
    clear hqx hft
    clear F5 F6 F7 K7 D5 ign hmap hp5 hs bB F4 D4 s4 s3
    gi_wp2
    refine wpIn_mono (Q := Only (fun a' Wf => a' = { tmps := #[cv s, sp w.heap.size, sp (w.heap.size + 1), sp (w.heap.size + 1 + 1), sp (w.heap.size + 1 + 1 + 1), .int .i64 (q : Int), cv s, .int .i64 0, .bool false, undef, cv s, cv s, uv d, .func (.func 40) #[] #[.pointer (some ⟨B3, 0, none⟩)], .int .i64 (q : Int), sp (w.heap.size + 1 + 1 + 1), uv p5, .int .i64 (q : Int), uv (bt q), uv (clr p5 q), sp (w.heap.size + 1 + 1 + 1), undef, undef, undef, undef, undef, undef, undef, undef, undef, undef, undef, undef, undef, undef], defers := [] } ∧ Wf = (W.setCell ⟨w.heap.size + 1 + 1 + 1, 0, none⟩ (uv (clr p5 q))).drew)) ?_ ?_
    · gi_region_with_o (first | (refine ⟨trivial, fun _ => (by omega), ?_⟩; refine (HT.out _).mono ?_; rintro e w9 ⟨rfl, rfl⟩))
      all_goals exact ⟨rfl, rfl⟩
    · intro e a' W7 hq
      cases e <;> first | exact hq.elim | skip
      obtain ⟨rfl, rfl⟩ := hq
      show _
      generalize hW7 : (W.setCell ⟨w.heap.size + 1 + 1 + 1, 0, none⟩ (uv (clr p5 q))).drew = W7 at *
      clear hW7 c6 f6 e1
      rcases hz with rfl | rfl | rfl
      all_goals gi_wp2_with (first | (refine ⟨trivial, fun _ => (by omega), ?_⟩; gi_at_call 38; refine (HX.out _).mono ?_; rintro e w8 ⟨rfl, hb8⟩; have F8 := H7.out.1.below hb8; have c8 := F8.y.cell; have f8 := F8.y.frozen; have x8 := F8.x.cell; have g8 := F8.x.frozen; have b8 := F8.t.b18; have h8 := F8.t.free 18; have K8 := kp_low H7.out.2 hb8; have H8 := Lib.hid (And.intro F8 K8); clear F8 K8 hb8))
      · have K9 := H8.out.2.trans (Kp.set (S := fun j => j = w.heap.size + 1 ∨ j = w.heap.size + 1 + 1 ∨ j = w.heap.size + 1 + 1 + 1) w8 (w.heap.size + 1 + 1) 0 (.int .i64 0) (.inr (.inl rfl))) (fun j e => .inl e)
        have hsW := HF.out.2.size
        have h4 := HIg.out.2.2
        refine ⟨keeps_kp K9 (fun j e => by omega), ⟨K9.below hsW (fun j e => by omega), fun v hv => (K9.block B3 hv.lt (by omega)).trans hv⟩, ?_, ?_, ?_⟩
        · rw [HIg.out.2.1]
          exact H8.out.1.sety 0
        · intro y hy
          rcases List.mem_append.1 hy with hy | hy
          · exact HIg.out.1 y hy
          · rw [List.mem_singleton] at hy; subst hy
            rw [HQ.out.1]; exact HQ.out.2
        · exact HF.out.2.trans (K9.below hsW (fun j e => by omega))
      · have K9 := (H8.out.2.trans (Kp.set (S := fun j => j = w.heap.size + 1 ∨ j = w.heap.size + 1 + 1 ∨ j = w.heap.size + 1 + 1 + 1) w8 (w.heap.size + 1 + 1) 0 (.int .i64 1) (.inr (.inl rfl))) (fun j e => .inl e)).trans (Kp.set (S := fun j => j = w.heap.size + 1 ∨ j = w.heap.size + 1 + 1 ∨ j = w.heap.size + 1 + 1 + 1) _ (w.heap.size + 1) 0 (.int .i64 (q : Int)) (.inl rfl)) (fun j e => .inl e)
        have hsW := HF.out.2.size
        have h4 := HIg.out.2.2
        refine ⟨keeps_kp K9 (fun j e => by omega), rfl, ⟨pre, x, rfl, HIg.out.1, by rw [HQ.out.1, HQ.out.2]; decide, ?_⟩, HF.out.2.trans (K9.below hsW (fun j e => by omega))⟩
        rw [HIg.out.2.1, HQ.out.1, HQ.out.2, show (s.b || (1 : Nat) == 2) = s.b from Bool.or_false _]
        exact (H8.out.1.sety 1).setx q
      · have K9 := ((H8.out.2.trans (Kp.set (S := fun j => j = w.heap.size + 1 ∨ j = w.heap.size + 1 + 1 ∨ j = w.heap.size + 1 + 1 + 1) w8 (w.heap.size + 1 + 1) 0 (.int .i64 2) (.inr (.inl rfl))) (fun j e => .inl e)).trans (Kp.set (S := fun j => j = w.heap.size + 1 ∨ j = w.heap.size + 1 + 1 ∨ j = w.heap.size + 1 + 1 + 1) _ (w.heap.size + 1) 0 (.int .i64 (q : Int)) (.inl rfl)) (fun j e => .inl e)).trans (Kp.set (S := fun j => j = w.heap.size + 1 ∨ j = w.heap.size + 1 + 1 ∨ j = w.heap.size + 1 + 1 + 1) _ (w.heap.size + 1 + 1 + 1) 18 (.bool true) (.inr (.inr rfl))) (fun j e => .inl e)
        have hsW := HF.out.2.size
        have h4 := HIg.out.2.2
        refine ⟨keeps_kp K9 (fun j e => by omega), rfl, ⟨pre, x, rfl, HIg.out.1, by rw [HQ.out.1, HQ.out.2]; decide, ?_⟩, HF.out.2.trans (K9.below hsW (fun j e => by omega))⟩
        rw [HIg.out.2.1, HQ.out.1, HQ.out.2, show (s.b || (2 : Nat) == 2) = true from Bool.or_true _]
        exact ((H8.out.1.sety 2).setx q).setb true
  case done =>
    rintro D ys W hD rfl hIv hK
    have hall : ∀ x ∈ sgs (dv s) 15, ft s x = 0 := fun x hx => by
      rw [HDD.out] at hx
      have := hIv.ign x hx
      rwa [mn_id (mem_sgs.1 hx).2.1] at this
    obtain ⟨n1, n2, n3⟩ := next_none h hall
    have FW : Four w.heap.size W s (nS s) (nN s : Nat) (nB s : Nat) := by
      have := hIv.four
      rw [map_mn (Nat.le_refl _), ← HDD.out, ← n3] at this
      rw [n1, n2]
      exact this
    have DW := hIv.d
    clear hall n1 n2 n3 hIv bB F4 D4
    have HFW := Lib.hid (And.intro FW (And.intro DW hK))
    have l1 := FW.drew.i.ld
    have t1 := FW.drew.t.ld
    have x1 := FW.drew.x.cell
    have fx1 := FW.drew.x.frozen
    have y1 := FW.drew.y.cell
    have F2 := (FW.setx ((nN s : Nat) : Int)).drew
    have t2 := F2.t.ld
    have y2 := F2.y.cell
    have fy2 := F2.y.frozen
    have F3 := ((FW.setx ((nN s : Nat) : Int)).sety ((nB s : Nat) : Int)).drew
    have t3 := F3.t.ld
    obtain ⟨w4, h4, F4, k4⟩ := F3.st (nS s)
    have hDW : D < W.heap.size := (Array.getElem?_eq_some_iff.1 hK).1
    have hD3 : w.heap.size + 1 + 1 + 1 < D := by omega
    have K4 : Kp (fun j => j = w.heap.size + 1 ∨ j = w.heap.size + 1 + 1 ∨ j = w.heap.size + 1 + 1 + 1) W w4 := (((Kp.set (S := fun j => j = w.heap.size + 1 ∨ j = w.heap.size + 1 + 1 ∨ j = w.heap.size + 1 + 1 + 1) W (w.heap.size + 1) 0 (.int .i64 ((nN s : Nat) : Int)) (.inl rfl)).trans (Kp.set (S := fun j => j = w.heap.size + 1 ∨ j = w.heap.size + 1 + 1 ∨ j = w.heap.size + 1 + 1 + 1) _ (w.heap.size + 1 + 1) 0 (.int .i64 ((nB s : Nat) : Int)) (.inr (.inl rfl))) (fun j e => .inl e)).drew).trans k4 (fun j e => .inl (.inr (.inr e)))
    have hK4 : w4.heap[D]? = some (.deferred (some [])) := (K4.block D hDW (by omega)).trans hK
    have D4 := DW.trans (K4.below DW.size (fun j e => by omega))
    have F5 := F4.own (B := 0) (grownBy_putObj' w4 D (.deferred none)) (fun r e => by cases e; exact ⟨Nat.zero_le _, _, hK4, rfl⟩)
    have D5 := D4.trans (belowK_b (w := w) (Nat.le_refl _) w4 D _ (.deferred none) (by omega) hK4 rfl rfl)
    have H5 := Lib.hid (And.intro F5 (And.intro D5 hK4))
    clear HFW FW DW F2 F3 F4 F5 D4 D5 hK4 K4 k4 hK hDW l1
    gi_wp2
    gi_big_region_o
    gi_wp2
    rw [Exit.noGoto_ret]
    refine ⟨by simp, .inl ⟨_, _, rfl, run_takeDeferred H5.out.2.2, ?_⟩⟩
    exact ⟨_, res_iis rfl _ _ (w.heap.size + 1) (w.heap.size + 1 + 1) (w.heap.size + 1 + 1 + 1) _ _ _ rfl rfl rfl H5.out.1.x.cell H5.out.1.y.cell H5.out.1.t, rfl, H5.out.2.1⟩
  case stop =>
    rintro D c pre W hD ⟨k, hk, hpre⟩ ⟨rfl, hIv⟩ hK
    obtain ⟨ini, x, hi, hig, hx, hF⟩ := hIv.out
    have DW := hIv.d
    have hall : ∀ y ∈ pre, mn y = y := fun y hy => mn_id (by rw [hpre] at hy; exact Nat.le_trans (mem_sgs.1 hy).2.1 hk)
    have hmx2 : mn x = x := hall x (by rw [hi]; simp)
    rw [hmx2] at hx hF
    have hig2 : ∀ y ∈ ini, ft s y = 0 := fun y hy => by
      have := hig y hy
      rwa [hall y (by rw [hi]; exact List.mem_append_left _ hy)] at this
    have he : ini ++ [x] = sgs (dv s) k := by rw [← hi, hpre, HDD.out]
    obtain ⟨n1, n2, n3⟩ := next_some h hk he hig2 hx
    have FW : Four w.heap.size W s (nS s) (nN s : Nat) (nB s : Nat) := by
      rw [hpre, map_mn hk, ← hpre, hi, ← n3] at hF
      rw [n1, n2]
      exact hF
    clear hall hmx2 hig hig2 he n1 n2 n3 hF hx hIv bB F4 D4 hi hpre
    have HFW := Lib.hid (And.intro FW (And.intro DW hK))
    have l1 := FW.drew.i.ld
    have t1 := FW.drew.t.ld
    have x1 := FW.drew.x.cell
    have fx1 := FW.drew.x.frozen
    have y1 := FW.drew.y.cell
    have F2 := (FW.setx ((nN s : Nat) : Int)).drew
    have t2 := F2.t.ld
    have y2 := F2.y.cell
    have fy2 := F2.y.frozen
    have F3 := ((FW.setx ((nN s : Nat) : Int)).sety ((nB s : Nat) : Int)).drew
    have t3 := F3.t.ld
    obtain ⟨w4, h4, F4, k4⟩ := F3.st (nS s)
    have hDW : D < W.heap.size := (Array.getElem?_eq_some_iff.1 hK).1
    have hD3 : w.heap.size + 1 + 1 + 1 < D := by omega
    have K4 : Kp (fun j => j = w.heap.size + 1 ∨ j = w.heap.size + 1 + 1 ∨ j = w.heap.size + 1 + 1 + 1) W w4 := (((Kp.set (S := fun j => j = w.heap.size + 1 ∨ j = w.heap.size + 1 + 1 ∨ j = w.heap.size + 1 + 1 + 1) W (w.heap.size + 1) 0 (.int .i64 ((nN s : Nat) : Int)) (.inl rfl)).trans (Kp.set (S := fun j => j = w.heap.size + 1 ∨ j = w.heap.size + 1 + 1 ∨ j = w.heap.size + 1 + 1 + 1) _ (w.heap.size + 1 + 1) 0 (.int .i64 ((nB s : Nat) : Int)) (.inr (.inl rfl))) (fun j e => .inl e)).drew).trans k4 (fun j e => .inl (.inr (.inr e)))
    have hK4 : w4.heap[D]? = some (.deferred (some [])) := (K4.block D hDW (by omega)).trans hK
    have D4 := DW.trans (K4.below DW.size (fun j e => by omega))
    have F5 := F4.own (B := 0) (grownBy_putObj' w4 D (.deferred none)) (fun r e => by cases e; exact ⟨Nat.zero_le _, _, hK4, rfl⟩)
    have D5 := D4.trans (belowK_b (w := w) (Nat.le_refl _) w4 D _ (.deferred none) (by omega) hK4 rfl rfl)
    have H5 := Lib.hid (And.intro F5 (And.intro D5 hK4))
    clear HFW FW DW F2 F3 F4 F5 D4 D5 hK4 K4 k4 hK hDW l1
    gi_wp2
    gi_big_region_o
    gi_wp2
    rw [Exit.noGoto_ret]
    refine ⟨by simp, .inl ⟨_, _, rfl, run_takeDeferred H5.out.2.2, ?_⟩⟩
    exact ⟨_, res_iis rfl _ _ (w.heap.size + 1) (w.heap.size + 1 + 1) (w.heap.size + 1 + 1 + 1) _ _ _ rfl rfl rfl H5.out.1.x.cell H5.out.1.y.cell H5.out.1.t, rfl, H5.out.2.1⟩
/-- Next, whatever the signals. -/
theorem next_any (w : World) (s : Sg) (hs : s.Ok) :
    Calls Try.prog 19 #[cv s] w fun e w' => e = .returned (.tuple #[.int .i64 (nN s : Nat), .int .i64 (nB s : Nat), cv (nS s)]) ∧ Below w.heap.size w w' := by
  cases h : may s
  · have e1 : nN s = 0 := by unfold nN; rw [h]; rfl
    have e2 : nB s = 0 := by unfold nB; rw [if_pos e1]
    have e3 : nS s = s := by unfold nS; rw [h]; rfl
    rw [e1, e2, e3]
    exact (callsIn_wide (n := 4)).1 (next_no 4 (Nat.le_refl _) w s hs h)
  · exact (callsIn_wide (n := 4)).1 (next_yes 4 (Nat.le_refl _) w s hs h)
end Go.Proofs.Ytlhhgapimhpgnaa.Sgg
