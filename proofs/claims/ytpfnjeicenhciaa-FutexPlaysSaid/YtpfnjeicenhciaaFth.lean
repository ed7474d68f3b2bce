/-
  A futex: Wake.
-/
import Derived.Test.YtpfnjeicenhciaaFtg
namespace Go.Proofs.Ytpfnjeicenhciaa.Fth
open Go Go.RowKit Go.Shelf Kit Bk Fta Ftb Ftc Ftd Fte Ftf Ftg
set_option linter.unusedVariables false
attribute [local go_sem] Oper.semAt_some
attribute [local go_sem ↓] app_wrap

/-- Who is woken: the first n of those who wait at a key. -/
def wks (L : List Wt) (k : Ky) (n : Int) : List Int := (ats L k).take n.toNat
theorem wks_len (L : List Wt) (k : Ky) (n : Int) : (wks L k n).length ≤ L.length := by
  unfold wks
  rw [List.length_take]
  exact Nat.le_trans (Nat.min_le_right _ _) (ats_len L k)
theorem wks_all {L : List Wt} {k : Ky} {n : Int} (h : (ats L k).length ≤ n.toNat) : ats L k = wks L k n := by unfold wks; rw [List.take_of_length_le h]
theorem ats_pre (L : List Wt) (k : Ky) (j : Nat) : ats (L.take j) k <+: ats L k := by
  refine ⟨ats (L.drop j) k, ?_⟩
  unfold ats
  rw [← List.map_append, ← List.filter_append, List.take_append_drop]
theorem wks_some {L : List Wt} {k : Ky} {n : Int} {j : Nat} {ini : List Int} {x : Int} (h : ini ++ [x] = ats (L.take j) k) (h1 : n ≤ (ini.length : Int)) (h2 : ini.length ≤ n.toNat) : ini = wks L k n := by
  have hp : ini <+: ats L k := List.IsPrefix.trans (List.prefix_append ini [x]) (h ▸ ats_pre L k j)
  have hn : n.toNat = ini.length := by omega
  unfold wks
  rw [hn]
  exact (List.prefix_iff_eq_take.1 hp)
theorem kp_low {S : Nat → Prop} {w a b : World} (h : Kp S w a) (hb : Below w.heap.size a b) : Kp S w b :=
  h.trans (S' := fun j => w.heap.size ≤ j) ⟨hb.os, hb.tape, hb.output, hb.size, fun k hk hn => hb.block k (by omega)⟩ (fun j e => .inr e)

set_option maxRecDepth 100000 in
set_option maxHeartbeats 4000000 in
theorem wake_in (m : Nat) (hm : 4 ≤ m) (w : World) (ad : Option Addr) (v : Value) (r : Nat) (L : List Wt) (k : Ky) (n : Int) (S : Nat → Prop) (Q : List Int → World → Prop) (hS : ∀ j, S j → j < w.heap.size) (hL : Gv w.heap.size w ad v r L) (hwf : ∀ x ∈ L, kwf x.k) (hk : kwf k) (hll : L.length ≤ 90000)
    (hQ : ∀ M W W', Below w.heap.size W W' → Q M W → Q M W')
    (hLv : ∀ W b v M, Below w.heap.size w W → Blk W b #[v] 37 → Nr W v M → w.heap.size ≤ b → Calls Try.prog 31 #[.pointer ad, .func (.func 32) #[] #[.pointer (some ⟨b, 0, none⟩)]] W fun e w' => (∃ v, e = .returned v) ∧ Kp S W w' ∧ Q M w') :
    CallsIn Fence.wide m Try.prog 11 #[.pointer ad, kv k, .int .i64 n] w fun e w' => Kp S w w' ∧ Q (wks L k n) w' ∧ ∃ u, e = .returned u ∧ w'.ownsRow w.heap.size 3 1 u (wks L k n).length (ints (wks L k n)) := by
  obtain ⟨i0, hi, hz0, hz1, hz2⟩ := info_parts' infoI
  have HLv := Lib.hid hLv
  have HS := Lib.hid hS
  have HQ := Lib.hid hQ
  refine callsIn_of_wp_marks Try.func11 rfl trivial ?_ rfl
  simp only [Try.ntmps11, List.size_toArray, List.length_cons, List.length_nil, Nat.reduceAdd, Nat.reduceSub, Array.replicate_succ, Array.replicate_zero, List.push_toArray, List.append_toArray, List.nil_append, List.cons_append]
  clear hLv hS hQ
  gi_wp2
  refine wpIn_wide.2 (wp_scope_straight ((wpIn_wide (n := m)).1 ?_))
  gi_wp2
  refine wpIn_label ?_
  gi_wp2_with (first | (refine ⟨trivial, fun _ => (by omega), ?_⟩; gi_at_call 30; refine (at_in (m - 1) ad k _).mono ?_; rintro e w' ⟨rfl, rfl⟩))
  have b1 := (Below.refl w.heap.size w).alloc (Nat.le_refl _) (.cells #[.int .i64 k.p, .int .i64 k.f, .int .i64 k.o] 31)
  generalize hW1 : w.alloc (.cells #[.int .i64 k.p, .int .i64 k.f, .int .i64 k.o] 31) = W1 at *
  have s1 : W1.heap.size = w.heap.size + 1 := by rw [← hW1]; simp
  have bN := ((((Boxed.new W1 3 (.int .i64 n)).alloc (.cells #[.slice none 0 0] 37)).alloc (.cells #[.pointer ad] 23)).alloc (.cells #[.int .i64 k.p, .int .i64 k.f, .int .i64 k.o] 31))
  have bS := ((Boxed.new (W1.alloc (.cells #[.int .i64 n] 3)) 37 (.slice none 0 0)).alloc (.cells #[.pointer ad] 23)).alloc (.cells #[.int .i64 k.p, .int .i64 k.f, .int .i64 k.o] 31)
  have bP := (Boxed.new ((W1.alloc (.cells #[.int .i64 n] 3)).alloc (.cells #[.slice none 0 0] 37)) 23 (.pointer ad)).alloc (.cells #[.int .i64 k.p, .int .i64 k.f, .int .i64 k.o] 31)
  have bK := Blk.new (((W1.alloc (.cells #[.int .i64 n] 3)).alloc (.cells #[.slice none 0 0] 37)).alloc (.cells #[.pointer ad] 23)) #[.int .i64 k.p, .int .i64 k.f, .int .i64 k.o] 31
  have hB0 := (((b1.alloc b1.size (.cells #[.int .i64 n] 3)).alloc (by simp; omega) (.cells #[.slice none 0 0] 37)).alloc (by simp; omega) (.cells #[.pointer ad] 23)).alloc (by simp; omega) (.cells #[.int .i64 k.p, .int .i64 k.f, .int .i64 k.o] 31)
  have hrow0 := World.ownsRow_nil ((((W1.alloc (.cells #[.int .i64 n] 3)).alloc (.cells #[.slice none 0 0] 37)).alloc (.cells #[.pointer ad] 23)).alloc (.cells #[.int .i64 k.p, .int .i64 k.f, .int .i64 k.o] 31)) (w.heap.size + 5) 3 1
  have hsz : ((((W1.alloc (.cells #[.int .i64 n] 3)).alloc (.cells #[.slice none 0 0] 37)).alloc (.cells #[.pointer ad] 23)).alloc (.cells #[.int .i64 k.p, .int .i64 k.f, .int .i64 k.o] 31)).heap.size = w.heap.size + 5 := by simp [s1]
  simp only [World.size_alloc, s1] at bS bP bK bN
  obtain ⟨W0, hW0⟩ : ∃ W0, (((W1.alloc (.cells #[.int .i64 n] 3)).alloc (.cells #[.slice none 0 0] 37)).alloc (.cells #[.pointer ad] 23)).alloc (.cells #[.int .i64 k.p, .int .i64 k.f, .int .i64 k.o] 31) = W0 := ⟨_, rfl⟩
  rw [hW0] at bS bP bK bN hB0 hsz hrow0 ⊢
  clear hW0
  have hM0 := hL.low hB0
  refine wpIn_rangeFunc_ownH rfl (by omega) (gf := 39) (lb := #[.pointer (some ⟨w.heap.size + 1 + 1 + 1, 0, none⟩), .pointer (some ⟨w.heap.size + 1 + 1 + 1 + 1, 0, none⟩)]) rfl trivial (enters_of Try.func39 (by kernel_rfl) rfl)
    (at_stops (m - 1) (by omega) (w.heap.size + 1 + 1 + 1) (w.heap.size + 1 + 1 + 1 + 1) w.heap.size ad v r L k W0 hB0.size hM0 hwf hk bP bK) Kq.trans (Kq.put (by omega)) (Below.refl _ _) (fun _ => rfl)
    (fun pre W => ((((∃ v, Boxed W (w.heap.size + 1 + 1) 37 v ∧ W.ownsRow (w.heap.size + 5) 3 1 v pre.length (ints pre) ∧ True) ∧ Boxed W (w.heap.size + 1) 3 (.int .i64 n)) ∧ pre.length ≤ n.toNat) ∧ w.heap.size + 5 ≤ W.heap.size) ∧ Below w.heap.size w W)
    (fun c pre W => (∃ ini x, (∃ v, Boxed W (w.heap.size + 1 + 1) 37 v ∧ W.ownsRow (w.heap.size + 5) 3 1 v ini.length (ints ini) ∧ True) ∧ c = .exit 0 ∧ pre = ini ++ [x] ∧ n ≤ (ini.length : Int) ∧ ini.length ≤ n.toNat) ∧ Below w.heap.size w W)
    (OwnFrom.and (OwnFrom.and (OwnFrom.and (OwnFrom.and (Own.from (holdsRow_own (w.heap.size + 5) (w.heap.size + 1 + 1) 37 3 1 (fun (pre : List Int) => pre.length) (fun (pre : List Int) => ints pre) (fun _ _ => True)) _) (Own.from (boxed_own _ _ (fun (pre : List Int) => Value.int .i64 n)) _)) (ownFrom_pure _ _)) (fun s X Y row h hg hr => Nat.le_trans h hg.size)) (ownFrom_below (Nat.le_refl _) (by omega)))
    (fun c => OwnFrom.and (fun s X Y row ⟨ini, x, h1, h2⟩ hg hr => ⟨ini, x, Own.from (holdsRow_own (w.heap.size + 5) (w.heap.size + 1 + 1) 37 3 1 (fun (pre : List Int) => pre.length) (fun (pre : List Int) => ints pre) (fun _ _ => True)) _ ini X Y row h1 hg hr, h2⟩) (ownFrom_below (Nat.le_refl _) (by omega)))
    ⟨⟨⟨⟨⟨_, bS, hrow0, trivial⟩, bN⟩, Nat.zero_le _⟩, by omega⟩, hB0⟩
    (fun x a' W => a' = { tmps := #[.pointer ad, kv k, .int .i64 n, undef, .pointer (some ⟨w.heap.size, 0, none⟩), .pointer (some ⟨w.heap.size + 1, 0, none⟩), .slice none 0 0, .pointer (some ⟨w.heap.size + 1 + 1, 0, none⟩), .int .i64 x, .pointer ad, kv k, .func (.func 39) #[] #[.pointer (some ⟨w.heap.size + 1 + 1 + 1, 0, none⟩), .pointer (some ⟨w.heap.size + 1 + 1 + 1 + 1, 0, none⟩)], .int .i64 x, undef, undef, undef, undef, undef, undef, undef, undef, undef, undef, undef, undef], defers := [] })
    (fun x a' => ownFrom_pure _ (fun _ : Unit => _))
    ?assign ?body ?done ?stop
  case assign =>
    rintro l pre x W K hI hK
    dsimp only [encs]
    gi_wp2
    exact hK _ _ ((KeepsOthers.refl _).from _) (Kq.refl _ _ _ _) hI (by simp)
  case body =>
    rintro l pre x a' W hl ⟨rr, hr⟩ ⟨⟨⟨⟨⟨v, hv, hrow, -⟩, hN⟩, hpl⟩, hs5⟩, hB⟩ rfl hlt
    have cL := hv.cell
    have cN := hN.cell
    have hsW := hB.size
    obtain ⟨va, vc, rfl⟩ := own_form hrow
    by_cases he : n ≤ (pre.length : Int)
    · have hd : decide (n ≤ (pre.length : Int)) = true := decide_eq_true he
      have HX := Lib.hid (And.intro hv (And.intro hrow (And.intro hpl (And.intro he hB))))
      clear hv hrow hpl he hB hN
      gi_wp2
      exact ⟨(KeepsOthers.refl _).from _, ⟨pre, x, ⟨_, HX.out.1, HX.out.2.1, trivial⟩, rfl, rfl, HX.out.2.2.2.1, HX.out.2.2.1⟩, HX.out.2.2.2.2⟩
    · have hd : decide (n ≤ (pre.length : Int)) = false := decide_eq_false he
      have hpn : pre.length + 1 ≤ n.toNat := by omega
      obtain ⟨v', w2, hrun, hown', hgrow, -⟩ := run_append_own (P := Try.prog) (w := W.alloc (.cells #[.int .i64 x] 3)) (w.heap.size + 5) 37 37 3 i0 (.int .i64 0) 1 8 Try.underlying37 hi hz0 hz1 hz2 rfl (by decide) (.slice va pre.length vc) pre.length (ints pre) (hrow.alloc _) ⟨W.heap.size, 0, none⟩ 1 1 [.int .i64 x] rfl
        (by intro j u hj; have hj0 : j = 0 := (by cases j with | zero => rfl | succ j => simp at hj); subst hj0; simp at hj; subst hj; simp [Addr.add]) (by simp [Value.oneCell']) (by unfold maxLen; omega) (by omega) (by simp; omega)
      obtain ⟨g', cap', rfl⟩ := ownsRow_succ hown'
      have hrun' : (appO #[37, 37] 37 #[.slice va pre.length vc, .slice (some ⟨W.heap.size, 0, none⟩) 1 1]).run Try.prog (W.alloc (.cells #[.int .i64 x] 3)) = .ok (.slice (some ⟨g', 0, none⟩) (pre.length + 1) cap') w2 := hrun
      clear hrun
      have hkeep : ∀ (C : Nat) (t : TypeId) (u : Value), (t ≠ 3 ∨ ∀ g, (Value.slice va pre.length vc).ownBlock = some g → g ≠ C) → C ≠ w.heap.size + 1 + 1 → Boxed W C t u → Boxed (w2.setCell ⟨w.heap.size + 1 + 1, 0, none⟩ (.slice (some ⟨g', 0, none⟩) (pre.length + 1) cap')) C t u := fun C t u ht hne h =>
        Boxed.other (Boxed.kept (h.alloc _) hgrow (by
          rcases ht with ht | ht
          · exact h.not_row ht hrow
          · exact fun e => ht C e.symm rfl)) hne _
      have hkeepK : ∀ cs, Blk W (w.heap.size + 1 + 1 + 1 + 1) cs 31 → Blk (w2.setCell ⟨w.heap.size + 1 + 1, 0, none⟩ (.slice (some ⟨g', 0, none⟩) (pre.length + 1) cap')) (w.heap.size + 1 + 1 + 1 + 1) cs 31 := fun cs h => by
        refine Blk.other ((h.below ((Below.refl _ _).alloc (Nat.le_refl _) _)).kept (Kp.of_grown hgrow) (fun e => ?_)) _ _ _ (by omega)
        rcases hrow.2 with ⟨e1, _⟩ | ⟨g, cap, cur, e1, _, hh, _⟩
        · rw [e1] at e; simp [Value.ownBlock] at e
        · rw [e1] at e
          simp [Value.ownBlock] at e
          subst e
          exact absurd (h.inj (show Blk W _ cur 3 from hh)).2 (by decide)
      have hgN : ∀ g, (Value.slice va pre.length vc).ownBlock = some g → g ≠ w.heap.size + 1 := fun g e => by
        rcases hrow.2 with ⟨e1, _⟩ | ⟨g1, cap, cur, e1, hg1, _⟩
        · rw [e1] at e; simp [Value.ownBlock] at e
        · rw [e1] at e
          simp [Value.ownBlock] at e
          omega
      have hN2 := hkeep _ _ _ (.inr hgN) (by omega) hN
      obtain ⟨hv1, hv2, -, hk2, hb2⟩ := hv.appended (by decide) (own_base hrow (Nat.le_add_right w.heap.size 5)) hsW (by omega) (own_base hown' (Nat.le_add_right w.heap.size 5)) hgrow
      have hr2 := hown'.kept (grownBy_setCell' w2 (w.heap.size + 1 + 1) (.slice (some ⟨g', 0, none⟩) (pre.length + 1) cap')) (.inr (hv1.not_row (by decide) hown').symm)
      have hr3 : (w2.setCell ⟨w.heap.size + 1 + 1, 0, none⟩ (.slice (some ⟨g', 0, none⟩) (pre.length + 1) cap')).ownsRow (w.heap.size + 5) 3 1 (.slice (some ⟨g', 0, none⟩) (pre.length + 1) cap') (pre ++ [x]).length (ints (pre ++ [x])) := by
        rw [show (pre ++ [x]).length = pre.length + 1 by simp, show ints (pre ++ [x]) = ints pre ++ [.int .i64 x] by simp [ints]]
        exact hr2
      have hc1 := hv1.cell
      have hf1 := hv1.frozen
      have HV := Lib.hid (And.intro hv2 (And.intro hr3 (And.intro hk2 (And.intro hb2 hN2))))
      clear hv2 hr2 hr3 hk2 hb2 hown' hgrow hN2 hgN hv hrow
      gi_wp2
      exact ⟨HV.out.2.2.1.from _, ⟨HV.out.2.2.2.1, fun u hu => hkeep _ _ u (.inl (by decide)) (by omega) hu, hkeepK⟩, ⟨⟨⟨⟨_, HV.out.1, HV.out.2.1⟩, HV.out.2.2.2.2⟩, by simpa using hpn⟩, Nat.le_trans hs5 HV.out.2.2.2.1.size⟩, hB.trans HV.out.2.2.2.1⟩
  case done =>
    rintro D ys W hD rfl ⟨⟨⟨⟨⟨v, hv, hrow, -⟩, hN⟩, hpl⟩, hs5⟩, hB⟩ hK
    have cL := hv.cell
    rw [wks_all hpl] at hrow
    obtain ⟨va, vc, rfl⟩ := own_form hrow
    have HL := Lib.hid ((callsIn_wide (n := m - 1)).2 (HLv.out W (w.heap.size + 1 + 1) _ (wks L k n) hB hv (own_base hrow (Nat.zero_le _)) (by omega)))
    have HR := Lib.hid (And.intro hrow (And.intro hB (And.intro hv hK)))
    have hDs : w.heap.size ≤ D := by omega
    have hDlt : D < W.heap.size := (Array.getElem?_eq_some_iff.1 hK).1
    clear hrow hB hv hN hpl hK hs5
    gi_wp2_with (refine ⟨trivial, fun _ => (by omega), ?_⟩; gi_at_call 31; refine HL.out.mono ?_; rintro e w2 ⟨⟨u, rfl⟩, hk2, hq2⟩; have c2 : w2.cell? ⟨w.heap.size + 1 + 1, 0, none⟩ = some (.slice va (wks L k n).length vc) := (Blk.kept HR.out.2.2.1 hk2 (fun e => by have := HS.out _ e; omega)).cell 0; have HK2 := Lib.hid (And.intro hk2 hq2); clear hk2 hq2)
    rw [Exit.noGoto_ret]
    have hD2 : w2.heap[D]? = some (.deferred (some [])) := (HK2.out.1.block D hDlt (fun e => by have := HS.out _ e; omega)).trans HR.out.2.2.2
    refine ⟨by simp, .inl ⟨_, _, rfl, run_takeDeferred hD2, ?_⟩⟩
    have hbd := belowK_b (w := w) (Nat.le_refl _) w2 D _ (.deferred none) (by omega) hD2 rfl rfl
    have hkw : Kp S w w2 := (kp_below HR.out.2.1).trans HK2.out.1 (fun _ e => .inl e)
    refine ⟨.slice va (wks L k n).length vc, ?_, kp_low hkw hbd, HQ.out _ _ _ hbd HK2.out.2, _, rfl, ownsRow_putObj (own_kept (own_base HR.out.1 (Nat.le_add_right w.heap.size 5)) HK2.out.1 (fun g n' c e => ?_)) (.deferred none) hD2 rfl⟩
    · simp [results, go_sem]
    · intro hs
      have h1 := own_lt (by have := HR.out.1; rw [e] at this; exact this)
      have h2 := HS.out _ hs
      omega
  case stop =>
    rintro D c pre W hD ⟨j, hj, hpre⟩ ⟨⟨ini, x, ⟨v, hv, hrow, -⟩, rfl, rfl, g1, g2⟩, hB⟩ hK
    have cL := hv.cell
    obtain rfl := wks_some hpre g1 g2
    obtain ⟨va, vc, rfl⟩ := own_form hrow
    have HL := Lib.hid ((callsIn_wide (n := m - 1)).2 (HLv.out W (w.heap.size + 1 + 1) _ (wks L k n) hB hv (own_base hrow (Nat.zero_le _)) (by omega)))
    have HR := Lib.hid (And.intro hrow (And.intro hB (And.intro hv hK)))
    have hDs : w.heap.size ≤ D := by omega
    have hDlt : D < W.heap.size := (Array.getElem?_eq_some_iff.1 hK).1
    clear hrow hB hv hK hpre g1 g2
    gi_wp2_with (refine ⟨trivial, fun _ => (by omega), ?_⟩; gi_at_call 31; refine HL.out.mono ?_; rintro e w2 ⟨⟨u, rfl⟩, hk2, hq2⟩; have c2 : w2.cell? ⟨w.heap.size + 1 + 1, 0, none⟩ = some (.slice va (wks L k n).length vc) := (Blk.kept HR.out.2.2.1 hk2 (fun e => by have := HS.out _ e; omega)).cell 0; have HK2 := Lib.hid (And.intro hk2 hq2); clear hk2 hq2)
    rw [Exit.noGoto_ret]
    have hD2 : w2.heap[D]? = some (.deferred (some [])) := (HK2.out.1.block D hDlt (fun e => by have := HS.out _ e; omega)).trans HR.out.2.2.2
    refine ⟨by simp, .inl ⟨_, _, rfl, run_takeDeferred hD2, ?_⟩⟩
    have hbd := belowK_b (w := w) (Nat.le_refl _) w2 D _ (.deferred none) (by omega) hD2 rfl rfl
    have hkw : Kp S w w2 := (kp_below HR.out.2.1).trans HK2.out.1 (fun _ e => .inl e)
    refine ⟨.slice va (wks L k n).length vc, ?_, kp_low hkw hbd, HQ.out _ _ _ hbd HK2.out.2, _, rfl, ownsRow_putObj (own_kept (own_base HR.out.1 (Nat.le_add_right w.heap.size 5)) HK2.out.1 (fun g n' c e => ?_)) (.deferred none) hD2 rfl⟩
    · simp [results, go_sem]
    · intro hs
      have h1 := own_lt (by have := HR.out.1; rw [e] at this; exact this)
      have h2 := HS.out _ hs
      omega

theorem wake_gen (w : World) (ad : Option Addr) (v : Value) (r : Nat) (L : List Wt) (k : Ky) (n : Int) (S : Nat → Prop) (Q : List Int → World → Prop) (hS : ∀ j, S j → j < w.heap.size) (hL : Gv w.heap.size w ad v r L) (hwf : ∀ x ∈ L, kwf x.k) (hk : kwf k) (hll : L.length ≤ 90000)
    (hQ : ∀ M W W', Below w.heap.size W W' → Q M W → Q M W')
    (hLv : ∀ W b v M, Below w.heap.size w W → Blk W b #[v] 37 → Nr W v M → w.heap.size ≤ b → Calls Try.prog 31 #[.pointer ad, .func (.func 32) #[] #[.pointer (some ⟨b, 0, none⟩)]] W fun e w' => (∃ v, e = .returned v) ∧ Kp S W w' ∧ Q M w') :
    Calls Try.prog 11 #[.pointer ad, kv k, .int .i64 n] w fun e w' => Kp S w w' ∧ Q (wks L k n) w' ∧ ∃ u, e = .returned u ∧ w'.ownsRow w.heap.size 3 1 u (wks L k n).length (ints (wks L k n)) :=
  (callsIn_wide (n := 4)).1 (wake_in 4 (Nat.le_refl _) w ad v r L k n S Q hS hL hwf hk hll hQ hLv)
theorem wake_nil (w : World) (k : Ky) (n : Int) (hk : kwf k) :
    Calls Try.prog 11 #[.pointer none, kv k, .int .i64 n] w fun e w' => Below w.heap.size w w' ∧ ∃ u, e = .returned u ∧ w'.ownsRow w.heap.size 3 1 u 0 [] := by
  refine (wake_gen w none _ 0 [] k n (fun _ => False) (fun _ _ => True) (fun j e => e.elim) (gv_nil _ _) (fun x hx => by simp at hx) hk (by simp) (fun _ _ _ _ _ => trivial) (fun W b v M _ _ _ _ => (leave_nil W _).mono ?_)).mono ?_
  · rintro e w' ⟨h, rfl⟩
    exact ⟨h, Kp.refl _ _, trivial⟩
  · rintro e w' ⟨h1, -, u, rfl, h2⟩
    have e0 : wks [] k n = [] := by simp [wks, ats]
    rw [e0] at h2
    exact ⟨h1.below (Nat.le_refl _) (fun j e => e.elim), u, rfl, h2⟩
theorem wake_any (w : World) (f r : Nat) (L : List Wt) (k : Ky) (n : Int) (h : Lx 26 w f r L) (hwf : ∀ x ∈ L, kwf x.k) (hk : kwf k) (hll : L.length ≤ 90000) :
    Calls Try.prog 11 #[.pointer (some ⟨f, 0, none⟩), kv k, .int .i64 n] w fun e w' => Kp (fr f r) w w' ∧ Lx 26 w' f r (stay (inn (wks L k n)) L) ∧ ∃ u, e = .returned u ∧ w'.ownsRow w.heap.size 3 1 u (wks L k n).length (ints (wks L k n)) := by
  obtain ⟨v, hg⟩ := gv_lx h h.lt.1 h.lt.2
  refine wake_gen w (some ⟨f, 0, none⟩) v r L k n (fr f r) (fun M W => Lx 26 W f r (stay (inn M) L)) (fun j e => by have := h.lt; unfold fr at e; omega) hg hwf hk hll (fun M W W' hb hx => Lx.low hx hb h.lt.1 h.lt.2) (fun W b v M hb hbk hn hlo => ?_)
  have hW := h.below hb
  have hbr : b ≠ r := by have := h.lt; omega
  exact leave_any W f r L _ b (inn M) hW (goes_list W r b v M hbk hn hbr (fun g cs hgb e => hW.apart hgb (by decide) (by decide) (.inr e))) (.inl rfl)
end Go.Proofs.Ytpfnjeicenhciaa.Fth
