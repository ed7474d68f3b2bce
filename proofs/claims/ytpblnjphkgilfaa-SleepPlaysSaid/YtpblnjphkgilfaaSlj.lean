/-
  Next; Tick of none.
-/
import Derived.Test.YtpblnjphkgilfaaSli
namespace Go.Proofs.Ytpblnjphkgilfaa.Slj
open Go Go.RowKit Go.Shelf Kit Bk Sla Slb Slc Sld Sle Slf Slg Slh Sli
set_option linter.unusedVariables false
attribute [local go_sem] Oper.semAt_some

set_option maxRecDepth 100000 in
set_option maxHeartbeats 4000000 in
theorem tick_none_in (n : Nat) (hn : 8 ≤ n) (w : World) :
    CallsIn Fence.wide n Try.prog 10 #[.pointer none] w fun e w' => e = .returned (.slice none 0 0) ∧ Below w.heap.size w w' := by
  refine callsIn_of_wp_marks Try.func10 rfl trivial ?_ rfl
  simp only [Try.ntmps10, List.size_toArray, List.length_cons, List.length_nil, Nat.reduceAdd, Nat.reduceSub, Array.replicate_succ, Array.replicate_zero, List.push_toArray, List.append_toArray, List.nil_append, List.cons_append]
  gi_wp2_with (first | (refine ⟨trivial, ?_⟩; gi_at_call 24; refine (rising_in (n - 1) _ _).mono ?_; rintro e w' ⟨rfl, rfl⟩) | (refine ⟨trivial, fun _ => (by omega), ?_⟩; gi_at_call 24; refine (rising_in (n - 1) _ _).mono ?_; rintro e w' ⟨rfl, rfl⟩))
  have b1 := (Below.refl w.heap.size w).alloc (Nat.le_refl _) (.cells #[.pointer none] 23)
  have b2 := b1.alloc b1.size (.cells #[.slice none 0 0] 37)
  have hB0 := b2.alloc b2.size (.cells #[.pointer none] 23)
  have bR := (Boxed.new (w.alloc (.cells #[.pointer none] 23)) 37 (.slice none 0 0)).alloc (.cells #[.pointer none] 23)
  have bI := Boxed.new ((w.alloc (.cells #[.pointer none] 23)).alloc (.cells #[.slice none 0 0] 37)) 23 (.pointer none)
  have hsz : (((w.alloc (.cells #[.pointer none] 23)).alloc (.cells #[.slice none 0 0] 37)).alloc (.cells #[.pointer none] 23)).heap.size = w.heap.size + 3 := by simp
  simp only [World.size_alloc] at bR bI
  obtain ⟨W0, hW0⟩ : ∃ W0, ((w.alloc (.cells #[.pointer none] 23)).alloc (.cells #[.slice none 0 0] 37)).alloc (.cells #[.pointer none] 23) = W0 := ⟨_, rfl⟩
  clear b1 b2
  rw [hW0] at bR bI hB0 hsz ⊢
  clear hW0
  have hkz : ∀ X Y, Kz W0.heap.size X Y → (Blk X (w.heap.size + 1) #[.slice none 0 0] 37 ∧ Below w.heap.size w X) → (Blk Y (w.heap.size + 1) #[.slice none 0 0] 37 ∧ Below w.heap.size w Y) := fun X Y hk h =>
    ⟨Blk.kz h.1 hk, (Kp.kz (by omega) (Kp.of_below (S := fun _ => False) h.2) hk).below (Nat.le_refl _) (fun _ e => e.elim)⟩
  refine rising_loop (by omega) (w.heap.size + 1 + 1) (w.heap.size + 1) none none [] ok_nil (by decide) rfl (fun W hW => asleep_nil W) rfl bI ?_ (by omega)
    (fun i W => Blk W (w.heap.size + 1) #[.slice none 0 0] 37 ∧ Below w.heap.size w W) (fun _ _ _ => False) (fun i X hi hA => absurd hi (Nat.not_lt_zero _)) (fun i X Y hk hi => hkz X Y hk hi) (fun _ _ _ _ _ e => e) ⟨bR, hB0⟩
    (fun i => { tmps := #[.pointer none, .pointer (some ⟨w.heap.size, 0, none⟩), .slice none 0 0, .pointer (some ⟨w.heap.size + 1, 0, none⟩), .int .i64 (pd [] i), uv (tc [] i), .pointer none, .func (.func 27) #[] #[.pointer (some ⟨w.heap.size + 1 + 1, 0, none⟩)], .int .i64 (pd [] i), uv (tc [] i), undef, undef, undef, undef, undef, undef, undef, undef, undef, undef, undef, undef, undef, undef, undef, undef, undef, undef, undef], defers := [] })
    ?assign ?body ?done ?stop
  · rintro k (e | e | ⟨v, T, z, e1, e2⟩)
    · omega
    · cases e
    · rw [show W0.heap[w.heap.size + 1]? = _ from bR] at e1
      cases e1
      cases e2
  case assign =>
    intro l i W K hK
    gi_wp2
    exact hK
  case body =>
    rintro l i W hlw hT hi
    exact absurd hi (Nat.not_lt_zero _)
  case done =>
    rintro D W hD hT hK
    have cR : W.cell? ⟨w.heap.size + 1, 0, none⟩ = some (.slice none 0 0) := hT.1.cell 0
    have HT := Lib.hid hT
    clear hT
    gi_wp2
    refine ⟨by simp, .inl ⟨_, _, rfl, run_takeDeferred hK, ?_⟩⟩
    have hk := Kz.putObj (B0 := W0.heap.size) hD hK rfl (.deferred none)
    exact ⟨_, results_tmp rfl _ _ _, rfl, (hkz _ _ hk HT.out).2⟩
  case stop =>
    rintro D c i W _ _ hx
    exact hx.elim
theorem tick_nil (w : World) : Calls Try.prog 10 #[.pointer none] w fun e w' => e = .returned (.slice none 0 0) ∧ Below w.heap.size w w' := callsIn_wide.1 (tick_none_in 8 (Nat.le_refl _) w)

variable {w W : World} {ad : Option Addr} {m : Option Nat} {L : St} {i : Nat}
/-- The least so far: nobody has one tick left. -/
structure Ni (w : World) (ad : Option Addr) (m : Option Nat) (L : St) (i : Nat) (W : World) : Prop where
  box : Blk W w.heap.size #[uv (nx (L.take i))] 31
  no : ∀ j, j < i → tc L j ≠ 1
  sn : Sn W ad m L
  bel : Below w.heap.size w W
theorem Ni.kz {B0 : Nat} {X Y : World} (h : Ni w ad m L i X) (hB : w.heap.size ≤ B0) (hb : ∀ b, m = some b → b < w.heap.size) (hk : Kz B0 X Y) : Ni w ad m L i Y :=
  ⟨Blk.kz h.box hk, h.no, Sn.kz h.sn (fun b e => Nat.lt_of_lt_of_le (hb b e) hB) hk, (Kp.kz hB (Kp.of_below (S := fun _ => False) h.bel) hk).below (Nat.le_refl _) (fun _ e => e.elim)⟩
theorem nx_next (hi : i < L.length) : nx (L.take (i + 1)) = ls (nx (L.take i)) (tc L i) := by
  rw [List.take_succ_eq_append_getElem hi, nx_snoc, tc_at hi]
/-- A store into the box. -/
theorem Ni.set {B0 : Nat} (h : Ni w ad m L i W) (hi : i < L.length) (h1 : tc L i ≠ 1) (hB0 : B0 = w.heap.size + 2) (hm : ∀ b, m = some b → b < w.heap.size) (hq : ∀ q, ad = some ⟨q, 0, none⟩ → q < w.heap.size) (n : Nat) (hn : n = nx (L.take (i + 1))) :
    KeepsFrom B0 W (W.setCell ⟨w.heap.size, 0, none⟩ (uv n)) ∧ Stay w.heap.size m W (W.setCell ⟨w.heap.size, 0, none⟩ (uv n)) ∧ Ni w ad m L (i + 1) (W.setCell ⟨w.heap.size, 0, none⟩ (uv n)) := by
  have hk : Kp (fun j => j = w.heap.size) W (W.setCell ⟨w.heap.size, 0, none⟩ (uv n)) := Kp.set _ _ _ _ rfl
  have hb := h.box.set 0 (uv n)
  refine ⟨keeps_of hk (fun j e => .inl (by omega)), stay_of hk (fun j e => .inl e) (fun k e => ?_), ⟨by rw [← hn]; exact hb, fun j hj => ?_, ?_, h.bel.trans (hk.below h.bel.size (fun j e => by omega))⟩⟩
  · rcases e with e | e | ⟨v', T, z, e1, e2⟩
    · exact .inl (.inl e)
    · exact .inl (.inr (.inl e))
    · rw [show (W.setCell ⟨w.heap.size, 0, none⟩ (uv n)).heap[w.heap.size]? = _ from hb] at e1
      cases e1
      cases e2
  · by_cases e : j = i
    · subst e; exact h1
    · exact h.no j (by omega)
  · refine h.sn.imp (fun ⟨q, e, hv⟩ => ⟨q, e, hv.kept hk (fun e2 => ?_) (fun b e2 e3 => ?_)⟩) id
    · have := hq q e; omega
    · have := hm b e2; omega
/-- No store. -/
theorem Ni.stay (h : Ni w ad m L i W) (hi : i < L.length) (h1 : tc L i ≠ 1) (hn : nx (L.take (i + 1)) = nx (L.take i)) : Ni w ad m L (i + 1) W :=
  ⟨by rw [hn]; exact h.box, fun j hj => by
    by_cases e : j = i
    · subst e; exact h1
    · exact h.no j (by omega), h.sn, h.bel⟩

set_option maxRecDepth 100000 in
set_option maxHeartbeats 4000000 in
theorem next_in (n : Nat) (hn : 8 ≤ n) (h : Sn w ad m L) (ho : Ok L) (hl : L.length < 80000) :
    CallsIn Fence.wide n Try.prog 18 #[.pointer ad] w fun e w' => e = .returned (.tuple #[uv (nx L), .bool (decide (0 < nx L))]) ∧ Below w.heap.size w w' := by
  have hq : ∀ q, ad = some ⟨q, 0, none⟩ → q < w.heap.size := fun q e => by
    rcases h with ⟨q', e', h⟩ | ⟨e', _⟩
    · rw [e'] at e; cases e; exact h.blk.lt
    · rw [e'] at e; cases e
  have hb := h.map.lt
  have hmx : Try.prog.follows .mixedOrders = true := by kernel_rfl
  refine callsIn_of_wp_marks Try.func18 rfl trivial ?_ rfl
  simp only [Try.ntmps18, List.size_toArray, List.length_cons, List.length_nil, Nat.reduceAdd, Nat.reduceSub, Array.replicate_succ, Array.replicate_zero, List.push_toArray, List.append_toArray, List.nil_append, List.cons_append]
  gi_wp2
  refine wpIn_wide.2 (wp_scope_straight ((wpIn_wide (n := n)).1 ?_))
  gi_wp2
  refine wpIn_label ?_
  gi_wp2_with (first | (refine ⟨trivial, ?_⟩; gi_at_call 24; refine (rising_in (n - 1) _ _).mono ?_; rintro e w' ⟨rfl, rfl⟩) | (refine ⟨trivial, fun _ => (by omega), ?_⟩; gi_at_call 24; refine (rising_in (n - 1) _ _).mono ?_; rintro e w' ⟨rfl, rfl⟩))
  have b1 := (Below.refl w.heap.size w).alloc (Nat.le_refl _) (.cells #[.int .u32 0] 31)
  have hB0 := b1.alloc b1.size (.cells #[.pointer ad] 23)
  have bR := (Boxed.new w 31 (.int .u32 0)).alloc (.cells #[.pointer ad] 23)
  have bI := Boxed.new (w.alloc (.cells #[.int .u32 0] 31)) 23 (.pointer ad)
  have hsz : ((w.alloc (.cells #[.int .u32 0] 31)).alloc (.cells #[.pointer ad] 23)).heap.size = w.heap.size + 2 := by simp
  simp only [World.size_alloc] at bI
  obtain ⟨W0, hW0⟩ : ∃ W0, (w.alloc (.cells #[.int .u32 0] 31)).alloc (.cells #[.pointer ad] 23) = W0 := ⟨_, rfl⟩
  clear b1
  rw [hW0] at bR bI hB0 hsz ⊢
  clear hW0
  have hs0 := h.below hB0
  have hT0 : Ni w ad m L 0 W0 := ⟨bR, fun j hj => absurd hj (Nat.not_lt_zero _), hs0, hB0⟩
  have hkz : ∀ X Y, Kz W0.heap.size X Y → (Blk X w.heap.size #[uv 1] 31 ∧ Below w.heap.size w X) → (Blk Y w.heap.size #[uv 1] 31 ∧ Below w.heap.size w Y) := fun X Y hk h =>
    ⟨Blk.kz h.1 hk, (Kp.kz (by omega) (Kp.of_below (S := fun _ => False) h.2) hk).below (Nat.le_refl _) (fun _ e => e.elim)⟩
  refine rising_loop (by omega) (w.heap.size + 1) w.heap.size m ad L ho (by omega) rfl (fun W hW => (h.below (hB0.trans (hW.mono hB0.size))).asleep) hs0.map bI ?_ (by omega)
    (fun i W => Ni w ad m L i W) (fun c i W => (c = .exit 0 ∧ tc L i = 1) ∧ Blk W w.heap.size #[uv 1] 31 ∧ Below w.heap.size w W) (fun i X hi hA => hA.sn.look ho hi) (fun i X Y hk hi => hi.kz (by omega) hb hk) (fun _ _ X Y hk e => ⟨e.1, hkz X Y hk e.2⟩) hT0
    (fun i => { tmps := #[.pointer ad, undef, .int .u32 0, .bool false, .pointer (some ⟨w.heap.size, 0, none⟩), undef, uv (tc L i), .pointer ad, .func (.func 27) #[] #[.pointer (some ⟨w.heap.size + 1, 0, none⟩)], .int .i64 (pd L i), uv (tc L i), undef, undef, undef, undef, undef, undef, undef, undef, undef, undef, undef, undef, undef, undef, undef, undef], defers := [] })
    ?assign ?body ?done ?stop
  · rintro k (e | e | ⟨v, T, z, e1, e2⟩)
    · omega
    · have := hb k e.symm; omega
    · rw [show W0.heap[w.heap.size]? = _ from bR] at e1
      cases e1
      cases e2
  case assign =>
    intro l i W K hK
    gi_wp2
    exact hK
  case body =>
    rintro l i W hlw hT hi
    have cR : W.cell? ⟨w.heap.size, 0, none⟩ = some (uv (nx (L.take i))) := hT.box.cell 0
    have fR : W.frozen? ⟨w.heap.size, 0, none⟩ = false := hT.box.free 0
    have hnx := nx_next hi
    by_cases h1 : tc L i = 1
    · have HE : Hid (KeepsFrom W0.heap.size W (W.setCell ⟨w.heap.size, 0, none⟩ (uv (tc L i))) ∧ tc L i = 1 ∧ Blk (W.setCell ⟨w.heap.size, 0, none⟩ (uv (tc L i))) w.heap.size #[uv 1] 31 ∧ Below w.heap.size w (W.setCell ⟨w.heap.size, 0, none⟩ (uv (tc L i)))) := Lib.hid (by
        have hk : Kp (fun j => j = w.heap.size) W (W.setCell ⟨w.heap.size, 0, none⟩ (uv (tc L i))) := Kp.set _ _ _ _ rfl
        refine ⟨keeps_of hk (fun j e => .inl (by omega)), h1, ?_, hT.bel.trans (hk.below hT.bel.size (fun j e => by omega))⟩
        rw [h1]
        exact hT.box.set 0 (uv 1))
      have HI := Lib.hid h1
      have d1 : ((tc L i : Int) == 1) = true := by rw [h1]; rfl
      have d2 : (tc L i == 1) = true := by rw [h1]; rfl
      clear hT hs0 hT0 h1 hnx hkz
      generalize hti : tc L i = t at *
      generalize pd L i = p at *
      have HTI := Lib.hid hti
      clear hti
      gi_wp2
      obtain ⟨k1, k2, k3, k4⟩ := HE.out
      exact ⟨k1, ⟨rfl, HTI.out.trans HI.out⟩, k3, k4⟩
    · have d1 : ((tc L i : Int) == 1) = false := by simp; omega
      have d2 : (tc L i == 1) = false := by simp; omega
      by_cases h2 : nx (L.take i) = 0
      · have HE := Lib.hid (hT.set hi h1 hsz hb hq (tc L i) (by rw [hnx]; exact (if_pos (.inl h2)).symm))
        have d3 : ((nx (L.take i) : Int) == 0) = true := by rw [h2]; rfl
        have d4 : (nx (L.take i) == 0) = true := by rw [h2]; rfl
        clear hT hs0 hT0 h1 hnx hkz h2
        generalize tc L i = t at *
        generalize pd L i = p at *
        generalize nx (L.take i) = x at *
        gi_wp2
        exact HE.out
      · have d3 : ((nx (L.take i) : Int) == 0) = false := by simp; omega
        have d4 : (nx (L.take i) == 0) = false := by simp; omega
        by_cases h3 : tc L i < nx (L.take i)
        · have HE := Lib.hid (hT.set hi h1 hsz hb hq (tc L i) (by rw [hnx]; exact (if_pos (.inr h3)).symm))
          have d5 : decide ((tc L i : Int) < (nx (L.take i) : Int)) = true := decide_eq_true (by omega)
          have d6 : decide (tc L i < nx (L.take i)) = true := decide_eq_true h3
          clear hT hs0 hT0 h1 hnx hkz h2 h3
          generalize tc L i = t at *
          generalize pd L i = p at *
          generalize nx (L.take i) = x at *
          gi_wp2
          exact HE.out
        · have HE := Lib.hid (hT.stay hi h1 (by rw [hnx]; exact if_neg (by omega)))
          have d5 : decide ((tc L i : Int) < (nx (L.take i) : Int)) = false := decide_eq_false (by omega)
          have d6 : decide (tc L i < nx (L.take i)) = false := decide_eq_false h3
          clear hT hs0 hT0 h1 hnx hkz h2 h3
          generalize tc L i = t at *
          generalize pd L i = p at *
          generalize nx (L.take i) = x at *
          gi_wp2
          exact ⟨KeepsFrom.refl _ _, Stay.refl _ _ _, HE.out⟩
  case done =>
    rintro D W hD hT hK
    have hbx := hT.box
    rw [List.take_length] at hbx
    have cR : W.cell? ⟨w.heap.size, 0, none⟩ = some (uv (nx L)) := hbx.cell 0
    have cD : W.drew.cell? ⟨w.heap.size, 0, none⟩ = some (uv (nx L)) := cR
    have hKd : W.drew.heap[D]? = some (.deferred (some [])) := hK
    have HK := Lib.hid (And.intro hT hKd)
    clear hT hbx hs0 hT0 hKd hK
    generalize hx : nx L = x at *
    have HX := Lib.hid hx
    clear hx
    gi_wp2
    gi_big_region_o
    gi_wp2
    rw [Exit.noGoto_ret]
    refine ⟨by simp, .inl ⟨_, _, rfl, run_takeDeferred HK.out.2, ?_⟩⟩
    have hk := Kz.putObj (X := W.drew) (B0 := W0.heap.size) hD HK.out.2 rfl (.deferred none)
    have hT2 := (HK.out.1.kz (B0 := W0.heap.size) (by omega) hb (Kz.of_below (Below.refl _ _).drew)).kz (B0 := W0.heap.size) (by omega) hb hk
    exact ⟨_, results_tmp2 rfl _ _ _, by rw [HX.out]; rfl, hT2.bel⟩
  case stop =>
    rintro D c i W hD hi ⟨⟨rfl, h1⟩, hbx, hbel⟩ hK
    have hx1 : nx L = 1 := nx_one ho.ones (List.getElem_mem hi) (by rw [← tc_at hi]; exact h1)
    have HX := Lib.hid hx1
    have cR : W.cell? ⟨w.heap.size, 0, none⟩ = some (uv 1) := hbx.cell 0
    have cD : W.drew.cell? ⟨w.heap.size, 0, none⟩ = some (uv 1) := cR
    have hKd : W.drew.heap[D]? = some (.deferred (some [])) := hK
    have HK := Lib.hid (And.intro (And.intro hbx hbel) hKd)
    have HZ := Lib.hid hkz
    clear hbx hbel hs0 hT0 hKd hK hkz h1 hx1 hi
    gi_wp2
    gi_big_region_o
    gi_wp2
    rw [Exit.noGoto_ret]
    refine ⟨by simp, .inl ⟨_, _, rfl, run_takeDeferred HK.out.2, ?_⟩⟩
    have hk := Kz.putObj (X := W.drew) (B0 := W0.heap.size) hD HK.out.2 rfl (.deferred none)
    have hT2 := HZ.out _ _ hk (HZ.out _ _ (Kz.of_below (Below.refl _ _).drew) HK.out.1)
    exact ⟨_, results_tmp2 rfl _ _ _, by rw [HX.out]; rfl, hT2.2⟩
theorem next_any (h : Sn w ad m L) (ho : Ok L) (hl : L.length < 80000) :
    Calls Try.prog 18 #[.pointer ad] w fun e w' => e = .returned (.tuple #[uv (nx L), .bool (decide (0 < nx L))]) ∧ Below w.heap.size w w' :=
  callsIn_wide.1 (next_in 8 (Nat.le_refl _) h ho hl)
end Go.Proofs.Ytpblnjphkgilfaa.Slj
