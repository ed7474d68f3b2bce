/-
  Sleepers, or none; All; Tick of none.
-/
import Derived.Test.YtpblnjphkgilfaaSlh
namespace Go.Proofs.Ytpblnjphkgilfaa.Sli
open Go Go.RowKit Go.Shelf Kit Bk Sla Slb Slc Sld Sle Slf Slg Slh
set_option linter.unusedVariables false
attribute [local go_sem] Oper.semAt_some
attribute [local go_sem ↓] app_wrap

/-- Sleepers, or none. -/
def Sn (w : World) (ad : Option Addr) (m : Option Nat) (L : St) : Prop := (∃ q, ad = some ⟨q, 0, none⟩ ∧ Sv w q m L) ∨ (ad = none ∧ m = none ∧ L = [])
variable {w W : World} {ad : Option Addr} {m : Option Nat} {L : St} {i : Nat}
theorem sn_some {q : Nat} (h : Sv w q m L) : Sn w (some ⟨q, 0, none⟩) m L := .inl ⟨q, rfl, h⟩
theorem sn_none (w : World) : Sn w none none [] := .inr ⟨rfl, rfl, rfl⟩
theorem Sn.below {w' : World} (h : Sn w ad m L) (hb : Below w.heap.size w w') : Sn w' ad m L := h.imp (fun ⟨q, e, h⟩ => ⟨q, e, h.below hb⟩) id
theorem Sn.kz {B0 : Nat} {X Y : World} (h : Sn X ad m L) (hb : ∀ b, m = some b → b < B0) (hk : Kz B0 X Y) : Sn Y ad m L := h.imp (fun ⟨q, e, h⟩ => ⟨q, e, Sv.kz h hb hk⟩) id
theorem Sn.map (h : Sn w ad m L) : Ml w m L := by
  rcases h with ⟨q, _, h⟩ | ⟨_, rfl, rfl⟩
  · exact h.map
  · rfl
theorem Sn.asleep (h : Sn w ad m L) : Calls Try.prog 25 #[.pointer ad] w fun e w' => e = .returned (.map m) ∧ w = w' := by
  rcases h with ⟨q, rfl, h⟩ | ⟨rfl, rfl, rfl⟩
  · exact asleep_any w q m (Sv.cell h)
  · exact asleep_nil w
theorem Sn.look (h : Sn W ad m L) (ho : Ok L) (hi : i < L.length) : ∃ q, ad = some ⟨q, 0, none⟩ ∧ W.cell? ⟨q, 0, none⟩ = some (.map m) ∧ (Instr.lookup 24 (.map m) (.int .i64 (pd L i)) false).run Try.prog W = .ok (.int .u32 ((tc L i : Nat) : Int)) W := by
  rcases h with ⟨q, rfl, h⟩ | ⟨rfl, rfl, rfl⟩
  · refine ⟨q, rfl, Sv.cell h, ?_⟩
    have hm := h.map
    cases m with
    | none => cases hm; exact absurd hi (Nat.not_lt_zero _)
    | some b =>
      rw [Mp.look1 (show Mp W b L from hm) (pd_wf ho hi)]
      have e : lft L (pd L i) = tc L i := by
        have hh := ho.nodup
        have ht := take_mid hi
        have hno : slp (L.take i) (pd L i) = false := by
          cases h : slp (L.take i) (pd L i)
          · rfl
          · rw [ht] at hh
            have hp : pids (L.take i ++ (pd L i, tc L i) :: L.drop (i + 1)) = pids (L.take i) ++ pd L i :: pids (L.drop (i + 1)) := by simp [pids]
            rw [hp] at hh
            exact absurd rfl ((List.nodup_append.1 hh).2.2 _ (slp_mem.1 h) _ List.mem_cons_self)
        have e2 : ∀ M p, M = L.take i ++ (pd L i, tc L i) :: L.drop (i + 1) → p = pd L i → lft M p = tc L i := by
          rintro M p rfl rfl
          rw [lft_app, hno, lft_cons]
          simp
        exact e2 L _ ht rfl
      rw [e]
  · exact absurd hi (Nat.not_lt_zero _)
/-- Records as cells. -/
def ic (x : Sl) : List Value := [.int .i64 x.1, uv x.2]
def ics (D : St) : List Value := D.flatMap ic
theorem ics_len (D : St) : (ics D).length = D.length * 2 := by
  induction D with
  | nil => rfl
  | cons a r ih => show (ic a ++ ics r).length = _; rw [List.length_append, ih, List.length_cons]; simp [ic]; omega
theorem ics_app (D M : St) : ics (D ++ M) = ics D ++ ics M := by simp [ics]
theorem ics_cell (D : St) : ∀ (i : Nat) (h : i < D.length) (j : Nat), j < 2 → (ics D)[i * 2 + j]? = (ic D[i])[j]? := by
  induction D with
  | nil => intro i h; simp at h
  | cons a r ih =>
    intro i h j hj
    show (ic a ++ ics r)[i * 2 + j]? = _
    cases i with
    | zero => rw [List.getElem?_append_left (by simp [ic]; omega)]; simp
    | succ i =>
      rw [List.getElem?_append_right (by simp [ic]; omega)]
      have := ih i (by simpa using h) j hj
      rw [show (i + 1) * 2 + j - (ic a).length = i * 2 + j by simp [ic]; omega, this]
      rfl
/-- All, as far as it has gone. -/
structure Ai (w : World) (ad : Option Addr) (m : Option Nat) (L : St) (i : Nat) (W : World) : Prop where
  row : ∃ v, Blk W w.heap.size #[v] 28 ∧ W.ownsRow (w.heap.size + 2) 54 2 v i (ics (L.take i))
  sn : Sn W ad m L
  bel : Below w.heap.size w W
  lo : w.heap.size + 2 ≤ W.heap.size
theorem Ai.kz {B0 : Nat} {X Y : World} (h : Ai w ad m L i X) (hB : w.heap.size ≤ B0) (hb : ∀ b, m = some b → b < w.heap.size) (hk : Kz B0 X Y) : Ai w ad m L i Y := by
  obtain ⟨v, h1, h2⟩ := h.row
  exact ⟨⟨v, Blk.kz h1 hk, own_kz h2 hk⟩, Sn.kz h.sn (fun b e => Nat.lt_of_lt_of_le (hb b e) hB) hk, (Kp.kz hB (Kp.of_below (S := fun _ => False) h.bel) hk).below (Nat.le_refl _) (fun _ e => e.elim), Nat.le_trans h.lo hk.size⟩
/-- One more. -/
theorem Ai.push {B0 : Nat} (h : Ai w ad m L i W) (hl : L.length < 80000) (hi : i < L.length) (hB0 : B0 = w.heap.size + 2) (hm : ∀ b, m = some b → b < w.heap.size) (hq : ∀ q, ad = some ⟨q, 0, none⟩ → q < w.heap.size) : ∃ v g' cap' w4, W.cell? ⟨w.heap.size, 0, none⟩ = some v ∧
    (appO #[28, 28] 28 #[v, .slice (some ⟨W.heap.size, 0, none⟩) 1 1]).run Try.prog (W.alloc (.cells #[.int .i64 (pd L i), uv (tc L i)] 54)) = .ok (.slice (some ⟨g', 0, none⟩) (i + 1) cap') w4 ∧
    (w4.cell? ⟨w.heap.size, 0, none⟩ = some v ∧ w4.frozen? ⟨w.heap.size, 0, none⟩ = false) ∧
    KeepsFrom B0 W (w4.setCell ⟨w.heap.size, 0, none⟩ (.slice (some ⟨g', 0, none⟩) (i + 1) cap')) ∧
    Stay w.heap.size m W (w4.setCell ⟨w.heap.size, 0, none⟩ (.slice (some ⟨g', 0, none⟩) (i + 1) cap')) ∧
    Ai w ad m L (i + 1) (w4.setCell ⟨w.heap.size, 0, none⟩ (.slice (some ⟨g', 0, none⟩) (i + 1) cap')) := by
  obtain ⟨v, r1, r2⟩ := h.row
  obtain ⟨g', cap', w4, p1, p2, p3, p4, p5, p6⟩ := Slf.push (S := 28) (E := 54) Try.underlying28 infoS rfl (by decide) (by decide) (by decide) #[.int .i64 (pd L i), uv (tc L i)] rfl (by simp [Value.oneCell']) r1 r2 h.lo (by omega)
  have hblo : ∀ g, v.ownBlock = some g → w.heap.size + 2 ≤ g ∧ ∃ cs, W.heap[g]? = some (.cells cs 54 (0, 0)) := fun g e => own_cells r2 e
  refine ⟨v, g', cap', w4, r1.cell 0, p1, ⟨p2.cell 0, p2.free 0⟩, ?_, ?_, ?_⟩
  · refine keeps_of p5 (fun j e => ?_)
    rcases e with e | e
    · exact .inl (by omega)
    · obtain ⟨_, cs, hc⟩ := hblo j e; exact .inr ⟨_, _, _, hc⟩
  · refine stay_of p5 (fun j e => ?_) (fun k e => ?_)
    · rcases e with e | e
      · exact .inl e
      · exact .inr (.inr ⟨v, _, _, r1, e⟩)
    · rcases e with e | e | ⟨v', T, z, e1, e2⟩
      · exact .inl (.inl e)
      · exact .inl (.inr (.inl e))
      · rw [show (w4.setCell ⟨w.heap.size, 0, none⟩ (.slice (some ⟨g', 0, none⟩) (i + 1) cap')).heap[w.heap.size]? = _ from p3] at e1
        cases e1
        have : g' = k := by simpa [Value.ownBlock] using e2
        subst this
        rcases p6 with e | e
        · exact .inl (.inr (.inr ⟨v, _, _, r1, e⟩))
        · exact .inr e
  · have hs : ∀ j, (j = w.heap.size ∨ v.ownBlock = some j) → w.heap.size ≤ j := fun j e => by
      rcases e with e | e
      · omega
      · have := (hblo j e).1; omega
    refine ⟨⟨_, p3, ?_⟩, ?_, h.bel.trans (p5.below h.bel.size hs), Nat.le_trans h.lo p5.size⟩
    · rw [List.take_succ_eq_append_getElem hi, ics_app]
      rw [pd_at hi, tc_at hi] at p4
      simpa [ics, ic] using p4
    · refine h.sn.imp (fun ⟨q, e, hv⟩ => ⟨q, e, hv.kept p5 (fun e2 => ?_) (fun b e2 e3 => ?_)⟩) id
      · have := hs q e2; have := hq q e; omega
      · have := hs b e3; have := hm b e2; omega

set_option maxRecDepth 100000 in
set_option maxHeartbeats 4000000 in
theorem all_in (n : Nat) (hn : 8 ≤ n) (h : Sn w ad m L) (ho : Ok L) (hl : L.length < 80000) :
    CallsIn Fence.wide n Try.prog 20 #[.pointer ad] w fun e w' => Below w.heap.size w w' ∧ ∃ u, e = .returned u ∧ w'.ownsRow w.heap.size 54 2 u L.length (ics L) := by
  have hq : ∀ q, ad = some ⟨q, 0, none⟩ → q < w.heap.size := fun q e => by
    rcases h with ⟨q', e', h⟩ | ⟨e', _⟩
    · rw [e'] at e; cases e; exact h.blk.lt
    · rw [e'] at e; cases e
  have hb := h.map.lt
  refine callsIn_of_wp_marks Try.func20 rfl trivial ?_ rfl
  simp only [Try.ntmps20, List.size_toArray, List.length_cons, List.length_nil, Nat.reduceAdd, Nat.reduceSub, Array.replicate_succ, Array.replicate_zero, List.push_toArray, List.append_toArray, List.nil_append, List.cons_append]
  gi_wp2_with (first | (refine ⟨trivial, ?_⟩; gi_at_call 24; refine (rising_in (n - 1) _ _).mono ?_; rintro e w' ⟨rfl, rfl⟩) | (refine ⟨trivial, fun _ => (by omega), ?_⟩; gi_at_call 24; refine (rising_in (n - 1) _ _).mono ?_; rintro e w' ⟨rfl, rfl⟩))
  have b1 := (Below.refl w.heap.size w).alloc (Nat.le_refl _) (.cells #[.slice none 0 0] 28)
  have hB0 := b1.alloc b1.size (.cells #[.pointer ad] 23)
  have bR := (Boxed.new w 28 (.slice none 0 0)).alloc (.cells #[.pointer ad] 23)
  have bI := Boxed.new (w.alloc (.cells #[.slice none 0 0] 28)) 23 (.pointer ad)
  have hsz : ((w.alloc (.cells #[.slice none 0 0] 28)).alloc (.cells #[.pointer ad] 23)).heap.size = w.heap.size + 2 := by simp
  have hrow0 := World.ownsRow_nil ((w.alloc (.cells #[.slice none 0 0] 28)).alloc (.cells #[.pointer ad] 23)) (w.heap.size + 2) 54 2
  simp only [World.size_alloc] at bI
  obtain ⟨W0, hW0⟩ : ∃ W0, (w.alloc (.cells #[.slice none 0 0] 28)).alloc (.cells #[.pointer ad] 23) = W0 := ⟨_, rfl⟩
  clear b1
  rw [hW0] at bR bI hB0 hsz hrow0 ⊢
  clear hW0
  have hs0 := h.below hB0
  have hT0 : Ai w ad m L 0 W0 := ⟨⟨_, bR, hrow0⟩, hs0, hB0, by omega⟩
  refine rising_loop (by omega) (w.heap.size + 1) w.heap.size m ad L ho (by omega) rfl (fun W hW => (h.below (hB0.trans (hW.mono hB0.size))).asleep) hs0.map bI ?_ (by omega)
    (fun i W => Ai w ad m L i W) (fun _ _ _ => False) (fun i X hi hA => hA.sn.look ho hi) (fun i X Y hk hi => hi.kz (by omega) hb hk) (fun _ _ _ _ _ e => e) hT0
    (fun i => { tmps := #[.pointer ad, undef, .slice none 0 0, .pointer (some ⟨w.heap.size, 0, none⟩), .int .i64 (pd L i), uv (tc L i), .pointer ad, .func (.func 27) #[] #[.pointer (some ⟨w.heap.size + 1, 0, none⟩)], .int .i64 (pd L i), uv (tc L i), undef, undef, undef, undef, undef, undef, undef], defers := [] })
    ?assign ?body ?done ?stop
  · rintro k (e | e | ⟨v, T, z, e1, e2⟩)
    · omega
    · have := hb k e.symm; omega
    · rw [show W0.heap[w.heap.size]? = _ from bR] at e1
      cases e1
      cases e2
  case assign =>
    intro l i W K hK
    gi_wp2
    exact hK
  case body =>
    rintro l i W hlw hT hi
    obtain ⟨v, g', cap', w4, q1, q2, ⟨q3, q4⟩, HE⟩ := hT.push hl hi hsz hb hq
    replace HE := Lib.hid HE
    clear hT hs0 hT0
    generalize tc L i = t at *
    generalize pd L i = p at *
    gi_wp2
    exact HE.out
  case done =>
    rintro D W hD hT hK
    obtain ⟨v, r1, r2⟩ := hT.row
    have cR : W.cell? ⟨w.heap.size, 0, none⟩ = some v := r1.cell 0
    have HT := Lib.hid hT
    have HR := Lib.hid r2
    clear hT r1 r2
    gi_wp2
    refine ⟨by simp, .inl ⟨_, _, rfl, run_takeDeferred hK, ?_⟩⟩
    have hk := Kz.putObj (B0 := W0.heap.size) hD hK rfl (.deferred none)
    have hT2 := HT.out.kz (B0 := W0.heap.size) (by omega) hb hk
    have hr2 := own_kz HR.out hk
    rw [List.take_length] at hr2
    exact ⟨_, results_tmp rfl _ _ _, hT2.bel, _, rfl, own_base hr2 (by omega)⟩
  case stop =>
    rintro D c i W _ _ hx
    exact hx.elim
theorem all_any (h : Sn w ad m L) (ho : Ok L) (hl : L.length < 80000) :
    Calls Try.prog 20 #[.pointer ad] w fun e w' => Below w.heap.size w w' ∧ ∃ u, e = .returned u ∧ w'.ownsRow w.heap.size 54 2 u L.length (ics L) :=
  callsIn_wide.1 (all_in 8 (Nat.le_refl _) h ho hl)
end Go.Proofs.Ytpblnjphkgilfaa.Sli
