/-
  Tick.
-/
import Derived.Test.YtpblnjphkgilfaaSlf
namespace Go.Proofs.Ytpblnjphkgilfaa.Slg
open Go Go.RowKit Go.Shelf Kit Bk Sla Slb Slc Sld Sle Slf
set_option linter.unusedVariables false
attribute [local go_sem] Oper.semAt_some
attribute [local go_sem ↓] app_wrap

/-- A tick, as far as it has gone: in w the function began. -/
structure Ti (w : World) (q : Nat) (m : Option Nat) (L : St) (i : Nat) (W : World) : Prop where
  bs : Blk W w.heap.size #[pv q] 23
  row : ∃ v, Blk W (w.heap.size + 1) #[v] 37 ∧ W.ownsRow (w.heap.size + 3) 3 1 v (tkW (L.take i)).length (ints (tkW (L.take i)))
  sv : Sv W q m (tkL (L.take i) ++ L.drop i)
  kp : Kp (fr q m) w W
  lo : w.heap.size + 3 ≤ W.heap.size
variable {w W : World} {q : Nat} {m : Option Nat} {L : St} {i : Nat}
theorem Ti.kz {B0 : Nat} {X Y : World} (h : Ti w q m L i X) (hB : w.heap.size ≤ B0) (hb : ∀ b, m = some b → b < w.heap.size) (hk : Kz B0 X Y) : Ti w q m L i Y := by
  obtain ⟨v, h1, h2⟩ := h.row
  exact ⟨Blk.kz h.bs hk, ⟨v, Blk.kz h1 hk, own_kz h2 hk⟩, Sv.kz h.sv (fun b e => Nat.lt_of_lt_of_le (hb b e) hB) hk, Kp.kz hB h.kp hk, Nat.le_trans h.lo hk.size⟩
theorem pd_wf (ho : Ok L) (hi : i < L.length) : (Lit.int .i64 (pd L i)).wf = true := by
  have := ho.each L[i] (List.getElem_mem hi)
  rw [pd_at hi]
  exact wf64 (by omega)
theorem tc_lt (ho : Ok L) (hi : i < L.length) : 1 ≤ tc L i ∧ tc L i < 4294967296 := by
  have := ho.each L[i] (List.getElem_mem hi)
  rw [tc_at hi]
  exact this.2
theorem Ti.look (h : Ti w q m L i W) (ho : Ok L) (hi : i < L.length) : ∃ b, m = some b ∧ W.cell? ⟨q, 0, none⟩ = some (.map m) ∧ (Instr.lookup 24 (.map m) (.int .i64 (pd L i)) false).run Try.prog W = .ok (.int .u32 ((tc L i : Nat) : Int)) W := by
  have hs := h.sv
  have hm := hs.map
  have hd : L.drop i = (pd L i, tc L i) :: L.drop (i + 1) := by rw [List.drop_eq_getElem_cons hi, pd_at hi, tc_at hi]
  cases m with
  | none =>
    have : tkL (L.take i) ++ L.drop i = [] := hm
    rw [hd] at this
    simp at this
  | some b =>
    refine ⟨b, rfl, Sv.cell hs, ?_⟩
    have := Mp.look1 (show Mp W b _ from hm) (pd_wf ho hi)
    rw [this, lft_app, (around ho hi).1, hd, lft_cons]
    simp
/-- A store of one tick less. -/
theorem Ti.put {b : Nat} (h : Ti w q (some b) L i W) (ho : Ok L) (hl : L.length < 80000) (hi : i < L.length) : ∃ w1, (Instr.mapUpdate 24 (.map (some b)) (.int .i64 (pd L i)) (.int .u32 ((tc L i - 1 : Nat) : Int))).run Try.prog W = .ok () w1 ∧ Mp w1 b (tkL (L.take i) ++ (pd L i, tc L i - 1) :: L.drop (i + 1)) ∧ Kp (fun j => j = b) W w1 := by
  have hm : Mp W b (tkL (L.take i) ++ L.drop i) := h.sv.map
  have hd : L.drop i = (pd L i, tc L i) :: L.drop (i + 1) := by rw [List.drop_eq_getElem_cons hi, pd_at hi, tc_at hi]
  obtain ⟨a1, a2, a3, a4⟩ := around ho hi
  rw [hd] at hm
  refine Mp.put hm ?_ (pd_wf ho hi) (by have := tc_lt ho hi; omega) (a3 _) (mid_slp _ _ _ _ _) (mid_lft _ _ a1)
  have := len_tkL (L.take i)
  rw [List.length_append, List.length_cons, List.length_drop]
  rw [List.length_take] at this
  omega
theorem ntm {q b : Nat} {W : World} {M : St} (h : Sv W q (some b) M) : q ≠ b := Mp.ne (show Mp W b M from h.map) h.blk
/-- One who sleeps on. -/
theorem Ti.down {b B0 : Nat} (h : Ti w q (some b) L i W) (ho : Ok L) (hl : L.length < 80000) (hi : i < L.length) (h1 : tc L i ≠ 1) (hb : b < w.heap.size) (hB0 : B0 = w.heap.size + 3) : ∃ w1, (Instr.mapUpdate 24 (.map (some b)) (.int .i64 (pd L i)) (.int .u32 ((tc L i - 1 : Nat) : Int))).run Try.prog W = .ok () w1 ∧
    KeepsFrom B0 W w1 ∧ Stay (w.heap.size + 1) (some b) W w1 ∧ Ti w q (some b) L (i + 1) w1 := by
  obtain ⟨w1, q1, q2, q3⟩ := h.put ho hl hi
  obtain ⟨v, r1, r2⟩ := h.row
  have hm : Mp W b _ := h.sv.map
  refine ⟨w1, q1, keeps_of q3 (fun j e => .inl (by omega)), stay_of q3 (fun j e => .inr (.inl (by rw [e]))) (fun k e => ?_), ⟨h.bs.kept q3 (by omega), ⟨v, r1.kept q3 (by omega), ?_⟩, ⟨h.sv.blk.kept q3 (ntm h.sv), ?_⟩, h.kp.trans q3 (fun j e => .inl (.inr (by rw [e]))), Nat.le_trans h.lo q3.size⟩⟩
  · exact .inl ((Mine.same (q3.block _ r1.lt (by omega))).1 e)
  · rw [(tk_next hi).1, if_neg h1, List.append_nil]
    refine own_kept r2 q3 (fun g e e2 => ?_)
    obtain ⟨_, cs, hc⟩ := own_cells r2 e
    subst e2
    obtain ⟨es, ck, ho⟩ := hm.obj
    rw [ho] at hc
    cases hc
  · show Mp w1 b _
    rw [(tk_next hi).2, if_neg h1, List.append_assoc]
    exact q2
/-- One who wakes. -/
theorem Ti.wake {b B0 : Nat} (h : Ti w q (some b) L i W) (ho : Ok L) (hl : L.length < 80000) (hi : i < L.length) (h1 : tc L i = 1) (hb : b < w.heap.size) (hB0 : B0 = w.heap.size + 3) : ∃ w1 v w2 g' cap' w4, (Instr.mapUpdate 24 (.map (some b)) (.int .i64 (pd L i)) (.int .u32 ((tc L i - 1 : Nat) : Int))).run Try.prog W = .ok () w1 ∧
    (w1.cell? ⟨w.heap.size, 0, none⟩ = some (pv q) ∧ w1.cell? ⟨q, 0, none⟩ = some (.map (some b))) ∧
    (∀ ty, (Builtin.delete_ #[24, 3] ty #[.map (some b), .int .i64 (pd L i)]).run Try.prog w1 = .ok (.tuple #[]) w2) ∧
    w2.cell? ⟨w.heap.size + 1, 0, none⟩ = some v ∧ (appO #[37, 37] 37 #[v, .slice (some ⟨w2.heap.size, 0, none⟩) 1 1]).run Try.prog (w2.alloc (.cells #[.int .i64 (pd L i)] 3)) = .ok (.slice (some ⟨g', 0, none⟩) ((tkW (L.take i)).length + 1) cap') w4 ∧
    (w4.cell? ⟨w.heap.size + 1, 0, none⟩ = some v ∧ w4.frozen? ⟨w.heap.size + 1, 0, none⟩ = false) ∧
    KeepsFrom B0 W (w4.setCell ⟨w.heap.size + 1, 0, none⟩ (.slice (some ⟨g', 0, none⟩) ((tkW (L.take i)).length + 1) cap')) ∧
    Stay (w.heap.size + 1) (some b) W (w4.setCell ⟨w.heap.size + 1, 0, none⟩ (.slice (some ⟨g', 0, none⟩) ((tkW (L.take i)).length + 1) cap')) ∧
    Ti w q (some b) L (i + 1) (w4.setCell ⟨w.heap.size + 1, 0, none⟩ (.slice (some ⟨g', 0, none⟩) ((tkW (L.take i)).length + 1) cap')) := by
  obtain ⟨w1, q1, q2, q3⟩ := h.put ho hl hi
  obtain ⟨v, r1, r2⟩ := h.row
  have hm : Mp W b _ := h.sv.map
  obtain ⟨a1, a2, a3, a4⟩ := around ho hi
  have hdel := fun ty => Mp.del q2 (pd_wf ho hi) a4 (mid_slp_del _ a1 a2) (mid_lft_del _ a1 a2) ty
  obtain ⟨w2, d1, d2, d3⟩ := hdel 0
  have d1' : ∀ ty, (Builtin.delete_ #[24, 3] ty #[.map (some b), .int .i64 (pd L i)]).run Try.prog w1 = .ok (.tuple #[]) w2 := fun ty => d1
  have k2 : Kp (fun j => j = b) W w2 := q3.trans d3 (fun j e => .inl e)
  have r1' := r1.kept k2 (by omega)
  have hnb : ∀ g, v.ownBlock = some g → g ≠ b := fun g e e2 => by
    obtain ⟨_, cs, hc⟩ := own_cells r2 e
    subst e2
    obtain ⟨es, ck, ho⟩ := hm.obj
    rw [ho] at hc
    cases hc
  have r2' := own_kept r2 k2 hnb
  have hlen : (tkW (L.take i)).length ≤ 90000 := by
    unfold tkW
    rw [List.length_map]
    have := List.length_filter_le (fun x : Sl => x.2 == 1) (L.take i)
    rw [List.length_take] at this
    omega
  obtain ⟨g', cap', w4, p1, p2, p3, p4, p5, p6⟩ := push (S := 37) (E := 3) Try.underlying37 infoI rfl (by decide) (by decide) (by decide) #[.int .i64 (pd L i)] rfl (by simp [Value.oneCell']) r1' r2' (Nat.le_trans h.lo k2.size) hlen
  have kk : Kp (fun j => j = b ∨ (j = w.heap.size + 1 ∨ v.ownBlock = some j)) W _ := (k2.mono (fun j _ e => (.inl e : j = b ∨ (j = w.heap.size + 1 ∨ v.ownBlock = some j)))).trans p5 (fun j e => .inl (.inr e))
  have hs1 := r1.lt
  have hq : q ≠ w.heap.size + 1 := h.sv.blk.ne r1 (by decide)
  have hblo : ∀ g, v.ownBlock = some g → w.heap.size + 3 ≤ g ∧ ∃ cs, W.heap[g]? = some (.cells cs 3 (0, 0)) := fun g e => own_cells r2 e
  refine ⟨w1, v, w2, g', cap', w4, q1, ⟨(h.bs.kept q3 (by omega)).cell 0, (h.sv.blk.kept q3 (ntm h.sv)).cell 0⟩, d1', r1'.cell 0, p1, ⟨p2.cell 0, p2.free 0⟩, ?_, ?_, ?_⟩
  · refine keeps_of kk (fun j e => ?_)
    rcases e with e | e | e
    · exact .inl (by omega)
    · exact .inl (by omega)
    · obtain ⟨_, cs, hc⟩ := hblo j e; exact .inr ⟨_, _, _, hc⟩
  · refine stay_of kk (fun j e => ?_) (fun k e => ?_)
    · rcases e with e | e | e
      · exact .inr (.inl (by rw [e]))
      · exact .inl e
      · exact .inr (.inr ⟨v, _, _, r1, e⟩)
    · rcases e with e | e | ⟨v', T, z, e1, e2⟩
      · exact .inl (.inl e)
      · exact .inl (.inr (.inl e))
      · rw [show (w4.setCell ⟨w.heap.size + 1, 0, none⟩ (.slice (some ⟨g', 0, none⟩) ((tkW (L.take i)).length + 1) cap')).heap[w.heap.size + 1]? = _ from p3] at e1
        cases e1
        have : g' = k := by simpa [Value.ownBlock] using e2
        subst this
        rcases p6 with e | e
        · exact .inl (.inr (.inr ⟨v, _, _, r1, e⟩))
        · exact .inr (Nat.le_trans k2.size e)
  · have hqk : ¬ (q = b ∨ (q = w.heap.size + 1 ∨ v.ownBlock = some q)) := by
      rintro (e | e | e)
      · exact ntm h.sv e
      · exact hq e
      · obtain ⟨_, cs, hc⟩ := hblo q e
        rw [show W.heap[q]? = _ from h.sv.blk] at hc
        cases hc
    have hbk : ¬ (b = w.heap.size + 1 ∨ v.ownBlock = some b) := by
      rintro (e | e)
      · omega
      · exact hnb b e rfl
    have hsk : ¬ (w.heap.size = b ∨ (w.heap.size = w.heap.size + 1 ∨ v.ownBlock = some w.heap.size)) := by
      rintro (e | e | e)
      · omega
      · omega
      · have := (hblo _ e).1; omega
    refine ⟨h.bs.kept kk hsk, ⟨_, p3, ?_⟩, ⟨h.sv.blk.kept kk hqk, ?_⟩, h.kp.trans kk (fun j e => ?_), Nat.le_trans h.lo kk.size⟩
    · rw [(tk_next hi).1, if_pos h1, ints_app, List.length_append]
      exact p4
    · show Mp _ b _
      rw [(tk_next hi).2, if_pos h1, List.append_nil]
      exact d2.kept p5 hbk
    · rcases e with e | e | e
      · exact .inl (.inr (by rw [e]))
      · exact .inr (by omega)
      · exact .inr (by have := (hblo _ e).1; omega)
end Go.Proofs.Ytpblnjphkgilfaa.Slg
