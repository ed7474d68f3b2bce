/-
  put, change; what is asked ahead of a call.
-/
import Derived.Test.YtkjcjodhpcfjiaaTeh
namespace Go.Proofs.Ytkjcjodhpcfjiaa.Tei
open Go Go.RowKit Go.Shelf Kit Bk Tea Teb Tec Ted Tee Tef Teg Teh
set_option linter.unusedVariables false
attribute [local go_sem ↓] app_wrap

variable {B : Nat} {w W : World} {q b : Nat} {v : Value} {rm : Nat} {L : St} {S : List Bool} {p : Int}
theorem infoB : (Try.prog.info? 4).map (fun i => (i.zero, i.size, i.bytes)) = some (some (.bool false), 1, 1) := by kernel_rfl
def bools (S : List Bool) : List Value := S.map Value.bool
/-- A pid that never was. -/
theorem Tb.grow (h : Tb B W q b v rm L S) (hl : S.length < 80000) (hB : B ≤ W.heap.size) : ∃ g' cap' w4,
    (appO #[63, 63] 63 #[v, .slice (some ⟨W.heap.size, 0, none⟩) 1 1]).run Try.prog (W.alloc (.cells #[.bool false] 4)) = .ok (.slice (some ⟨g', 0, none⟩) (S.length + 1) cap') w4 ∧
    (w4.cell? ⟨q, 2, none⟩ = some v ∧ w4.frozen? ⟨q, 2, none⟩ = false) ∧
    Tb B (w4.setCell ⟨q, 2, none⟩ (.slice (some ⟨g', 0, none⟩) (S.length + 1) cap')) q b (.slice (some ⟨g', 0, none⟩) (S.length + 1) cap') rm L (S ++ [false]) ∧
    Kp (fr q b v) W (w4.setCell ⟨q, 2, none⟩ (.slice (some ⟨g', 0, none⟩) (S.length + 1) cap')) ∧ (v.ownBlock = some g' ∨ W.heap.size ≤ g') := by
  obtain ⟨i0, hi, hz0, hz1, hz2⟩ := info_parts' infoB
  have hb1 := (Below.refl W.heap.size W).alloc (Nat.le_refl _) (.cells #[.bool false] 4)
  have h1 := h.below hb1
  have hnew : Blk (W.alloc (.cells #[.bool false] 4)) W.heap.size #[.bool false] 4 := Blk.new _ _ _
  obtain ⟨v', w4, q1, q2, q3, q4, q5⟩ := run_append_own_at (P := Try.prog) (w := W.alloc (.cells #[.bool false] 4)) B 63 63 4 i0 (.bool false) 1 1 Try.underlying63 hi hz0 hz1 hz2 rfl (by decide) v S.length (S.map Value.bool) h1.row ⟨W.heap.size, 0, none⟩ 1 1 [.bool false] (by simp)
    (fun j u hj => by
      rw [Addr.add_mid, Nat.zero_add, hnew.cell j, ← Array.getElem?_toList]
      exact hj) (by simp [Value.oneCell']) (by unfold maxLen; omega) (by omega) (by simp; omega)
  obtain ⟨g', cap', rfl⟩ := ownsRow_succ q2
  have hk1 : Kp (fun k => v.ownBlock = some k) (W.alloc (.cells #[.bool false] 4)) w4 := (Kp.of_grown q3).mono (fun j _ e => e.symm)
  have hnq : ¬ v.ownBlock = some q := fun e => by
    obtain ⟨_, cs, hc⟩ := own_cells h.row e
    rw [show W.heap[q]? = _ from h.blk] at hc
    cases hc
  have hnb : ¬ v.ownBlock = some b := fun e => by
    obtain ⟨_, cs, hc⟩ := own_cells h.row e
    obtain ⟨es, ck, ho⟩ := h.map.obj
    rw [ho] at hc
    cases hc
  have hbq := h1.blk.kept hk1 hnq
  have hmb := h1.map.kept hk1 hnb
  have hgq : g' ≠ q := fun e => by
    subst e
    obtain ⟨_, cs, hc⟩ := own_cells q2 rfl
    rw [show w4.heap[g']? = _ from hbq] at hc
    cases hc
  have hqb : q ≠ b := Mp.ne hmb hbq
  have hset : Kp (fun j => j = q) w4 (w4.setCell ⟨q, 2, none⟩ (.slice (some ⟨g', 0, none⟩) (S.length + 1) cap')) := Kp.set _ _ _ _ rfl
  refine ⟨g', cap', w4, q1, ⟨hbq.cell 2, hbq.free 2⟩, ⟨?_, hmb.kept hset (Ne.symm hqb), ?_, h.lo⟩, ?_, ?_⟩
  · exact hbq.set 2 _
  · have := own_kept q2 hset (fun g e e2 => hgq (by rw [← e2]; simpa [Value.ownBlock] using e))
    simpa using this
  · exact ((Kp.of_below (S := fr q b v) hb1).trans (hk1.mono (fun j _ e => (.inr (.inr e) : fr q b v j))) (fun _ e => .inl e)).trans (Kp.set (S := fr q b v) _ _ _ _ (.inl rfl)) (fun _ e => .inl e)
  · rcases q5 with e | e
    · exact .inl (by rw [← e]; rfl)
    · right
      have : g' = (W.alloc (.cells #[.bool false] 4)).heap.size := by simpa [Value.ownBlock] using e
      rw [this]; simp
/-- p is one that was. -/
def grw (S : List Bool) (p : Nat) : List Bool := (S ++ List.replicate (p + 1 - S.length) false).set p true
theorem grw_len (S : List Bool) (p : Nat) : (grw S p).length = max S.length (p + 1) := by simp [grw]; omega
theorem grw_at (S : List Bool) (p j : Nat) : (grw S p)[j]? = if j = p then some true else if j < S.length then S[j]? else if j < p then some false else none := by
  unfold grw
  rw [List.getElem?_set]
  by_cases e : p = j
  · subst e; simp; omega
  · rw [if_neg e, if_neg (Ne.symm e)]
    by_cases h : j < S.length
    · rw [if_pos h, List.getElem?_append_left h]
    · rw [if_neg h, List.getElem?_append_right (by omega), List.getElem?_replicate]
      by_cases h2 : j < p
      · rw [if_pos h2, if_pos (by omega)]
      · rw [if_neg h2, if_neg (by omega)]
/-- How long the row of pids is. -/
def wl (q : Nat) (w : World) : Nat := match w.cell? ⟨q, 2, none⟩ with | some (.slice _ n _) => n | _ => 0
theorem wl_tb (h : Tb B w q b v rm L S) : wl q w = S.length := by
  obtain ⟨a, c, rfl, _⟩ := row_cells h.row
  unfold wl
  rw [h.cell2]
theorem Tb.rowset (h : Tb B w q b v rm L S) {i : Nat} (hi : i < S.length) (x : Bool) : ∃ r n c, v = .slice (some ⟨r, 0, none⟩) n c ∧ n = S.length ∧ S.length ≤ c ∧ c ≤ maxLen ∧ w.frozen? ⟨r, i, none⟩ = false ∧ w.cell? ⟨r, i, none⟩ = some (.bool S[i]) ∧
    Tb B (w.setCell ⟨r, i, none⟩ (.bool x)) q b v rm L (S.set i x) ∧ Kp (fr q b v) w (w.setCell ⟨r, i, none⟩ (.bool x)) := by
  obtain ⟨a, c, rfl, h1, h2, h3⟩ := row_cells h.row
  obtain ⟨r, rfl, h4⟩ := h3 i hi
  have hk : Kp (fun j => j = r) w (w.setCell ⟨r, i, none⟩ (.bool x)) := Kp.set _ _ _ _ rfl
  obtain ⟨_, cs, hc⟩ := own_cells h.row (g := r) rfl
  have hrq : q ≠ r := fun e => by
    subst e
    rw [show w.heap[q]? = _ from h.blk] at hc
    cases hc
  have hrb : b ≠ r := fun e => by
    subst e
    obtain ⟨es, ck, ho⟩ := h.map.obj
    rw [ho] at hc
    cases hc
  refine ⟨r, _, c, rfl, rfl, h2, h1, h.row.frozenAt i, h4, ⟨h.blk.kept hk hrq, h.map.kept hk hrb, ?_, h.lo⟩, Kp.set _ _ _ _ (.inr (.inr rfl))⟩
  have := (h.row.stored i (.bool x)).1
  rw [List.length_set, List.map_set]
  exact this
/-- Behind a call that may have laid the row anew. -/
def Mv (v v' : Value) (n : Nat) : Prop := ∀ g, v'.ownBlock = some g → v.ownBlock = some g ∨ n ≤ g
theorem Kp.fr_trans {v' : Value} {X Y : World} (h : Kp (fr q b v) w X) (h2 : Kp (fr q b v') X Y) (hm : Mv v v' w.heap.size) : Kp (fr q b v) w Y :=
  h.trans h2 (fun j e => by
    rcases e with e | e | e
    · exact .inl (.inl e)
    · exact .inl (.inr (.inl e))
    · rcases hm j e with e | e
      · exact .inl (.inr (.inr e))
      · exact .inr e)

theorem Tb.upd {w' : World} {M : St} (h : Tb B w q b v rm L S) (hm : Mp w' b M) (hk : Kp (fun j => j = b) w w') : Tb B w' q b v rm M S := by
  refine ⟨h.blk.kept hk (Mp.ne h.map h.blk), hm, own_kept h.row hk (fun g e e2 => ?_), h.lo⟩
  subst e2
  obtain ⟨_, cs, hc⟩ := own_cells h.row e
  obtain ⟨es, ck, ho⟩ := h.map.obj
  rw [ho] at hc
  cases hc

set_option maxRecDepth 100000 in
set_option maxHeartbeats 4000000 in
theorem put_any (h : Tb B w q b v rm L S) (ho : Up L) (hl : L.length < 80000) (hS : S.length ≤ 65536) (hB : B ≤ w.heap.size) (k : Nat) (hk : k ≤ 65535) (r : Rc) :
    Calls Try.prog 31 #[pv q, .int .i64 (k : Int), .agg #[.int .i64 r.par, .int .i64 r.st, uv r.su]] w fun e w' => (∃ x, e = .returned x) ∧ ∃ v', Tb B w' q b v' rm (ins L (k : Int) r) (grw S k) ∧ Kp (fr q b v) w w' ∧ Mv v v' w.heap.size := by
  have hb0 := (Below.refl w.heap.size w).alloc (Nat.le_refl _) (.cells #[.int .i64 r.par, .int .i64 r.st, uv r.su] 61)
  have hx0 : Blk (w.alloc (.cells #[.int .i64 r.par, .int .i64 r.st, uv r.su] 61)) w.heap.size #[.int .i64 r.par, .int .i64 r.st, uv r.su] 61 := Blk.new _ _ _
  have H0 : Hid (Tb B (w.alloc (.cells #[.int .i64 r.par, .int .i64 r.st, uv r.su] 61)) q b v rm L S ∧ Kp (fr q b v) w (w.alloc (.cells #[.int .i64 r.par, .int .i64 r.st, uv r.su] 61)) ∧ Blk (w.alloc (.cells #[.int .i64 r.par, .int .i64 r.st, uv r.su] 61)) w.heap.size #[.int .i64 r.par, .int .i64 r.st, uv r.su] 61) := Lib.hid ⟨h.below hb0, Kp.of_below hb0, hx0⟩
  have HO := Lib.hid ho
  have HF := Lib.hid h.fr_lt
  clear h hb0 hx0 ho
  go_enter Try.func31, Try.ntmps31
  go_wp2
  go_loopw [] (fun wr => ∃ (v' : Value) (j : Nat), Tb B wr q b v' rm L (S ++ List.replicate j false) ∧ (j = 0 ∨ S.length + j ≤ k + 1) ∧ Kp (fr q b v) w wr ∧ Mv v v' w.heap.size ∧ Blk wr w.heap.size #[.int .i64 r.par, .int .i64 r.st, uv r.su] 61) (fun wr => k + 1 - wl q wr)
  case atStart => exact ⟨v, 0, by simpa using H0.out.1, .inl rfl, H0.out.2.1, fun g e => .inl e, H0.out.2.2⟩
  case round =>
    obtain ⟨v', j, hT, hj, hkp, hmv, hx⟩ := hrel
    obtain ⟨a, c, rfl, hc1, hc2, -⟩ := row_cells hT.row
    have hc := hT.cell2
    have hlen : (S ++ List.replicate j false).length = S.length + j := by simp
    by_cases hlt : S.length + j ≤ k
    · have d1 : decide (((S ++ List.replicate j false).length : Int) ≤ (k : Int)) = true := decide_eq_true (by omega)
      have d2 : decide ((S ++ List.replicate j false).length ≤ k) = true := decide_eq_true (by omega)
      obtain ⟨g', cap', w4, q1, ⟨q2, q3⟩, e1, e2, e3⟩ := Tb.grow hT (by omega) (Nat.le_trans hB hkp.size)
      have HM : Hid (k + 1 - wl q (w4.setCell ⟨q, 2, none⟩ (.slice (some ⟨g', 0, none⟩) ((S ++ List.replicate j false).length + 1) cap')) < k + 1 - wl q wr) := Lib.hid (by
        rw [wl_tb e1, wl_tb hT, List.length_append, hlen]
        simp
        omega)
      have hmv2 : Mv v (.slice (some ⟨g', 0, none⟩) ((S ++ List.replicate j false).length + 1) cap') w.heap.size := fun g e => by
        have : g' = g := by simpa [Value.ownBlock] using e
        subst this
        rcases e3 with e | e
        · exact hmv _ e
        · exact .inr (Nat.le_trans hkp.size e)
      have hx2 := hx.kept e2 (fun e => by
        rcases e with e | e | e
        · have := HF.out q (.inl rfl); omega
        · have := HF.out b (.inr (.inl rfl)); omega
        · exact absurd (hT.not_fr hx (by decide) (by decide)) (fun h => h (.inr (.inr e))))
      have HE := Lib.hid (And.intro e1 (And.intro (Kp.fr_trans hkp e2 hmv) (And.intro hmv2 hx2)))
      have HJ : Hid (S.length + (j + 1) ≤ k + 1) := Lib.hid (by omega)
      have hS2 : S ++ List.replicate j false ++ [false] = S ++ List.replicate (j + 1) false := by rw [List.append_assoc, ← List.replicate_succ']
      rw [hS2] at HE
      clear hT hkp hmv hx e1 e2 e3 hmv2 hx2 hS2 hlen
      generalize (S ++ List.replicate j false).length = n at *
      go_wp2
      go_roundw
      case rel => exact ⟨_, j + 1, HE.out.1, .inr HJ.out, HE.out.2.1, HE.out.2.2.1, HE.out.2.2.2⟩
      case measure => exact HM.out
    · have d1 : decide (((S ++ List.replicate j false).length : Int) ≤ (k : Int)) = false := decide_eq_false (by omega)
      have d2 : decide ((S ++ List.replicate j false).length ≤ k) = false := decide_eq_false (by omega)
      have hkS : k < (S ++ List.replicate j false).length := by omega
      obtain ⟨r', n, c', er, hn, hcl, hcm, hf, hcell, hT2, hk2⟩ := Tb.rowset hT hkS true
      cases er
      have hx1 := hx.kept hk2 (hT.not_fr hx (by decide) (by decide))
      have hgr : (S ++ List.replicate j false).set k true = grw S k := by
        unfold grw
        rcases hj with rfl | hj
        · rw [show k + 1 - S.length = 0 by omega]
        · rw [show j = k + 1 - S.length by omega]
      rw [hgr] at hT2
      have hT3 := hT2.below (w' := (wr.setCell ⟨r', k, none⟩ (.bool true)).drew) ((Below.refl _ _).drew)
      have hx3 : Blk (wr.setCell ⟨r', k, none⟩ (.bool true)).drew w.heap.size #[.int .i64 r.par, .int .i64 r.st, uv r.su] 61 := hx1
      obtain ⟨w5, hput, hm5, hk5⟩ := hT3.map.ins (by omega) (wf64 (p := (k : Int)) (by omega)) r HO.out
      have hE := Tb.upd hT3 hm5 hk5
      have hk3 : Kp (fr q b (.slice (some ⟨r', 0, none⟩) (S ++ List.replicate j false).length c)) wr (wr.setCell ⟨r', k, none⟩ (.bool true)).drew := hk2.drew
      have HE := Lib.hid (And.intro hE (And.intro (Kp.fr_trans (Kp.fr_trans hkp hk3 hmv) (hk5.mono (fun j _ e => (.inr (.inl e) : fr q b _ j))) hmv) hmv))
      have hc1' : (wr.setCell ⟨r', k, none⟩ (.bool true)).drew.cell? ⟨q, 1, none⟩ = some (.map (some b)) := hT3.cell1
      have hx3a := hx3.cell 0
      have hx3b := hx3.cell 1
      have hx3c := hx3.cell 2
      simp only [List.getElem?_toArray, List.getElem?_cons_zero, List.getElem?_cons_succ] at hx3a hx3b hx3c
      unfold rv at hput
      have hkI : (k : Int) < ((S ++ List.replicate j false).length : Int) := by omega
      clear hT hkp hmv hx hT2 hk2 hx1 hT3 hx3 hm5 hk5 hE hk3 hgr hj hlt hlen
      generalize (S ++ List.replicate j false)[k] = y at *
      generalize (S ++ List.replicate j false).length = n at *
      go_wp2
      go_region
      go_wp2
      go_end0
      exact ⟨⟨_, rfl⟩, _, HE.out.1, HE.out.2.1, HE.out.2.2⟩
end Go.Proofs.Ytkjcjodhpcfjiaa.Tei
