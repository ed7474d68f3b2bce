/-
  Freeze; Zombie, Reap.
-/
import Derived.Test.YtkjcjodhpcfjiaaTem
namespace Go.Proofs.Ytkjcjodhpcfjiaa.Ten
open Go Go.RowKit Go.Shelf Kit Bk Tea Teb Tec Ted Tee Tef Teg Teh Tei Tej Tek Tel Tem
set_option linter.unusedVariables false
attribute [local go_sem] Oper.semAt_some

variable {B : Nat} {w W : World} {q b : Nat} {v : Value} {rm : Nat} {L M : St} {S : List Bool} {p : Int}
/-- Freeze and Exit: may p end? -/
def fzB (L : St) (p : Int) : Bool := p != 1 && (gt L p).st == 1
theorem hs_frL (L : St) (l : List Int) (x : Int) : hs (frL L l) x = hs L x := hs_mp _ _ _
theorem gt_frL {l : List Int} {x : Int} (hx : hs L x = true) : gt (frL L l) x = if x ∈ l then ⟨(gt L x).par, 3, 0⟩ else gt L x := by
  unfold frL
  rw [gt_mp, if_pos hx]
  rfl
theorem par_frL (l : List Int) (x : Int) : (gt (frL L l) x).par = (gt L x).par := by
  cases hx : hs L x
  · rw [gt_no hx, gt_no (by rw [hs_frL, hx])]
  · rw [gt_frL hx]; split <;> rfl
theorem fr_next {l : List Int} {i : Nat} (hi : i < l.length) : (∀ x, hs (frL L (l.take (i + 1))) x = hs (frL L (l.take i)) x) ∧ ∀ x, hs (frL L (l.take i)) x = true → gt (frL L (l.take (i + 1))) x = if l[i] = x then ⟨(gt (frL L (l.take i)) l[i]).par, 3, 0⟩ else gt (frL L (l.take i)) x := by
  refine ⟨fun x => by rw [hs_frL, hs_frL], fun x hx => ?_⟩
  rw [hs_frL] at hx
  have hm : x ∈ l.take (i + 1) ↔ x ∈ l.take i ∨ x = l[i] := by rw [List.take_succ_eq_append_getElem hi, List.mem_append, List.mem_singleton]
  rw [gt_frL hx, gt_frL hx, par_frL]
  by_cases e : l[i] = x
  · rw [if_pos (hm.2 (.inr e.symm)), if_pos e, e]
  · rw [if_neg e]
    by_cases e2 : x ∈ l.take i
    · rw [if_pos (hm.2 (.inl e2)), if_pos e2]
    · rw [if_neg (fun h => (hm.1 h).elim e2 (fun h => e h.symm)), if_neg e2]
theorem tr_in {x : Int} (hx : x ∈ tr L p) : hs L x = true := by
  unfold tr at hx
  split at hx
  · obtain ⟨y, hy, rfl⟩ := List.mem_map.1 hx
    exact hs_mem.2 (List.mem_map.2 ⟨y, (List.mem_filter.1 hy).1, rfl⟩)
  · cases hx
theorem tr_len (L : St) (p : Int) : (tr L p).length ≤ L.length := by
  unfold tr
  split
  · unfold pids
    rw [List.length_map]
    exact List.length_filter_le _ _
  · exact Nat.zero_le _
theorem Up.frL (h : Up L) (l : List Int) : Up (frL L l) := h.mp _
theorem Okt.freeze (h : Okt rm L S) (hp : fzB L p = true) : Okt rm (frL L (tr L p)) S := by
  unfold fzB at hp
  simp only [Bool.and_eq_true, bne_iff_ne, beq_iff_eq] at hp
  exact h.same (h.ok.freeze (one_out h.ok hp.1)) (Nat.le_of_eq (len_mp _ _)) (fun x hx => by rwa [hs_frL] at hx)
set_option maxRecDepth 100000 in
set_option maxHeartbeats 2000000 in
theorem freeze_no (h : Tb B w q b v rm L S) (ho : Okt rm L S) (hp : (Lit.int .i64 p).wf = true) (hz : fzB L p = false) :
    Calls Try.prog 11 #[pv q, .int .i64 p] w fun e w' => e = .returned (.tuple #[.slice none 0 0, .int .i64 2]) ∧ w = w' := by
  have HD := Lib.hid (made_any h ho.room.1)
  have HE := end_any h hp
  rw [show (p != 1 && (gt L p).st == 1) = false from hz] at HE
  replace HE := Lib.hid HE
  clear h ho hz
  go_enter Try.func11, Try.ntmps11
  go_wp2_with (first
    | (go_at_call 26; (with_reducible refine HD.out.mono ?_); rintro e w1 ⟨rfl, rfl⟩)
    | (go_at_call 27; (with_reducible refine HE.out.mono ?_); rintro e w1 ⟨rfl, rfl⟩))
  go_ret2
  exact ⟨rfl, rfl⟩
set_option maxRecDepth 100000 in
set_option maxHeartbeats 4000000 in
theorem freeze_yes (h : Tb B w q b v rm L S) (ho : Okt rm L S) (hp : (Lit.int .i64 p).wf = true) (hz : fzB L p = true) :
    Calls Try.prog 11 #[pv q, .int .i64 p] w fun e w' => ∃ u, e = .returned (.tuple #[u, .int .i64 0]) ∧ w'.ownsRow w.heap.size 3 1 u (tr L p).length (ints (tr L p)) ∧ Tb B w' q b v rm (frL L (tr L p)) S ∧ Kp (fr q b v) w w' := by
  have hll : L.length < 80000 := by have := ho.len; have := ho.room; omega
  have HD := Lib.hid (made_any h ho.room.1)
  have HE := end_any h hp
  rw [show (p != 1 && (gt L p).st == 1) = true from hz] at HE
  replace HE := Lib.hid HE
  have HT := Lib.hid (tree_any h ho.ok hll hp)
  have H0 := Lib.hid h
  have HO := Lib.hid (And.intro ho (And.intro hll (tr_len L p)))
  have HI := Lib.hid (fun x (hx : x ∈ tr L p) => tr_in hx)
  clear h ho hz hll
  generalize tr L p = l at *
  go_enter Try.func11, Try.ntmps11
  go_wp2_with (first
    | (go_at_call 26; (with_reducible refine HD.out.mono ?_); rintro e w1 ⟨rfl, rfl⟩)
    | (go_at_call 27; (with_reducible refine HE.out.mono ?_); rintro e w1 ⟨rfl, rfl⟩)
    | (go_at_call 22; (with_reducible refine HT.out.mono ?_); rintro e w1 ⟨hb, u, rfl, hr⟩; obtain ⟨ua, uc, rfl, hc1, hc2, hc3⟩ := nr_cells hr; have HR := Lib.hid (And.intro hb (And.intro hr hc3)); clear hb hr hc3))
  have hnI : (l.length : Int) ≤ 80000 := by have := HO.out.2; omega
  go_loopw [23] (fun i wr => ∃ j : Nat, j ≤ l.length ∧ i = .int .i64 (j : Int) ∧ Tb B wr q b v rm (frL L (l.take j)) S ∧ Kp (fun k => k = b) w1 wr) (fun i _ => l.length - (intOf i).toNat)
  case atStart => exact ⟨0, Nat.zero_le _, rfl, by
    have e : frL L (l.take 0) = L := by
      unfold frL mp
      have : ∀ x : Pr, (x.1, frF (l.take 0) x.1 x.2) = x := fun x => by unfold frF; rw [if_neg (by simp)]
      simp only [this]
      exact List.map_id L
    rw [e]
    exact H0.out.below HR.out.1, Kp.refl _ _⟩
  case round =>
    obtain ⟨j, hj, rfl, hT, hk⟩ := hrel
    by_cases hlt : j < l.length
    · have hltI : (j : Int) < (l.length : Int) := by omega
      obtain ⟨r, rfl, hcl⟩ := HR.out.2.2 j hlt
      have hrow := own_kept HR.out.2.1 hk (fun g e e2 => by
        obtain ⟨h1, _⟩ := own_cells HR.out.2.1 e
        have := H0.out.map.lt
        omega)
      have hcr : wr.cell? ⟨r, j, none⟩ = some (.int .i64 l[j]) := by
        rw [hrow.cellAt j (by omega)]
        simp [ints, hlt]
      have hin := HI.out l[j] (List.getElem_mem hlt)
      have hbd := HO.out.1.ok.pid _ hin
      obtain ⟨n1, n2⟩ := fr_next (L := L) hlt
      have HC : Hid (Calls Try.prog 29 #[pv q, .int .i64 l[j], .int .i64 3, .int .u32 0] wr fun e w' => (∃ x, e = .returned x) ∧ Tb B w' q b v rm (frL L (l.take (j + 1))) S ∧ Kp (fun j => j = b) wr w') := Lib.hid (change_any hT (by rw [frL, len_mp]; exact HO.out.2.1) (wf64 (by omega)) (by rw [hs_frL]; exact hin) 3 0 (HO.out.1.ok.up.mp _) n1 n2)
      have HK := Lib.hid hk
      clear hT hk hrow hin hbd n1 n2 hcl
      generalize l[j] = x at *
      go_wp2_with (go_at_call 29; (with_reducible refine HC.out.mono ?_); rintro e w5 ⟨⟨x, rfl⟩, t1, t2⟩; have HG := Lib.hid (And.intro t1 t2); clear t1 t2)
      go_roundw
      case rel => exact ⟨j + 1, by omega, by go_num, HG.out.1, HK.out.trans HG.out.2 (fun _ e => .inl e)⟩
      case measure => simp [intOf]; omega
    · obtain rfl : j = l.length := by omega
      rw [List.take_length] at hT
      have hrow := own_kept HR.out.2.1 hk (fun g e e2 => by
        obtain ⟨h1, _⟩ := own_cells HR.out.2.1 e
        have := H0.out.map.lt
        omega)
      have HK := Lib.hid (And.intro hT (And.intro hk hrow))
      clear hT hk hrow
      go_wp2
      go_ret2
      exact ⟨_, rfl, HK.out.2.2, HK.out.1, (Kp.of_below (S := fr q b v) HR.out.1).trans (HK.out.2.1.mono (fun j _ e => (.inr (.inl e) : fr q b v j))) (fun _ e => .inl e)⟩

/-- Results in boxes. -/
theorem ld_int (g : Nat) (x : Value) (w : World) (h : w.cell? ⟨g, 0, none⟩ = some x) : (loadVar 3 ⟨g, 0, none⟩).run Try.prog w = .ok x w := by
  simp [loadVar, Try.isAgg3, go_sem, h]
theorem ld_u32 (g : Nat) (x : Value) (w : World) (h : w.cell? ⟨g, 0, none⟩ = some x) : (loadVar 28 ⟨g, 0, none⟩).run Try.prog w = .ok x w := by
  simp [loadVar, Try.isAgg28, go_sem, h]
theorem ld_err (g : Nat) (x : Value) (w : World) (h : w.cell? ⟨g, 0, none⟩ = some x) : (loadVar 25 ⟨g, 0, none⟩).run Try.prog w = .ok x w := by
  simp [loadVar, Try.isAgg25, go_sem, h]
theorem res_box {fn : Func} {p u z : Tmp} (h : fn.results = #[.cell p 3, .cell u 28, .cell z 25]) (tmps : Array Value) (w : World) (g1 g2 g3 : Nat) (v1 v2 v3 : Value)
    (h1 : tmps.getD p undef = pv g1) (h2 : tmps.getD u undef = pv g2) (h3 : tmps.getD z undef = pv g3) (c1 : w.cell? ⟨g1, 0, none⟩ = some v1) (c2 : w.cell? ⟨g2, 0, none⟩ = some v2) (c3 : w.cell? ⟨g3, 0, none⟩ = some v3) :
    (results fn tmps).run Try.prog w = .ok (.tuple #[v1, v2, v3]) w := by
  have h1' : tmps[p]?.getD undef = pv g1 := by simpa using h1
  have h2' : tmps[u]?.getD undef = pv g2 := by simpa using h2
  have h3' : tmps[z]?.getD undef = pv g3 := by simpa using h3
  simp [results, h, h1', h2', h3', asAddr, ld_int g1 v1 w c1, ld_u32 g2 v2 w c2, ld_err g3 v3 w c3]
end Go.Proofs.Ytkjcjodhpcfjiaa.Ten
