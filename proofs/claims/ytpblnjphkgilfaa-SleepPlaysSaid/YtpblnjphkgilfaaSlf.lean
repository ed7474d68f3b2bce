/-
  Rows that grow in a box; what a tick has done, as far as it has gone.
-/
import Derived.Test.YtpblnjphkgilfaaSle
import Derived.Deep.AppendSrc
namespace Go.Proofs.Ytpblnjphkgilfaa.Slf
open Go Go.RowKit Go.Shelf Kit Bk Sla Slb Slc Sld Sle
set_option linter.unusedVariables false

/-- An append, behind a name that a walk does not open: its run is given as an equation. -/
def appO (ts : Array TypeId) (ty : TypeId) (vs : Array Value) : Sem Value := Builtin.append_ ts ty vs
theorem app_wrap (ts : Array TypeId) (ty : TypeId) (vs : Array Value) : Builtin.append_ ts ty vs = appO ts ty vs := rfl
def ints (l : List Int) : List Value := l.map fun x => Value.int .i64 x
theorem ints_app (l k : List Int) : ints (l ++ k) = ints l ++ ints k := by simp [ints]
theorem infoI : (Try.prog.info? 3).map (fun i => (i.zero, i.size, i.bytes)) = some (some (.int .i64 0), 1, 8) := by kernel_rfl
theorem infoS : (Try.prog.info? 54).map (fun i => (i.zero, i.size, i.bytes)) = some (some (.agg #[.int .i64 0, .int .u32 0]), 2, 16) := by kernel_rfl
theorem info_parts' {T : TypeId} {z : Option Value} {s b : Nat} (h : (Try.prog.info? T).map (fun i => (i.zero, i.size, i.bytes)) = some (z, s, b)) : ∃ i, Try.prog.info? T = some i ∧ i.zero = z ∧ i.size = s ∧ i.bytes = b := by
  cases hi : Try.prog.info? T with
  | none => rw [hi] at h; cases h
  | some i =>
    rw [hi] at h
    simp at h
    exact ⟨i, rfl, h.1, h.2.1, h.2.2⟩
theorem own_kept {S : Nat → Prop} {w w' : World} {base : Nat} {e : TypeId} {s : Nat} {v : Value} {n : Nat} {xs : List Value} (h : w.ownsRow base e s v n xs) (hk : Kp S w w') (hS : ∀ g, v.ownBlock = some g → ¬ S g) : w'.ownsRow base e s v n xs := by
  refine ⟨h.1, ?_⟩
  rcases h.2 with h2 | ⟨g, cap, cur, hv, hg, hh, h3⟩
  · exact .inl h2
  · exact .inr ⟨g, cap, cur, hv, hg, (hk.block g (Array.getElem?_eq_some_iff.1 hh).1 (hS g (by rw [hv]; rfl))).trans hh, h3⟩
theorem own_cells {w : World} {base : Nat} {e : TypeId} {s : Nat} {v : Value} {n : Nat} {xs : List Value} (h : w.ownsRow base e s v n xs) {g : Nat} (hg : v.ownBlock = some g) : base ≤ g ∧ ∃ cs, w.heap[g]? = some (.cells cs e (0, 0)) := by
  rcases h.2 with ⟨rfl, _⟩ | ⟨g', cap, cur, rfl, hb, hh, _⟩
  · cases hg
  · obtain rfl : g' = g := by simpa [Value.ownBlock] using hg
    exact ⟨hb, cur, hh⟩
theorem own_kz {B0 : Nat} {X Y : World} {base : Nat} {e : TypeId} {s : Nat} {v : Value} {n : Nat} {xs : List Value} (h : X.ownsRow base e s v n xs) (hk : Kz B0 X Y) : Y.ownsRow base e s v n xs := by
  refine ⟨h.1, ?_⟩
  rcases h.2 with h2 | ⟨g, cap, cur, hv, hg, hh, h3⟩
  · exact .inl h2
  · exact .inr ⟨g, cap, cur, hv, hg, (hk.block g (Array.getElem?_eq_some_iff.1 hh).1 (.inr ⟨_, _, _, hh⟩)).trans hh, h3⟩
theorem Blk.kz {B0 : Nat} {X Y : World} {b : Nat} {cs : Array Value} {T : TypeId} (h : Blk X b cs T) (hk : Kz B0 X Y) : Blk Y b cs T := (hk.block b h.lt (.inr ⟨_, _, _, h⟩)).trans h
theorem Kp.kz {S : Nat → Prop} {w X Y : World} {B0 : Nat} (hB : w.heap.size ≤ B0) (h : Kp S w X) (hk : Kz B0 X Y) : Kp S w Y :=
  ⟨hk.os.trans h.os, hk.tape.trans h.tape, hk.output.trans h.output, Nat.le_trans h.size hk.size, fun k hl hn => (hk.block k (Nat.lt_of_lt_of_le hl h.size) (.inl (Nat.lt_of_lt_of_le hl hB))).trans (h.block k hl hn)⟩
theorem Sv.kz {B0 : Nat} {X Y : World} {q : Nat} {m : Option Nat} {L : St} (h : Sv X q m L) (hb : ∀ b, m = some b → b < B0) (hk : Kz B0 X Y) : Sv Y q m L := by
  refine ⟨Blk.kz h.blk hk, ?_⟩
  have h2 := h.map
  cases m with
  | none => exact h2
  | some b => exact Mp.same h2 (hk.block b (Mp.lt h2) (.inl (hb b rfl)))

/-- One more element behind a row in a box. -/
theorem push {E S : TypeId} {size bytes : Nat} {z : Value} (hS : Try.prog.underlying S = some (.slice E)) (hinfo : (Try.prog.info? E).map (fun i => (i.zero, i.size, i.bytes)) = some (some z, size, bytes)) (hzs : z.cells.size = size) (hpos : 0 < size) (hby : bytes ≤ 16) (hne : S ≠ E)
    {W : World} {Bw base n : Nat} {v : Value} {xs : List Value} (cs : Array Value) (hn : cs.size = size) (h1 : ∀ u ∈ cs.toList, u.oneCell' = true) (hb : Blk W Bw #[v] S) (hrow : W.ownsRow base E size v n xs) (hbase : base ≤ W.heap.size) (hl : n ≤ 90000) :
    ∃ g' cap' w2, (appO #[S, S] S #[v, .slice (some ⟨W.heap.size, 0, none⟩) 1 1]).run Try.prog (W.alloc (.cells cs E)) = .ok (.slice (some ⟨g', 0, none⟩) (n + 1) cap') w2 ∧ Blk w2 Bw #[v] S ∧
      Blk (w2.setCell ⟨Bw, 0, none⟩ (.slice (some ⟨g', 0, none⟩) (n + 1) cap')) Bw #[.slice (some ⟨g', 0, none⟩) (n + 1) cap'] S ∧
      (w2.setCell ⟨Bw, 0, none⟩ (.slice (some ⟨g', 0, none⟩) (n + 1) cap')).ownsRow base E size (.slice (some ⟨g', 0, none⟩) (n + 1) cap') (n + 1) (xs ++ cs.toList) ∧
      Kp (fun k => k = Bw ∨ v.ownBlock = some k) W (w2.setCell ⟨Bw, 0, none⟩ (.slice (some ⟨g', 0, none⟩) (n + 1) cap')) ∧ (v.ownBlock = some g' ∨ W.heap.size ≤ g') := by
  obtain ⟨i0, hi, hz0, hz1, hz2⟩ := info_parts' hinfo
  have hb1 := (Below.refl W.heap.size W).alloc (Nat.le_refl _) (.cells cs E)
  have hrow1 := own_below hrow hb1
  have hnew : Blk (W.alloc (.cells cs E)) W.heap.size cs E := Blk.new _ _ _
  obtain ⟨v', w2, q1, q2, q3, q4, q5⟩ := run_append_own_at (P := Try.prog) (w := W.alloc (.cells cs E)) base S S E i0 z size bytes hS hi hz0 hz1 hz2 hzs hpos v n xs hrow1 ⟨W.heap.size, 0, none⟩ 1 1 cs.toList (by simp [hn])
    (fun j u hj => by
      rw [Addr.add_mid, Nat.zero_add, hnew.cell j, ← Array.getElem?_toList]
      exact hj) h1 (by unfold maxLen; omega) (Nat.le_trans (Nat.mul_le_mul_left _ hby) (by omega)) (by simp; omega)
  obtain ⟨g', cap', rfl⟩ := ownsRow_succ q2
  have hbw : Blk w2 Bw #[v] S := (q3.block Bw (by simp; exact Nat.lt_succ_of_lt hb.lt) (fun e => by
    obtain ⟨_, cs', hc⟩ := own_cells hrow e.symm
    rw [show W.heap[Bw]? = _ from hb] at hc
    cases hc
    exact hne rfl)).trans (hb.below hb1)
  have hg' : Bw ≠ g' := fun e => by
    subst e
    obtain ⟨_, cs', hc⟩ := own_cells q2 rfl
    rw [show w2.heap[Bw]? = _ from hbw] at hc
    cases hc
    exact hne rfl
  refine ⟨g', cap', w2, q1, hbw, hbw.set 0 _, own_kept q2 (Kp.set (S := fun k => k = Bw) _ _ _ _ rfl) (fun g e e2 => hg' (by rw [← e2]; simpa [Value.ownBlock] using e.symm)), ?_, ?_⟩
  · refine ((Kp.of_below (S := fun k => k = Bw ∨ v.ownBlock = some k) hb1).trans ((Kp.of_grown q3).mono (fun j _ e => (.inr e.symm : j = Bw ∨ v.ownBlock = some j))) (fun _ e => .inl e)).trans (Kp.set (S := fun k => k = Bw ∨ v.ownBlock = some k) _ _ _ _ (.inl rfl)) (fun _ e => .inl e)
  · rcases q5 with e | e
    · exact .inl (by rw [← e]; rfl)
    · right
      have : g' = (W.alloc (.cells cs E)).heap.size := by simpa [Value.ownBlock] using e
      rw [this]; simp

/-- Steps that turn what is a round's own alone. -/
theorem stay_of {S : Nat → Prop} {B : Nat} {m : Option Nat} {W W' : World} (hk : Kp S W W') (hS : ∀ j, S j → Mine B m W j) (hm : ∀ k, Mine B m W' k → Mine B m W k ∨ W.heap.size ≤ k) : Stay B m W W' := fun k cs T z h hn =>
  have hlt := (Array.getElem?_eq_some_iff.1 h).1
  ⟨(hk.block k hlt (fun e => hn (hS k e))).trans h, fun e => (hm k e).elim hn (fun h2 => by omega)⟩
theorem keeps_of {S : Nat → Prop} {B0 : Nat} {W W' : World} (hk : Kp S W W') (hS : ∀ j, S j → j < B0 ∨ ∃ cs T z, W.heap[j]? = some (.cells cs T z)) : KeepsFrom B0 W W' :=
  ⟨hk.size, fun k o hB h hc => (hk.block k (Array.getElem?_eq_some_iff.1 h).1 (fun e => by
    rcases hS k e with h1 | ⟨cs, T, z, h1⟩
    · omega
    · rw [h] at h1; cases h1; cases hc)).trans h⟩

/-- One in the midst is turned. -/
theorem mid_slp (A R : St) (p : Int) (n k : Nat) (x : Int) : slp (A ++ (p, k) :: R) x = (p == x || slp (A ++ (p, n) :: R) x) := by
  rw [slp_app, slp_app, slp_cons, slp_cons]
  dsimp only
  cases (p == x) <;> simp
theorem mid_lft {A R : St} {p : Int} (n k : Nat) (hA : slp A p = false) (x : Int) : lft (A ++ (p, k) :: R) x = if p = x then k else lft (A ++ (p, n) :: R) x := by
  rw [lft_app, lft_app, lft_cons, lft_cons]
  dsimp only
  by_cases h : p = x
  · subst h; rw [if_pos rfl, hA]; simp
  · rw [if_neg h, if_neg h, if_neg h]
theorem mid_slp_del {A R : St} {p : Int} (k : Nat) (hA : slp A p = false) (hR : slp R p = false) (x : Int) : slp (A ++ R) x = (x != p && slp (A ++ (p, k) :: R) x) := by
  rw [slp_app, slp_app, slp_cons]
  dsimp only
  by_cases h : p = x
  · subst h; rw [hA, hR]; simp
  · rw [show (x != p) = true from bne_iff_ne.2 (Ne.symm h), show (p == x) = false from beq_eq_false_iff_ne.2 h]; simp
theorem mid_lft_del {A R : St} {p : Int} (k : Nat) (hA : slp A p = false) (hR : slp R p = false) (x : Int) : lft (A ++ R) x = if (x != p) = true then lft (A ++ (p, k) :: R) x else 0 := by
  rw [lft_app, lft_app, lft_cons]
  dsimp only
  by_cases h : p = x
  · subst h; rw [hA, lft_no hR]; simp
  · rw [if_pos (bne_iff_ne.2 (Ne.symm h)), if_neg h]
theorem tkL_pids (A : St) : List.Sublist (pids (tkL A)) (pids A) := by
  unfold pids tkL
  rw [List.map_map]
  exact (List.filter_sublist (l := A)).map (·.1)
theorem take_mid {L : St} {i : Nat} (hi : i < L.length) : L = L.take i ++ (pd L i, tc L i) :: L.drop (i + 1) := by
  rw [pd_at hi, tc_at hi]
  show L = L.take i ++ L[i] :: L.drop (i + 1)
  rw [← List.drop_eq_getElem_cons hi, List.take_append_drop]
/-- What stands around the i-th. -/
theorem around {L : St} (ho : Ok L) {i : Nat} (hi : i < L.length) : slp (tkL (L.take i)) (pd L i) = false ∧ slp (L.drop (i + 1)) (pd L i) = false ∧ (∀ k, (pids (tkL (L.take i) ++ (pd L i, k) :: L.drop (i + 1))).Nodup) ∧ (pids (tkL (L.take i) ++ L.drop (i + 1))).Nodup := by
  have h1 := ho.nodup
  rw [take_mid hi] at h1
  have hp : pids (L.take i ++ (pd L i, tc L i) :: L.drop (i + 1)) = pids (L.take i) ++ pd L i :: pids (L.drop (i + 1)) := by simp [pids]
  rw [hp] at h1
  have hs := tkL_pids (L.take i)
  obtain ⟨a1, a2, a3⟩ := List.nodup_append.1 h1
  obtain ⟨b1, b2⟩ := List.nodup_cons.1 a2
  refine ⟨?_, ?_, fun k => ?_, ?_⟩
  · cases h : slp (tkL (L.take i)) (pd L i)
    · rfl
    · exact absurd rfl (a3 _ (hs.subset (slp_mem.1 h)) _ List.mem_cons_self)
  · cases h : slp (L.drop (i + 1)) (pd L i)
    · rfl
    · exact absurd (slp_mem.1 h) b1
  · have : pids (tkL (L.take i) ++ (pd L i, k) :: L.drop (i + 1)) = pids (tkL (L.take i)) ++ pd L i :: pids (L.drop (i + 1)) := by simp [pids]
    rw [this]
    exact (hs.append (List.Sublist.refl _)).nodup h1
  · have : pids (tkL (L.take i) ++ L.drop (i + 1)) = pids (tkL (L.take i)) ++ pids (L.drop (i + 1)) := by simp [pids]
    rw [this]
    exact (hs.append (List.sublist_cons_self _ _)).nodup h1
theorem tk_next {L : St} {i : Nat} (hi : i < L.length) : tkW (L.take (i + 1)) = tkW (L.take i) ++ (if tc L i = 1 then [pd L i] else []) ∧ tkL (L.take (i + 1)) = tkL (L.take i) ++ (if tc L i = 1 then [] else [(pd L i, tc L i - 1)]) := by
  rw [List.take_succ_eq_append_getElem hi, pd_at hi, tc_at hi]
  exact tk_snoc _ _
end Go.Proofs.Ytpblnjphkgilfaa.Slf
