/-
  A futex: DeleteFunc, leave.
-/
import Derived.Test.YtpfnjeicenhciaaFte
namespace Go.Proofs.Ytpfnjeicenhciaa.Ftf
open Go Go.RowKit Kit Bk Fta Ftb Ftc Ftd Fte
set_option linter.unusedVariables false

/-- Those who stay. -/
def stay (d : Wt → Bool) (L : List Wt) : List Wt := L.filter fun x => !d x
theorem stay_all {d : Wt → Bool} {L : List Wt} (h : ∀ m (hm : m < L.length), d L[m] = false) : stay d L = L := by
  unfold stay
  rw [List.filter_eq_self]
  intro x hx
  obtain ⟨i, hi, rfl⟩ := List.getElem_of_mem hx
  rw [h i hi]; rfl
theorem stay_yes {d : Wt → Bool} {L : List Wt} {j : Nat} (hj : j < L.length) (h : d L[j] = false) : stay d (L.take (j + 1)) = stay d (L.take j) ++ [L[j]] := by
  unfold stay
  rw [List.take_succ_eq_append_getElem hj, List.filter_append, List.filter_cons_of_pos (by rw [h]; rfl)]
  rfl
theorem stay_no {d : Wt → Bool} {L : List Wt} {j : Nat} (hj : j < L.length) (h : d L[j] = true) : stay d (L.take (j + 1)) = stay d (L.take j) := by
  unfold stay
  rw [List.take_succ_eq_append_getElem hj, List.filter_append, List.filter_cons_of_neg (by rw [h]; decide)]
  simp
theorem stay_len (d : Wt → Bool) (L : List Wt) (j : Nat) : (stay d (L.take j)).length ≤ j := by
  refine Nat.le_trans (List.length_filter_le _ _) ?_
  rw [List.length_take]
  omega
/-- One of those who wait, in place m of a row. -/
def SlotAt (cs : Array Value) (m : Nat) (x : Wt) : Prop := cs[m * 4]? = some (.int .i64 x.q) ∧ cs[m * 4 + 1]? = some (.int .i64 x.k.p) ∧ cs[m * 4 + 2]? = some (.int .i64 x.k.f) ∧ cs[m * 4 + 3]? = some (.int .i64 x.k.o)
theorem take_wcs {cs : Array Value} {K : List Wt} (hs : K.length * 4 ≤ cs.size) (h : ∀ m (hm : m < K.length), SlotAt cs m K[m]) : cs.toList.take (K.length * 4) = wcs K := by
  apply List.ext_getElem?
  intro i
  rw [List.getElem?_take]
  by_cases hi : i < K.length * 4
  · rw [if_pos hi, Array.getElem?_toList]
    have hd : i = i / 4 * 4 + i % 4 := by omega
    have hm : i / 4 < K.length := by omega
    have hr : i % 4 < 4 := by omega
    obtain ⟨s0, s1, s2, s3⟩ := h (i / 4) hm
    have hw := wcs_cell K (i / 4) hm (i % 4) hr
    rw [← hd] at hw
    rw [hw]
    generalize hq : i / 4 = a at *
    have h4 : i % 4 = 0 ∨ i % 4 = 1 ∨ i % 4 = 2 ∨ i % 4 = 3 := by omega
    rcases h4 with e | e | e | e <;> rw [e] at hd <;> rw [e, hd]
    · exact s0
    · exact s1
    · exact s2
    · exact s3
  · rw [if_neg hi]
    symm
    apply List.getElem?_eq_none
    rw [wcs_len]
    omega
/-- The row while some go: j are looked at, K of them stay. -/
structure Mid (w wr : World) (r cap : Nat) (L : List Wt) (j : Nat) (K : List Wt) : Prop where
  kp : Kp (fun b => b = r) w wr
  blk : ∃ cs, Blk wr r cs 51 ∧ cs.size = cap * 4 ∧ (∀ m (hm : m < K.length), SlotAt cs m K[m]) ∧ ∀ m (hm : m < L.length), j ≤ m → SlotAt cs m L[m]
theorem Mid.below {w wr w' : World} {r cap j : Nat} {L K : List Wt} (h : Mid w wr r cap L j K) (hb : Below wr.heap.size wr w') : Mid w w' r cap L j K := by
  obtain ⟨h1, cs, h2, h3⟩ := h
  exact ⟨h1.trans (kp_below hb) (fun _ e => .inl e), cs, h2.below hb, h3⟩
theorem Mid.skip {w wr : World} {r cap j : Nat} {L K : List Wt} (h : Mid w wr r cap L j K) : Mid w wr r cap L (j + 1) K := by
  obtain ⟨h1, cs, h2, h3, h4, h5⟩ := h
  exact ⟨h1, cs, h2, h3, h4, fun m hm hj => h5 m hm (by omega)⟩
theorem Mid.cells {w wr : World} {r cap j : Nat} {L K : List Wt} (h : Mid w wr r cap L j K) (hj : j < L.length) : wr.cell? ⟨r, j * 4, none⟩ = some (.int .i64 L[j].q) ∧ wr.cell? ⟨r, j * 4 + 1, none⟩ = some (.int .i64 L[j].k.p) ∧ wr.cell? ⟨r, j * 4 + 2, none⟩ = some (.int .i64 L[j].k.f) ∧ wr.cell? ⟨r, j * 4 + 3, none⟩ = some (.int .i64 L[j].k.o) := by
  obtain ⟨h1, cs, h2, h3, h4, h5⟩ := h
  obtain ⟨s0, s1, s2, s3⟩ := h5 j hj (Nat.le_refl _)
  exact ⟨(h2.cell _).trans s0, (h2.cell _).trans s1, (h2.cell _).trans s2, (h2.cell _).trans s3⟩
/-- A store of one of those who wait, behind a name that a walk does not open. -/
def stW (p v : Value) : Sem Unit := Instr.storeAt 51 p v
theorem stw_wrap (p v : Value) : Instr.storeAt 51 p v = stW p v := rfl
theorem run_stW (w : World) (b o : Nat) (cs : Array Value) (T : TypeId) (h : Blk w b cs T) (hn : o + 4 ≤ cs.size) (x : Wt) :
    (stW (.pointer (some ⟨b, o, none⟩)) (wv x)).run Try.prog w = .ok () (w.setCells b o (wc x)) := by
  unfold stW
  refine run_storeAt_mid w b o _ #[.int .i64 x.q, .int .i64 x.k.p, .int .i64 x.k.f, .int .i64 x.k.o] (h.there _ _ hn) ?_ (by simp [Value.oneCell'])
  have : (Try.prog.info? 51).map (fun i => (i.size)) = some 4 := by kernel_rfl
  rw [this]
  rfl
theorem run_boxW (w : World) (x : Wt) : (stW (.pointer (some ⟨w.heap.size, 0, none⟩)) (wv x)).run Try.prog (w.alloc (.cells #[.int .i64 0, .int .i64 0, .int .i64 0, .int .i64 0] 51)) = .ok () (w.alloc (.cells #[.int .i64 x.q, .int .i64 x.k.p, .int .i64 x.k.f, .int .i64 x.k.o] 51)) := by
  rw [run_stW _ _ 0 _ _ (Blk.new w _ _) (by simp) x]
  congr 1
  simp [World.setCells, wc, World.setCell_alloc_new]
theorem Mid.put {w wr : World} {r cap j : Nat} {L K : List Wt} (h : Mid w wr r cap L j K) (hK : K.length < j) (hj : j < L.length) (hc : L.length ≤ cap) (x : Wt) :
    (stW (.pointer (some ⟨r, K.length * 4, none⟩)) (wv x)).run Try.prog wr = .ok () (wr.setCells r (K.length * 4) (wc x)) ∧ Mid w (wr.setCells r (K.length * 4) (wc x)) r cap L (j + 1) (K ++ [x]) := by
  obtain ⟨h1, cs, h2, h3, h4, h5⟩ := h
  refine ⟨run_stW wr r _ cs _ h2 (by omega) x, h1.trans (Kp.sets (S := fun b => b = r) r rfl _ _ _) (fun _ e => .inl e), ?_⟩
  obtain ⟨ds, d1, d2, d3, d4⟩ := h2.sets (wc x) (K.length * 4)
  have hl : (wc x).length = 4 := rfl
  rw [hl] at d3 d4
  refine ⟨ds, d1, by rw [d2, h3], fun m hm => ?_, fun m hm hjm => ?_⟩
  · rw [List.length_append, List.length_singleton] at hm
    by_cases e : m = K.length
    · subst e
      rw [List.getElem_append_right (Nat.le_refl _)]
      simp only [Nat.sub_self, List.getElem_singleton]
      exact ⟨by rw [← Nat.add_zero (K.length * 4), d4 0 (by omega) (by omega)]; rfl, by rw [d4 1 (by omega) (by omega)]; rfl, by rw [d4 2 (by omega) (by omega)]; rfl, by rw [d4 3 (by omega) (by omega)]; rfl⟩
    · rw [List.getElem_append_left (by omega)]
      obtain ⟨s0, s1, s2, s3⟩ := h4 m (by omega)
      exact ⟨(d3 _ (by omega)).trans s0, (d3 _ (by omega)).trans s1, (d3 _ (by omega)).trans s2, (d3 _ (by omega)).trans s3⟩
  · obtain ⟨s0, s1, s2, s3⟩ := h5 m hm (by omega)
    exact ⟨(d3 _ (by omega)).trans s0, (d3 _ (by omega)).trans s1, (d3 _ (by omega)).trans s2, (d3 _ (by omega)).trans s3⟩

/-- Slice expressions and clear, behind names that a walk does not open. -/
def slO (t : TypeId) (x : Value) (lo hi mx : Option Value) : Sem Value := Instr.sliceAt t x lo hi mx
theorem sl_wrap (t : TypeId) (x : Value) (lo hi mx : Option Value) : Instr.sliceAt t x lo hi mx = slO t x lo hi mx := rfl
theorem elemW : Try.prog.underlying 24 = some (.slice (Try.prog.elem 24)) := by kernel_rfl
theorem sizeW (W : World) : (sizeOf (Try.prog.elem 24)).run Try.prog W = .ok 4 W := by
  have he : Try.prog.elem 24 = 51 := by kernel_rfl
  rw [he]
  have hi : (Try.prog.info? 51).map (·.size) = some 4 := by kernel_rfl
  cases hq : Try.prog.info? 51 with
  | none => rw [hq] at hi; cases hi
  | some i => rw [hq] at hi; simp [sizeOf, typeInfo, hq]; simpa using hi
theorem run_from (W : World) (r n cap i : Nat) (h1 : i < n) (h2 : n ≤ cap) (h3 : cap ≤ maxLen) : (slO 24 (.slice (some ⟨r, 0, none⟩) n cap) (some (.int .i64 (i : Int))) none none).run Try.prog W = .ok (.slice (some ⟨r, i * 4, none⟩) (n - i) (cap - i)) W := by
  unfold slO
  unfold maxLen at h3
  rw [run_sliceAt_slice (P := Try.prog) (w := W) _ _ _ _ _ elemW, run_slice_l (P := Try.prog) (w := W) 24 _ n cap elemW .i64 (i : Int) (by omega) (by omega), sizeW]
  simp only [Result.andThen_ok, sliced, Int.toNat_natCast]
  rw [if_neg (by omega)]
  simp [Addr.add_mid]
theorem run_to (W : World) (r n cap i : Nat) (h1 : i ≤ n) (h2 : n ≤ cap) (h3 : cap ≤ maxLen) : (slO 24 (.slice (some ⟨r, 0, none⟩) n cap) none (some (.int .i64 (i : Int))) none).run Try.prog W = .ok (.slice (some ⟨r, 0, none⟩) i cap) W := by
  unfold slO
  unfold maxLen at h3
  rw [run_sliceAt_slice (P := Try.prog) (w := W) _ _ _ _ _ elemW, run_slice_h (P := Try.prog) (w := W) 24 _ n cap elemW .i64 (i : Int) (by omega) (by omega), sizeW]
  simp only [Result.andThen_ok, sliced, Int.toNat_natCast, Nat.zero_mul, Nat.sub_zero]
  by_cases h0 : cap = 0
  · rw [if_pos h0]
  · rw [if_neg h0]
    simp [Addr.add_mid]
def clO (ats : Array TypeId) (ty : TypeId) (args : Array Value) : Sem Value := Builtin.clear_ ats ty args
theorem cl_wrap (ats : Array TypeId) (ty : TypeId) (args : Array Value) : Builtin.clear_ ats ty args = clO ats ty args := rfl
theorem run_clear (w : World) (ty : TypeId) (b o n c : Nat) (cs : Array Value) (T : TypeId) (h : Blk w b cs T) (hn : 0 < n) (hs : o + n * 4 ≤ cs.size) :
    ∃ w', (clO #[24] ty #[.slice (some ⟨b, o, none⟩) n c]).run Try.prog w = .ok (.tuple #[]) w' ∧ Kp (fun j => j = b) w w' ∧ ∃ ds, Blk w' b ds T ∧ ds.size = cs.size ∧ ∀ j, j < o → ds[j]? = cs[j]? := by
  obtain ⟨zs, hz⟩ : ∃ zs, (Builtin.zeroCells (#[.int .i64 0, .int .i64 0, .int .i64 0, .int .i64 0] : Array Value) n).toList = zs := ⟨_, rfl⟩
  have hzl : zs.length = n * 4 := by rw [← hz, Array.length_toList, size_zeroCells]; rfl
  have hz1 : ∀ v ∈ zs, v.oneCell' = true := by
    intro v hv
    rw [← hz, Array.mem_toList_iff, Builtin.zeroCells, Array.mem_map] at hv
    obtain ⟨i, _, rfl⟩ := hv
    have h4 : i % 4 = 0 ∨ i % 4 = 1 ∨ i % 4 = 2 ∨ i % 4 = 3 := by omega
    rcases h4 with e | e | e | e <;> simp [e, Value.oneCell']
  have hth := h.there o (n * 4) hs
  have hst := run_storeCells_cells (P := Try.prog) b o zs 0 w (fun j hj => by simpa using (hth j (by omega)).1) (fun j hj => by simpa using (hth j (by omega)).2) hz1
  simp only [Nat.add_zero] at hst
  obtain ⟨ds, d1, d2, d3, d4⟩ := h.sets zs o
  refine ⟨_, ?_, Kp.sets (S := fun j => j = b) b rfl _ _ _, ds, d1, d2, fun j hj => d3 j (.inl hj)⟩
  have hv : ∀ W, (zeroValue 51).run Try.prog W = .ok (.agg #[.int .i64 0, .int .i64 0, .int .i64 0, .int .i64 0]) W := fun W => by
    obtain ⟨i0, hi, hz0, _⟩ := info_parts' infoW
    simp [zeroValue, typeInfo, hi, hz0]
  obtain ⟨m, rfl⟩ : ∃ m, n = m + 1 := ⟨n - 1, by omega⟩
  unfold clO
  simp [Builtin.clear_, run_underlying Try.underlying24, hv, Value.cells, hz, hst]

attribute [local go_sem ↓] stw_wrap sl_wrap cl_wrap
set_option maxRecDepth 100000 in
set_option maxHeartbeats 4000000 in
theorem delete_any (w : World) (v : Value) (f r : Nat) (L : List Wt) (F b : Nat) (d : Wt → Bool) (h : Wr w v f r L) (hg : Goes w r F b d) (hF : F = 32 ∨ F = 34) :
    Calls Try.prog 40 #[v, .func (.func F) #[] #[.pointer (some ⟨b, 0, none⟩)]] w fun e w' => (∃ v', e = .returned v' ∧ Wr w' v' f r (stay d L)) ∧ Kp (fun j => j = r ∧ L ≠ []) w w' := by
  have HI := Lib.hid (idx_any w v f r L F b d h hg hF)
  obtain ⟨a, c, rfl, h1, h2, h3⟩ := h.form
  have H3 := Lib.hid h3
  have HR := Lib.hid h
  have HG := Lib.hid hg
  have hcap : ∀ i, i < L.length → Hid (∃ cs, Blk w r cs 51 ∧ cs.size = c * 4 ∧ ∀ m (hm : m < L.length), SlotAt cs m L[m]) := fun i hi => Lib.hid (by
    have hc := h.cells
    have hw := h.1.2
    obtain rfl := h3 i hi
    rcases hw with ⟨e, _⟩ | ⟨g, cap, cur, e, hg, hh, _, _, hs, _⟩
    · cases e
    · cases e
      have hbl : Blk w r cur 51 := hh
      refine ⟨cur, hbl, hs, fun m hm => ?_⟩
      obtain ⟨q0, q1, q2, q3⟩ := hc m hm
      exact ⟨(hbl.cell _).symm.trans q0, (hbl.cell _).symm.trans q1, (hbl.cell _).symm.trans q2, (hbl.cell _).symm.trans q3⟩)
  have HC := Lib.hid hcap
  have hm63 := h2
  unfold maxLen at hm63
  have hcI : (L.length : Int) ≤ 9223372036854775807 := by omega
  have H12 := Lib.hid (And.intro h1 h2)
  clear h h3 h1 h2 hg hcap hm63
  rcases hF with rfl | rfl
  all_goals
    go_enter Try.func40, Try.ntmps40
    go_wp2_with (go_at_call 43; (with_reducible refine HI.out.mono ?_); rintro e w1 ⟨⟨z, rfl, hz⟩, hb1⟩; replace hb1 := Lib.hid hb1; rcases hz with ⟨rfl, hno⟩ | ⟨i, hi, rfl, hdi, hlo⟩)
    · go_ret
      exact ⟨⟨_, rfl, by rw [stay_all hno]; exact HR.out.below hb1.out⟩, kp_below hb1.out⟩
    · obtain rfl := H3.out i hi
      have d0 : ((i : Int) == -1) = false := by simp
      have hiI : (i : Int) < (L.length : Int) := by omega
      have hstart : Hid (Mid w w1 r c L (i + 1) (stay d (L.take (i + 1))) ∧ (stay d (L.take (i + 1))).length = i) := Lib.hid (by
        have e1 : stay d (L.take (i + 1)) = L.take i := by
          rw [stay_no hi hdi]
          exact stay_all (fun m hm => by
            rw [List.length_take] at hm
            rw [List.getElem_take]
            exact hlo m (by omega) (by omega))
        rw [e1]
        obtain ⟨cs, q1, q2, q3⟩ := (HC.out i hi).out
        refine ⟨⟨kp_below hb1.out, cs, q1.below hb1.out, q2, fun m hm => ?_, fun m hm _ => q3 m hm⟩, by rw [List.length_take]; omega⟩
        rw [List.length_take] at hm
        rw [List.getElem_take]
        exact q3 m (by omega))
      clear hdi hlo
      go_wp2
      go_loopw [6, 5] (fun tj ti wr => ∃ (j k : Nat), j ≤ L.length ∧ k < j ∧ tj = .int .i64 (j : Int) ∧ ti = .int .i64 (k : Int) ∧ (stay d (L.take j)).length = k ∧ Mid w wr r c L j (stay d (L.take j))) (fun tj _ _ => L.length - (intOf tj).toNat)
      case atStart => exact ⟨i + 1, i, by omega, by omega, by go_num, rfl, hstart.out.2, hstart.out.1⟩
      case round =>
        obtain ⟨j, k, hj, hkj, rfl, rfl, hkl, hm⟩ := hrel
        by_cases hlt : j < L.length
        · have hltI : (j : Int) < (L.length : Int) := by omega
          have hkI : (k : Int) < (L.length : Int) := by omega
          obtain ⟨c0, c1, c2, c3⟩ := hm.cells hlt
          have hbx := run_boxW wr L[j]
          have hba := (Below.refl wr.heap.size wr).alloc (Nat.le_refl _) (.cells #[.int .i64 L[j].q, .int .i64 L[j].k.p, .int .i64 L[j].k.f, .int .i64 L[j].k.o] 51)
          have hma := hm.below hba
          have hnew := Blk.new wr #[.int .i64 L[j].q, .int .i64 L[j].k.p, .int .i64 L[j].k.f, .int .i64 L[j].k.o] 51
          have HD := Lib.hid (HG.out _ L[j] hma.kp)
          have HM := Lib.hid (And.intro hkl (And.intro hma hnew))
          clear hm hkl hma hba hnew
          cases hd : d L[j] with
          | true =>
            rw [hd] at HD
            have HS := Lib.hid (stay_no hlt hd)
            clear hd
            generalize hx : L[j] = x at *
            go_wp2_with ((first | go_at_call 32 | go_at_call 34); (with_reducible refine HD.out.mono ?_); rintro e w2 ⟨rfl, hb2⟩; replace hb2 := Lib.hid hb2)
            go_roundw
            case rel => exact ⟨j + 1, k, by omega, by omega, by go_num, rfl, by rw [HS.out]; exact HM.out.1, by rw [HS.out]; exact (HM.out.2.1.below hb2.out).skip⟩
            case measure => simp [intOf]; omega
          | false =>
            rw [hd] at HD
            have HS := Lib.hid (stay_yes hlt hd)
            clear hd
            go_wp2_with ((first | go_at_call 32 | go_at_call 34); (with_reducible refine HD.out.mono ?_); rintro e w2 ⟨rfl, hb2⟩; have hm2 := HM.out.2.1.below hb2; have hn2 := HM.out.2.2.below hb2; have b0 := hn2.cell 0; have b1 := hn2.cell 1; have b2 := hn2.cell 2; have b3 := hn2.cell 3; obtain ⟨p1, p2⟩ := hm2.put (by rw [HM.out.1]; exact hkj) hlt H12.out.1 L[j]; rw [HM.out.1] at p1 p2; replace p2 := Lib.hid p2; clear hm2 hn2 hb2; generalize w2.setCells r (k * 4) (wc L[j]) = W3 at *)
            go_roundw
            case rel => exact ⟨j + 1, k + 1, by omega, by omega, by go_num, by go_num, by rw [HS.out, List.length_append, HM.out.1]; rfl, by rw [HS.out]; exact p2.out⟩
            case measure => simp [intOf]; omega
        · obtain rfl : j = L.length := by omega
          rw [List.take_length] at hkl hm
          obtain ⟨m1, cs, m2, m3, m4, m5⟩ := hm
          obtain ⟨w4, r1, r2, ds, r3, r4, r5⟩ := run_clear wr 0 r (k * 4) (L.length - k) (c - k) cs _ m2 (by omega) (by have := H12.out.1; omega)
          have hrf := run_from wr r L.length c k hkj H12.out.1 H12.out.2
          have hrt := run_to w4 r L.length c k (by omega) H12.out.1 H12.out.2
          have HE : Hid (Wr w4 (.slice (some ⟨r, 0, none⟩) k c) f r (stay d L) ∧ Kp (fun j => j = r) w w4) := Lib.hid (by
            refine ⟨⟨⟨by rw [wcs_len], .inr ⟨r, c, ds, by rw [hkl], Nat.zero_le _, r3, by have := H12.out.1; omega, H12.out.2, by rw [r4, m3], ?_⟩⟩, .inr ⟨_, _, rfl⟩⟩, m1.trans r2 (fun _ e => .inl e)⟩
            refine take_wcs (by rw [r4, m3]; have := H12.out.1; omega) (fun m hm => ?_)
            obtain ⟨s0, s1, s2, s3⟩ := m4 m hm
            exact ⟨(r5 _ (by omega)).trans s0, (r5 _ (by omega)).trans s1, (r5 _ (by omega)).trans s2, (r5 _ (by omega)).trans s3⟩)
          clear m1 m2 m3 m4 m5 r2 r3 r4 r5 hkl
          go_wp2
          go_ret
          exact ⟨⟨_, rfl, HE.out.1⟩, HE.out.2.mono (fun _ _ e => ⟨e, fun e2 => by subst e2; simp at hi⟩)⟩
end Go.Proofs.Ytpfnjeicenhciaa.Ftf
