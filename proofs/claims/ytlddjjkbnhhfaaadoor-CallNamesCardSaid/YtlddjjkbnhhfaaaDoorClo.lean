/-
  Read.
-/
import Derived.Test.YtlddjjkbnhhfaaaDoorCln
import Derived.Test.YtlddjjkbnhhfaaaDoorClk
namespace Go.Proofs.YtlddjjkbnhhfaaaDoor.Clo
open Go Go.RowKit Go.Shelf Kit IsaM IsaS Cla Clt Clf Bk Clh Cli Clj Clk Clg Cln
set_option linter.unusedVariables false

/-- A slice of texts. -/
def Txs (w : World) (v : Value) (l : List Tx) : Prop :=
  ∃ a cap, v = .slice a l.length cap ∧ l.length ≤ cap ∧ cap ≤ 1000 ∧ (l = [] ∨ ∃ b off, a = some ⟨b, off, none⟩ ∧ b < w.heap.size ∧ ∀ j (h : j < l.length), w.cell? ⟨b, off + j, none⟩ = some (.string (tx l[j])))
theorem Txs.below {w w' : World} {v : Value} {l : List Tx} (h : Txs w v l) (hb : Below w.heap.size w w') : Txs w' v l := by
  obtain ⟨a, cap, h1, h2, h3, h4⟩ := h
  refine ⟨a, cap, h1, h2, h3, ?_⟩
  rcases h4 with h4 | ⟨b, off, h5, h6, h7⟩
  · exact .inl h4
  · exact .inr ⟨b, off, h5, Nat.lt_of_lt_of_le h6 hb.size, fun j hj => (hb.cell (p := ⟨b, off + j, none⟩) h6).trans (h7 j hj)⟩
/-- The four parts at most. -/
def cut4 (t : Tx) : List Tx := Lib.splitK [32] 0 (min 4 (t.length + 1) - 1) t
theorem split_any (s : ByteArray) (w : World) (hs : s.size < 4294967281) (hM : Ml w) :
    Calls Tryd.prog 39 #[.string s, .string ⟨#[32]⟩, .int .i64 4] w fun e w' => (∃ v, e = .returned v ∧ Txs w' v (cut4 s.data.toList)) ∧ Below w.heap.size w w' := by
  obtain ⟨m, hm⟩ := hM
  refine (Shl.strings_SplitN s ⟨#[32]⟩ 4 m w hs hm (by decide) (by decide) (by decide)).mono fun e w' ⟨he, hw⟩ => ?_
  have hlen : s.data.toList.length = s.size := by simp
  have hd := Lib.splitB_data ⟨#[32]⟩ 0 (min 4 (s.size + 1) - 1) s
  have hle := Lib.splitB_length_le ⟨#[32]⟩ 0 (min 4 (s.size + 1) - 1) s
  have hcut : (Lib.splitB ⟨#[32]⟩ 0 (min 4 (s.size + 1) - 1) s).map (·.data.toList) = cut4 s.data.toList := by
    rw [hd]
    unfold cut4
    rw [hlen]
  generalize Lib.splitB ⟨#[32]⟩ 0 (min 4 (s.size + 1) - 1) s = P at *
  have hPl : P.length = (cut4 s.data.toList).length := by rw [← hcut]; simp
  refine ⟨⟨_, he, _, _, by rw [hPl], by omega, by omega, .inr ⟨w.heap.size, 0, rfl, by rw [hw]; simp, fun j hj => ?_⟩⟩, by rw [hw]; exact (Below.refl _ _).alloc (Nat.le_refl _) _⟩
  rw [hw, World.cell?_alloc_at _ _ _ _ rfl]
  have hj' : j < P.length := by omega
  unfold Lib.cellsOf
  rw [List.getElem?_toArray, List.getElem?_append_left (by simpa using by omega), List.getElem?_map, List.getElem?_eq_getElem (by omega)]
  have : (cut4 s.data.toList)[j] = (P[j]'hj').data.toList := by
    simp only [← hcut, List.getElem_map]
  rw [this]
  simp [tx_mk]
theorem slice1 (b off n cap : Nat) (h : n + 1 ≤ cap) (hc : cap ≤ 1000) :
    ∃ off', (∀ w, (Instr.slice 59 (.slice (some ⟨b, off, none⟩) (n + 1) cap) (some (.int .i64 1)) none none).run Tryd.prog w = .ok (.slice (some ⟨b, off', none⟩) n (cap - 1)) w) ∧ (1 ≤ n → off' = off + 1) := by
  by_cases hc1 : cap = 1
  · subst hc1
    obtain rfl : n = 0 := by omega
    refine ⟨off, fun w => ?_, by omega⟩
    simp [Instr.slice, go_sem]
  · refine ⟨off + 1, fun w => ?_, fun _ => rfl⟩
    simp [Instr.slice, go_sem]
    rw [if_pos (by omega), if_neg hc1]
/-- The head's cell, and the tail's slice. -/
theorem Txs.open {w : World} {v : Value} {t : Tx} {r : List Tx} (h : Txs w v (t :: r)) :
    ∃ b off cap off', v = .slice (some ⟨b, off, none⟩) (r.length + 1) cap ∧ r.length + 1 ≤ cap ∧ cap ≤ 1000 ∧ w.cell? ⟨b, off, none⟩ = some (.string (tx t)) ∧
      (∀ w, (Instr.slice 59 (.slice (some ⟨b, off, none⟩) (r.length + 1) cap) (some (.int .i64 1)) none none).run Tryd.prog w = .ok (.slice (some ⟨b, off', none⟩) r.length (cap - 1)) w) ∧
      b < w.heap.size ∧ ∀ j (h : j < r.length), w.cell? ⟨b, off' + j, none⟩ = some (.string (tx r[j])) := by
  obtain ⟨a, cap, rfl, h2, h3, h4⟩ := h
  rcases h4 with h4 | ⟨b, off, rfl, hlt, hc⟩
  · cases h4
  · simp at h2
    obtain ⟨off', hsl, ho⟩ := slice1 b off r.length cap h2 h3
    refine ⟨b, off, cap, off', by simp, h2, h3, by have := hc 0 (by simp); simpa using this, hsl, hlt, fun j hj => ?_⟩
    obtain rfl := ho (by omega)
    have := hc (j + 1) (by simpa using hj)
    rw [Nat.add_assoc, Nat.add_comm 1 j]
    simpa using this

/-- What Read answers of a text. -/
def ReadR (s : ByteArray) (e : Ending) : Prop :=
  (∃ x : Cl, mayC x = true ∧ Wf x ∧ lineT x = s.data.toList ∧ e = .returned (.tuple #[cv x, .int .i64 0])) ∨
  ((∀ x : Cl, mayC x = true → Wf x → lineT x ≠ s.data.toList) ∧ e = .returned (.tuple #[cv zc, .int .i64 160]))
/-- A line's parts. -/
theorem line_parts {x : Cl} {t h : Tx} {r : List Tx} (hx : mayC x = true) (e : lineT x = t) (hc : cut4 t = h :: r) : ∃ k : Nat, x.n = k ∧ 1 ≤ k ∧ k < 23 ∧ byT h = k ∧ r = ags x (mn k) := by
  obtain ⟨k, hk, h1, h2⟩ := isC_nat (may_isC hx)
  have hl := line_cut (may_isC hx)
  rw [e] at hl
  rw [show cut4 t = _ from hl] at hc
  injection hc with e1 e2
  rw [hk, Int.toNat_natCast] at e1 e2
  exact ⟨k, hk, h1, h2, by rw [← e1, byT_wd h2], e2.symm⟩
theorem parts_len {t h : Tx} {r : List Tx} (hc : cut4 t = h :: r) : h.length ≤ t.length ∧ r.length ≤ 3 ∧ ∀ p ∈ r, p.length ≤ t.length := by
  have hu := splitK_un (min 4 (t.length + 1) - 1) t
  have hl := splitK_len (min 4 (t.length + 1) - 1) t
  rw [show Lib.splitK [32] 0 (min 4 (t.length + 1) - 1) t = _ from hc] at hu hl
  have hj : ∀ (L : List Tx) p, p ∈ L → p.length ≤ (joinT L).length := fun L => by
    induction L with
    | nil => intro p hp; simp at hp
    | cons q r ih =>
      intro p hp
      show p.length ≤ (32 :: q ++ joinT r).length
      rw [List.length_append, List.length_cons]
      rcases List.mem_cons.1 hp with rfl | hp
      · omega
      · have := ih p hp; omega
  have h2 : h.length + (joinT r).length = t.length := by rw [← hu]; show _ = (h ++ joinT r).length; rw [List.length_append]
  refine ⟨by omega, by rw [List.length_cons] at hl; omega, fun p hp => by have := hj r p hp; omega⟩
/-- Parts that are read make the line. -/
theorem parts_line {t h : Tx} {r : List Tx} {k : Nat} {vs : Nat → Nat} (hc : cut4 t = h :: r) (hb : byT h = k) (h1 : 1 ≤ k) (hl : r.length = mn k) (hv : ∀ i (hi : i < r.length), Lib.decDigits (vs i) = r[i]) :
    mayC (only (k : Int) vs) = true ∧ lineT (only (k : Int) vs) = t := by
  have h2 : k < 23 := hb ▸ byT_lt h
  refine ⟨only_may h1 h2 vs, ?_⟩
  have hu := splitK_un (min 4 (t.length + 1) - 1) t
  rw [show Lib.splitK [32] 0 (min 4 (t.length + 1) - 1) t = _ from hc] at hu
  have hw : wd k = h := by rw [← hb]; exact byT_pos (by omega)
  unfold lineT
  rw [show (only (k : Int) vs).n = (k : Int) from rfl, Int.toNat_natCast, args_join, hw, ← hu]
  show _ = h ++ joinT r
  congr 2
  apply List.ext_getElem
  · rw [ags_len, hl]
  · intro i hi hi2
    rw [ags_len] at hi
    simp only [ags, List.getElem_map, List.getElem_range]
    rw [only_ar h1 h2 vs i hi, hv i hi2]
theorem number_yes (s : ByteArray) (hs : s.size ≤ 1000) (v : Nat) (hv : v < 4294967296) (he : Lib.decDigits v = s.data.toList) (w : World) (hP : Pow w) (hT : Ers w) :
    Calls Tryd.prog 40 #[.string s] w fun e w' => e = .returned (.tuple #[.int .u32 (v : Int), .bool true]) ∧ Below w.heap.size w w' :=
  (number_any s hs w hP hT).mono fun e w' ⟨h, hb⟩ => ⟨by
    rcases h with ⟨u, hu, e1, e2⟩ | ⟨hno, _⟩
    · rw [e2, dd_inj (e1.trans he.symm)]
    · exact absurd he (hno v hv), hb⟩
theorem number_no (s : ByteArray) (hs : s.size ≤ 1000) (hno : ∀ v : Nat, v < 4294967296 → Lib.decDigits v ≠ s.data.toList) (w : World) (hP : Pow w) (hT : Ers w) :
    Calls Tryd.prog 40 #[.string s] w fun e w' => (∃ v : Nat, e = .returned (.tuple #[.int .u32 (v : Int), .bool false])) ∧ Below w.heap.size w w' :=
  (number_any s hs w hP hT).mono fun e w' ⟨h, hb⟩ => ⟨by
    rcases h with ⟨u, hu, e1, e2⟩ | ⟨_, h2⟩
    · exact absurd e1 (hno u hu)
    · exact h2, hb⟩
theorem ccs_at (y : Cl) {i : Nat} (h : i < 3) : (ccs y)[1 + i]? = some (.int .u32 (ar y i : Int)) := by
  have : i = 0 ∨ i = 1 ∨ i = 2 := by omega
  rcases this with rfl | rfl | rfl <;> rfl
theorem pre_ext (n : Int) (vs us : Nat → Nat) (j : Nat) (h : ∀ i, i < j → vs i = us i) : pre n vs j = pre n us j := by
  unfold pre
  refine congr (congr (congr rfl ?_) ?_) ?_ <;> split <;> first | rfl | exact h _ (by omega)
set_option maxRecDepth 100000 in
set_option maxHeartbeats 4000000 in
theorem read_bad (s : ByteArray) (hs : s.size ≤ 1000) (w : World) (hT : Rw w) (hM : Ml w) (h : Tx) (r : List Tx) (hc : cut4 s.data.toList = h :: r) (hm : ¬ (r.length : Int) = manyI (byT h)) :
    Calls Tryd.prog 24 #[.string s] w fun e w' => ReadR s e ∧ Below w.heap.size w w' := by
  have b1 := (Below.refl w.heap.size w).alloc (Nat.le_refl _) (.cells #[.int .i64 0, .int .u32 0, .int .u32 0, .int .u32 0] 27)
  have HS := Lib.hid (split_any s _ (by omega) (hM.below b1))
  rw [hc] at HS
  have HBy := Lib.hid (fun wx (hb : Below w.heap.size w wx) => byName_any (tx h) wx (hT.below hb))
  rw [tx_data] at HBy
  have HMa := Lib.hid (fun wx (hb : Below w.heap.size w wx) => many_any (byT h : Int) wx (hT.below hb))
  have HW := Lib.hid (And.intro b1 (Blk.new w #[.int .i64 0, .int .u32 0, .int .u32 0, .int .u32 0] 27))
  have hpl := (parts_len hc).2.1
  have HN : Hid (∀ x : Cl, mayC x = true → Wf x → lineT x ≠ s.data.toList) := Lib.hid (fun x hx hw e => by
    obtain ⟨k, hk, h1, h2, hb, hr⟩ := line_parts hx e hc
    apply hm
    rw [hb, many_nat h1 h2, hr, ags_len])
  have dm : ((r.length : Int) == manyI (byT h)) = false := by simpa using hm
  have hcv : cv zc = .agg #[.int .i64 0, .int .u32 0, .int .u32 0, .int .u32 0] := rfl
  clear hT hM hm b1 hc
  generalize manyI (byT h) = m at *
  generalize byT h = kk at *
  go_enter Tryd.func24, Tryd.ntmps24
  go_wp2_with (first
      | (go_at_call 39; refine HS.out.mono ?_; rintro e w1 ⟨⟨v, rfl, htx⟩, hb1⟩; obtain ⟨b, off, cap, off', rfl, hcap1, hcap2, c0, hsl, hbl, hcs⟩ := htx.open; have B1 := HW.out.1.trans (hb1.mono HW.out.1.size); clear htx)
      | (go_at_call 15; refine (HBy.out _ B1).mono ?_; rintro e w2 ⟨rfl, hb2⟩; have B2 := B1.trans (hb2.mono B1.size); have B3 := B2.alloc B2.size (.cells #[.int .i64 (kk : Int), .int .u32 0, .int .u32 0, .int .u32 0] 27); have Kr := ((HW.out.2.below hb1).below hb2).below ((Below.refl _ _).alloc (Nat.le_refl _) (.cells #[.int .i64 (kk : Int), .int .u32 0, .int .u32 0, .int .u32 0] 27)); have e0 := Kr.cell 0; have e1 := Kr.cell 1; have e2 := Kr.cell 2; have e3 := Kr.cell 3; have f0 := Kr.free 0; have f1 := Kr.free 1; have f2 := Kr.free 2; have f3 := Kr.free 3; simp only [List.getElem?_toArray, List.getElem?_cons_zero, List.getElem?_cons_succ] at e0 e1 e2 e3)
      | (go_at_call 13; refine (HMa.out _ B3).mono ?_; rintro e w9 ⟨rfl, rfl⟩)
      | fail)
  refine bodyPost_ret (v := .tuple #[.agg #[.int .i64 0, .int .u32 0, .int .u32 0, .int .u32 0], .int .i64 160]) ?res rfl ⟨.inr ⟨HN.out, by rw [hcv]⟩, ?bel⟩
  case res => simp [results, Tryd.results24, go_sem, e0, e1, e2, e3]
  case bel => exact (((B3.setCell (p := ⟨w.heap.size, 0, none⟩) (Nat.le_refl _) _).setCell (p := ⟨w.heap.size, 1, none⟩) (Nat.le_refl _) _).setCell (p := ⟨w.heap.size, 2, none⟩) (Nat.le_refl _) _).setCell (p := ⟨w.heap.size, 3, none⟩) (Nat.le_refl _) _
set_option maxRecDepth 100000 in
set_option maxHeartbeats 4000000 in
theorem read_good (s : ByteArray) (hs : s.size ≤ 1000) (w : World) (hT : Rw w) (hP : Pow w) (hE : Ers w) (hM : Ml w) (h : Tx) (r : List Tx) (hc : cut4 s.data.toList = h :: r) (k : Nat) (hb : byT h = k) (h1 : 1 ≤ k) (h2 : k < 23) (hl : r.length = mn k) :
    Calls Tryd.prog 24 #[.string s] w fun e w' => ReadR s e ∧ Below w.heap.size w w' := by
  have hlen : s.data.toList.length = s.size := by simp
  have hpl := parts_len hc
  rw [hlen] at hpl
  have b1 := (Below.refl w.heap.size w).alloc (Nat.le_refl _) (.cells #[.int .i64 0, .int .u32 0, .int .u32 0, .int .u32 0] 27)
  have HS := Lib.hid (split_any s _ (by omega) (hM.below b1))
  rw [hc] at HS
  have HBy := Lib.hid (fun wx (hb : Below w.heap.size w wx) => byName_any (tx h) wx (hT.below hb))
  rw [tx_data, hb] at HBy
  have HMa := Lib.hid (fun wx (hb : Below w.heap.size w wx) => many_any (k : Int) wx (hT.below hb))
  rw [many_nat h1 h2, ← hl] at HMa
  have HW := Lib.hid (And.intro b1 (Blk.new w #[.int .i64 0, .int .u32 0, .int .u32 0, .int .u32 0] 27))
  have HY : Hid (∀ j (hj : j < r.length) v, v < 4294967296 → Lib.decDigits v = r[j] → ∀ wx, Below w.heap.size w wx → Calls Tryd.prog 40 #[.string (tx r[j])] wx fun e w' => e = .returned (.tuple #[.int .u32 (v : Int), .bool true]) ∧ Below wx.heap.size wx w') := Lib.hid (fun j hj v hv he wx hbx => number_yes (tx r[j]) (by rw [tx_size]; have := hpl.2.2 _ (List.getElem_mem hj); omega) v hv he wx (hP.below hbx) (hE.below hbx))
  have HX : Hid (∀ j (hj : j < r.length), (∀ v : Nat, v < 4294967296 → Lib.decDigits v ≠ r[j]) → ∀ wx, Below w.heap.size w wx → Calls Tryd.prog 40 #[.string (tx r[j])] wx fun e w' => (∃ v : Nat, e = .returned (.tuple #[.int .u32 (v : Int), .bool false])) ∧ Below wx.heap.size wx w') := Lib.hid (fun j hj hno wx hbx => number_no (tx r[j]) (by rw [tx_size]; have := hpl.2.2 _ (List.getElem_mem hj); omega) hno wx (hP.below hbx) (hE.below hbx))
  have HBad : Hid (∀ j (hj : j < r.length), (∀ v : Nat, v < 4294967296 → Lib.decDigits v ≠ r[j]) → ∀ x : Cl, mayC x = true → Wf x → lineT x ≠ s.data.toList) := Lib.hid (fun j hj hno x hx hw e => by
    obtain ⟨k', hk, g1, g2, gb, gr⟩ := line_parts hx e hc
    refine hno (ar x j) (ar_lt hw j) ?_
    have hj' : j < mn k' := by rw [gr, ags_len] at hj; exact hj
    have : r[j]? = some (Lib.decDigits (ar x j)) := by rw [gr]; simp [ags, hj']
    rw [List.getElem?_eq_getElem hj] at this
    exact (Option.some.inj this).symm)
  have HGood : Hid (∀ vs : Nat → Nat, (∀ i (hi : i < r.length), vs i < 4294967296 ∧ Lib.decDigits (vs i) = r[i]) → ∃ x : Cl, x = pre (k : Int) vs r.length ∧ mayC x = true ∧ Wf x ∧ lineT x = s.data.toList) := Lib.hid (fun vs hv => by
    obtain ⟨g1, g2⟩ := parts_line hc hb h1 hl (fun i hi => (hv i hi).2)
    refine ⟨_, rfl, ?_⟩
    rw [hl, pre_only h1 h2]
    refine ⟨g1, ?_, g2⟩
    have hm := many_nat h1 h2
    refine ⟨?_, ?_, ?_, ?_⟩
    · show (Lit.int .i64 (k : Int)).wf = true
      simp [Lit.wf, IntKind.min, IntKind.max, IntKind.signed, IntKind.bits]; omega
    all_goals
      unfold only
      simp only [hm]
      split
      · exact (hv _ (by omega)).1
      · omega)
  have hm3 : r.length ≤ 3 := hpl.2.1
  have hmi : (r.length : Int) ≤ 3 := by omega
  have hcv : cv zc = .agg #[.int .i64 0, .int .u32 0, .int .u32 0, .int .u32 0] := rfl
  clear hT hM hP hE b1 hc hlen hpl hb hl
  go_enter Tryd.func24, Tryd.ntmps24
  go_wp2_with (first
      | (go_at_call 39; refine HS.out.mono ?_; rintro e w1 ⟨⟨v, rfl, htx⟩, hb1⟩; obtain ⟨b, off, cap, off', rfl, hcap1, hcap2, c0, hsl, hbl, hcs⟩ := htx.open; have B1 := HW.out.1.trans (hb1.mono HW.out.1.size); clear htx)
      | (go_at_call 15; refine (HBy.out _ B1).mono ?_; rintro e w2 ⟨rfl, hb2⟩; have B2 := B1.trans (hb2.mono B1.size); have B3 := B2.alloc B2.size (.cells #[.int .i64 (k : Int), .int .u32 0, .int .u32 0, .int .u32 0] 27); have Kr := ((HW.out.2.below hb1).below hb2).below ((Below.refl _ _).alloc (Nat.le_refl _) (.cells #[.int .i64 (k : Int), .int .u32 0, .int .u32 0, .int .u32 0] 27)); have e0 := Kr.cell 0; have e1 := Kr.cell 1; have e2 := Kr.cell 2; have e3 := Kr.cell 3; have f0 := Kr.free 0; have f1 := Kr.free 1; have f2 := Kr.free 2; have f3 := Kr.free 3; simp only [List.getElem?_toArray, List.getElem?_cons_zero, List.getElem?_cons_succ] at e0 e1 e2 e3)
      | (go_at_call 13; refine (HMa.out _ B3).mono ?_; rintro e w9 ⟨rfl, rfl⟩)
      | fail)
  have HI0 : Hid (Below w2.heap.size w2 (w2.alloc (.cells (ccs (pre (k : Int) (fun _ => 0) 0)) 27)) ∧ Blk (w2.alloc (.cells (ccs (pre (k : Int) (fun _ => 0) 0)) 27)) w2.heap.size (ccs (pre (k : Int) (fun _ => 0) 0)) 27) := Lib.hid ⟨(Below.refl _ _).alloc (Nat.le_refl _) _, Blk.new _ _ _⟩
  have HC2 : Hid (∀ wx, Below w2.heap.size w2 wx → (∀ j (hj : j < r.length), wx.cell? ⟨b, off' + j, none⟩ = some (.string (tx r[j]))) ∧ Below w.heap.size w wx ∧ Blk wx w.heap.size #[.int .i64 0, .int .u32 0, .int .u32 0, .int .u32 0] 27) := Lib.hid (fun wx hbx => ⟨fun j hj => (hbx.cell (p := ⟨b, off' + j, none⟩) (Nat.lt_of_lt_of_le hbl hb2.size)).trans ((hb2.cell (p := ⟨b, off' + j, none⟩) hbl).trans (hcs j hj)), B2.trans (hbx.mono B2.size), ((HW.out.2.below hb1).below hb2).below hbx⟩)
  have hw2 : w.heap.size < w2.heap.size := by
    have := HW.out.2.lt
    have := hb1.size
    have := hb2.size
    omega
  have hwl : w.heap.size ≤ w2.heap.size := by omega
  clear e0 e1 e2 e3 f0 f1 f2 f3 Kr B3 B2 B1 hb2 hb1 c0 hsl hbl hcs
  go_loopw [28] (fun i wr => ∃ (j : Nat) (vs : Nat → Nat), j ≤ r.length ∧ i = .int .i64 (j : Int) ∧ Hid ((∀ i (hi : i < r.length), i < j → vs i < 4294967296 ∧ Lib.decDigits (vs i) = r[i]) ∧ Below w2.heap.size w2 wr ∧ Blk wr w2.heap.size (ccs (pre (k : Int) vs j)) 27)) (fun i _ => r.length - (intOf i).toNat)
  case atStart => exact ⟨0, fun _ => 0, by omega, rfl, Lib.hid ⟨fun i hi h0 => by omega, HI0.out.1, HI0.out.2⟩⟩
  case round =>
    obtain ⟨j, vs, hj, rfl, HI⟩ := hrel
    have hK := HC2.out wr HI.out.2.1
    by_cases hlt : j < r.length
    · have cT := hK.1 j hlt
      by_cases hnum : ∃ v, v < 4294967296 ∧ Lib.decDigits v = r[j]
      · obtain ⟨v, hv1, hv2⟩ := hnum
        have HN := Lib.hid (HY.out j hlt v hv1 hv2)
        have HV := Lib.hid (And.intro hv1 hv2)
        have HBW := Lib.hid hK.2.1
        generalize hrj : tx r[j] = T at *
        clear hv1 hv2 hK
        go_wp2_with (first | (go_at_call 40; refine (HN.out _ HBW.out).mono ?_; rintro e w4 ⟨rfl, hb4⟩; have K4 := HI.out.2.2.below hb4; have g4 := (K4.cell (1 + j)).trans (ccs_at _ (Nat.lt_of_lt_of_le hlt hm3)); have h4 := K4.free (1 + j)) | fail)
        go_roundw
        case rel =>
          have hj3 : j < 3 := Nat.lt_of_lt_of_le hlt hm3
          refine ⟨j + 1, fun i => if i = j then v else vs i, by omega, by go_num, Lib.hid ⟨fun i hi hi2 => ?_, (HI.out.2.1.trans (hb4.mono HI.out.2.1.size)).setCell (p := ⟨w2.heap.size, 1 + j, none⟩) (Nat.le_refl _) _, ?_⟩⟩
          · by_cases e : i = j
            · subst e
              simp only [if_pos]
              exact HV.out
            · simp only [if_neg e]
              exact HI.out.1 i hi (by omega)
          · have h5 := K4.set (1 + j) (.int .u32 (v : Int))
            rw [pre_ext (k : Int) vs (fun i => if i = j then v else vs i) j (fun i hi => by rw [if_neg (by omega)])] at h5
            have h6 := pre_set (k : Int) (fun i => if i = j then v else vs i) j hj3
            simp only [if_pos] at h6
            rw [h6] at h5
            exact h5
        case measure => simp [intOf]; omega
      · have hno : ∀ v : Nat, v < 4294967296 → Lib.decDigits v ≠ r[j] := fun v hv e => hnum ⟨v, hv, e⟩
        have HN := Lib.hid (HX.out j hlt hno)
        have HQ := Lib.hid (HBad.out j hlt hno)
        have HBW := Lib.hid hK.2.1
        generalize hrj : tx r[j] = T at *
        clear hno hnum hK
        go_wp2_with (first | (go_at_call 40; refine (HN.out _ HBW.out).mono ?_; rintro e w4 ⟨⟨v, rfl⟩, hb4⟩; have K4 := (HC2.out _ (HI.out.2.1.trans (hb4.mono HI.out.2.1.size))); have Kr := K4.2.2; have e0 := Kr.cell 0; have e1 := Kr.cell 1; have e2 := Kr.cell 2; have e3 := Kr.cell 3; have f0 := Kr.free 0; have f1 := Kr.free 1; have f2 := Kr.free 2; have f3 := Kr.free 3; simp only [List.getElem?_toArray, List.getElem?_cons_zero, List.getElem?_cons_succ] at e0 e1 e2 e3; have HB4 := Lib.hid K4.2.1; clear K4 Kr) | fail)
        refine bodyPost_ret (v := .tuple #[.agg #[.int .i64 0, .int .u32 0, .int .u32 0, .int .u32 0], .int .i64 160]) ?res rfl ⟨.inr ⟨HQ.out, by rw [hcv]⟩, ?bel⟩
        case res => simp [results, Tryd.results24, go_sem, e0, e1, e2, e3]
        case bel => exact (((HB4.out.setCell (p := ⟨w.heap.size, 0, none⟩) (Nat.le_refl _) _).setCell (p := ⟨w.heap.size, 1, none⟩) (Nat.le_refl _) _).setCell (p := ⟨w.heap.size, 2, none⟩) (Nat.le_refl _) _).setCell (p := ⟨w.heap.size, 3, none⟩) (Nat.le_refl _) _
    · obtain rfl : j = r.length := by omega
      obtain ⟨y, hy, y1, y2, y3⟩ := HGood.out vs (fun i hi => HI.out.1 i hi hi)
      have HQ := Lib.hid (And.intro y1 (And.intro y2 y3))
      have HBW := Lib.hid hK.2.1
      have Kr := hK.2.2
      have e0 := Kr.cell 0
      have e1 := Kr.cell 1
      have e2 := Kr.cell 2
      have e3 := Kr.cell 3
      have f0 := Kr.free 0
      have f1 := Kr.free 1
      have f2 := Kr.free 2
      have f3 := Kr.free 3
      have K := HI.out.2.2
      rw [← hy] at K
      have g0 := K.cell 0
      have g1 := K.cell 1
      have g2 := K.cell 2
      have g3 := K.cell 3
      simp only [ccs, List.getElem?_toArray, List.getElem?_cons_zero, List.getElem?_cons_succ] at e0 e1 e2 e3 g0 g1 g2 g3
      clear K Kr y1 y2 y3 hy hK hlt hj
      go_wp2_with fail
      refine bodyPost_ret (v := .tuple #[.agg #[.int .i64 y.n, .int .u32 (y.a : Int), .int .u32 (y.b : Int), .int .u32 (y.c : Int)], .int .i64 0]) ?res rfl ⟨.inl ⟨y, HQ.out.1, HQ.out.2.1, HQ.out.2.2, rfl⟩, ?bel⟩
      case res => simp [results, Tryd.results24, go_sem, e0, e1, e2, e3]
      case bel => exact (((HBW.out.setCell (p := ⟨w.heap.size, 0, none⟩) (Nat.le_refl _) _).setCell (p := ⟨w.heap.size, 1, none⟩) (Nat.le_refl _) _).setCell (p := ⟨w.heap.size, 2, none⟩) (Nat.le_refl _) _).setCell (p := ⟨w.heap.size, 3, none⟩) (Nat.le_refl _) _
theorem read_any (s : ByteArray) (hs : s.size ≤ 1000) (w : World) (hT : Rw w) (hP : Pow w) (hE : Ers w) (hM : Ml w) :
    Calls Tryd.prog 24 #[.string s] w fun e w' => ReadR s e ∧ Below w.heap.size w w' := by
  obtain ⟨h, r, hc⟩ : ∃ h r, cut4 s.data.toList = h :: r := by
    cases e : cut4 s.data.toList with
    | nil => exact absurd e (cut_ne _ _)
    | cons h r => exact ⟨h, r, rfl⟩
  by_cases hm : (r.length : Int) = manyI (byT h)
  · have hi : isC (byT h : Int) = true := by
      cases e : isC (byT h : Int) with
      | true => rfl
      | false => rw [many_no e] at hm; omega
    have h3 := isC_iff.1 hi
    rw [many_nat (by omega) (by omega)] at hm
    exact read_good s hs w hT hP hE hM h r hc (byT h) rfl (by omega) (by omega) (by omega)
  · exact read_bad s hs w hT hM h r hc hm
end Go.Proofs.YtlddjjkbnhhfaaaDoor.Clo
