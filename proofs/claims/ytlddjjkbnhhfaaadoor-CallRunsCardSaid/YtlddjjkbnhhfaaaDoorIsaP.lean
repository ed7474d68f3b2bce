/-
  parse and Read of package isa.
-/
import Derived.Test.YtlddjjkbnhhfaaaDoorIsaW
import Derived.Test.YtlddjjkbnhhfaaaDoorIsaS
import Derived.BigRegion
import Derived.Deep.Heap
namespace Go.Proofs.YtlddjjkbnhhfaaaDoor.IsaP
open Go Go.RowKit Kit IsaM IsaT IsaL IsaC IsaE IsaN IsaD IsaA IsaW IsaS
set_option linter.unusedVariables false

/-- A slice of texts: its cells. -/
def Txs (B : Nat) (w : World) (v : Value) (L : List Tx) : Prop :=
  ∃ a cap, v = .slice a L.length cap ∧ L.length ≤ cap ∧ cap ≤ 1000 ∧ (L = [] ∨ ∃ b off, a = some ⟨b, off, none⟩ ∧ B ≤ b ∧ b < w.heap.size ∧ (∀ j (h : j < L.length), w.cell? ⟨b, off + j, none⟩ = some (.string (st L[j]))))
theorem Txs.below {B : Nat} {w w' : World} {v : Value} {L : List Tx} (h : Txs B w v L) (hb : Below w.heap.size w w') : Txs B w' v L := by
  obtain ⟨a, cap, h1, h2, h3, h4⟩ := h
  refine ⟨a, cap, h1, h2, h3, ?_⟩
  rcases h4 with h4 | ⟨b, off, ha, hB, hlt, hc⟩
  · exact .inl h4
  · exact .inr ⟨b, off, ha, hB, Nat.lt_of_lt_of_le hlt hb.size, fun j hj => (hb.cell (p := ⟨b, off + j, none⟩) hlt).trans (hc j hj)⟩
theorem Txs.set {B : Nat} {w : World} {v : Value} {L : List Tx} (h : Txs B w v L) (g o : Nat) (x : Value) (hne : g < B) : Txs B (w.setCell ⟨g, o, none⟩ x) v L := by
  obtain ⟨a, cap, h1, h2, h3, h4⟩ := h
  refine ⟨a, cap, h1, h2, h3, ?_⟩
  rcases h4 with h4 | ⟨b, off, ha, hB, hlt, hc⟩
  · exact .inl h4
  · exact .inr ⟨b, off, ha, hB, by simpa [World.setCell] using hlt, fun j hj => (World.cell?_setCell_other _ _ _ _ (fun e => by cases e; omega)).trans (hc j hj)⟩

/-- A block of the call's own, known whole. -/
def Blk (w : World) (b : Nat) (cs : Array Value) (T : TypeId) : Prop := w.heap[b]? = some (.cells cs T (0, 0))
theorem Blk.lt {w : World} {b : Nat} {cs : Array Value} {T : TypeId} (h : Blk w b cs T) : b < w.heap.size := (Array.getElem?_eq_some_iff.1 h).1
theorem Blk.cell {w : World} {b : Nat} {cs : Array Value} {T : TypeId} (h : Blk w b cs T) (i : Nat) : w.cell? ⟨b, i, none⟩ = cs[i]? := by unfold Blk at h; simp [World.cell?, h]
theorem Blk.free {w : World} {b : Nat} {cs : Array Value} {T : TypeId} (h : Blk w b cs T) (i : Nat) : w.frozen? ⟨b, i, none⟩ = false := by unfold Blk at h; simp [World.frozen?, h]
theorem Blk.below {w w' : World} {b : Nat} {cs : Array Value} {T : TypeId} (h : Blk w b cs T) (hb : Below w.heap.size w w') : Blk w' b cs T := (hb.block b h.lt).trans h
theorem Blk.set {w : World} {b : Nat} {cs : Array Value} {T : TypeId} (h : Blk w b cs T) (i : Nat) (v : Value) : Blk (w.setCell ⟨b, i, none⟩ v) b (cs.setIfInBounds i v) T := by
  have hlt := h.lt
  have h' : w.heap[b] = .cells cs T (0, 0) := by unfold Blk at h; simpa [Array.getElem?_eq_getElem hlt] using h
  show (w.heap.modify b _)[b]? = _
  rw [Array.getElem?_eq_getElem (by simpa using hlt), Array.getElem_modify_self, h']
  rfl
theorem Blk.other {w : World} {b : Nat} {cs : Array Value} {T : TypeId} (h : Blk w b cs T) (g i : Nat) (v : Value) (hne : b ≠ g) : Blk (w.setCell ⟨g, i, none⟩ v) b cs T := (Deep.blk_setCell_other w ⟨g, i, none⟩ v b hne).trans h
theorem Blk.new (w : World) (cs : Array Value) (T : TypeId) : Blk (w.alloc (.cells cs T)) w.heap.size cs T := heap_alloc_new w _

/-- internal/bytealg's variable holds a number. -/
def Ml (w : World) : Prop := ∃ m, w.cell? ⟨4, 0, none⟩ = some (.int .i64 m)
theorem Ml.below {w w' : World} (h : Ml w) (hb : Below w.heap.size w w') : Ml w' := by
  obtain ⟨m, hm⟩ := h
  exact ⟨m, (hb.cell (World.block_lt_of_cell? _ _ hm)).trans hm⟩

/-- The five parts at most. -/
def cut5 (t : Tx) : List Tx := Lib.splitK [32] 0 (min 5 (t.length + 1) - 1) t
theorem split_any (s : ByteArray) (w : World) (hs : s.size < 4294967281) (hM : Ml w) :
    Calls Tryd.prog 39 #[.string s, .string ⟨#[32]⟩, .int .i64 5] w fun e w' => (∃ v, e = .returned v ∧ Txs w.heap.size w' v (cut5 s.data.toList)) ∧ Below w.heap.size w w' := by
  obtain ⟨m, hm⟩ := hM
  refine (Shl.strings_SplitN s ⟨#[32]⟩ 5 m w hs hm (by decide) (by decide) (by decide)).mono fun e w' ⟨he, hw⟩ => ?_
  have hlen : s.data.toList.length = s.size := by simp
  have hd := Lib.splitB_data ⟨#[32]⟩ 0 (min 5 (s.size + 1) - 1) s
  have hle := Lib.splitB_length_le ⟨#[32]⟩ 0 (min 5 (s.size + 1) - 1) s
  have hcut : (Lib.splitB ⟨#[32]⟩ 0 (min 5 (s.size + 1) - 1) s).map (·.data.toList) = cut5 s.data.toList := by
    rw [hd]
    unfold cut5
    rw [hlen]
  generalize Lib.splitB ⟨#[32]⟩ 0 (min 5 (s.size + 1) - 1) s = P at *
  have hPl : P.length = (cut5 s.data.toList).length := by rw [← hcut]; simp
  refine ⟨⟨_, he, _, _, by rw [hPl], by omega, by omega, .inr ⟨w.heap.size, 0, rfl, Nat.le_refl _, by rw [hw]; simp, fun j hj => ?_⟩⟩, by rw [hw]; exact (Below.refl _ _).alloc (Nat.le_refl _) _⟩
  rw [hw, World.cell?_alloc_at _ _ _ _ rfl]
  have hj' : j < P.length := by omega
  unfold Lib.cellsOf
  rw [List.getElem?_toArray, List.getElem?_append_left (by simpa using by omega), List.getElem?_map, List.getElem?_eq_getElem (by omega)]
  have : (cut5 s.data.toList)[j] = (P[j]'hj').data.toList := by
    simp only [← hcut, List.getElem_map]
  rw [this]
  simp [st_mk]
theorem slice1 (b off n cap : Nat) (h : n + 1 ≤ cap) (hc : cap ≤ 1000) :
    ∃ off', (∀ w, (Instr.slice 59 (.slice (some ⟨b, off, none⟩) (n + 1) cap) (some (.int .i64 1)) none none).run Tryd.prog w = .ok (.slice (some ⟨b, off', none⟩) n (cap - 1)) w) ∧ (1 ≤ n → off' = off + 1) := by
  by_cases hc1 : cap = 1
  · subst hc1
    obtain rfl : n = 0 := by omega
    refine ⟨off, fun w => ?_, by omega⟩
    simp [Instr.slice, go_sem]
  · refine ⟨off + 1, fun w => ?_, fun _ => rfl⟩
    simp [Instr.slice, go_sem]
    rw [if_pos (by omega), if_neg hc1]
/-- The head's cell, and the tail's slice. -/
theorem Txs.open {B : Nat} {w : World} {v : Value} {t : Tx} {r : List Tx} (h : Txs B w v (t :: r)) :
    ∃ b off cap off', v = .slice (some ⟨b, off, none⟩) (r.length + 1) cap ∧ w.cell? ⟨b, off, none⟩ = some (.string (st t)) ∧
      (∀ w, (Instr.slice 59 (.slice (some ⟨b, off, none⟩) (r.length + 1) cap) (some (.int .i64 1)) none none).run Tryd.prog w = .ok (.slice (some ⟨b, off', none⟩) r.length (cap - 1)) w) ∧
      Txs B w (.slice (some ⟨b, off', none⟩) r.length (cap - 1)) r := by
  obtain ⟨a, cap, rfl, h2, h3, h4⟩ := h
  rcases h4 with h4 | ⟨b, off, rfl, hB, hlt, hc⟩
  · cases h4
  · simp at h2
    obtain ⟨off', hsl, ho⟩ := slice1 b off r.length cap h2 h3
    refine ⟨b, off, cap, off', by simp, by have := hc 0 (by simp); simpa using this, hsl, _, _, rfl, by omega, by omega, ?_⟩
    by_cases hr : r = []
    · exact .inl hr
    · have : 1 ≤ r.length := by cases r with | nil => exact absurd rfl hr | cons x y => simp
      obtain rfl := ho this
      exact .inr ⟨b, off + 1, rfl, hB, hlt, fun j hj => by have := hc (j + 1) (by simpa using hj); rw [Nat.add_assoc, Nat.add_comm 1 j]; simpa using this⟩
def E3 (k : Nat) (a b i : Int) (l : Tx) (st : List Tx) : Option ((Int × Int × Int) × Tx) := if st = [] ∧ Fits k a b i then some ((a, b, i), l) else none
def E2 (k : Nat) (a b : Int) (st : List Tx) : Option ((Int × Int × Int) × Tx) := match eat (mI k) (isJ k) st with | none => none | some (i, l, s3) => E3 k a b i l s3
def E1 (k : Nat) (a : Int) (st : List Tx) : Option ((Int × Int × Int) × Tx) := match eat (mB k) false st with | none => none | some (b, _, s2) => E2 k a b s2
theorem eats_E (k : Nat) (st : List Tx) : eats k st = (match eat (mA k) false st with | none => none | some (a, _, s1) => E1 k a s1) := rfl
/-- What is left to be found behind j fields. -/
def ER (k : Nat) (j : Int) (a b i : Int) (l : Tx) (st : List Tx) : Option ((Int × Int × Int) × Tx) := if j = 0 then eats k st else if j = 1 then E1 k a st else if j = 2 then E2 k a b st else E3 k a b i l st
theorem eat_zero (j : Bool) (st : List Tx) : eat 0 j st = some (0, [], st) := by unfold eat; rw [if_pos rfl]
theorem eat_nil {m : Int} (h : m ≠ 0) (j : Bool) : eat m j [] = none := by unfold eat; rw [if_neg h]
theorem eat_name {m : Int} (h : m ≠ 0) {t : Tx} (hn : isNm t = true) (r : List Tx) : eat m true (t :: r) = some (0, t, r) := by unfold eat; rw [if_neg h]; simp [hn]
theorem eat_num {m : Int} (h : m ≠ 0) {j : Bool} {t : Tx} (hn : (j && isNm t) = false) {v : Int} (hw : whole t = some v) (r : List Tx) : eat m j (t :: r) = some (v, [], r) := by unfold eat; rw [if_neg h]; simp [hn, hw]
theorem eat_bad {m : Int} (h : m ≠ 0) {j : Bool} {t : Tx} (hn : (j && isNm t) = false) (hw : whole t = none) (r : List Tx) : eat m j (t :: r) = none := by unfold eat; rw [if_neg h]; simp [hn, hw]

/-- What parse answers. -/
def parseV : Option ((Nat × Int × Int × Int) × Tx) → Value
  | some ((k, a, b, i), l) => .tuple #[insV k a b i, .string (st l), .bool true]
  | none => .tuple #[insV 0 0 0 0, .string ⟨#[]⟩, .bool false]
def upV (k : Nat) : Option ((Int × Int × Int) × Tx) → Option ((Nat × Int × Int × Int) × Tx)
  | some ((a, b, i), l) => some ((k, a, b, i), l)
  | none => none

theorem er0_zero {k : Nat} (h : mA k = 0) (st : List Tx) : ER k 0 0 0 0 [] st = ER k 1 0 0 0 [] st := by
  show eats k st = E1 k 0 st
  rw [eats_E, h, eat_zero]
theorem er0_nil {k : Nat} (h : mA k ≠ 0) : ER k 0 0 0 0 [] [] = none := by
  show eats k [] = _
  rw [eats_E, eat_nil h]
theorem er0_bad {k : Nat} (h : mA k ≠ 0) {t : Tx} (hw : whole t = none) (r : List Tx) : ER k 0 0 0 0 [] (t :: r) = none := by
  show eats k _ = _
  rw [eats_E, eat_bad h rfl hw]
theorem er0_num {k : Nat} (h : mA k ≠ 0) {t : Tx} {v : Int} (hw : whole t = some v) (r : List Tx) : ER k 0 0 0 0 [] (t :: r) = ER k 1 v 0 0 [] r := by
  show eats k _ = E1 k v r
  rw [eats_E, eat_num h rfl hw]
theorem er1_zero {k : Nat} (h : mB k = 0) (a : Int) (st : List Tx) : ER k 1 a 0 0 [] st = ER k 2 a 0 0 [] st := by
  show E1 k a st = E2 k a 0 st
  unfold E1
  rw [h, eat_zero]
theorem er1_nil {k : Nat} (h : mB k ≠ 0) (a : Int) : ER k 1 a 0 0 [] [] = none := by
  show E1 k a [] = _
  unfold E1
  rw [eat_nil h]
theorem er1_bad {k : Nat} (h : mB k ≠ 0) {t : Tx} (hw : whole t = none) (a : Int) (r : List Tx) : ER k 1 a 0 0 [] (t :: r) = none := by
  show E1 k a _ = _
  unfold E1
  rw [eat_bad h rfl hw]
theorem er1_num {k : Nat} (h : mB k ≠ 0) {t : Tx} {v : Int} (hw : whole t = some v) (a : Int) (r : List Tx) : ER k 1 a 0 0 [] (t :: r) = ER k 2 a v 0 [] r := by
  show E1 k a _ = E2 k a v r
  unfold E1
  rw [eat_num h rfl hw]
theorem er2_zero {k : Nat} (h : mI k = 0) (a b : Int) (st : List Tx) : ER k 2 a b 0 [] st = ER k 3 a b 0 [] st := by
  show E2 k a b st = E3 k a b 0 [] st
  unfold E2
  rw [h, eat_zero]
theorem er2_nil {k : Nat} (h : mI k ≠ 0) (a b : Int) : ER k 2 a b 0 [] [] = none := by
  show E2 k a b [] = _
  unfold E2
  rw [eat_nil h]
theorem er2_bad {k : Nat} (h : mI k ≠ 0) {t : Tx} (hn : (isJ k && isNm t) = false) (hw : whole t = none) (a b : Int) (r : List Tx) : ER k 2 a b 0 [] (t :: r) = none := by
  show E2 k a b _ = _
  unfold E2
  rw [eat_bad h hn hw]
theorem er2_num {k : Nat} (h : mI k ≠ 0) {t : Tx} {v : Int} (hn : (isJ k && isNm t) = false) (hw : whole t = some v) (a b : Int) (r : List Tx) : ER k 2 a b 0 [] (t :: r) = ER k 3 a b v [] r := by
  show E2 k a b _ = E3 k a b v [] r
  unfold E2
  rw [eat_num h hn hw]
theorem er2_name {k : Nat} (h : mI k ≠ 0) {t : Tx} (hj : isJ k = true) (hn : isNm t = true) (a b : Int) (r : List Tx) : ER k 2 a b 0 [] (t :: r) = ER k 3 a b 0 t r := by
  show E2 k a b _ = E3 k a b 0 t r
  unfold E2
  rw [hj, eat_name h hn]
theorem splitK_le : ∀ (m : Nat) (t : Tx), ∀ x ∈ Lib.splitK [32] 0 m t, x.length ≤ t.length
  | 0, t, x, h => by simp [Lib.splitK] at h; rw [h]; exact Nat.le_refl _
  | m + 1, t, x, h => by
    unfold Lib.splitK at h
    split at h
    · simp at h; rw [h]; exact Nat.le_refl _
    · rcases List.mem_cons.1 h with h | h
      · rw [h]; simp; omega
      · have := splitK_le m _ x h
        simp at this
        omega

set_option maxRecDepth 1000000 in
set_option maxHeartbeats 16000000 in
theorem parse_walk (s : ByteArray) (w : World) (hs : s.size < 4294967281) (hT : Tabs w) (hM : Ml w) (h : Tx) (st0 : List Tx) (hcut : cut5 s.data.toList = h :: st0) (k : Nat) (hop : opOf h = some k) (hk : k < 30) :
    Calls Tryd.prog 62 #[.string s] w fun e w' => e = .returned (parseV (upV k (eats k st0))) ∧ Below w.heap.size w w' := by
  have HT := Lib.hid hT
  have HM := Lib.hid hM
  have h0 := hT.lt
  have HL0 : Hid (∀ t ∈ st0, t.length ≤ s.size) := Lib.hid (fun x hx => by
    have := splitK_le _ _ x (show x ∈ cut5 s.data.toList by rw [hcut]; simp [hx])
    simpa using this)
  have hsp := fun wx (hx : Ml wx) => split_any s wx hs hx
  rw [hcut] at hsp
  have HSP := Lib.hid hsp
  have hfd := fun wx (hx : Tabs wx) => find_any (st h) wx hx
  rw [st_data, hop] at hfd
  unfold findV at hfd
  have HF := Lib.hid hfd
  have hcl := fun wx (hx : Tabs wx) => hx.cells k hk
  have hck := fun wx (hx : Tabs wx) a b i => check_in k hk a b i wx hx
  generalize hR : parseV (upV k (eats k st0)) = R
  have HR := Lib.hid hR
  obtain ⟨A, hA⟩ : ∃ A, mA k = A := ⟨_, rfl⟩
  obtain ⟨B, hB⟩ : ∃ B, mB k = B := ⟨_, rfl⟩
  obtain ⟨I, hI⟩ : ∃ I, mI k = I := ⟨_, rfl⟩
  rw [hA, hB, hI] at hcl
  have HA := Lib.hid hA
  have HB := Lib.hid hB
  have HI := Lib.hid hI
  have HCL := Lib.hid hcl
  have HCK := Lib.hid hck
  clear hsp hfd hT hM hop hcut hcl hA hB hI hR hck
  go_enter Tryd.func62, Tryd.ntmps62
  go_wp2_with (first
    | (go_at_call 39; ((with_reducible refine (HSP.out _ (HM.out.below (((Below.refl _ _).alloc (Nat.le_refl _) _).alloc (by simp) _))).mono ?_); rintro e w1 ⟨⟨v, rfl, htx⟩, hb⟩; refine Hid.out ?_)))
  refine Lib.hid ?_
  have K2 : Blk w1 w.heap.size #[.int .i64 0, .int .i64 0, .int .i64 0, .int .i64 0] 54 := Blk.below (Blk.below (Blk.new _ _ _) ((Below.refl _ _).alloc (Nat.le_refl _) _)) hb
  have K5 : Blk w1 (w.heap.size + 1) #[.int .i64 0, .int .i64 0, .int .i64 0] 117 := by
    have := Blk.new (w.alloc (.cells #[.int .i64 0, .int .i64 0, .int .i64 0, .int .i64 0] 54)) #[.int .i64 0, .int .i64 0, .int .i64 0] 117
    have e : (w.alloc (.cells #[.int .i64 0, .int .i64 0, .int .i64 0, .int .i64 0] 54)).heap.size = w.heap.size + 1 := by simp
    rw [e] at this
    exact this.below hb
  have hB1 : Below w.heap.size w w1 := (((Below.refl _ _).alloc (Nat.le_refl _) _).alloc (by simp) _).trans (hb.mono (by simp; omega))
  have htx2 : Txs (w.heap.size + 2) w1 v (h :: st0) := by simpa using htx
  clear htx hb
  obtain ⟨b, off, cap, off', rfl, hcell, hsl, htx⟩ := htx2.open
  clear htx2
  go_wp2_with (first
    | (go_at_call 79; ((with_reducible refine (HF.out _ (HT.out.below hB1)).mono ?_); rintro e w2 ⟨rfl, hb2⟩; have hB2 := hB1.trans (hb2.mono hB1.size); have J2 := K2.below hb2; have J5 := K5.below hb2; have htx2 := htx.below hb2; have hcl := HCL.out w2 (HT.out.below hB2); obtain ⟨d0, d1, d2, d3⟩ := hcl; clear d0)))
  clear d1 d2 d3 hcell hsl hB1 K2 K5 htx hb2
  go_loopw [3, 6, 28] (fun s3 s6 t wr => ∃ (j : Int) (l : Tx) (sl : List Tx) (a b i : Int), 0 ≤ j ∧ j ≤ 3 ∧ t = .int .i64 j ∧ s3 = .string (st l) ∧ Txs (w.heap.size + 2) wr s6 sl ∧ Blk wr w.heap.size #[.int .i64 0, .int .i64 0, .int .i64 0, .int .i64 0] 54 ∧ Blk wr (w.heap.size + 1) #[.int .i64 a, .int .i64 b, .int .i64 i] 117 ∧ Below w.heap.size w wr ∧ Hid (eats k st0 = ER k j a b i l sl) ∧ Hid ((j ≤ 2 → i = 0 ∧ l = []) ∧ (j ≤ 1 → b = 0) ∧ (j ≤ 0 → a = 0)) ∧ Hid (∀ t ∈ sl, t.length ≤ s.size)) (fun _ _ t _ => 3 - (intOf t).toNat)
  case atStart => exact ⟨0, [], st0, 0, 0, 0, by omega, by omega, rfl, rfl, htx2, J2, J5, hB2, Lib.hid rfl, Lib.hid ⟨fun _ => ⟨rfl, rfl⟩, fun _ => rfl, fun _ => rfl⟩, HL0⟩
  case round =>
    obtain ⟨j, l, sl, a, b, i, hj0, hj, rfl, rfl, htx, K2, K5, hbw, hp, hz, HL⟩ := hrel
    clear htx2 J2 J5 hB2
    have hcs : j = 0 ∨ j = 1 ∨ j = 2 ∨ j = 3 := by omega
    rcases hcs with rfl | rfl | rfl | rfl <;> clear hj0 hj
    · -- field 0
      obtain ⟨rfl, rfl⟩ := (hz.out.1 (by omega)); obtain rfl := hz.out.2.1 (by omega); obtain rfl := hz.out.2.2 (by omega)
      clear hz
      have i0 := fun wx => ix0 A B I wx
      by_cases hm : A = 0
      · have hmq : (A == 0) = true := by simp [hm]
        have HP2 : Hid (eats k st0 = ER k 1 0 0 0 [] sl) := Lib.hid (hp.out.trans (er0_zero (HA.out.trans hm) sl))
        clear hm
        go_wp2_with fail
        go_roundw
        case rel => exact ⟨1, [], sl, 0, 0, 0, by omega, by omega, rfl, rfl, htx, K2, K5, hbw, HP2, Lib.hid ⟨fun _ => ⟨rfl, rfl⟩, fun _ => rfl, fun h => by omega⟩, HL⟩
        case measure => simp [intOf]
      · have hmq : (A == 0) = false := by simpa using hm
        have hM0 : mA k ≠ 0 := fun e => hm (HA.out.symm.trans e)
        clear hm
        cases sl with
        | nil =>
          have HN := Lib.hid (show parseV none = R by rw [← HR.out, hp.out, er0_nil hM0]; rfl)
          obtain ⟨ad, cp, rfl, -, -, -⟩ := htx
          have q0 := K2.cell 0
          have q1 := K2.cell 1
          have q2 := K2.cell 2
          have q3 := K2.cell 3
          have f0 := K2.free 0
          have f1 := K2.free 1
          have f2 := K2.free 2
          have f3 := K2.free 3
          clear hM0
          go_wp2_with fail
          obtain ⟨g0, g1, g2, g3⟩ := set4 wr w.heap.size (.int .i64 0) (.int .i64 0) (.int .i64 0) (.int .i64 0) (.int .i64 0) (.int .i64 0) (.int .i64 0) (.int .i64 0) (K2.cell 0) (K2.cell 1) (K2.cell 2) (K2.cell 3)
          exact bodyPost_ret (v := .tuple #[insV 0 0 0 0, .string ⟨#[]⟩, .bool false]) (by simp [results, Tryd.results62, go_sem, g0, g1, g2, g3, insV]) rfl ⟨congrArg Ending.returned HN.out, ((((hbw).setCell (Nat.le_refl _) _).setCell (Nat.le_refl _) _).setCell (Nat.le_refl _) _).setCell (Nat.le_refl _) _⟩
        | cons t r =>
          have hle : (st t).size ≤ 9223372036854775807 := by have := HL.out t (by simp); rw [st_size]; omega
          have HL2 : Hid (∀ t ∈ r, t.length ≤ s.size) := Lib.hid (fun x hx => HL.out x (by simp [hx]))
          obtain ⟨bb, off, cap, off', rfl, hcell, hsl, htx⟩ := htx.open
          have hwh := fun wx => whole_any (st t) wx hle
          rw [st_data] at hwh
          cases hw : whole t with
          | none =>
            have HN := Lib.hid (show parseV none = R by rw [← HR.out, hp.out, er0_bad hM0 hw]; rfl)
            rw [hw] at hwh
            unfold wholeV at hwh
            have HW := Lib.hid hwh
            clear hwh hw hM0
            have c0 := K5.cell 0
            have c1 := K5.cell 1
            have c2 := K5.cell 2
            have e0 := K5.free 0
            have e1 := K5.free 1
            have e2 := K5.free 2
            have q0 := K2.cell 0
            have q1 := K2.cell 1
            have q2 := K2.cell 2
            have q3 := K2.cell 3
            have f0 := K2.free 0
            have f1 := K2.free 1
            have f2 := K2.free 2
            have f3 := K2.free 3
            have hsz1 := K5.lt
            have hsz2 := K2.lt
            go_wp2_with (first | (go_at_call 81; ((with_reducible refine (HW.out _).mono ?_); rintro e w4 ⟨rfl, rfl⟩)))
            have K2n := (Blk.other K2 (w.heap.size + 1) 0 (.int .i64 0) (by omega))
            obtain ⟨g0, g1, g2, g3⟩ := set4 (wr.setCell ⟨w.heap.size + 1, 0, none⟩ (.int .i64 0)) w.heap.size (.int .i64 0) (.int .i64 0) (.int .i64 0) (.int .i64 0) (.int .i64 0) (.int .i64 0) (.int .i64 0) (.int .i64 0) (K2n.cell 0) (K2n.cell 1) (K2n.cell 2) (K2n.cell 3)
            exact bodyPost_ret (v := .tuple #[insV 0 0 0 0, .string ⟨#[]⟩, .bool false]) (by simp [results, Tryd.results62, go_sem, g0, g1, g2, g3, insV]) rfl ⟨congrArg Ending.returned HN.out, (((((hbw).setCell (by show w.heap.size ≤ w.heap.size + 1; omega) _).setCell (Nat.le_refl _) _).setCell (Nat.le_refl _) _).setCell (Nat.le_refl _) _).setCell (Nat.le_refl _) _⟩
          | some v =>
            have HP2 : Hid (eats k st0 = ER k 1 v 0 0 [] r) := Lib.hid (hp.out.trans (er0_num hM0 hw r))
            rw [hw] at hwh
            unfold wholeV at hwh
            have HW := Lib.hid hwh
            clear hwh hw hM0
            have c0 := K5.cell 0
            have c1 := K5.cell 1
            have c2 := K5.cell 2
            have e0 := K5.free 0
            have e1 := K5.free 1
            have e2 := K5.free 2
            have q0 := K2.cell 0
            have q1 := K2.cell 1
            have q2 := K2.cell 2
            have q3 := K2.cell 3
            have f0 := K2.free 0
            have f1 := K2.free 1
            have f2 := K2.free 2
            have f3 := K2.free 3
            have hsz1 := K5.lt
            have hsz2 := K2.lt
            go_wp2_with (first | (go_at_call 81; ((with_reducible refine (HW.out _).mono ?_); rintro e w4 ⟨rfl, rfl⟩)))
            go_roundw
            case rel => exact ⟨1, [], r, v, 0, 0, by omega, by omega, rfl, rfl, Txs.set htx _ _ _ (by omega), Blk.other K2 _ _ _ (by omega), Blk.set K5 0 _, (hbw).setCell (by show w.heap.size ≤ w.heap.size + 1; omega) _, HP2, Lib.hid ⟨fun _ => ⟨rfl, rfl⟩, fun _ => rfl, fun h => by omega⟩, HL2⟩
            case measure => simp [intOf]
    · -- field 1
      obtain ⟨rfl, rfl⟩ := (hz.out.1 (by omega)); obtain rfl := hz.out.2.1 (by omega)
      clear hz
      have i1 := fun wx => ix1 A B I wx
      by_cases hm : B = 0
      · have hmq : (B == 0) = true := by simp [hm]
        have HP2 : Hid (eats k st0 = ER k 2 a 0 0 [] sl) := Lib.hid (hp.out.trans (er1_zero (HB.out.trans hm) a sl))
        clear hm
        go_wp2_with fail
        go_roundw
        case rel => exact ⟨2, [], sl, a, 0, 0, by omega, by omega, rfl, rfl, htx, K2, K5, hbw, HP2, Lib.hid ⟨fun _ => ⟨rfl, rfl⟩, fun h => by omega, fun h => by omega⟩, HL⟩
        case measure => simp [intOf]
      · have hmq : (B == 0) = false := by simpa using hm
        have hM0 : mB k ≠ 0 := fun e => hm (HB.out.symm.trans e)
        clear hm
        cases sl with
        | nil =>
          have HN := Lib.hid (show parseV none = R by rw [← HR.out, hp.out, er1_nil hM0 a]; rfl)
          obtain ⟨ad, cp, rfl, -, -, -⟩ := htx
          have q0 := K2.cell 0
          have q1 := K2.cell 1
          have q2 := K2.cell 2
          have q3 := K2.cell 3
          have f0 := K2.free 0
          have f1 := K2.free 1
          have f2 := K2.free 2
          have f3 := K2.free 3
          clear hM0
          go_wp2_with fail
          obtain ⟨g0, g1, g2, g3⟩ := set4 wr w.heap.size (.int .i64 0) (.int .i64 0) (.int .i64 0) (.int .i64 0) (.int .i64 0) (.int .i64 0) (.int .i64 0) (.int .i64 0) (K2.cell 0) (K2.cell 1) (K2.cell 2) (K2.cell 3)
          exact bodyPost_ret (v := .tuple #[insV 0 0 0 0, .string ⟨#[]⟩, .bool false]) (by simp [results, Tryd.results62, go_sem, g0, g1, g2, g3, insV]) rfl ⟨congrArg Ending.returned HN.out, ((((hbw).setCell (Nat.le_refl _) _).setCell (Nat.le_refl _) _).setCell (Nat.le_refl _) _).setCell (Nat.le_refl _) _⟩
        | cons t r =>
          have hle : (st t).size ≤ 9223372036854775807 := by have := HL.out t (by simp); rw [st_size]; omega
          have HL2 : Hid (∀ t ∈ r, t.length ≤ s.size) := Lib.hid (fun x hx => HL.out x (by simp [hx]))
          obtain ⟨bb, off, cap, off', rfl, hcell, hsl, htx⟩ := htx.open
          have hwh := fun wx => whole_any (st t) wx hle
          rw [st_data] at hwh
          cases hw : whole t with
          | none =>
            have HN := Lib.hid (show parseV none = R by rw [← HR.out, hp.out, er1_bad hM0 hw a]; rfl)
            rw [hw] at hwh
            unfold wholeV at hwh
            have HW := Lib.hid hwh
            clear hwh hw hM0
            have c0 := K5.cell 0
            have c1 := K5.cell 1
            have c2 := K5.cell 2
            have e0 := K5.free 0
            have e1 := K5.free 1
            have e2 := K5.free 2
            have q0 := K2.cell 0
            have q1 := K2.cell 1
            have q2 := K2.cell 2
            have q3 := K2.cell 3
            have f0 := K2.free 0
            have f1 := K2.free 1
            have f2 := K2.free 2
            have f3 := K2.free 3
            have hsz1 := K5.lt
            have hsz2 := K2.lt
            go_wp2_with (first | (go_at_call 81; ((with_reducible refine (HW.out _).mono ?_); rintro e w4 ⟨rfl, rfl⟩)))
            have K2n := (Blk.other K2 (w.heap.size + 1) 1 (.int .i64 0) (by omega))
            obtain ⟨g0, g1, g2, g3⟩ := set4 (wr.setCell ⟨w.heap.size + 1, 1, none⟩ (.int .i64 0)) w.heap.size (.int .i64 0) (.int .i64 0) (.int .i64 0) (.int .i64 0) (.int .i64 0) (.int .i64 0) (.int .i64 0) (.int .i64 0) (K2n.cell 0) (K2n.cell 1) (K2n.cell 2) (K2n.cell 3)
            exact bodyPost_ret (v := .tuple #[insV 0 0 0 0, .string ⟨#[]⟩, .bool false]) (by simp [results, Tryd.results62, go_sem, g0, g1, g2, g3, insV]) rfl ⟨congrArg Ending.returned HN.out, (((((hbw).setCell (by show w.heap.size ≤ w.heap.size + 1; omega) _).setCell (Nat.le_refl _) _).setCell (Nat.le_refl _) _).setCell (Nat.le_refl _) _).setCell (Nat.le_refl _) _⟩
          | some v =>
            have HP2 : Hid (eats k st0 = ER k 2 a v 0 [] r) := Lib.hid (hp.out.trans (er1_num hM0 hw a r))
            rw [hw] at hwh
            unfold wholeV at hwh
            have HW := Lib.hid hwh
            clear hwh hw hM0
            have c0 := K5.cell 0
            have c1 := K5.cell 1
            have c2 := K5.cell 2
            have e0 := K5.free 0
            have e1 := K5.free 1
            have e2 := K5.free 2
            have q0 := K2.cell 0
            have q1 := K2.cell 1
            have q2 := K2.cell 2
            have q3 := K2.cell 3
            have f0 := K2.free 0
            have f1 := K2.free 1
            have f2 := K2.free 2
            have f3 := K2.free 3
            have hsz1 := K5.lt
            have hsz2 := K2.lt
            go_wp2_with (first | (go_at_call 81; ((with_reducible refine (HW.out _).mono ?_); rintro e w4 ⟨rfl, rfl⟩)))
            go_roundw
            case rel => exact ⟨2, [], r, a, v, 0, by omega, by omega, rfl, rfl, Txs.set htx _ _ _ (by omega), Blk.other K2 _ _ _ (by omega), Blk.set K5 1 _, (hbw).setCell (by show w.heap.size ≤ w.heap.size + 1; omega) _, HP2, Lib.hid ⟨fun _ => ⟨rfl, rfl⟩, fun h => by omega, fun h => by omega⟩, HL2⟩
            case measure => simp [intOf]
    · -- field 2
      obtain ⟨rfl, rfl⟩ := (hz.out.1 (by omega))
      clear hz
      have i2 := fun wx => ix2 A B I wx
      by_cases hm : I = 0
      · have hmq : (I == 0) = true := by simp [hm]
        have HP2 : Hid (eats k st0 = ER k 3 a b 0 [] sl) := Lib.hid (hp.out.trans (er2_zero (HI.out.trans hm) a b sl))
        clear hm
        go_wp2_with fail
        go_roundw
        case rel => exact ⟨3, [], sl, a, b, 0, by omega, by omega, rfl, rfl, htx, K2, K5, hbw, HP2, Lib.hid ⟨fun h => by omega, fun h => by omega, fun h => by omega⟩, HL⟩
        case measure => simp [intOf]
      · have hmq : (I == 0) = false := by simpa using hm
        have hM0 : mI k ≠ 0 := fun e => hm (HI.out.symm.trans e)
        clear hm
        cases sl with
        | nil =>
          have HN := Lib.hid (show parseV none = R by rw [← HR.out, hp.out, er2_nil hM0 a b]; rfl)
          obtain ⟨ad, cp, rfl, -, -, -⟩ := htx
          have q0 := K2.cell 0
          have q1 := K2.cell 1
          have q2 := K2.cell 2
          have q3 := K2.cell 3
          have f0 := K2.free 0
          have f1 := K2.free 1
          have f2 := K2.free 2
          have f3 := K2.free 3
          clear hM0
          go_wp2_with fail
          obtain ⟨g0, g1, g2, g3⟩ := set4 wr w.heap.size (.int .i64 0) (.int .i64 0) (.int .i64 0) (.int .i64 0) (.int .i64 0) (.int .i64 0) (.int .i64 0) (.int .i64 0) (K2.cell 0) (K2.cell 1) (K2.cell 2) (K2.cell 3)
          exact bodyPost_ret (v := .tuple #[insV 0 0 0 0, .string ⟨#[]⟩, .bool false]) (by simp [results, Tryd.results62, go_sem, g0, g1, g2, g3, insV]) rfl ⟨congrArg Ending.returned HN.out, ((((hbw).setCell (Nat.le_refl _) _).setCell (Nat.le_refl _) _).setCell (Nat.le_refl _) _).setCell (Nat.le_refl _) _⟩
        | cons t r =>
          have hle : (st t).size ≤ 9223372036854775807 := by have := HL.out t (by simp); rw [st_size]; omega
          have HL2 : Hid (∀ t ∈ r, t.length ≤ s.size) := Lib.hid (fun x hx => HL.out x (by simp [hx]))
          obtain ⟨bb, off, cap, off', rfl, hcell, hsl, htx⟩ := htx.open
          have hwh := fun wx => whole_any (st t) wx hle
          rw [st_data] at hwh
          cases hj : isJ k with
          | false =>
            have HJ := Lib.hid (fun wx => isJump_any k wx)
            rw [hj] at HJ
            have hcond : (isJ k && isNm t) = false := by rw [hj]; rfl
            cases hw : whole t with
            | none =>
              have HN := Lib.hid (show parseV none = R by rw [← HR.out, hp.out, er2_bad hM0 hcond hw a b]; rfl)
              rw [hw] at hwh
              unfold wholeV at hwh
              have HW := Lib.hid hwh
              clear hwh hw hM0 hcond hj
              have c0 := K5.cell 0
              have c1 := K5.cell 1
              have c2 := K5.cell 2
              have e0 := K5.free 0
              have e1 := K5.free 1
              have e2 := K5.free 2
              have q0 := K2.cell 0
              have q1 := K2.cell 1
              have q2 := K2.cell 2
              have q3 := K2.cell 3
              have f0 := K2.free 0
              have f1 := K2.free 1
              have f2 := K2.free 2
              have f3 := K2.free 3
              have hsz1 := K5.lt
              have hsz2 := K2.lt
              go_wp2_with (first | (go_at_call 80; ((with_reducible refine (HJ.out _).mono ?_); rintro e w5 ⟨rfl, rfl⟩)) | (go_at_call 81; ((with_reducible refine (HW.out _).mono ?_); rintro e w4 ⟨rfl, rfl⟩)))
              have K2n := (Blk.other K2 (w.heap.size + 1) 2 (.int .i64 0) (by omega))
              obtain ⟨g0, g1, g2, g3⟩ := set4 (wr.setCell ⟨w.heap.size + 1, 2, none⟩ (.int .i64 0)) w.heap.size (.int .i64 0) (.int .i64 0) (.int .i64 0) (.int .i64 0) (.int .i64 0) (.int .i64 0) (.int .i64 0) (.int .i64 0) (K2n.cell 0) (K2n.cell 1) (K2n.cell 2) (K2n.cell 3)
              exact bodyPost_ret (v := .tuple #[insV 0 0 0 0, .string ⟨#[]⟩, .bool false]) (by simp [results, Tryd.results62, go_sem, g0, g1, g2, g3, insV]) rfl ⟨congrArg Ending.returned HN.out, (((((hbw).setCell (by show w.heap.size ≤ w.heap.size + 1; omega) _).setCell (Nat.le_refl _) _).setCell (Nat.le_refl _) _).setCell (Nat.le_refl _) _).setCell (Nat.le_refl _) _⟩
            | some v =>
              have HP2 : Hid (eats k st0 = ER k 3 a b v [] r) := Lib.hid (hp.out.trans (er2_num hM0 hcond hw a b r))
              rw [hw] at hwh
              unfold wholeV at hwh
              have HW := Lib.hid hwh
              clear hwh hw hM0 hcond hj
              have c0 := K5.cell 0
              have c1 := K5.cell 1
              have c2 := K5.cell 2
              have e0 := K5.free 0
              have e1 := K5.free 1
              have e2 := K5.free 2
              have q0 := K2.cell 0
              have q1 := K2.cell 1
              have q2 := K2.cell 2
              have q3 := K2.cell 3
              have f0 := K2.free 0
              have f1 := K2.free 1
              have f2 := K2.free 2
              have f3 := K2.free 3
              have hsz1 := K5.lt
              have hsz2 := K2.lt
              go_wp2_with (first | (go_at_call 80; ((with_reducible refine (HJ.out _).mono ?_); rintro e w5 ⟨rfl, rfl⟩)) | (go_at_call 81; ((with_reducible refine (HW.out _).mono ?_); rintro e w4 ⟨rfl, rfl⟩)))
              go_roundw
              case rel => exact ⟨3, [], r, a, b, v, by omega, by omega, rfl, rfl, Txs.set htx _ _ _ (by omega), Blk.other K2 _ _ _ (by omega), Blk.set K5 2 _, (hbw).setCell (by show w.heap.size ≤ w.heap.size + 1; omega) _, HP2, Lib.hid ⟨fun h => by omega, fun h => by omega, fun h => by omega⟩, HL2⟩
              case measure => simp [intOf]
          | true =>
            have HJ := Lib.hid (fun wx => isJump_any k wx)
            rw [hj] at HJ
            have hnm := fun wx => isName_any (st t) wx hle
            rw [st_data] at hnm
            cases hn : isNm t with
            | true =>
              have HP2 : Hid (eats k st0 = ER k 3 a b 0 t r) := Lib.hid (hp.out.trans (er2_name hM0 hj hn a b r))
              rw [hn] at hnm
              have HNM := Lib.hid hnm
              clear hnm hwh hn hj hM0
              go_wp2_with (first | (go_at_call 80; ((with_reducible refine (HJ.out _).mono ?_); rintro e w5 ⟨rfl, rfl⟩)) | (go_at_call 77; ((with_reducible refine (HNM.out _).mono ?_); rintro e w6 ⟨rfl, hb6⟩; have hcell6 := (hb6.cell (cell_lt hcell)).trans hcell)))
              go_roundw
              case rel => exact ⟨3, t, r, a, b, 0, by omega, by omega, rfl, rfl, htx.below hb6, K2.below hb6, K5.below hb6, hbw.trans (hb6.mono hbw.size), HP2, Lib.hid ⟨fun h => by omega, fun h => by omega, fun h => by omega⟩, HL2⟩
              case measure => simp [intOf]
            | false =>
              have hcond : (isJ k && isNm t) = false := by rw [hj, hn]; rfl
              rw [hn] at hnm
              have HNM := Lib.hid hnm
              cases hw : whole t with
              | none =>
                have HN := Lib.hid (show parseV none = R by rw [← HR.out, hp.out, er2_bad hM0 hcond hw a b]; rfl)
                rw [hw] at hwh
                unfold wholeV at hwh
                have HW := Lib.hid hwh
                clear hwh hw hM0 hcond hj hn hnm
                go_wp2_with (first | (go_at_call 80; ((with_reducible refine (HJ.out _).mono ?_); rintro e w5 ⟨rfl, rfl⟩)) | (go_at_call 77; ((with_reducible refine (HNM.out _).mono ?_); rintro e w6 ⟨rfl, hb6⟩; have hcell6 := (hb6.cell (cell_lt hcell)).trans hcell; have L2 := K2.below hb6; have L5 := K5.below hb6; have hbw6 := hbw.trans (hb6.mono hbw.size); have htx6 := htx.below hb6; have c0' := L5.cell 0; have c1' := L5.cell 1; have c2' := L5.cell 2; have e0' := L5.free 0; have e1' := L5.free 1; have e2' := L5.free 2; have q0' := L2.cell 0; have q1' := L2.cell 1; have q2' := L2.cell 2; have q3' := L2.cell 3; have f0' := L2.free 0; have f1' := L2.free 1; have f2' := L2.free 2; have f3' := L2.free 3; have hsz3 := L5.lt)) | (go_at_call 81; ((with_reducible refine (HW.out _).mono ?_); rintro e w4 ⟨rfl, rfl⟩)))
                have K2n := (Blk.other L2 (w.heap.size + 1) 2 (.int .i64 0) (by omega))
                obtain ⟨g0, g1, g2, g3⟩ := set4 (w6.setCell ⟨w.heap.size + 1, 2, none⟩ (.int .i64 0)) w.heap.size (.int .i64 0) (.int .i64 0) (.int .i64 0) (.int .i64 0) (.int .i64 0) (.int .i64 0) (.int .i64 0) (.int .i64 0) (K2n.cell 0) (K2n.cell 1) (K2n.cell 2) (K2n.cell 3)
                exact bodyPost_ret (v := .tuple #[insV 0 0 0 0, .string ⟨#[]⟩, .bool false]) (by simp [results, Tryd.results62, go_sem, g0, g1, g2, g3, insV]) rfl ⟨congrArg Ending.returned HN.out, (((((hbw6).setCell (by show w.heap.size ≤ w.heap.size + 1; omega) _).setCell (Nat.le_refl _) _).setCell (Nat.le_refl _) _).setCell (Nat.le_refl _) _).setCell (Nat.le_refl _) _⟩
              | some v =>
                have HP2 : Hid (eats k st0 = ER k 3 a b v [] r) := Lib.hid (hp.out.trans (er2_num hM0 hcond hw a b r))
                rw [hw] at hwh
                unfold wholeV at hwh
                have HW := Lib.hid hwh
                clear hwh hw hM0 hcond hj hn hnm
                go_wp2_with (first | (go_at_call 80; ((with_reducible refine (HJ.out _).mono ?_); rintro e w5 ⟨rfl, rfl⟩)) | (go_at_call 77; ((with_reducible refine (HNM.out _).mono ?_); rintro e w6 ⟨rfl, hb6⟩; have hcell6 := (hb6.cell (cell_lt hcell)).trans hcell; have L2 := K2.below hb6; have L5 := K5.below hb6; have hbw6 := hbw.trans (hb6.mono hbw.size); have htx6 := htx.below hb6; have c0' := L5.cell 0; have c1' := L5.cell 1; have c2' := L5.cell 2; have e0' := L5.free 0; have e1' := L5.free 1; have e2' := L5.free 2; have q0' := L2.cell 0; have q1' := L2.cell 1; have q2' := L2.cell 2; have q3' := L2.cell 3; have f0' := L2.free 0; have f1' := L2.free 1; have f2' := L2.free 2; have f3' := L2.free 3; have hsz3 := L5.lt)) | (go_at_call 81; ((with_reducible refine (HW.out _).mono ?_); rintro e w4 ⟨rfl, rfl⟩)))
                go_roundw
                case rel => exact ⟨3, [], r, a, b, v, by omega, by omega, rfl, rfl, Txs.set htx6 _ _ _ (by omega), Blk.other L2 _ _ _ (by omega), Blk.set L5 2 _, (hbw6).setCell (by show w.heap.size ≤ w.heap.size + 1; omega) _, HP2, Lib.hid ⟨fun h => by omega, fun h => by omega, fun h => by omega⟩, HL2⟩
                case measure => simp [intOf]
    · -- behind the fields
      clear hz HL
      have c0 := K5.cell 0
      have c1 := K5.cell 1
      have c2 := K5.cell 2
      have hjn := fun wx => join_any k a b i wx
      unfold insV at hjn
      have HJN := Lib.hid hjn
      clear hjn
      have hE3 : ER k 3 a b i l sl = E3 k a b i l sl := rfl
      have hp3 : Hid (parseV (upV k (E3 k a b i l sl)) = R) := Lib.hid (by rw [← HR.out, hp.out, hE3])
      clear hE3
      cases sl with
      | cons t r =>
        have HN := Lib.hid (show parseV none = R by rw [← hp3.out]; unfold E3; rw [if_neg (by simp)]; rfl)
        obtain ⟨ad, cp, rfl, -, -, -⟩ := htx
        go_wp2_with (first | (go_at_call 82; ((with_reducible refine (HJN.out _).mono ?_); rintro e w5 ⟨rfl, hb5⟩; have L2 := K2.below hb5; have q0 := L2.cell 0; have q1 := L2.cell 1; have q2 := L2.cell 2; have q3 := L2.cell 3; have f0 := L2.free 0; have f1 := L2.free 1; have f2 := L2.free 2; have f3 := L2.free 3; obtain ⟨g0, g1, g2, g3⟩ := set4 w5 w.heap.size (.int .i64 0) (.int .i64 0) (.int .i64 0) (.int .i64 0) (.int .i64 (k : Int)) (.int .i64 a) (.int .i64 b) (.int .i64 i) (L2.cell 0) (L2.cell 1) (L2.cell 2) (L2.cell 3); have hbw5 := hbw.trans (hb5.mono hbw.size); have M2 : Blk ((((w5.setCell ⟨w.heap.size, 0, none⟩ (.int .i64 (k : Int))).setCell ⟨w.heap.size, 1, none⟩ (.int .i64 a)).setCell ⟨w.heap.size, 2, none⟩ (.int .i64 b)).setCell ⟨w.heap.size, 3, none⟩ (.int .i64 i)) w.heap.size #[.int .i64 (k : Int), .int .i64 a, .int .i64 b, .int .i64 i] 54 := (((L2.set 0 _).set 1 _).set 2 _).set 3 _; have hB6 : Below w.heap.size w ((((w5.setCell ⟨w.heap.size, 0, none⟩ (.int .i64 (k : Int))).setCell ⟨w.heap.size, 1, none⟩ (.int .i64 a)).setCell ⟨w.heap.size, 2, none⟩ (.int .i64 b)).setCell ⟨w.heap.size, 3, none⟩ (.int .i64 i)) := (((hbw5.setCell (Nat.le_refl _) _).setCell (Nat.le_refl _) _).setCell (Nat.le_refl _) _).setCell (Nat.le_refl _) _)))
        obtain ⟨z0, z1, z2, z3⟩ := set4 ((((w5.setCell ⟨w.heap.size, 0, none⟩ (.int .i64 (k : Int))).setCell ⟨w.heap.size, 1, none⟩ (.int .i64 a)).setCell ⟨w.heap.size, 2, none⟩ (.int .i64 b)).setCell ⟨w.heap.size, 3, none⟩ (.int .i64 i)) w.heap.size (.int .i64 (k : Int)) (.int .i64 a) (.int .i64 b) (.int .i64 i) (.int .i64 0) (.int .i64 0) (.int .i64 0) (.int .i64 0) (M2.cell 0) (M2.cell 1) (M2.cell 2) (M2.cell 3)
        exact bodyPost_ret (v := .tuple #[insV 0 0 0 0, .string ⟨#[]⟩, .bool false]) (by simp [results, Tryd.results62, go_sem, z0, z1, z2, z3, insV]) rfl ⟨congrArg Ending.returned HN.out, ((((hB6).setCell (Nat.le_refl _) _).setCell (Nat.le_refl _) _).setCell (Nat.le_refl _) _).setCell (Nat.le_refl _) _⟩
      | nil =>
        obtain ⟨ad, cp, rfl, -, -, -⟩ := htx
        by_cases hf : Fits k a b i
        · have HN := Lib.hid (show parseV (some ((k, a, b, i), l)) = R by rw [← hp3.out]; unfold E3; rw [if_pos ⟨rfl, hf⟩]; rfl)
          have hck := fun wx hx => HCK.out wx hx a b i
          rw [decide_eq_true hf, show errOf true = 0 from rfl] at hck
          unfold insV at hck
          have HC := Lib.hid hck
          clear hck hf
          go_wp2_with (first | (go_at_call 82; ((with_reducible refine (HJN.out _).mono ?_); rintro e w5 ⟨rfl, hb5⟩; have L2 := K2.below hb5; have q0 := L2.cell 0; have q1 := L2.cell 1; have q2 := L2.cell 2; have q3 := L2.cell 3; have f0 := L2.free 0; have f1 := L2.free 1; have f2 := L2.free 2; have f3 := L2.free 3; obtain ⟨g0, g1, g2, g3⟩ := set4 w5 w.heap.size (.int .i64 0) (.int .i64 0) (.int .i64 0) (.int .i64 0) (.int .i64 (k : Int)) (.int .i64 a) (.int .i64 b) (.int .i64 i) (L2.cell 0) (L2.cell 1) (L2.cell 2) (L2.cell 3); have hbw5 := hbw.trans (hb5.mono hbw.size); have M2 : Blk ((((w5.setCell ⟨w.heap.size, 0, none⟩ (.int .i64 (k : Int))).setCell ⟨w.heap.size, 1, none⟩ (.int .i64 a)).setCell ⟨w.heap.size, 2, none⟩ (.int .i64 b)).setCell ⟨w.heap.size, 3, none⟩ (.int .i64 i)) w.heap.size #[.int .i64 (k : Int), .int .i64 a, .int .i64 b, .int .i64 i] 54 := (((L2.set 0 _).set 1 _).set 2 _).set 3 _; have hB6 : Below w.heap.size w ((((w5.setCell ⟨w.heap.size, 0, none⟩ (.int .i64 (k : Int))).setCell ⟨w.heap.size, 1, none⟩ (.int .i64 a)).setCell ⟨w.heap.size, 2, none⟩ (.int .i64 b)).setCell ⟨w.heap.size, 3, none⟩ (.int .i64 i)) := (((hbw5.setCell (Nat.le_refl _) _).setCell (Nat.le_refl _) _).setCell (Nat.le_refl _) _).setCell (Nat.le_refl _) _)) | (go_at_call 48; ((with_reducible refine (HC.out _ (HT.out.below hB6)).mono ?_); rintro e w7 ⟨rfl, hb7⟩; have N2 := M2.below hb7; have hB7 := hB6.trans (hb7.mono hB6.size); have r0 := N2.cell 0; have r1 := N2.cell 1; have r2 := N2.cell 2; have r3 := N2.cell 3; have t0 := N2.free 0; have t1 := N2.free 1; have t2 := N2.free 2; have t3 := N2.free 3)))
          obtain ⟨z0, z1, z2, z3⟩ := set4 w7 w.heap.size (.int .i64 (k : Int)) (.int .i64 a) (.int .i64 b) (.int .i64 i) (.int .i64 (k : Int)) (.int .i64 a) (.int .i64 b) (.int .i64 i) (N2.cell 0) (N2.cell 1) (N2.cell 2) (N2.cell 3)
          exact bodyPost_ret (v := .tuple #[insV k a b i, .string (st l), .bool true]) (by simp [results, Tryd.results62, go_sem, z0, z1, z2, z3, insV]) rfl ⟨congrArg Ending.returned HN.out, ((((hB7).setCell (Nat.le_refl _) _).setCell (Nat.le_refl _) _).setCell (Nat.le_refl _) _).setCell (Nat.le_refl _) _⟩
        · have HN := Lib.hid (show parseV none = R by rw [← hp3.out]; unfold E3; rw [if_neg (fun h => hf h.2)]; rfl)
          have hck := fun wx hx => HCK.out wx hx a b i
          rw [decide_eq_false hf, show errOf false = 30 from rfl] at hck
          unfold insV at hck
          have HC := Lib.hid hck
          clear hck hf
          go_wp2_with (first | (go_at_call 82; ((with_reducible refine (HJN.out _).mono ?_); rintro e w5 ⟨rfl, hb5⟩; have L2 := K2.below hb5; have q0 := L2.cell 0; have q1 := L2.cell 1; have q2 := L2.cell 2; have q3 := L2.cell 3; have f0 := L2.free 0; have f1 := L2.free 1; have f2 := L2.free 2; have f3 := L2.free 3; obtain ⟨g0, g1, g2, g3⟩ := set4 w5 w.heap.size (.int .i64 0) (.int .i64 0) (.int .i64 0) (.int .i64 0) (.int .i64 (k : Int)) (.int .i64 a) (.int .i64 b) (.int .i64 i) (L2.cell 0) (L2.cell 1) (L2.cell 2) (L2.cell 3); have hbw5 := hbw.trans (hb5.mono hbw.size); have M2 : Blk ((((w5.setCell ⟨w.heap.size, 0, none⟩ (.int .i64 (k : Int))).setCell ⟨w.heap.size, 1, none⟩ (.int .i64 a)).setCell ⟨w.heap.size, 2, none⟩ (.int .i64 b)).setCell ⟨w.heap.size, 3, none⟩ (.int .i64 i)) w.heap.size #[.int .i64 (k : Int), .int .i64 a, .int .i64 b, .int .i64 i] 54 := (((L2.set 0 _).set 1 _).set 2 _).set 3 _; have hB6 : Below w.heap.size w ((((w5.setCell ⟨w.heap.size, 0, none⟩ (.int .i64 (k : Int))).setCell ⟨w.heap.size, 1, none⟩ (.int .i64 a)).setCell ⟨w.heap.size, 2, none⟩ (.int .i64 b)).setCell ⟨w.heap.size, 3, none⟩ (.int .i64 i)) := (((hbw5.setCell (Nat.le_refl _) _).setCell (Nat.le_refl _) _).setCell (Nat.le_refl _) _).setCell (Nat.le_refl _) _)) | (go_at_call 48; ((with_reducible refine (HC.out _ (HT.out.below hB6)).mono ?_); rintro e w7 ⟨rfl, hb7⟩; have N2 := M2.below hb7; have hB7 := hB6.trans (hb7.mono hB6.size); have r0 := N2.cell 0; have r1 := N2.cell 1; have r2 := N2.cell 2; have r3 := N2.cell 3; have t0 := N2.free 0; have t1 := N2.free 1; have t2 := N2.free 2; have t3 := N2.free 3)))
          obtain ⟨z0, z1, z2, z3⟩ := set4 w7 w.heap.size (.int .i64 (k : Int)) (.int .i64 a) (.int .i64 b) (.int .i64 i) (.int .i64 0) (.int .i64 0) (.int .i64 0) (.int .i64 0) (N2.cell 0) (N2.cell 1) (N2.cell 2) (N2.cell 3)
          exact bodyPost_ret (v := .tuple #[insV 0 0 0 0, .string ⟨#[]⟩, .bool false]) (by simp [results, Tryd.results62, go_sem, z0, z1, z2, z3, insV]) rfl ⟨congrArg Ending.returned HN.out, ((((hB7).setCell (Nat.le_refl _) _).setCell (Nat.le_refl _) _).setCell (Nat.le_refl _) _).setCell (Nat.le_refl _) _⟩
end Go.Proofs.YtlddjjkbnhhfaaaDoor.IsaP
