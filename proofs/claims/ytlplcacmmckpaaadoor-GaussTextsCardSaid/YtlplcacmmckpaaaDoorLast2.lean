/-
  strings.LastIndexAny at the two signs, of texts of two bytes and more.
-/
import Derived.Test.YtlplcacmmckpaaaDoorLast
import Derived.Deep.WholeRow
namespace Go.Proofs.YtlplcacmmckpaaaDoor.LastG
open Go Go.RowKit Kit Gnums Tabs Idx
set_option linter.unusedVariables false

theorem isPm_eq (b : UInt8) : ([43, 45] : List UInt8).contains b = isPm b := by
  unfold isPm
  simp only [List.contains_cons, List.contains_nil, Bool.or_false]

set_option maxHeartbeats 4000000 in
set_option maxRecDepth 1000000 in
theorem last_long (s : ByteArray) (h8 : 8 < s.size) (hs : s.size ≤ 1000) (w : World) :
    Calls Tryd.prog 34 #[.string s, .string ⟨#[43, 45]⟩] w fun e w' => LastR s e ∧ Below w.heap.size w w' := by
  have hM := Shl.strings_makeASCIISet Tryd.zeroValue78 ⟨#[43, 45]⟩ w (by decide) (by intro j b h; have hm : b ∈ ([43, 45] : List UInt8) := List.mem_of_getElem? h; simp at hm; rcases hm with rfl | rfl <;> decide)
  have e0 : (⟨#[43, 45]⟩ : ByteArray).data.toList = [43, 45] := rfl
  rw [e0] at hM
  have HM := Lib.hid hM
  clear hM e0
  have hn1 : ((s.size : Int) == 1) = false := by simp; omega
  have h8z : decide ((8 : Int) < (s.size : Int)) = true := decide_eq_true (by omega)
  have hsc : (storeCells ⟨w.heap.size + 1, 0, none⟩ (Lib.setCells [43, 45]).toList 0).run Tryd.prog ((w.alloc (.cells (Lib.setCells [43, 45]) 78)).alloc (.cells Tryd.zeroCells78 78)) = .ok () ((w.alloc (.cells (Lib.setCells [43, 45]) 78)).alloc (.cells (Lib.setCells [43, 45]) 78)) := by
    have := run_storeCells_new (P := Tryd.prog) (w.alloc (.cells (Lib.setCells [43, 45]) 78)) 78 Tryd.zeroCells78 (Lib.setCells [43, 45]) (by rw [Lib.setCells_size]; kernel_rfl) (by rw [Lib.setCells_size]; kernel_rfl) (Lib.setCells_one _)
    simpa using this
  have hcellAt : ∀ x : UInt8, ((w.alloc (.cells (Lib.setCells [43, 45]) 78)).alloc (.cells (Lib.setCells [43, 45]) 78)).cell? ⟨w.heap.size + 1, x.toNat, none⟩ = some (.bool (isPm x)) := fun x => by
    rw [World.cell?_alloc_at _ _ _ _ (by simp), Lib.setCells_at, isPm_eq]
  have HC := Lib.hid hcellAt
  clear hcellAt
  have hsz := Lib.setCells_size [43, 45]
  have hB : Below w.heap.size w ((w.alloc (.cells (Lib.setCells [43, 45]) 78)).alloc (.cells (Lib.setCells [43, 45]) 78)) := ((Below.refl _ w).alloc (Nat.le_refl _) _).alloc (by simp) _
  go_enter Tryd.func34, Tryd.ntmps34
  go_wp2_with (first
    | (go_at_call 42; refine (Shl.strings_shouldUseASCIISet _ _).mono ?_; rintro e w' ⟨rfl, hw⟩; rw [hw, h8z])
    | (go_at_call 43; ((with_reducible refine HM.out.mono ?_); rintro e w' ⟨rfl, hw⟩; rw [hw])))
  clear hsc HM hn1 h8z hsz
  have hlen : s.data.toList.length = s.size := by simp
  go_loop [8] (fun i => (i = .int .i64 (-1) ∧ Hid (lx s.data.toList s.size = -1)) ∨ ∃ m : Nat, m < s.size ∧ i = .int .i64 m ∧ Hid (lx s.data.toList s.size = lx s.data.toList (m + 1))) (fun i => (intOf i + 1).toNat)
  case atStart => exact .inr ⟨s.size - 1, by omega, by rw [Int.natCast_sub (by omega)]; rfl, by show _ = _; rw [Nat.sub_add_cancel (by omega)]⟩
  case round =>
    rcases hrel with ⟨rfl, HL⟩ | ⟨m, hm, rfl, HL⟩
    · go_wp2
      go_ret
      exact ⟨⟨-1, rfl, by omega, by omega, fun _ => HL.out.symm⟩, hB⟩
    · obtain ⟨x, hx⟩ : ∃ x : UInt8, s[m]'hm = x := ⟨_, rfl⟩
      have hxl : s.data.toList.getD m 0 = x := by
        rw [← hx]
        simp [List.getD, List.getElem?_eq_getElem (show m < s.data.toList.length by omega)]
        rfl
      have hlx : lx s.data.toList (m + 1) = if isPm x then (m : Int) else lx s.data.toList m := by
        show (if isPm (s.data.toList.getD m 0) then (m : Int) else lx s.data.toList m) = _
        rw [hxl]
      have HX := Lib.hid hlx
      clear hlx hxl hlen
      have hcx := HC.out x
      cases hin : isPm x <;> rw [hin] at hcx
      · go_wp2_with (go_at_call 44; refine (Shl.asciiSet_contains _ x _ _ hcx).mono ?_; rintro e w' ⟨rfl, hw⟩; rw [hw])
        go_round
        case rel =>
          have hk := HL.out
          rw [HX.out, hin, if_neg (by decide)] at hk
          cases m with
          | zero => exact .inl ⟨rfl, hk⟩
          | succ m => exact .inr ⟨m, by omega, by go_num, hk⟩
        case measure => simp [intOf]
      · go_wp2_with (go_at_call 44; refine (Shl.asciiSet_contains _ x _ _ hcx).mono ?_; rintro e w' ⟨rfl, hw⟩; rw [hw])
        go_ret
        exact ⟨⟨m, rfl, by omega, by omega, fun _ => by rw [HL.out, HX.out, hin]; rfl⟩, hB⟩

/-- The rune that ends the first k bytes, and how many bytes it has. -/
def dr (s : ByteArray) (k : Nat) : Nat := (Lib.decodeLastL (s.data.toList.take k)).1
def dn (s : ByteArray) (k : Nat) : Nat := (Lib.decodeLastL (s.data.toList.take k)).2
theorem dn_bd (s : ByteArray) {k : Nat} (h0 : 0 < k) (h : k ≤ s.size) : 1 ≤ dn s k ∧ dn s k ≤ k := by
  have hl : (s.data.toList.take k).length = k := by simp; omega
  have := Lib.decodeLastL_width (s.data.toList.take k) (by omega)
  unfold dn
  omega
theorem dr_bd (s : ByteArray) (k : Nat) : dr s k ≤ 1114111 := Lib.decodeLastL_rune _
theorem dec_asc {s : ByteArray} {k : Nat} (h : k < s.size) (ha : Asc s.data.toList) : dr s (k + 1) = (s.data.toList.getD k 0).toNat ∧ dn s (k + 1) = 1 := by
  have hl : k < s.data.toList.length := by simpa using h
  have e : s.data.toList.take (k + 1) = s.data.toList.take k ++ [s.data.toList.getD k 0] := by
    rw [List.take_succ_eq_append_getElem hl]
    simp [List.getD, List.getElem?_eq_getElem hl]
  have hb : (s.data.toList.getD k 0).toNat < 128 := by
    apply ha
    rw [List.getD, List.getElem?_eq_getElem hl]
    exact List.getElem_mem _
  unfold dr dn
  rw [e, Lib.decodeLastL_ascii _ _ hb]
  exact ⟨rfl, rfl⟩
theorem dec_any (s : ByteArray) (k : Nat) (hk : k ≤ s.size) (hs : s.size ≤ 1000) (w : World) (hT : Tabs w) :
    Calls Tryd.prog 45 #[.string (s.extract 0 k)] w fun e w' => e = .returned (.tuple #[.int .i32 ((dr s k : Nat) : Int), .int .i64 ((dn s k : Nat) : Int)]) ∧ Below w.heap.size w w' := by
  have h := Shl.utf8_DecodeLastRuneInString (s.extract 0 k) w (by rw [ByteArray.size_extract]; omega) hT.utf
  have e : (s.extract 0 k).data.toList = s.data.toList.take k := by
    rw [ByteArray.data_extract, Array.toList_extract]
    simp
  rw [e] at h
  exact h

set_option maxHeartbeats 4000000 in
set_option maxRecDepth 1000000 in
theorem last_short (s : ByteArray) (h2 : 2 ≤ s.size) (h8 : s.size ≤ 8) (w : World) (hT : Tabs w) :
    Calls Tryd.prog 34 #[.string s, .string ⟨#[43, 45]⟩] w fun e w' => LastR s e ∧ Below w.heap.size w w' := by
  have hn1 : ((s.size : Int) == 1) = false := by simp; omega
  have h8z : decide ((8 : Int) < (s.size : Int)) = false := decide_eq_false (by omega)
  have HB := Below.refl w.heap.size w
  go_enter Tryd.func34, Tryd.ntmps34
  go_wp2_with (go_at_call 42; refine (Shl.strings_shouldUseASCIISet _ _).mono ?_; rintro e w' ⟨rfl, hw⟩; rw [hw, h8z])
  clear hn1 h8z
  go_loopw [13, 14, 15] (fun i _ _ wr => ∃ k : Nat, k ≤ s.size ∧ i = .int .i64 k ∧ Hid (Asc s.data.toList → lx s.data.toList s.size = lx s.data.toList k) ∧ Below w.heap.size w wr) (fun i _ _ _ => (intOf i).toNat)
  case atStart => exact ⟨s.size, Nat.le_refl _, rfl, fun _ => rfl, HB⟩
  case round =>
    clear HB
    obtain ⟨k, hk, rfl, HL, hB⟩ := hrel
    cases k with
    | zero =>
      go_wp2
      go_ret
      exact ⟨⟨-1, rfl, by omega, by omega, fun h => (HL.out h).symm⟩, hB⟩
    | succ k =>
      have hd := dn_bd s (k := k + 1) (by omega) hk
      have hr := dr_bd s (k + 1)
      have HA := Lib.hid (fun ha : Asc s.data.toList => dec_asc (s := s) (k := k) (by omega) ha)
      have HD := Lib.hid (dec_any s (k + 1) hk (by omega) wr (hT.below hB))
      obtain ⟨r, hrr⟩ : ∃ r, dr s (k + 1) = r := ⟨_, rfl⟩
      obtain ⟨n, hnn⟩ : ∃ n, dn s (k + 1) = n := ⟨_, rfl⟩
      rw [hrr] at hr HA HD
      rw [hnn] at hd HA HD
      clear hrr hnn
      have HI := Lib.hid (fun wx => idx_iv (r : Int) (by omega) (by omega) wx)
      have hstep : Asc s.data.toList → r = (s.data.toList.getD k 0).toNat ∧ n = 1 ∧ lx s.data.toList s.size = if decide (0 ≤ iv (r : Int)) then (k : Int) else lx s.data.toList k := fun ha => by
        obtain ⟨e1, e2⟩ := HA.out ha
        refine ⟨e1, e2, ?_⟩
        have hb : (s.data.toList.getD k 0).toNat < 128 := by
          apply ha
          rw [List.getD, List.getElem?_eq_getElem (show k < s.data.toList.length by simp; omega)]
          exact List.getElem_mem _
        rw [HL.out ha, e1, iv_byte _ hb]
        rfl
      have HS := Lib.hid hstep
      clear hstep HA HL
      have hkn : ((k + 1 - n : Nat) : Int) = (k : Int) + 1 - (n : Int) := by omega
      have HK := Lib.hid hkn
      clear hkn
      by_cases h0 : 0 ≤ iv (r : Int)
      · go_wp2_with (first
          | (go_at_call 45; ((with_reducible refine HD.out.mono ?_); rintro e w1 ⟨rfl, hb1⟩))
          | (go_at_call 41; ((with_reducible refine (HI.out _).mono ?_); rintro e w2 ⟨rfl, hb2⟩)))
        go_ret
        refine ⟨⟨(k : Int) + 1 - n, rfl, by omega, by omega, fun ha => ?_⟩, hB.trans (((bel' hb1 hb2)).mono hB.size)⟩
        obtain ⟨e1, e2, e3⟩ := HS.out ha
        rw [decide_eq_true h0, if_pos rfl] at e3
        rw [e3]
        omega
      · go_wp2_with (first
          | (go_at_call 45; ((with_reducible refine HD.out.mono ?_); rintro e w1 ⟨rfl, hb1⟩))
          | (go_at_call 41; ((with_reducible refine (HI.out _).mono ?_); rintro e w2 ⟨rfl, hb2⟩)))
        go_roundw
        case rel =>
          refine ⟨k + 1 - n, by omega, by rw [HK.out], fun ha => ?_, hB.trans (((bel' hb1 hb2)).mono hB.size)⟩
          obtain ⟨e1, e2, e3⟩ := HS.out ha
          rw [decide_eq_false (by omega), if_neg (by decide)] at e3
          rw [e3, e2]
          rfl
        case measure => simp [intOf]; omega

/-- The search, of any text of at most 1,000 bytes. -/
theorem last_any (s : ByteArray) (hs : s.size ≤ 1000) (w : World) (hT : Tabs w) :
    Calls Tryd.prog 34 #[.string s, .string ⟨#[43, 45]⟩] w fun e w' => LastR s e ∧ Below w.heap.size w w' := by
  by_cases h0 : s.size = 0
  · obtain rfl : s = ⟨#[]⟩ := ByteArray.ext (Array.eq_empty_of_size_eq_zero h0)
    exact last_0 w
  · by_cases h1 : s.size = 1
    · exact last_1 s h1 w
    · by_cases h8 : s.size ≤ 8
      · exact last_short s (by omega) h8 w hT
      · exact last_long s (by omega) hs w
#print axioms last_any
end Go.Proofs.YtlplcacmmckpaaaDoor.LastG
