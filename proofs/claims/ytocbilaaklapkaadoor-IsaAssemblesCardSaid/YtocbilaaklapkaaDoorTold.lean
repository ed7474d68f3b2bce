/-
  told and List: a word's line in a program, and words' lines.
-/
import Derived.Test.YtocbilaaklapkaaDoorFuint
import Derived.Test.YtocbilaaklapkaaDoorBuild
import Derived.Test.YtocbilaaklapkaaDoorIsaV
namespace Go.Proofs.YtocbilaaklapkaaDoor.Told
open Go Go.RowKit Go.Shelf Kit Build IsaM IsaT IsaL IsaC IsaE IsaN IsaH IsaI Fuint
set_option linter.unusedVariables false

/-- A word's line in a program. -/
def toldT (n : Nat) : Tx := if mayB (dOp n) (dA n) (dB n) (dI n) = true then line (dOp n).toNat (dA n) (dB n) (dI n) else wordP ++ Lib.decDigits n
def listT : List Nat → Tx
  | [] => []
  | n :: r => toldT n ++ 10 :: listT r
theorem listT_app : ∀ (a b : List Nat), listT (a ++ b) = listT a ++ listT b
  | [], b => rfl
  | n :: r, b => by show toldT n ++ 10 :: listT (r ++ b) = (toldT n ++ 10 :: listT r) ++ listT b; rw [listT_app r b]; simp
theorem dd_len : ∀ (f u : Nat), u < 10 ^ (f + 1) → (Lib.decDigits u).length ≤ f + 1
  | 0, u, h => by rw [Lib.decDigits, dif_pos (by omega)]; simp
  | f + 1, u, h => by
    by_cases h10 : u < 10
    · rw [Lib.decDigits, dif_pos h10]; simp
    · rw [Lib.decDigits, dif_neg h10, List.length_append]
      have := dd_len f (u / 10) (by rw [Nat.pow_succ] at h; omega)
      simp; omega
theorem nm_len : ∀ k : Fin 30, (nm k.val).length ≤ 5 := by decide +kernel
theorem fld_len (m v : Int) (h0 : -9223372036854775808 ≤ v) (h1 : v ≤ 9223372036854775807) : (fld m v).length ≤ 22 := by
  unfold fld
  split
  · simp
  · rw [List.length_cons]; have := Lib.itoa_length_le v h0 h1; omega
theorem line_len {k : Nat} {a b i : Int} (h : May k a b i) : (line k a b i).length ≤ 71 := by
  have hf := h.2
  have hF : Fits k a b i := by simpa using hf
  have hb := hF.bd
  have h1 := nm_len ⟨k, hF.k30⟩
  have h2 := fld_len (mA k) a (by omega) (by omega)
  have h3 := fld_len (mB k) b (by omega) (by omega)
  have h4 := fld_len (mI k) i (by omega) (by omega)
  unfold line
  simp only [List.length_append]
  simp only at h1
  omega
theorem op_nat {n : Nat} (h : mayB (dOp n) (dA n) (dB n) (dI n) = true) : ∃ k : Nat, dOp n = (k : Int) ∧ May (k : Int) (dA n) (dB n) (dI n) := by
  have h2 : May (dOp n) (dA n) (dB n) (dI n) := of_decide_eq_true h
  obtain ⟨k, hk⟩ := Int.eq_ofNat_of_zero_le h2.1
  exact ⟨k, hk, hk ▸ h2⟩
theorem told_len (n : Nat) (hn : n < 4294967296) : (toldT n).length ≤ 71 := by
  unfold toldT
  split
  · rename_i h
    obtain ⟨k, hk, hm⟩ := op_nat h
    rw [hk]
    exact line_len hm
  · rw [List.length_append]
    have := dd_len 9 n (by omega)
    have : wordP.length = 5 := rfl
    omega
theorem listT_len : ∀ (l : List Nat), (∀ x ∈ l, x < 4294967296) → (listT l).length ≤ 72 * l.length
  | [], _ => by simp [listT]
  | n :: r, h => by
    have h1 := told_len n (h n (by simp))
    have h2 := listT_len r (fun x hx => h x (by simp [hx]))
    show (toldT n ++ 10 :: listT r).length ≤ _
    rw [List.length_append, List.length_cons, List.length_cons]
    omega

set_option maxRecDepth 100000 in
set_option maxHeartbeats 2000000 in
theorem told_yes (n k : Nat) (a b i : Int) (hD : decV n = .tuple #[.agg #[.int .i64 (k : Int), .int .i64 a, .int .i64 b, .int .i64 i], .int .i64 0]) (hm : May k a b i) (hn : n < 4294967296) (w : World) (hT : Tabs w) :
    Calls Tryd.prog 47 #[.int .u32 (n : Int)] w fun e w' => e = .returned (.string (st (line k a b i))) ∧ Below w.heap.size w w' := by
  have HD : Hid (Calls Tryd.prog 14 #[.int .u32 (n : Int)] w fun e w' => e = .returned (.tuple #[.agg #[.int .i64 (k : Int), .int .i64 a, .int .i64 b, .int .i64 i], .int .i64 0]) ∧ Below w.heap.size w w') := Lib.hid (by rw [← hD]; exact decode_any n hn w hT)
  have HL : Hid (∀ wx, Tabs wx → Calls Tryd.prog 16 #[.agg #[.int .i64 (k : Int), .int .i64 a, .int .i64 b, .int .i64 i]] wx fun e w' => e = .returned (.tuple #[.string (st (line k a b i)), .int .i64 0]) ∧ Below wx.heap.size wx w') := Lib.hid (fun wx hx => line_in k a b i hm wx hx)
  have HT := Lib.hid hT
  clear hT
  go_enter Tryd.func47, Tryd.ntmps47
  go_wp2_with (first | (go_at_call 14; ((with_reducible refine HD.out.mono ?_); rintro e w1 ⟨rfl, hb1⟩; refine Hid.out ?_)))
  refine Lib.hid ?_
  have B1 := hb1.alloc hb1.size (.cells #[.int .i64 (k : Int), .int .i64 a, .int .i64 b, .int .i64 i] 23)
  go_wp2_with (first | (go_at_call 16; ((with_reducible refine (HL.out _ (HT.out.below B1)).mono ?_); rintro e w2 ⟨rfl, hb2⟩; refine Hid.out ?_)))
  refine Lib.hid ?_
  go_wp2
  go_ret
  exact ⟨rfl, B1.trans (hb2.mono B1.size)⟩

set_option maxRecDepth 100000 in
set_option maxHeartbeats 2000000 in
theorem told_no (n : Nat) (hD : decV n = .tuple #[.agg #[.int .i64 0, .int .i64 0, .int .i64 0, .int .i64 0], .int .i64 30]) (hn : n < 4294967296) (w : World) (hT : Tabs w) :
    Calls Tryd.prog 47 #[.int .u32 (n : Int)] w fun e w' => e = .returned (.string (st (wordP ++ Lib.decDigits n))) ∧ Below w.heap.size w w' := by
  have HD : Hid (Calls Tryd.prog 14 #[.int .u32 (n : Int)] w fun e w' => e = .returned (.tuple #[.agg #[.int .i64 0, .int .i64 0, .int .i64 0, .int .i64 0], .int .i64 30]) ∧ Below w.heap.size w w') := Lib.hid (by rw [← hD]; exact decode_any n hn w hT)
  have HF := Lib.hid (fun wx hx => fu_in n hn wx hx)
  have HT := Lib.hid hT
  have hsz : (st (Lib.decDigits n)).size ≤ 10 := by rw [st_size]; exact dd_len 9 n (by omega)
  clear hT
  go_enter Tryd.func47, Tryd.ntmps47
  go_wp2_with (first | (go_at_call 14; ((with_reducible refine HD.out.mono ?_); rintro e w1 ⟨rfl, hb1⟩; refine Hid.out ?_)))
  refine Lib.hid ?_
  have B1 := hb1.alloc hb1.size (.cells #[.int .i64 0, .int .i64 0, .int .i64 0, .int .i64 0] 23)
  go_wp2_with (first | (go_at_call 66; ((with_reducible refine (HF.out _ (HT.out.below B1)).mono ?_); rintro e w2 ⟨rfl, hb2⟩; refine Hid.out ?_)))
  refine Lib.hid ?_
  go_wp2
  go_ret
  refine ⟨?_, B1.trans (hb2.mono B1.size)⟩
  show Ending.returned (.string (st wordP ++ st (Lib.decDigits n))) = _
  rw [st_app]

theorem told_any (n : Nat) (hn : n < 4294967296) (w : World) (hT : Tabs w) :
    Calls Tryd.prog 47 #[.int .u32 (n : Int)] w fun e w' => e = .returned (.string (st (toldT n))) ∧ Below w.heap.size w w' := by
  unfold toldT
  split
  · rename_i h
    obtain ⟨k, hk, hm⟩ := op_nat h
    rw [hk]
    exact told_yes n k _ _ _ (by unfold decV; rw [if_pos h, hk]; rfl) hm hn w hT
  · rename_i h
    exact told_no n (by unfold decV; rw [if_neg h]; rfl) hn w hT

theorem take_more {xs : List Nat} {k x : Nat} (h : k < xs.length) (hx : xs[k]?.getD 0 = x) : listT (xs.take (k + 1)) = listT (xs.take k) ++ (toldT x ++ [10]) := by
  have e : xs.take (k + 1) = xs.take k ++ [x] := by
    rw [List.getElem?_eq_getElem h] at hx
    have hx2 : xs[k] = x := by simpa using hx
    rw [List.take_succ_eq_append_getElem h, hx2]
  rw [e, listT_app]
  rfl

set_option maxRecDepth 100000 in
set_option maxHeartbeats 2000000 in
theorem list_any (v : Value) (xs : List Nat) (w : World) (hx : Slc .u32 w v xs) (hb : ∀ x ∈ xs, x < 4294967296) (hn : xs.length ≤ 1000) (hT : Tabs w) :
    Calls Tryd.prog 26 #[v] w fun e w' => e = .returned (.string (st (listT xs))) ∧ Below w.heap.size w w' := by
  obtain ⟨a, cap, rfl, hcap, hmax, hread⟩ := hx
  unfold maxLen at hmax
  have hnb : ((xs.length : Nat) : Int) ≤ 1000 := by omega
  have HT := Lib.hid hT
  have HB := Lib.hid hb
  clear hT hb
  go_enter Tryd.func26, Tryd.ntmps26
  go_wp2_with fail
  go_loopw [8] (fun i wr => ∃ k : Nat, k ≤ xs.length ∧ i = .int .i64 k ∧ Hid (Bu w.heap.size w.heap.size (listT (xs.take k)) wr ∧ Below w.heap.size w wr)) (fun i _ => xs.length - (intOf i).toNat)
  case atStart => exact ⟨0, Nat.zero_le _, rfl, Lib.hid ⟨Bu.new w, (Below.refl _ w).alloc (Nat.le_refl _) _⟩⟩
  case round =>
    obtain ⟨k, hk, rfl, HX⟩ := hrel
    by_cases hlt : k < xs.length
    · rcases hread with h0 | ⟨b, off, rfl, hblt, hcells⟩
      · subst h0; simp at hlt
      · have hbw := HX.out.2
        have hc : wr.cell? ⟨b, off + k, none⟩ = some (.int .u32 ((xs[k]?.getD 0 : Nat) : Int)) := (hbw.cell (p := ⟨b, off + k, none⟩) hblt).trans (hcells k hlt)
        have hxk : xs[k]?.getD 0 < 4294967296 := by rw [List.getElem?_eq_getElem hlt]; exact HB.out _ (List.getElem_mem _)
        obtain ⟨x, hx⟩ : ∃ x, xs[k]?.getD 0 = x := ⟨_, rfl⟩
        rw [hx] at hc hxk
        have HE := Lib.hid (take_more hlt hx)
        have HTo := Lib.hid (told_any x hxk wr (HT.out.below hbw))
        have hl1 : (listT (xs.take k)).length ≤ 72000 := by
          have := listT_len (xs.take k) (fun y hy => HB.out y (List.mem_of_mem_take hy))
          rw [List.length_take] at this
          omega
        have hl2 := told_len x hxk
        have hHB := Lib.hid hbw
        clear hx hcells hbw
        go_wp2_with (first
          | (go_at_call 47; ((with_reducible refine HTo.out.mono ?_); rintro e w2 ⟨rfl, hb2⟩; refine Hid.out ?_)))
        refine Lib.hid ?_
        have b2 := HX.out.1.below hb2
        have D2 := HX.out.2.trans (hb2.mono HX.out.2.size)
        have HW := Lib.hid (wstr _ _ _ (st (toldT x)) w2 b2 (by rw [st_size]; omega) D2.size)
        go_wp2_with (first
          | (go_at_call 46; ((with_reducible refine HW.out.mono ?_); rintro e w3 ⟨rfl, b3, hb3⟩; refine Hid.out ?_)))
        refine Lib.hid ?_
        have D3 := D2.trans hb3
        have HY := Lib.hid (wbyte _ _ _ 10 10 rfl w3 b3 (by rw [List.length_append, st_data]; omega) D3.size)
        go_wp2_with (first
          | (go_at_call 48; ((with_reducible refine HY.out.mono ?_); rintro e w4 ⟨rfl, b4, hb4⟩; refine Hid.out ?_)))
        refine Lib.hid ?_
        go_wp2_with fail
        go_roundw
        case rel =>
          refine ⟨k + 1, by omega, by go_num, Lib.hid ⟨?_, D3.trans hb4⟩⟩
          rw [HE.out, ← List.append_assoc, ← st_data (toldT x)]
          exact b4
        case measure => simp [intOf]; omega
    · obtain rfl : k = xs.length := by omega
      obtain ⟨hB, hD⟩ := HX.out
      rw [List.take_length] at hB
      have HS := Lib.hid (bstring _ _ _ wr hB hD.size)
      have HDD := Lib.hid hD
      clear hread hD hB
      go_wp2_with (first
          | (go_at_call 49; ((with_reducible refine HS.out.mono ?_); rintro e w4 ⟨rfl, hb4⟩; refine Hid.out ?_)))
      refine Lib.hid ?_
      go_wp2_with fail
      go_ret
      exact ⟨rfl, HDD.out.trans hb4⟩
end Go.Proofs.YtocbilaaklapkaaDoor.Told
