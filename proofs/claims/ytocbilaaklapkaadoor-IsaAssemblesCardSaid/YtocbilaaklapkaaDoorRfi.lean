/-
  The document's find, and its List.
-/
import Derived.Test.YtocbilaaklapkaaDoorRli
import Derived.Test.YtocbilaaklapkaaDoorRp
namespace Go.Proofs.YtocbilaaklapkaaDoor.Rfi
open Go Go.RowKit Go.Shelf Kit IsaM IsaT IsaL IsaC IsaE IsaN IsaP IsaB IsaK Ra Rb Rc Rli Rdig3 Told Rp
set_option linter.unusedVariables false

def pcell (x : Tx × Nat) : List Value := [.string (st x.1), .int .i64 (x.2 : Int)]
def pcells (l : List (Tx × Nat)) : List Value := l.flatMap pcell
theorem pcells_len (l : List (Tx × Nat)) : (pcells l).length = l.length * 2 := by
  induction l with
  | nil => rfl
  | cons a r ih => show (pcell a ++ pcells r).length = _; rw [List.length_append, ih, List.length_cons]; simp [pcell]; omega
theorem pcells_snoc (l : List (Tx × Nat)) (x : Tx × Nat) : pcells (l ++ [x]) = pcells l ++ pcell x := by simp [pcells]
theorem pcells_at (l : List (Tx × Nat)) (c q : Nat) (hc : c < l.length) (hq : q < 2) : (pcells l)[c * 2 + q]? = (pcell l[c])[q]? := by
  induction l generalizing c with
  | nil => simp at hc
  | cons j r ih =>
    have e : pcells (j :: r) = pcell j ++ pcells r := rfl
    have hj : (pcell j).length = 2 := rfl
    rw [e]
    cases c with
    | zero => rw [List.getElem?_append_left (by rw [hj]; omega)]; simp
    | succ c =>
      rw [List.getElem?_append_right (by rw [hj]; omega), hj, show (c + 1) * 2 + q - 2 = c * 2 + q by omega]
      exact ih c (by simpa using hc)
/-- What find answers. -/
def fndI (t : Tx) (l : List (Tx × Nat)) : Int := match fnd t l with | some q => (q : Int) | none => -1
theorem fnd_cons (t s : Tx) (n : Nat) (r : List (Tx × Nat)) : fnd t ((s, n) :: r) = if s = t then some n else fnd t r := rfl
theorem cmp_st2 (a b : Tx) : ((st a).toList == (st b).toList) = decide (a = b) := by
  rw [ByteArray.toList_eq, ByteArray.toList_eq, st_data, st_data]
  by_cases h : a = b
  · rw [h]; simp
  · rw [decide_eq_false h]; simpa using h

set_option maxRecDepth 100000 in
set_option maxHeartbeats 2000000 in
theorem find_any (base : Nat) (v : Value) (l : List (Tx × Nat)) (t : Tx) (w : World) (h : w.ownsRow base 89 2 v l.length (pcells l)) (hl : l.length ≤ 1000000) :
    Calls Tryd.prog 44 #[v, .string (st t)] w fun e w' => e = .returned (.int .i64 (fndI t l)) ∧ w = w' := by
  obtain ⟨ad, cap, rfl⟩ := row_form h
  have HRow := Lib.hid h
  have hcap : l.length = 0 ∨ (l.length ≤ cap ∧ cap ≤ maxLen) := by
    rcases h.2 with ⟨_, h2⟩ | ⟨g, c, cur, hv, _, _, h3, h4, _⟩
    · exact .inl h2
    · cases hv; exact .inr ⟨h3, h4⟩
  unfold maxLen at hcap
  clear h
  have hlI : ((l.length : Nat) : Int) ≤ 1000000 := by omega
  obtain ⟨R, hR⟩ : ∃ R, fndI t l = R := ⟨_, rfl⟩
  rw [hR]
  have HR := Lib.hid hR
  clear hR
  go_enter Tryd.func44, Tryd.ntmps44
  go_wp2
  go_loop [5] (fun i => ∃ k : Nat, k ≤ l.length ∧ i = .int .i64 (k : Int) ∧ Hid (fndI t (l.drop k) = R)) (fun i => (l.length + 1 - (intOf i).toNat))
  case atStart => exact ⟨0, by omega, rfl, HR⟩
  case round =>
    obtain ⟨k, hk, rfl, HD⟩ := hrel
    by_cases hlt : k < l.length
    · obtain ⟨g, cur, rfl, hgB, hcc, hmx, hgk, hgz, hcell⟩ := row_at HRow.out (by omega)
      obtain ⟨x, hx⟩ : ∃ x, l[k] = x := ⟨_, rfl⟩
      have x0 : w.cell? ⟨g, k * 2, none⟩ = some (.string (st x.1)) := by
        have := hcell (k * 2 + 0) (by omega)
        rw [Nat.add_zero] at this
        rw [this]
        have h2 := pcells_at l k 0 hlt (by omega)
        rw [Nat.add_zero] at h2
        rw [h2, hx]
        rfl
      have x1 : w.cell? ⟨g, k * 2 + 1, none⟩ = some (.int .i64 (x.2 : Int)) := by
        rw [hcell (k * 2 + 1) (by omega), pcells_at l k 1 hlt (by omega), hx]
        rfl
      have hdr : l.drop k = x :: l.drop (k + 1) := by rw [List.drop_eq_getElem_cons hlt, hx]
      have hd := HD.out
      rw [hdr] at hd
      have hq := cmp_st2 x.1 t
      have hcc2 : ((k : Nat) : Int) < (l.length : Int) := by omega
      clear hcell hgk hgz cur hdr
      by_cases he : x.1 = t
      · have hRx : R = (x.2 : Int) := by
          rw [← hd]
          unfold fndI
          obtain ⟨a, b⟩ := x
          rw [fnd_cons, if_pos he]
        rw [decide_eq_true he] at hq
        subst hRx
        clear he hd
        go_wp2
        go_ret
        exact ⟨rfl, rfl⟩
      · have HN : Hid (fndI t (l.drop (k + 1)) = R) := Lib.hid (by
          rw [← hd]
          unfold fndI
          obtain ⟨a, b⟩ := x
          rw [fnd_cons, if_neg he])
        rw [decide_eq_false he] at hq
        clear he hd
        go_wp2
        go_round
        case rel => exact ⟨k + 1, by omega, by go_num, HN⟩
        case measure => simp [intOf]; omega
    · obtain rfl : k = l.length := by omega
      have hRf : R = -1 := by
        rw [← HD.out, List.drop_length]
        rfl
      subst hRf
      go_wp2
      go_ret
      exact ⟨rfl, rfl⟩

theorem decI (n : Nat) : (∃ (k : Nat) (a b i : Int), decV n = .tuple #[.agg #[.int .i64 (k : Int), .int .i64 a, .int .i64 b, .int .i64 i], .int .i64 0] ∧ May k a b i ∧ toldT n = line k a b i) ∨ (decV n = .tuple #[.agg #[.int .i64 0, .int .i64 0, .int .i64 0, .int .i64 0], .int .i64 30] ∧ toldT n = IsaH.wordP ++ Lib.decDigits n) := by
  by_cases h : mayB (dOp n) (dA n) (dB n) (dI n) = true
  · obtain ⟨k, hk, hm⟩ := op_nat h
    refine .inl ⟨k, _, _, _, ?_, hm, ?_⟩
    · unfold decV; rw [if_pos h, hk]; rfl
    · unfold toldT; rw [if_pos h, hk]; rfl
  · refine .inr ⟨?_, ?_⟩
    · unfold decV; rw [if_neg h]; rfl
    · unfold toldT; rw [if_neg h]
theorem may0 : May 0 0 0 0 := by decide

set_option maxRecDepth 100000 in
set_option maxHeartbeats 4000000 in
theorem rlist_any (v : Value) (xs : List Nat) (w : World) (hx : Slc .u32 w v xs) (hb : ∀ x ∈ xs, x < 4294967296) (hn : xs.length ≤ 1000) :
    Calls Tryd.prog 27 #[v] w fun e w' => e = .returned (.string (st (listT xs))) ∧ Below w.heap.size w w' := by
  obtain ⟨a, cap, rfl, hcap, hmax, hread⟩ := hx
  unfold maxLen at hmax
  have hnb : ((xs.length : Nat) : Int) ≤ 1000 := by omega
  have HB := Lib.hid hb
  clear hb
  go_enter Tryd.func27, Tryd.ntmps27
  go_wp2_with fail
  go_loopw [3, 4] (fun s i wr => ∃ k : Nat, k ≤ xs.length ∧ i = .int .i64 k ∧ s = .string (st (listT (xs.take k))) ∧ Hid (Below w.heap.size w wr)) (fun _ i _ => xs.length - (intOf i).toNat)
  case atStart => exact ⟨0, Nat.zero_le _, rfl, rfl, Lib.hid (Below.refl _ w)⟩
  case round =>
    obtain ⟨k, hk, rfl, rfl, HX⟩ := hrel
    by_cases hlt : k < xs.length
    · rcases hread with h0 | ⟨b, off, rfl, hblt, hcells⟩
      · subst h0; simp at hlt
      · have hbw := HX.out
        have hc : wr.cell? ⟨b, off + k, none⟩ = some (.int .u32 ((xs[k]?.getD 0 : Nat) : Int)) := (hbw.cell (p := ⟨b, off + k, none⟩) hblt).trans (hcells k hlt)
        have hxk : xs[k]?.getD 0 < 4294967296 := by rw [List.getElem?_eq_getElem hlt]; exact HB.out _ (List.getElem_mem _)
        obtain ⟨x, hx⟩ : ∃ x, xs[k]?.getD 0 = x := ⟨_, rfl⟩
        rw [hx] at hc hxk
        have HE := Lib.hid (take_more hlt hx)
        have hl1 : (st (listT (xs.take k))).size ≤ 72000 := by
          rw [st_size]
          have := listT_len (xs.take k) (fun y hy => HB.out y (List.mem_of_mem_take hy))
          rw [List.length_take] at this
          omega
        obtain ⟨S, hS⟩ : ∃ S, listT (xs.take k) = S := ⟨_, rfl⟩
        rw [hS] at hl1 HE ⊢
        have hblt2 : b < wr.heap.size := Nat.lt_of_lt_of_le hblt hbw.size
        have hHB := Lib.hid hbw
        have hdd := rdec_any x hxk
        clear hx hcells hbw hS
        rcases decI x with ⟨kk, a', b', i', hd, hm, ht⟩ | ⟨hd, ht⟩
        · rw [hd] at hdd
          rw [ht] at HE
          have HD := Lib.hid hdd
          have HL := Lib.hid (fun wx => rline_yes kk a' b' i' hm wx)
          have hz : (st (line kk a' b' i')).size ≤ 71 := by rw [st_size]; exact line_len hm
          clear hdd hd ht
          go_wp2_with (first | (go_at_call 15; ((with_reducible refine (HD.out _).mono ?_); rintro e w2 ⟨rfl, hb2⟩; refine Hid.out ?_)))
          refine Lib.hid ?_
          have D2 := (hHB.out.trans (hb2.mono hHB.out.size))
          have E2 := D2.alloc D2.size (.cells #[.int .i64 (kk : Int), .int .i64 a', .int .i64 b', .int .i64 i'] 23)
          go_wp2_with (first | (go_at_call 17; ((with_reducible refine (HL.out _).mono ?_); rintro e w3 ⟨rfl, hb3⟩; refine Hid.out ?_)))
          refine Lib.hid ?_
          go_wp2
          go_roundw
          case rel => exact ⟨k + 1, by omega, by go_num, by rw [HE.out, ← st_app, ← st_app]; simp only [ByteArray.append_assoc]; rfl, Lib.hid (E2.trans (hb3.mono E2.size))⟩
          case measure => simp [intOf]; omega
        · rw [hd] at hdd
          rw [ht] at HE
          have HD := Lib.hid hdd
          have HL : Hid (∀ wx, Calls Tryd.prog 17 #[.agg #[.int .i64 0, .int .i64 0, .int .i64 0, .int .i64 0]] wx fun e w' => e = .returned (.tuple #[.string (st (line 0 0 0 0)), .int .i64 0]) ∧ Below wx.heap.size wx w') := Lib.hid (fun wx => rline_yes 0 0 0 0 may0 wx)
          have HG := Lib.hid (fun wx => digits_nat x (by omega) wx)
          have hz : (st (Lib.decDigits x)).size ≤ 10 := by rw [st_size]; exact dd_len 9 x (by omega)
          clear hdd hd ht
          go_wp2_with (first | (go_at_call 15; ((with_reducible refine (HD.out _).mono ?_); rintro e w2 ⟨rfl, hb2⟩; refine Hid.out ?_)))
          refine Lib.hid ?_
          have D2 := (hHB.out.trans (hb2.mono hHB.out.size))
          have E2 := D2.alloc D2.size (.cells #[.int .i64 0, .int .i64 0, .int .i64 0, .int .i64 0] 23)
          go_wp2_with (first | (go_at_call 17; ((with_reducible refine (HL.out _).mono ?_); rintro e w3 ⟨rfl, hb3⟩; refine Hid.out ?_)))
          refine Lib.hid ?_
          have D3 := E2.trans (hb3.mono E2.size)
          have hc3 : w3.cell? ⟨b, off + k, none⟩ = some (.int .u32 (x : Int)) := by
            rw [hb3.cell (p := ⟨b, off + k, none⟩) (by have := hb2.size; simp; omega), World.cell?_alloc_lt _ _ _ (by have := hb2.size; show b < _; omega), hb2.cell (p := ⟨b, off + k, none⟩) hblt2]
            exact hc
          go_wp2_with (first | (go_at_call 36; ((with_reducible refine (HG.out _).mono ?_); rintro e w4 ⟨rfl, hb4⟩; refine Hid.out ?_)))
          refine Lib.hid ?_
          go_wp2
          go_roundw
          case rel => exact ⟨k + 1, by omega, by go_num, by rw [HE.out, ← st_app, ← st_app, ← st_app]; simp only [ByteArray.append_assoc]; rfl, Lib.hid (D3.trans (hb4.mono D3.size))⟩
          case measure => simp [intOf]; omega
    · obtain rfl : k = xs.length := by omega
      clear hread
      go_wp2
      go_ret
      exact ⟨by rw [List.take_length]; rfl, HX.out⟩
end Go.Proofs.YtocbilaaklapkaaDoor.Rfi
