/-
  The document's own Read and Write.
-/
import Derived.Test.YtompcmbaiegkaaaGo
namespace Go.Proofs.Ytompcmbaiegkaaa.Gr
open Go Go.RowKit Kit Fm Fo Fr Fw Fx Gm
set_option linter.unusedVariables false
attribute [local go_sem ↓] mk_wrap app_wrap

theorem rread_no (w : World) (q rr rb n : Nat) (R : Nat → Nat) (B : Nat → Nat → Nat) (h : RMem w q rr rb n R B) (k off m : Int) (hk : rf n R k = 0) :
    Calls Try.prog 36 #[.pointer (some ⟨q, 0, none⟩), .int .i64 k, .int .i64 off, .int .i64 m] w fun e w' => e = .returned (.tuple #[.slice none 0 0, .int .i64 41]) ∧ w = w' := by
  have HH := Lib.hid (is_no w q rr rb n R B h k hk)
  clear h hk
  go_enter Try.func36, Try.ntmps36
  go_wp2_with (first | (go_at_call 24; (with_reducible refine HH.out.mono ?_); rintro e w1 ⟨rfl, rfl⟩))
  go_ret2
  exact ⟨rfl, rfl⟩
theorem rread_arg (w : World) (q rr rb n : Nat) (R : Nat → Nat) (B : Nat → Nat → Nat) (h : RMem w q rr rb n R B) (k : Nat) (hk : k < n) (hr : R k ≠ 0) (off m : Int) (ho : (Lit.int .i64 off).wf = true) (hm : (Lit.int .i64 m).wf = true) (hf : ¬ (0 ≤ off ∧ 0 ≤ m ∧ off + m ≤ 64)) :
    Calls Try.prog 36 #[.pointer (some ⟨q, 0, none⟩), .int .i64 (k : Int), .int .i64 off, .int .i64 m] w fun e w' => e = .returned (.tuple #[.slice none 0 0, .int .i64 2]) ∧ w = w' := by
  have HH := Lib.hid (is_yes w q rr rb n R B h k hk hr)
  have b1 := i64_bd ho
  have b2 := i64_bd hm
  clear h hr hk ho hm
  by_cases h0 : off < 0
  · have d0 : decide (off < 0) = true := decide_eq_true h0
    clear hf h0 b1 b2
    go_enter Try.func36, Try.ntmps36
    go_wp2_with (first | (go_at_call 24; (with_reducible refine HH.out.mono ?_); rintro e w1 ⟨rfl, rfl⟩))
    go_ret2
    exact ⟨rfl, rfl⟩
  · have d0 : decide (off < 0) = false := decide_eq_false h0
    by_cases h1 : m < 0
    · have d1 : decide (m < 0) = true := decide_eq_true h1
      clear hf h0 b1 b2 h1
      go_enter Try.func36, Try.ntmps36
      go_wp2_with (first | (go_at_call 24; (with_reducible refine HH.out.mono ?_); rintro e w1 ⟨rfl, rfl⟩))
      go_ret2
      exact ⟨rfl, rfl⟩
    · have d1 : decide (m < 0) = false := decide_eq_false h1
      by_cases h2 : 64 < off
      · have d2 : decide (64 < off) = true := decide_eq_true h2
        clear hf h0 b1 b2 h1 h2
        go_enter Try.func36, Try.ntmps36
        go_wp2_with (first | (go_at_call 24; (with_reducible refine HH.out.mono ?_); rintro e w1 ⟨rfl, rfl⟩))
        go_ret2
        exact ⟨rfl, rfl⟩
      · have d2 : decide (64 < off) = false := decide_eq_false h2
        by_cases h3 : 64 < m
        · have d3 : decide (64 < m) = true := decide_eq_true h3
          clear hf h0 b1 b2 h1 h2 h3
          go_enter Try.func36, Try.ntmps36
          go_wp2_with (first | (go_at_call 24; (with_reducible refine HH.out.mono ?_); rintro e w1 ⟨rfl, rfl⟩))
          go_ret2
          exact ⟨rfl, rfl⟩
        · have d3 : decide (64 < m) = false := decide_eq_false h3
          have d4 : decide (64 < off + m) = true := decide_eq_true (by omega)
          have d5 : IntKind.i64.wrap (off + m) = off + m := by rw [IntKind.wrap_i64]; omega
          clear hf h0 b1 b2 h1 h2 h3
          go_enter Try.func36, Try.ntmps36
          go_wp2_with (first | (go_at_call 24; (with_reducible refine HH.out.mono ?_); rintro e w1 ⟨rfl, rfl⟩))
          go_ret2
          exact ⟨rfl, rfl⟩
theorem u8f_succ (f : Nat → Nat) (i : Nat) : u8f f (i + 1) = u8f f i ++ [.int .u8 (f i : Int)] := by simp [u8f, List.range_succ]
set_option maxHeartbeats 1000000 in
theorem rread_ok (w : World) (q rr rb n : Nat) (R : Nat → Nat) (B : Nat → Nat → Nat) (h : RMem w q rr rb n R B) (k : Nat) (hk : k < n) (hr : R k ≠ 0) (off m : Nat) (hf : off + m ≤ 64) :
    Calls Try.prog 36 #[.pointer (some ⟨q, 0, none⟩), .int .i64 (k : Int), .int .i64 (off : Int), .int .i64 (m : Int)] w fun e w' => Below w.heap.size w w' ∧ ∃ r, e = .returned (.tuple #[r, .int .i64 0]) ∧ w'.ownsRow w.heap.size 5 1 r m (u8f (fun i => B k (off + i)) m) := by
  have HH := Lib.hid (is_yes w q rr rb n R B h k hk hr)
  obtain ⟨i0, hi, hz0, hz1, hz2⟩ := info_parts info5
  obtain ⟨⟨c1, c2, a1, a2⟩, ⟨cs, b1, b2, b3⟩, ⟨ds, d1, d2, d3⟩, ⟨h6, h7⟩, _⟩ := h
  obtain ⟨g, cap, cur, e1, e2, e3, e4, e5⟩ := d3 k hk
  have hcq : w.cell? ⟨q, 1, none⟩ = some (.slice (some ⟨rb, 0, none⟩) n c2) := a1.cell 1
  have hcb := (d1.cell k).trans e1
  have hcg : ∀ i, i < m → w.cell? ⟨g, off + i, none⟩ = some (.int .u8 (B k (off + i) : Int)) := fun i hi => (e4.cell _).trans (e5 (off + i) (by omega))
  have hq := a1.lt
  have hb := d1.lt
  have hg := e4.lt
  have hk2 : (k : Int) < (n : Int) := by omega
  have x0 : decide ((off : Int) < 0) = false := decide_eq_false (by omega)
  have x1 : decide ((m : Int) < 0) = false := decide_eq_false (by omega)
  have x2 : decide (64 < (off : Int)) = false := decide_eq_false (by omega)
  have x3 : decide (64 < (m : Int)) = false := decide_eq_false (by omega)
  have x4 : decide (64 < (off : Int) + (m : Int)) = false := decide_eq_false (by omega)
  have x5 : (off : Int) + (m : Int) ≤ 64 := by omega
  clear a1 a2 b1 b2 b3 d1 d2 d3 e1 e3 e4 e5 hr
  go_enter Try.func36, Try.ntmps36
  go_wp2_with (first | (go_at_call 24; (with_reducible refine HH.out.mono ?_); rintro e w1 ⟨rfl, rfl⟩))
  go_loopw [11, 12] (fun v i wr => ∃ (j : Nat) (s11 : Value), s11 = v ∧ j ≤ m ∧ i = .int .i64 (j : Int) ∧ wr.ownsRow w.heap.size 5 1 v j (u8f (fun i => B k (off + i)) j) ∧ Below w.heap.size w wr) (fun _ i _ => m - (intOf i).toNat)
  case atStart => exact ⟨0, _, rfl, Nat.zero_le _, rfl, World.ownsRow_nil _ _ _ _, Below.refl _ _⟩
  case round =>
    obtain ⟨j, s11, rfl, hj, rfl, hrow, hB⟩ := hrel
    by_cases hlt : j < m
    · have ccq := (hB.cell (p := ⟨q, 1, none⟩) hq).trans hcq
      have ccb := (hB.cell (p := ⟨rb, k, none⟩) hb).trans hcb
      have ccg := (hB.cell (p := ⟨g, off + j, none⟩) hg).trans (hcg j hlt)
      have hs := hB.size
      obtain ⟨b, hbv⟩ : ∃ b : Int, b = (B k (off + j) : Int) := ⟨_, rfl⟩
      rw [← hbv] at ccg
      obtain ⟨v', w2, hrun, hown', hgrow, -⟩ := run_append_own (P := Try.prog) (w := wr.alloc (.cells #[.int .u8 b] 5)) w.heap.size 31 31 5 i0 (.int .u8 0) 1 1 Try.underlying31 hi hz0 hz1 hz2 rfl (by decide) s11 j (u8f (fun i => B k (off + i)) j) (hrow.alloc _) ⟨wr.heap.size, 0, none⟩ 1 1 [.int .u8 b] rfl
        (by intro j u hj; have hj0 : j = 0 := (by cases j with | zero => rfl | succ j => simp at hj); subst hj0; simp at hj; subst hj; simp [Addr.add]) (by simp [Value.oneCell']) (by unfold maxLen; omega) (by omega) (by simp; omega)
      have hrun' : (appO #[31, 31] 31 #[s11, .slice (some ⟨wr.heap.size, 0, none⟩) 1 1]).run Try.prog (wr.alloc (.cells #[.int .u8 b] 5)) = .ok v' w2 := hrun
      have hB2 : Below w.heap.size w w2 := (hB.alloc hs _).grown hgrow (by simp; omega) (fun r e => by
        rcases hrow.2 with ⟨e2, _⟩ | ⟨g2, cap2, cur2, e2, hbs, _⟩
        · rw [e2] at e; cases e
        · rw [e2] at e; cases e; exact hbs)
      rw [hbv, ← u8f_succ (fun i => B k (off + i)) j] at hown'
      have HO := Lib.hid (And.intro hown' hB2)
      have y1 : ((off : Int) + (j : Int)) < 64 := by omega
      clear hrun hown' hgrow hB2 hrow hB hcg hcb hcq hbv
      go_wp2
      go_roundw
      case rel => exact ⟨j + 1, _, rfl, by omega, by go_num, HO.out.1, HO.out.2⟩
      case measure => simp [intOf]; omega
    · obtain rfl : j = m := by omega
      clear hcg hcb hcq
      have HO := Lib.hid (And.intro hrow hB)
      clear hrow hB
      go_wp2
      go_ret2
      exact ⟨HO.out.2, _, rfl, HO.out.1⟩

theorem rwrite_no (w : World) (q rr rb n : Nat) (R : Nat → Nat) (B : Nat → Nat → Nat) (h : RMem w q rr rb n R B) (k off : Int) (a : Option Addr) (m c : Nat) (hk : rf n R k = 0) :
    Calls Try.prog 37 #[.pointer (some ⟨q, 0, none⟩), .int .i64 k, .int .i64 off, .slice a m c] w fun e w' => e = .returned (.int .i64 41) ∧ w = w' := by
  have HH := Lib.hid (rread_no w q rr rb n R B h k off m hk)
  clear h hk
  go_enter Try.func37, Try.ntmps37
  go_wp2_with (first | (go_at_call 36; (with_reducible refine HH.out.mono ?_); rintro e w1 ⟨rfl, rfl⟩))
  go_ret
  exact ⟨rfl, rfl⟩
theorem rwrite_arg (w : World) (q rr rb n : Nat) (R : Nat → Nat) (B : Nat → Nat → Nat) (h : RMem w q rr rb n R B) (k : Nat) (hk : k < n) (hr : R k ≠ 0) (off : Int) (ho : (Lit.int .i64 off).wf = true) (a : Option Addr) (m c : Nat) (hm : m ≤ 1000000) (hf : ¬ (0 ≤ off ∧ off + m ≤ 64)) :
    Calls Try.prog 37 #[.pointer (some ⟨q, 0, none⟩), .int .i64 (k : Int), .int .i64 off, .slice a m c] w fun e w' => e = .returned (.int .i64 2) ∧ w = w' := by
  have HH := Lib.hid (rread_arg w q rr rb n R B h k hk hr off m ho (by simp [Lit.wf, IntKind.min, IntKind.max, IntKind.signed, IntKind.bits]; omega) (by omega))
  clear h hk hf hm ho
  go_enter Try.func37, Try.ntmps37
  go_wp2_with (first | (go_at_call 36; (with_reducible refine HH.out.mono ?_); rintro e w1 ⟨rfl, rfl⟩))
  go_ret
  exact ⟨rfl, rfl⟩
/-- The first j of the bytes written. -/
def wrj (f : Nat → Nat) (off : Nat) (xs : List Nat) (j : Nat) : Nat → Nat := wr f off (xs.take j)
theorem wrj_zero (f : Nat → Nat) (off : Nat) (xs : List Nat) (i : Nat) : wrj f off xs 0 i = f i := by
  unfold wrj wr
  rw [List.take_zero, if_neg (by simp)]
theorem wrj_all (f : Nat → Nat) (off : Nat) (xs : List Nat) : wrj f off xs xs.length = wr f off xs := by unfold wrj; rw [List.take_length]
theorem wrj_succ (f : Nat → Nat) (off : Nat) (xs : List Nat) (j i : Nat) (hj : j < xs.length) : wrj f off xs (j + 1) i = if i = off + j then xs[j]?.getD 0 else wrj f off xs j i := by
  unfold wrj wr
  simp only [List.length_take]
  by_cases e : i = off + j
  · subst e
    rw [if_pos ⟨by omega, by omega⟩, if_pos rfl, show off + j - off = j by omega, List.getElem?_take, if_pos (by omega)]
  · rw [if_neg e]
    by_cases e2 : off ≤ i ∧ i < off + j
    · rw [if_pos ⟨by omega, by omega⟩, if_pos ⟨by omega, by omega⟩, List.getElem?_take, List.getElem?_take, if_pos (by omega), if_pos (by omega)]
    · rw [if_neg (by omega), if_neg (by omega)]
/-- A slice of bytes of the call's own, as it is written: what it holds. -/
def Own8 (n₀ : Nat) (w : World) (g : Nat) (f : Nat → Nat) : Prop := n₀ ≤ g ∧ ∃ cur, Blk w g cur 5 ∧ 64 ≤ cur.size ∧ ∀ i, i < 64 → cur[i]? = some (.int .u8 (f i : Int))
theorem Own8.set {n₀ : Nat} {w : World} {g : Nat} {f : Nat → Nat} (h : Own8 n₀ w g f) (i x : Nat) (f' : Nat → Nat) (hi : i < 64) (hf : ∀ j, j < 64 → f' j = if j = i then x else f j) : Own8 n₀ (w.setCell ⟨g, i, none⟩ (.int .u8 (x : Int))) g f' := by
  obtain ⟨h1, cur, h2, h3, h4⟩ := h
  refine ⟨h1, _, h2.set _ _, by simpa using h3, fun j hj => ?_⟩
  rw [Array.getElem?_setIfInBounds, hf j hj]
  by_cases e : j = i
  · subst e
    rw [if_pos rfl, if_pos (by omega), if_pos rfl]
  · rw [if_neg (Ne.symm e), if_neg e]
    exact h4 j hj
set_option maxHeartbeats 1000000 in
theorem rwrite_ok (w : World) (q rr rb n : Nat) (R : Nat → Nat) (B : Nat → Nat → Nat) (h : RMem w q rr rb n R B) (k : Nat) (hk : k < n) (hr : R k ≠ 0) (off : Nat) (v : Value) (xs : List Nat) (hs : Slc .u8 w v xs) (hx : ∀ x ∈ xs, x < 256) (hf : off + xs.length ≤ 64) :
    Calls Try.prog 37 #[.pointer (some ⟨q, 0, none⟩), .int .i64 (k : Int), .int .i64 (off : Int), v] w fun e w' => e = .returned (.int .i64 0) ∧ RMem w' q rr rb n R (up B k (wr (B k) off xs)) ∧ Kp (fun j => j = rr ∨ j = rb) w w' ∧ ∀ g', Rws w' rb n g' → Rws w rb n g' ∨ w.heap.size ≤ g' := by
  have HH := Lib.hid (rread_ok w q rr rb n R B h k hk hr off xs.length hf)
  have H := Lib.hid h
  have HX := Lib.hid hx
  obtain ⟨i0, hi, hz0, hz1, hz2⟩ := info_parts info5
  have hlt := h.lt
  obtain ⟨⟨c1, c2, a1, a2⟩, _, ⟨ds, d1, d2, d3⟩, ⟨h6, h7⟩, _⟩ := h
  obtain ⟨g, cap, cur, e1, e2, e3, e4, e5⟩ := d3 k hk
  have hcq : w.cell? ⟨q, 1, none⟩ = some (.slice (some ⟨rb, 0, none⟩) n c2) := a1.cell 1
  have hcb := (d1.cell k).trans e1
  have hcg : ∀ i, i < 64 → w.cell? ⟨g, i, none⟩ = some (.int .u8 (B k i : Int)) := fun i hi => (e4.cell _).trans (e5 i hi)
  have hg := e4.lt
  have hk2 : (k : Int) < (n : Int) := by omega
  have HC := Lib.hid (And.intro hcq (And.intro hcb hcg))
  obtain ⟨a, vcap, rfl, hcap, hmax, hread⟩ := hs
  have HRd := Lib.hid hread
  have hxl : ((xs.length : Nat) : Int) ≤ 64 := by omega
  have HF := Lib.hid hf
  clear a1 a2 d1 d2 d3 e1 e3 e4 e5 hr hread hx hcq hcb hcg hf
  go_enter Try.func37, Try.ntmps37
  go_wp2_with (first | (go_at_call 36; (with_reducible refine HH.out.mono ?_); rintro e w1 ⟨hb1, r1, rfl, hr1⟩; clear hr1; refine Hid.out ?_))
  refine Lib.hid ?_
  have hs1 := hb1.size
  have ccq := (hb1.cell (p := ⟨q, 1, none⟩) hlt.1).trans HC.out.1
  have ccb := (hb1.cell (p := ⟨rb, k, none⟩) hlt.2.2).trans HC.out.2.1
  have ccg : ∀ i, i < 64 → w1.cell? ⟨g, i, none⟩ = some (.int .u8 (B k i : Int)) := fun i hi => (hb1.cell (p := ⟨g, i, none⟩) hg).trans (HC.out.2.2 i hi)
  have hnews : ∀ j u, (u8f (B k) 64)[j]? = some u → w1.cell? ((⟨g, 0, none⟩ : Addr).add j) = some u := by
    intro j u hj
    have hjm : j < 64 := by rw [← u8f_len (B k) 64]; exact (List.getElem?_eq_some_iff.1 hj).1
    rw [u8f_at (B k) 64 j hjm] at hj
    cases hj
    rw [Addr.add_mid, Nat.zero_add]
    exact ccg j hjm
  obtain ⟨v', w2, hrun, hown, hgr, -⟩ := run_append_own_at (P := Try.prog) (w := w1) w.heap.size 31 31 5 i0 (.int .u8 0) 1 1 Try.underlying31 hi hz0 hz1 hz2 rfl (by decide) (.slice none 0 0) 0 [] (World.ownsRow_nil _ _ _ _) ⟨g, 0, none⟩ 64 cap (u8f (B k) 64) (by rw [u8f_len])
    hnews (u8f_one _ _) (by unfold maxLen; omega) (by omega) hs1
  have hrun' : (appO #[31, 31] 31 #[.slice none 0 0, .slice (some ⟨g, 0, none⟩) 64 cap]).run Try.prog w1 = .ok v' w2 := hrun
  have hB2 : Below w.heap.size w w2 := hb1.grown hgr hs1 (fun r e => by cases e)
  rw [Nat.zero_add, List.nil_append] at hown
  obtain ⟨_, ⟨e9, h0⟩ | ⟨g2, cap2, cur2, rfl, hg2, hb2, hn2, hm2, hz2', ht2⟩⟩ := hown
  · omega
  have hO8 : Own8 w.heap.size w2 g2 (B k) := ⟨hg2, cur2, hb2, by omega, fun i hi => by
    have := congrArg (fun l => l[i]?) ht2
    simp only [List.getElem?_take, Nat.mul_one, hi, if_true, Array.getElem?_toList] at this
    rw [this]
    exact u8f_at _ _ _ hi⟩
  have HO := Lib.hid hO8
  have HB2 := Lib.hid hB2
  clear hrun hgr hO8 hB2 hb2 ht2 hnews ccg hz0 hz1 hz2 hi hz2'
  go_wp2
  go_loopw [12] (fun i wr => ∃ j : Nat, j ≤ xs.length ∧ i = .int .i64 (j : Int) ∧ Own8 w.heap.size wr g2 (wrj (B k) off xs j) ∧ Below w.heap.size w wr) (fun i _ => xs.length - (intOf i).toNat)
  case atStart => exact ⟨0, Nat.zero_le _, rfl, by
    have e : wrj (B k) off xs 0 = B k := funext fun i => wrj_zero _ _ _ _
    rw [e]; exact HO.out, HB2.out⟩
  case round =>
    obtain ⟨j, hj, rfl, h8, hB⟩ := hrel
    by_cases hlt2 : j < xs.length
    · rcases HRd.out with h0 | ⟨ba, oa, rfl, hla, hca⟩
      · subst h0; simp at hlt2
      · have ca : wr.cell? ⟨ba, oa + j, none⟩ = some (.int .u8 ((xs[j]?.getD 0 : Nat) : Int)) := (hB.cell (p := ⟨ba, oa + j, none⟩) hla).trans (hca j hlt2)
        obtain ⟨x, hxv⟩ : ∃ x, xs[j]?.getD 0 = x := ⟨_, rfl⟩
        rw [hxv] at ca
        have hfo := HF.out
        have h8' := h8.set (off + j) x (wrj (B k) off xs (j + 1)) (by omega) (fun i hi => by rw [wrj_succ _ _ _ _ _ hlt2, hxv])
        obtain ⟨k1, cur3, k2, k3, k4⟩ := h8
        have cl := (k2.cell (off + j)).trans (k4 (off + j) (by omega))
        have fl := k2.free (off + j)
        have hB3 := hB.setCell (p := ⟨g2, off + j, none⟩) k1 (.int .u8 (x : Int))
        have H8 := Lib.hid (And.intro h8' hB3)
        have y1 : ((off : Int) + (j : Int)) < 64 := by omega
        clear hca hxv h8' k2 k4 hB hB3
        go_wp2
        go_roundw
        case rel => exact ⟨j + 1, by omega, by go_num, H8.out.1, H8.out.2⟩
        case measure => simp [intOf]; omega
    · obtain rfl : j = xs.length := by omega
      rw [wrj_all] at h8
      have ccq := (hB.cell (p := ⟨q, 1, none⟩) hlt.1).trans HC.out.1
      have ccb := (hB.cell (p := ⟨rb, k, none⟩) hlt.2.2).trans HC.out.2.1
      have hwr := H.out.below hB
      obtain ⟨k1, cur3, k2, k3, k4⟩ := h8
      obtain ⟨ds', d1', d2', _⟩ := hwr.rows
      have ff := d1'.free k
      have hu := H.out.u8 k
      have hsr := RMem.setRow hwr k g2 cap2 cur3 (Fw.wr (B k) off xs) hk hn2 hm2 k2 k4 (fun i => by
        unfold Fw.wr
        split
        · rename_i hi2
          rw [List.getElem?_eq_getElem (show i - off < xs.length by omega)]
          exact HX.out _ (List.getElem_mem _)
        · exact hu i)
      have hkp : Kp (fun j => j = rr ∨ j = rb) w (wr.setCell ⟨rb, k, none⟩ (.slice (some ⟨g2, 0, none⟩) 64 cap2)) := (Kp.of_below (S := fun j => j = rr ∨ j = rb) hB).trans (Kp.set (S := fun j => j = rr ∨ j = rb) _ rb _ _ (.inr rfl)) (fun _ h => .inl h)
      have hrw : ∀ g', Rws (wr.setCell ⟨rb, k, none⟩ (.slice (some ⟨g2, 0, none⟩) 64 cap2)) rb n g' → Rws w rb n g' ∨ w.heap.size ≤ g' := fun g' hg' => by
        rcases Rws.set hg' d1' with h | h
        · exact .inl (Rws.kept h (Kp.of_below (S := fun _ => False) hB) hlt.2.2 (fun e => e))
        · exact .inr (by rw [h]; exact k1)
      have HZ := Lib.hid (And.intro hsr (And.intro hkp hrw))
      clear hsr hkp hrw k2 k4 d1' hwr hB
      go_wp2
      go_ret
      exact ⟨rfl, HZ.out.1, HZ.out.2.1, HZ.out.2.2⟩
end Go.Proofs.Ytompcmbaiegkaaa.Gr
