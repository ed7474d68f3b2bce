/-
  A futex: who goes: Index, Contains, the closures, IndexFunc, DeleteFunc, leave.
-/
import Derived.Test.YtpfnjeicenhciaaFtd
import Derived.Lib.SliceRun
namespace Go.Proofs.Ytpfnjeicenhciaa.Fte
open Go Go.RowKit Kit Bk Fta Ftb Ftc Ftd
set_option linter.unusedVariables false

/-- A slice of numbers, as it reads. -/
def Nr (w : World) (v : Value) (l : List Int) : Prop := w.ownsRow 0 3 1 v l.length (ints l)
theorem Nr.cells {w : World} {v : Value} {l : List Int} (h : Nr w v l) : ∃ a c, v = .slice a l.length c ∧ l.length ≤ c ∧ c ≤ maxLen ∧ ∀ i (hi : i < l.length), ∃ g, a = some ⟨g, 0, none⟩ ∧ w.cell? ⟨g, i, none⟩ = some (.int .i64 l[i]) := by
  have hh := id h
  rcases h.2 with ⟨rfl, h0⟩ | ⟨g, cap, cur, rfl, hg, hb, h3, h4, h5, h6⟩
  · exact ⟨none, 0, by rw [h0], by omega, Nat.zero_le _, fun i hi => by omega⟩
  · refine ⟨_, cap, rfl, h3, h4, fun i hi => ⟨g, rfl, ?_⟩⟩
    rw [World.ownsRow.cellAt hh i (by omega)]
    simp [ints, hi]
theorem Nr.below {w w' : World} {v : Value} {l : List Int} (h : Nr w v l) (hb : Below w.heap.size w w') : Nr w' v l := own_below h hb
theorem Nr.kept {S : Nat → Prop} {w w' : World} {v : Value} {l : List Int} (h : Nr w v l) (hk : Kp S w w') (hS : ∀ g cs, Blk w g cs 3 → ¬ S g) : Nr w' v l := by
  refine own_kept h hk (fun g n c e => ?_)
  rcases h.2 with ⟨rfl, h0⟩ | ⟨g', cap, cur, rfl, hg, hb, h3⟩
  · cases e
  · cases e
    exact hS g cur hb

/-- Is a number among others? -/
def cnt (l : List Int) (q : Int) : Bool := l.contains q
theorem cnt_iff {l : List Int} {q : Int} : cnt l q = true ↔ q ∈ l := by unfold cnt; exact List.contains_iff_mem
def Ix (l : List Int) (q z : Int) : Prop := decide (0 ≤ z) = cnt l q
def eqq (q : Int) (x : Wt) : Bool := x.q == q
def inn (l : List Int) (x : Wt) : Bool := cnt l x.q
theorem index_any (w : World) (v : Value) (l : List Int) (q : Int) (h : Nr w v l) :
    Calls Try.prog 41 #[v, .int .i64 q] w fun e w' => (∃ z : Int, e = .returned (.int .i64 z) ∧ Ix l q z) ∧ w = w' := by
  obtain ⟨a, c, rfl, h1, h2, h3⟩ := h.cells
  have H3 := Lib.hid h3
  unfold maxLen at h2
  have hcI : (l.length : Int) ≤ 9223372036854775807 := by omega
  clear h h3 h1 h2
  go_enter Try.func41, Try.ntmps41
  go_wp2
  go_loop [8, 5] (fun i x => ∃ j : Nat, j ≤ l.length ∧ i = .int .i64 (j : Int) ∧ ∀ m (hm : m < l.length), m < j → l[m] ≠ q) (fun i _ => l.length - (intOf i).toNat)
  case atStart => exact ⟨0, Nat.zero_le _, rfl, fun m _ hm => absurd hm (Nat.not_lt_zero _)⟩
  case round =>
    obtain ⟨j, hj, rfl, hno⟩ := hrel
    by_cases hlt : j < l.length
    · have hltI : (j : Int) < (l.length : Int) := by omega
      obtain ⟨g, rfl, c0⟩ := H3.out j hlt
      have HNo := Lib.hid hno
      by_cases he : l[j] = q
      · have d0 : (q == l[j]) = true := by simpa using he.symm
        have hres : Hid (Ix l q (j : Int)) := Lib.hid (by unfold Ix; rw [cnt_iff.2 (by rw [← he]; exact List.getElem_mem hlt)]; exact decide_eq_true (by omega))
        generalize l[j] = x at *
        clear hno he
        go_wp2
        go_ret
        exact ⟨⟨_, rfl, hres.out⟩, rfl⟩
      · have d0 : (q == l[j]) = false := by simpa using fun e => he e.symm
        have HE := Lib.hid he
        generalize hx : l[j] = x at *
        clear hno he
        go_wp2
        go_round
        case rel => exact ⟨j + 1, by omega, by go_num, fun m hl hm => by
          by_cases e : m = j
          · subst e; rw [hx]; exact HE.out
          · exact HNo.out m hl (by omega)⟩
        case measure => simp [intOf]; omega
    · obtain rfl : j = l.length := by omega
      have hres : Hid (Ix l q (-1)) := Lib.hid (by
        have hc : ¬ cnt l q = true := fun hm => by
          obtain ⟨i, hi, e⟩ := List.getElem_of_mem (cnt_iff.1 hm)
          exact hno i hi hi e
        unfold Ix
        rw [Bool.eq_false_iff.2 hc]
        rfl)
      clear hno
      go_wp2
      go_ret
      exact ⟨⟨_, rfl, hres.out⟩, rfl⟩
theorem contains_any (w : World) (v : Value) (l : List Int) (q : Int) (h : Nr w v l) :
    Calls Try.prog 33 #[v, .int .i64 q] w fun e w' => e = .returned (.bool (cnt l q)) ∧ w = w' := by
  have HI := Lib.hid (index_any w v l q h)
  clear h
  go_enter Try.func33, Try.ntmps33
  go_wp2_with (go_at_call 41; (with_reducible refine HI.out.mono ?_); rintro e w1 ⟨⟨z, rfl, hz⟩, rfl⟩)
  go_ret
  exact ⟨by rw [← show decide (0 ≤ z) = cnt l q from hz]; rfl, rfl⟩

/-- Whether one goes: what the closure answers, as long as w's blocks lie there as they did, but for block r. -/
def Goes (w : World) (r F b : Nat) (d : Wt → Bool) : Prop := ∀ W x, Kp (fun j => j = r) w W → Calls Try.prog F #[wv x, .pointer (some ⟨b, 0, none⟩)] W fun e w' => e = .returned (.bool (d x)) ∧ Below W.heap.size W w'
theorem Goes.kept {w w' : World} {r F b : Nat} {d : Wt → Bool} (h : Goes w r F b d) (hk : Kp (fun j => j = r) w w') : Goes w' r F b d := fun W x k => h W x (hk.trans k (fun j e => .inl e))
theorem goes_pid (w : World) (r b : Nat) (q : Int) (hb : Blk w b #[.int .i64 q] 3) (hne : b ≠ r) : Goes w r 34 b (eqq q) := by
  intro W x hk
  obtain ⟨z, hz⟩ : ∃ z, eqq q x = z := ⟨_, rfl⟩
  have d0 : (x.q == q) = z := hz
  rw [hz]
  clear hz
  have hB := hb.kept hk hne
  have hba := (Below.refl W.heap.size W).alloc (Nat.le_refl _) (.cells #[.int .i64 x.q, .int .i64 x.k.p, .int .i64 x.k.f, .int .i64 x.k.o] 51)
  have c0 := (hB.below hba).cell 0
  have HB := Lib.hid hba
  clear hb hB hk hne hba
  go_enter Try.func34, Try.ntmps34
  go_wp2
  go_ret
  exact ⟨rfl, HB.out⟩
theorem goes_list (w : World) (r b : Nat) (v : Value) (l : List Int) (hb : Blk w b #[v] 37) (hl : Nr w v l) (hne : b ≠ r) (hr : ∀ g cs, Blk w g cs 3 → g ≠ r) : Goes w r 32 b (inn l) := by
  intro W x hk
  obtain ⟨z, hz⟩ : ∃ z, inn l x = z := ⟨_, rfl⟩
  have d0 : cnt l x.q = z := hz
  rw [hz]
  clear hz
  have hB := hb.kept hk hne
  have hL := hl.kept hk hr
  have hba := (Below.refl W.heap.size W).alloc (Nat.le_refl _) (.cells #[.int .i64 x.q, .int .i64 x.k.p, .int .i64 x.k.f, .int .i64 x.k.o] 51)
  have c0 := (hB.below hba).cell 0
  have HC := contains_any _ v l x.q (hL.below hba)
  rw [d0] at HC
  replace HC := Lib.hid HC
  clear d0
  have HB := Lib.hid hba
  obtain ⟨a, c, rfl, _, _, _⟩ := hL.cells
  clear hb hB hk hne hba hl hL hr
  go_enter Try.func32, Try.ntmps32
  go_wp2_with (go_at_call 33; (with_reducible refine HC.out.mono ?_); rintro e w1 ⟨rfl, rfl⟩)
  go_ret
  exact ⟨rfl, HB.out⟩

/-- The first who goes. -/
def Fst (L : List Wt) (d : Wt → Bool) (z : Int) : Prop := (z = -1 ∧ ∀ m (hm : m < L.length), d L[m] = false) ∨ ∃ (i : Nat) (hi : i < L.length), z = (i : Int) ∧ d L[i] = true ∧ ∀ m (hm : m < L.length), m < i → d L[m] = false
theorem kp_below {S : Nat → Prop} {w w' : World} (h : Below w.heap.size w w') : Kp S w w' := .of_below h
set_option maxHeartbeats 1000000 in
theorem idx_any (w : World) (v : Value) (f r : Nat) (L : List Wt) (F b : Nat) (d : Wt → Bool) (h : Wr w v f r L) (hg : Goes w r F b d) (hF : F = 32 ∨ F = 34) :
    Calls Try.prog 43 #[v, .func (.func F) #[] #[.pointer (some ⟨b, 0, none⟩)]] w fun e w' => (∃ z, e = .returned (.int .i64 z) ∧ Fst L d z) ∧ Below w.heap.size w w' := by
  obtain ⟨a, c, rfl, h1, h2, h3⟩ := h.form
  have H3 := Lib.hid h3
  have HR := Lib.hid h
  have HG := Lib.hid hg
  unfold maxLen at h2
  have hcI : (L.length : Int) ≤ 9223372036854775807 := by omega
  clear h h3 h1 h2 hg
  rcases hF with rfl | rfl
  all_goals
    go_enter Try.func43, Try.ntmps43
    go_wp2
    go_loopw [8, 5] (fun i x wr => ∃ j : Nat, j ≤ L.length ∧ i = .int .i64 (j : Int) ∧ (∀ m (hm : m < L.length), m < j → d L[m] = false) ∧ Below w.heap.size w wr) (fun i _ _ => L.length - (intOf i).toNat)
    case atStart => exact ⟨0, Nat.zero_le _, rfl, fun m _ hm => absurd hm (Nat.not_lt_zero _), Below.refl _ _⟩
    case round =>
      obtain ⟨j, hj, rfl, hno, hb⟩ := hrel
      by_cases hlt : j < L.length
      · have hltI : (j : Int) < (L.length : Int) := by omega
        obtain rfl := H3.out j hlt
        obtain ⟨c0, c1, c2, c3⟩ := (HR.out.below hb).cells j hlt
        have HD := Lib.hid (HG.out wr L[j] (kp_below hb))
        have HNo := Lib.hid (And.intro hno hb)
        clear hno hb
        cases hd : d L[j] with
        | true =>
          rw [hd] at HD
          generalize hx : L[j] = x at *
          go_wp2_with ((first | go_at_call 32 | go_at_call 34); (with_reducible refine HD.out.mono ?_); rintro e w1 ⟨rfl, hb1⟩; replace hb1 := Lib.hid hb1)
          go_ret
          exact ⟨⟨_, rfl, .inr ⟨j, hlt, rfl, by rw [hx]; exact hd, HNo.out.1⟩⟩, HNo.out.2.trans (hb1.out.mono HNo.out.2.size)⟩
        | false =>
          rw [hd] at HD
          generalize hx : L[j] = x at *
          go_wp2_with ((first | go_at_call 32 | go_at_call 34); (with_reducible refine HD.out.mono ?_); rintro e w1 ⟨rfl, hb1⟩; replace hb1 := Lib.hid hb1)
          go_roundw
          case rel => exact ⟨j + 1, by omega, by go_num, fun m hl hm => by
            by_cases e : m = j
            · subst e; rw [hx]; exact hd
            · exact HNo.out.1 m hl (by omega), HNo.out.2.trans (hb1.out.mono HNo.out.2.size)⟩
          case measure => simp [intOf]; omega
      · obtain rfl : j = L.length := by omega
        have HNo := Lib.hid (And.intro hno hb)
        clear hno hb
        go_wp2
        go_ret
        exact ⟨⟨_, rfl, .inl ⟨rfl, fun m hm => HNo.out.1 m hm hm⟩⟩, HNo.out.2⟩
end Go.Proofs.Ytpfnjeicenhciaa.Fte
