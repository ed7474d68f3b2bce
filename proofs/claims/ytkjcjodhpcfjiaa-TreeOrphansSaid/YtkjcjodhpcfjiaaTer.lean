/-
  A table of a law's own, above what lay there; the calls on it; lists held against each other.
-/
import Derived.Test.YtkjcjodhpcfjiaaTeq
import Derived.DeepKeys
import Derived.Deep.RegionLawGrows
namespace Go.Proofs.Ytkjcjodhpcfjiaa.Ter
open Go Go.RowKit Go.Shelf Kit Bk Tea Teb Tec Ted Tee Tef Teg Teh Tei Tej Tek Tel Tem Ten Teo Tep Teq
set_option linter.unusedVariables false

set_option maxRecDepth 100000 in
set_option maxHeartbeats 2000000 in
theorem same_ints (w : World) (u v : Value) (a b : List Int) (h : Nr w u a) (h2 : Nr w v b) :
    Calls Try.prog 16 #[u, v] w fun e w' => e = .returned (.bool (decide (a = b))) ∧ Below w.heap.size w w' := by
  obtain ⟨a1, c1, rfl, e1, e2, e3⟩ := nr_cells h
  obtain ⟨a2, c2, rfl, f1, f2, f3⟩ := nr_cells h2
  unfold maxLen at e1 f1
  by_cases hlen : a.length = b.length
  · have d0 : ((a.length : Int) != (b.length : Int)) = false := by simp [hlen]
    have d0' : (a.length != b.length) = false := by simp [hlen]
    have E3 := Lib.hid e3
    have F3 := Lib.hid f3
    have HI : (b.length : Int) ≤ 9223372036854775807 := by omega
    have HL := Lib.hid hlen
    clear h h2 e1 e2 e3 f1 f2 f3
    rw [hlen] at d0 d0' ⊢
    clear hlen
    go_enter Try.func16, Try.ntmps16
    go_wp2
    go_loopw [5] (fun i wr => ∃ j : Nat, j ≤ b.length ∧ i = .int .i64 (j : Int) ∧ (∀ m, m < j → a.getD m 0 = b.getD m 0) ∧ Below w.heap.size w wr) (fun i _ => b.length - (intOf i).toNat)
    case atStart => exact ⟨0, Nat.zero_le _, rfl, fun m hm => absurd hm (Nat.not_lt_zero _), Below.refl _ _⟩
    case round =>
      obtain ⟨j, hj, rfl, hall, hb⟩ := hrel
      by_cases hlt : j < b.length
      · have hltI : (j : Int) < (b.length : Int) := by omega
        obtain ⟨g1, rfl, c1'⟩ := E3.out j (by rw [HL.out]; exact hlt)
        obtain ⟨g2, rfl, c2'⟩ := F3.out j hlt
        replace c1' := (hb.cell (p := ⟨g1, j, none⟩) (cell_lt c1')).trans c1'
        replace c2' := (hb.cell (p := ⟨g2, j, none⟩) (cell_lt c2')).trans c2'
        have ha : a[j]'(by rw [HL.out]; exact hlt) = a.getD j 0 := by simp [List.getD, HL.out, hlt]
        have hbb : b[j] = b.getD j 0 := by simp [List.getD, hlt]
        rw [ha] at c1'
        rw [hbb] at c2'
        clear ha hbb
        have HB := Lib.hid hb
        have HA := Lib.hid hall
        have HD : Hid (Below w.heap.size w wr.drew) := Lib.hid hb.drew
        by_cases he : a.getD j 0 = b.getD j 0
        · have HE := Lib.hid he
          have d1 : (a.getD j 0 != b.getD j 0) = false := by simpa using he
          generalize hx : a.getD j 0 = x at *
          generalize hy : b.getD j 0 = y at *
          clear hall he hb
          go_wp2
          go_region
          go_wp2
          go_roundw
          case rel => exact ⟨j + 1, by omega, by go_num, fun m hm => by
            by_cases e : m = j
            · subst e; rw [hx, hy]; exact HE.out
            · exact HA.out m (by omega), HD.out⟩
          case measure => simp [intOf]; omega
        · have HE : Hid (decide (a = b) = false) := Lib.hid (decide_eq_false (fun e => he (by rw [e])))
          have d1 : (a.getD j 0 != b.getD j 0) = true := by simpa using he
          generalize a.getD j 0 = x at *
          generalize b.getD j 0 = y at *
          clear hall he hb
          go_wp2
          go_region
          go_wp2
          go_ret
          exact ⟨by rw [HE.out]; rfl, HD.out⟩
      · obtain rfl : j = b.length := by omega
        have HE : Hid (decide (a = b) = true) := Lib.hid (decide_eq_true (by
          apply List.ext_getElem HL.out
          intro i h1 h2
          have := hall i h2
          simpa [List.getD, h1, h2] using this))
        have HB := Lib.hid hb
        clear hall hb
        go_wp2
        go_ret
        exact ⟨by rw [HE.out]; rfl, HB.out⟩
  · have d0 : ((a.length : Int) != (b.length : Int)) = true := by simp; omega
    have d0' : (a.length != b.length) = true := by simp; omega
    have HE : Hid (decide (a = b) = false) := Lib.hid (decide_eq_false (fun e => hlen (by rw [e])))
    clear h h2 e3 f3 hlen
    generalize a.length = n1 at *
    generalize b.length = n2 at *
    go_enter Try.func16, Try.ntmps16
    go_wp2
    go_ret
    exact ⟨by rw [HE.out]; rfl, Below.refl _ _⟩


theorem Nr.lit1 (w : World) (x : Int) : Nr (w.alloc (.cells #[.int .i64 x] 3)) (.slice (some ⟨w.heap.size, 0, none⟩) 1 1) [x] :=
  World.ownsRow_lit (base := 0) (e := 3) (size := 1) w #[.int .i64 x] 1 (Nat.zero_le _) (by decide) rfl
theorem nr_below {w w' : World} {u : Value} {l : List Int} (h : Nr w u l) (hb : Below w.heap.size w w') : Nr w' u l := own_below h hb
/-- Rows of other types lie as they lay. -/
def Rk (w w' : World) : Prop := ∀ (base : Nat) (e : TypeId) (s : Nat) (x : Value) (n : Nat) (xs : List Value), e ≠ 65 → e ≠ 4 → w.ownsRow base e s x n xs → w'.ownsRow base e s x n xs
theorem Rk.of_below {w w' : World} (h : Below w.heap.size w w') : Rk w w' := fun base e s x n xs _ _ hr => own_below hr h
theorem Rk.refl (w : World) : Rk w w := fun base e s x n xs _ _ hr => hr
theorem Rk.trans {a b c : World} (h : Rk a b) (k : Rk b c) : Rk a c := fun base e s x n xs h1 h2 hr => k base e s x n xs h1 h2 (h base e s x n xs h1 h2 hr)
theorem Rk.of_tb {B : Nat} {w w' : World} {q b : Nat} {v : Value} {rm : Nat} {L : St} {S : List Bool} (h : Tb B w q b v rm L S) (hk : Kp (fr q b v) w w') : Rk w w' := fun base e s x n xs h1 h2 hr =>
  own_kept hr hk (fun g hg => by
    obtain ⟨_, cs, hc⟩ := own_cells hr hg
    exact h.not_fr hc h1 h2)
theorem Rk.nr {w w' : World} {u : Value} {l : List Int} (h : Rk w w') (hr : Nr w u l) : Nr w' u l := h 0 3 1 u l.length (ints l) (by decide) (by decide) hr
structure On (w0 w : World) (q rm : Nat) (L : St) (S : List Bool) : Prop where
  tb : ∃ b v, Tb w0.heap.size w q b v rm L S
  ok : Okt rm L S
  bel : Below w0.heap.size w0 w
variable {w0 w w' : World} {q rm : Nat} {L : St} {S : List Bool} {p : Int}
theorem On.len (h : On w0 w q rm L S) : L.length < 80000 := by have := h.ok.len; have := h.ok.room; omega
theorem On.below (h : On w0 w q rm L S) (hb : Below w.heap.size w w') : On w0 w' q rm L S := by
  obtain ⟨b, v, ht⟩ := h.tb
  exact ⟨⟨b, v, ht.below hb⟩, h.ok, h.bel.trans (hb.mono h.bel.size)⟩
theorem On.new (n : Nat) (hn : 1 ≤ n ∧ n ≤ 32) (w : World) : Calls Try.prog 14 #[.int .i64 (n : Int)] w fun e w' => ∃ q, e = .returned (.tuple #[pv q, .int .i64 0]) ∧ On w w' q n L1 [false, true] :=
  (new_any n hn w).mono (by
    rintro e w' ⟨q, b, v, rfl, h1, h2⟩
    exact ⟨q, rfl, ⟨b, v, h1⟩, okt_one hn, h2⟩)
theorem On.state (h : On w0 w q rm L S) (hp : (Lit.int .i64 p).wf = true) : Calls Try.prog 25 #[pv q, .int .i64 p] w fun e w' => e = .returned (.int .i64 (gt L p).st) ∧ w = w' := by
  obtain ⟨b, v, ht⟩ := h.tb; exact state_any ht hp
theorem On.status (h : On w0 w q rm L S) (hp : (Lit.int .i64 p).wf = true) : Calls Try.prog 18 #[pv q, .int .i64 p] w fun e w' => e = .returned (uv (gt L p).su) ∧ w = w' := by
  obtain ⟨b, v, ht⟩ := h.tb; exact status_any ht hp
theorem On.parent (h : On w0 w q rm L S) (hp : (Lit.int .i64 p).wf = true) : Calls Try.prog 24 #[pv q, .int .i64 p] w fun e w' => e = .returned (.int .i64 (gt L p).par) ∧ w = w' := by
  obtain ⟨b, v, ht⟩ := h.tb; exact parent_any ht hp
theorem On.next (h : On w0 w q rm L S) : Calls Try.prog 17 #[pv q] w fun e w' => e = .returned (.int .i64 (nxt S : Int)) ∧ w = w' := by
  obtain ⟨b, v, ht⟩ := h.tb; exact next_any ht h.ok.room.1
theorem On.free (h : On w0 w q rm L S) : Calls Try.prog 20 #[pv q] w fun e w' => e = .returned (.int .i64 ((rm - L.length : Nat) : Int)) ∧ Below w.heap.size w w' := by
  obtain ⟨b, v, ht⟩ := h.tb; exact free_any ht h.ok.room h.ok.len h.ok.ok.up
/-- A row that was answered. -/
def Ans (w w' : World) (e : Ending) (l : List Int) : Prop := ∃ a c, e = .returned (.slice a l.length c) ∧ Nr w' (.slice a l.length c) l ∧ Below w.heap.size w w'
theorem Ans.of {e : Ending} {u : Value} {l : List Int} (he : e = .returned u) (hr : w'.ownsRow w.heap.size 3 1 u l.length (ints l)) (hb : Below w.heap.size w w') : Ans w w' e l := by
  obtain ⟨a, c, rfl, _⟩ := nr_cells hr
  exact ⟨a, c, he, own_base hr (Nat.zero_le _), hb⟩
theorem On.all (h : On w0 w q rm L S) : Calls Try.prog 19 #[pv q] w fun e w' => Ans w w' e (pids L) := by
  obtain ⟨b, v, ht⟩ := h.tb
  refine (all_any ht h.ok.ok.up (by have := h.len; omega)).mono ?_
  rintro e w' ⟨u, he, h1, h2⟩
  have hl : (pids L).length = L.length := by simp [pids]
  rw [← hl] at h1
  exact Ans.of he h1 h2
theorem On.kids (h : On w0 w q rm L S) : Calls Try.prog 21 #[pv q, .int .i64 p] w fun e w' => Ans w w' e (kids L p) := by
  obtain ⟨b, v, ht⟩ := h.tb
  refine (kids_any ht h.ok.ok h.len).mono ?_
  rintro e w' ⟨h1, u, he, h2⟩
  exact Ans.of he h2 h1
theorem On.tree (h : On w0 w q rm L S) (hp : (Lit.int .i64 p).wf = true) : Calls Try.prog 22 #[pv q, .int .i64 p] w fun e w' => Ans w w' e (tr L p) := by
  obtain ⟨b, v, ht⟩ := h.tb
  refine (tree_any ht h.ok.ok h.len hp).mono ?_
  rintro e w' ⟨h1, u, he, h2⟩
  exact Ans.of he h2 h1
theorem On.zombie (h : On w0 w q rm L S) (hp : (Lit.int .i64 p).wf = true) : Calls Try.prog 30 #[pv q, .int .i64 p] w fun e w' => e = .returned (.tuple #[.int .i64 (zb L p).1, uv (zb L p).2.1, .int .i64 (zb L p).2.2]) ∧ Below w.heap.size w w' := by
  obtain ⟨b, v, ht⟩ := h.tb; exact zombie_any ht h.ok hp
theorem On.may {r : Int} (h : On w0 w q rm L S) (hp : (Lit.int .i64 p).wf = true) (hr : (Lit.int .i64 r).wf = true) : Calls Try.prog 13 #[pv q, .int .i64 p, .int .i64 r] w fun e w' => e = .returned (.int .i64 (myE rm L S p r)) ∧ Below w.heap.size w w' := by
  obtain ⟨b, v, ht⟩ := h.tb; exact may_any ht h.ok hp hr
theorem On.step {b : Nat} {v v' : Value} {L' : St} {S' : List Bool} (h : On w0 w q rm L S) (ht : Tb w0.heap.size w q b v rm L S) (h1 : Tb w0.heap.size w' q b v' rm L' S') (hk : Kp (fr q b v) w w') (ho : Okt rm L' S') : On w0 w' q rm L' S' ∧ Rk w w' :=
  ⟨⟨⟨b, v', h1⟩, ho, h.bel.trans (hk.below h.bel.size ht.fr_lo)⟩, Rk.of_tb ht hk⟩
theorem On.fork (h : On w0 w q rm L S) (hp : (Lit.int .i64 p).wf = true) : Calls Try.prog 10 #[pv q, .int .i64 p] w fun e w' => e = .returned (.tuple #[.int .i64 (fkR rm L S p).1, .int .i64 (fkR rm L S p).2]) ∧ On w0 w' q rm (fkL rm L S p) (fkS rm L S p) ∧ Rk w w' := by
  obtain ⟨b, v, ht⟩ := h.tb
  refine (fork_any ht h.ok h.bel.size hp).mono ?_
  rintro e w' ⟨rfl, v', h1, h2, h3⟩
  exact ⟨rfl, h.step ht h1 h2 (Okt.fork h.ok p)⟩
theorem On.reap (h : On w0 w q rm L S) (hp : (Lit.int .i64 p).wf = true) : Calls Try.prog 9 #[pv q, .int .i64 p] w fun e w' => e = .returned (.tuple #[.int .i64 (zb L p).1, uv (zb L p).2.1, .int .i64 (zb L p).2.2]) ∧ On w0 w' q rm (rpL L p) S ∧ Rk w w' := by
  obtain ⟨b, v, ht⟩ := h.tb
  refine (reap_any ht h.ok hp).mono ?_
  rintro e w' ⟨rfl, h1, h2⟩
  exact ⟨rfl, h.step ht h1 h2 (Okt.reap h.ok p)⟩
theorem On.thaw {r st : Int} {su : Nat} (h : On w0 w q rm L S) (hp : (Lit.int .i64 p).wf = true) (hr : (Lit.int .i64 r).wf = true) (hsu : su < 4294967296) : Calls Try.prog 12 #[pv q, .int .i64 p, .int .i64 r, .int .i64 st, uv su] w fun e w' => e = .returned (.int .i64 (thE rm L S p r st su)) ∧ On w0 w' q rm (thM rm L S p r st su) (thS rm L S p r st su) ∧ Rk w w' := by
  obtain ⟨b, v, ht⟩ := h.tb
  refine (thaw_any ht h.ok h.bel.size hp hr hsu).mono ?_
  rintro e w' ⟨rfl, v', h1, h2, h3⟩
  exact ⟨rfl, h.step ht h1 h2 (Okt.thaw h.ok p r st su hsu)⟩
/-- Exit and Freeze: what they answer and leave. -/
def fzE (L : St) (p : Int) : Int := if fzB L p = true then 0 else 2
def exA (L : St) (p : Int) : List Int := if fzB L p = true then kids L p else []
def exM (L : St) (p : Int) (su : Nat) : St := if fzB L p = true then exL L p su else L
def fzA (L : St) (p : Int) : List Int := if fzB L p = true then tr L p else []
def fzM (L : St) (p : Int) : St := if fzB L p = true then frL L (tr L p) else L
theorem On.exit {su : Nat} (h : On w0 w q rm L S) (hp : (Lit.int .i64 p).wf = true) (hsu : su < 4294967296) : Calls Try.prog 8 #[pv q, .int .i64 p, uv su] w fun e w' => ∃ a c, e = .returned (.tuple #[.slice a (exA L p).length c, .int .i64 (fzE L p)]) ∧ Nr w' (.slice a (exA L p).length c) (exA L p) ∧ On w0 w' q rm (exM L p su) S ∧ Rk w w' := by
  obtain ⟨b, v, ht⟩ := h.tb
  unfold exA fzE exM
  cases hz : fzB L p
  · refine (exit_no ht h.ok hp hz su).mono ?_
    rintro e w' ⟨rfl, h1⟩
    exact ⟨none, 0, rfl, World.ownsRow_nil w' 0 3 1, h.below h1, Rk.of_below h1⟩
  · rw [if_pos rfl, if_pos rfl, if_pos rfl]
    refine (exit_yes ht h.ok hp hz su hsu).mono ?_
    rintro e w' ⟨u, rfl, h1, h2, h3⟩
    obtain ⟨a, c, rfl, _⟩ := nr_cells h1
    exact ⟨a, c, rfl, own_base h1 (Nat.zero_le _), h.step ht h2 (h3.mono (fun j _ e => .inr (.inl e))) (Okt.exit h.ok hz hsu)⟩
theorem On.freeze (h : On w0 w q rm L S) (hp : (Lit.int .i64 p).wf = true) : Calls Try.prog 11 #[pv q, .int .i64 p] w fun e w' => ∃ a c, e = .returned (.tuple #[.slice a (fzA L p).length c, .int .i64 (fzE L p)]) ∧ Nr w' (.slice a (fzA L p).length c) (fzA L p) ∧ On w0 w' q rm (fzM L p) S ∧ Rk w w' := by
  obtain ⟨b, v, ht⟩ := h.tb
  unfold fzA fzE fzM
  cases hz : fzB L p
  · refine (freeze_no ht h.ok hp hz).mono ?_
    rintro e w' ⟨rfl, rfl⟩
    exact ⟨none, 0, rfl, World.ownsRow_nil w 0 3 1, h, Rk.refl _⟩
  · rw [if_pos rfl, if_pos rfl, if_pos rfl]
    refine (freeze_yes ht h.ok hp hz).mono ?_
    rintro e w' ⟨u, rfl, h1, h2, h3⟩
    obtain ⟨a, c, rfl, _⟩ := nr_cells h1
    exact ⟨a, c, rfl, own_base h1 (Nat.zero_le _), h.step ht h2 h3 (Okt.freeze h.ok hz)⟩
end Go.Proofs.Ytkjcjodhpcfjiaa.Ter
