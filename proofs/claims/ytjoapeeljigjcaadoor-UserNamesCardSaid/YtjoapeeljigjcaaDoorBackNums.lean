/-
  Words from bytes and bytes from words, as numbers; slices that the call owns read as they were laid.
-/
import Derived.Test.YtjoapeeljigjcaaDoorWords
import Derived.Test.YtjoapeeljigjcaaDoorSame
namespace Go.Proofs.YtjoapeeljigjcaaDoor.BackNums
open Go Go.RowKit Nums Kit Leaf Bytes Join Quads Words
set_option linter.unusedVariables false

/-- A text of bytes. -/
def bstr (l : List Nat) : ByteArray := strOfNums (l.map fun (x : Nat) => (x : Int))

theorem own_slc {w : World} {base : Nat} {t : TypeId} {k : IntKind} {r : Value} {n : Nat} {l : List Nat} (h : w.ownsRow base t 1 r n (l.map fun (x : Nat) => Value.int k (x : Int))) : Slc k w r l := by
  have hl : l.length = n := by have := h.1; simpa using this
  rcases h.2 with ⟨rfl, rfl⟩ | ⟨g, cap, cur, rfl, hg, hh, h1, h2, h3, h4⟩
  · obtain rfl : l = [] := List.eq_nil_of_length_eq_zero hl
    exact ⟨none, 0, rfl, Nat.le_refl _, Nat.zero_le _, .inl rfl⟩
  · subst hl
    refine ⟨some ⟨g, 0, none⟩, cap, rfl, h1, h2, .inr ⟨g, 0, rfl, (Array.getElem?_eq_some_iff.1 hh).1, fun i hi => ?_⟩⟩
    have hc := h.cells (g := g) rfl i (.int k ((l[i] : Nat) : Int)) (by simp [List.getElem?_eq_getElem hi])
    rw [add_zero_off] at hc
    rw [Nat.zero_add, hc]
    simp [List.getElem?_eq_getElem hi]
theorem own_slc8 {w : World} {base : Nat} {r : Value} {n : Nat} {l : List Nat} (h : w.ownsRow base 5 1 r n (u8s l)) : Slc .u8 w r l := own_slc h
theorem own_slc32 {w : World} {base : Nat} {r : Value} {n : Nat} {l : List Nat} (h : w.ownsRow base 25 1 r n (u32s l)) : Slc .u32 w r l := own_slc h
set_option maxRecDepth 100000 in
theorem slc_string {w : World} {v : Value} {l : List Nat} (h : Slc .u8 w v l) : (convert 37 9 v).run Tryd.prog w = .ok (.string (bstr l)) w := by
  obtain ⟨a, cap, rfl, h1, h2, h3⟩ := h
  rcases h3 with rfl | ⟨b, off, rfl, hlt, hc⟩
  · cases a with
    | none =>
      refine (run_convert_bytes_nil w 37 5 Tryd.underlying37 Tryd.underlying5 0 cap 9 Tryd.underlying9).trans ?_
      rfl
    | some a =>
      obtain ⟨b, off, sp⟩ := a
      refine (run_convert_bytes_arg w 37 5 Tryd.underlying37 Tryd.underlying5 b off 0 cap [] (by simp) (fun i hi => by omega) 9 Tryd.underlying9).trans ?_
      rfl
  · refine run_convert_bytes_arg w 37 5 Tryd.underlying37 Tryd.underlying5 b off l.length cap (l.map fun (x : Nat) => (x : Int)) (by simp) (fun i hi => ?_) 9 Tryd.underlying9
    rw [hc i hi]
    simp [List.getD, List.getElem?_eq_getElem hi]

theorem allB_drop (ls : List Nat) (k : Nat) : (allB ls).drop (4 * k) = allB (ls.drop k) := by
  induction k generalizing ls with
  | zero => simp
  | succ k ih =>
    cases ls with
    | nil => simp [allB]
    | cons x ls =>
      rw [List.drop_succ_cons, ← ih ls]
      show ((bs x) ++ allB ls).drop (4 * (k + 1)) = _
      rw [show 4 * (k + 1) = (bs x).length + 4 * k by simp [bs]; omega, ← List.drop_drop, List.drop_left]
theorem jn_bs (x : Nat) : jn (b0 x) (b1 x) (b2 x) (b3 x) = x := by unfold jn b0 b1 b2 b3; omega
theorem bs_jn {a b c d : Nat} (ha : a < 256) (hb : b < 256) (hc : c < 256) (hd : d < 256) : bs (jn a b c d) = [a, b, c, d] := by
  have e0 : b0 (jn a b c d) = a := by unfold jn b0; omega
  have e1 : b1 (jn a b c d) = b := by unfold jn b1; omega
  have e2 : b2 (jn a b c d) = c := by unfold jn b2; omega
  have e3 : b3 (jn a b c d) = d := by unfold jn b3; omega
  unfold bs; rw [e0, e1, e2, e3]
theorem wd_allB {ls : List Nat} {k : Nat} (h : k < ls.length) : wd (allB ls) k = ls[k] := by
  unfold wd qb
  rw [allB_drop, List.drop_eq_getElem_cons h]
  exact jn_bs _
theorem words_allB (ls : List Nat) : (List.range ls.length).map (wd (allB ls)) = ls := by
  apply List.ext_getElem
  · simp
  · intro i h1 h2
    simp [wd_allB h2]
theorem qb_lt {xs : List Nat} (hb : ∀ x ∈ xs, x < 256) (i k : Nat) : qb xs k i < 256 := by
  unfold qb bt
  cases h : (xs.drop (4 * k))[i]? with
  | none => decide
  | some y => exact hb y (List.mem_of_mem_drop (List.mem_of_getElem? h))
theorem wd_lt {xs : List Nat} (hb : ∀ x ∈ xs, x < 256) (k : Nat) : wd xs k < 4294967296 := jn_lt (qb_lt hb 0 k) (qb_lt hb 1 k) (qb_lt hb 2 k) (qb_lt hb 3 k)
theorem allB_words_take {xs : List Nat} (hb : ∀ x ∈ xs, x < 256) (k : Nat) (h : 4 * k ≤ xs.length) : allB ((List.range k).map (wd xs)) = xs.take (4 * k) := by
  induction k with
  | zero => simp [allB]
  | succ k ih =>
    rw [List.range_succ, List.map_append, List.map_cons, List.map_nil, allB_snoc, ih (by omega)]
    have e : bs (wd xs k) = (xs.drop (4 * k)).take 4 := by
      unfold wd
      rw [bs_jn (qb_lt hb 0 k) (qb_lt hb 1 k) (qb_lt hb 2 k) (qb_lt hb 3 k)]
      unfold qb bt
      obtain ⟨l, hl⟩ : ∃ l, xs.drop (4 * k) = l := ⟨_, rfl⟩
      have hlen : 4 ≤ l.length := by rw [← hl, List.length_drop]; omega
      rw [hl]
      match l, hlen with
      | a :: b :: c :: d :: r, _ => rfl
    rw [e, ← List.take_add]
    rfl
theorem allB_words {xs : List Nat} (hb : ∀ x ∈ xs, x < 256) (h : xs.length % 4 = 0) : allB ((List.range (xs.length / 4)).map (wd xs)) = xs := by
  rw [allB_words_take hb _ (by omega), List.take_of_length_le (by omega)]
theorem allB_lt {ls : List Nat} (h : ∀ x ∈ ls, x < 4294967296) : ∀ x ∈ allB ls, x < 256 := by
  intro x hx
  unfold allB at hx
  obtain ⟨y, hy, hxy⟩ := List.mem_flatMap.1 hx
  have := h y hy
  simp only [bs, List.mem_cons, List.not_mem_nil, or_false] at hxy
  unfold b0 b1 b2 b3 at hxy
  omega
theorem bs_lt {x : Nat} (h : x < 4294967296) : ∀ y ∈ bs x, y < 256 := by
  intro y hy
  simp only [bs, List.mem_cons, List.not_mem_nil, or_false] at hy
  unfold b0 b1 b2 b3 at hy
  omega
theorem u8_lt {xs : List Nat} (h : ∀ x ∈ xs, (Lit.int .u8 (x : Int)).wf = true) : ∀ x ∈ xs, x < 256 := by
  intro x hx
  have hx : 0 ≤ (x : Int) ∧ (x : Int) ≤ 255 := by simpa [Lit.wf, IntKind.min, IntKind.max, IntKind.signed, IntKind.bits] using h x hx
  omega
theorem u32_lt {xs : List Nat} (h : ∀ x ∈ xs, (Lit.int .u32 (x : Int)).wf = true) : ∀ x ∈ xs, x < 4294967296 := by
  intro x hx
  have hx : 0 ≤ (x : Int) ∧ (x : Int) ≤ 4294967295 := by simpa [Lit.wf, IntKind.min, IntKind.max, IntKind.signed, IntKind.bits] using h x hx
  omega

/-- Words of bytes, where they are whole. -/
theorem words_yes (v : Value) (xs : List Nat) (w : World) (hx : Slc .u8 w v xs) (hb : ∀ x ∈ xs, x < 256) (hlen : xs.length ≤ 10000) (h4 : xs.length % 4 = 0) :
    Calls Tryd.prog 22 #[v] w fun e w' => ∃ a cap, e = .returned (.tuple #[.slice a (xs.length / 4 : Nat) cap, .int .i64 0]) ∧ Slc .u32 w' (.slice a (xs.length / 4 : Nat) cap) ((List.range (xs.length / 4)).map (wd xs)) ∧ Below w.heap.size w w' :=
  (words_any v xs w hx (qb_lt hb) hlen).mono fun e w' ⟨hB, hr⟩ => by
    rcases hr with ⟨_, r, rfl, hown⟩ | ⟨h, _⟩
    · have hs := own_slc32 hown
      obtain ⟨a, cap, rfl, h1⟩ := id hs
      simp only [List.length_map, List.length_range] at hs ⊢
      exact ⟨a, cap, rfl, hs, hB⟩
    · exact absurd h4 h
/-- Words of bytes, where they are not whole. -/
theorem words_no (v : Value) (xs : List Nat) (w : World) (hx : Slc .u8 w v xs) (hb : ∀ x ∈ xs, x < 256) (hlen : xs.length ≤ 10000) (h4 : xs.length % 4 ≠ 0) :
    Calls Tryd.prog 22 #[v] w fun e w' => e = .returned (.tuple #[.slice none 0 0, .int .i64 10]) ∧ Below w.heap.size w w' :=
  (words_any v xs w hx (qb_lt hb) hlen).mono fun e w' ⟨hB, hr⟩ => by
    rcases hr with ⟨h, _⟩ | ⟨_, rfl⟩
    · exact absurd h h4
    · exact ⟨rfl, hB⟩
/-- All of words. -/
theorem all_slc (v : Value) (xs : List Nat) (w : World) (hx : Slc .u32 w v xs) (hb : ∀ x ∈ xs, x < 4294967296) (hn : xs.length ≤ 1000) :
    Calls Tryd.prog 20 #[v] w fun e w' => ∃ a cap, e = .returned (.slice a (4 * xs.length : Nat) cap) ∧ Slc .u8 w' (.slice a (4 * xs.length : Nat) cap) (allB xs) ∧ Below w.heap.size w w' :=
  (all_any v xs w hx hb hn).mono fun e w' ⟨r, he, hown, hB⟩ => by
    have hs := own_slc8 hown
    obtain ⟨a, cap, rfl, h1⟩ := id hs
    rw [allB_length] at hs he
    exact ⟨a, cap, he, hs, hB⟩
/-- Words of words' bytes. -/
theorem words_all (v : Value) (ls : List Nat) (w : World) (hx : Slc .u8 w v (allB ls)) (hb : ∀ x ∈ ls, x < 4294967296) (hlen : ls.length ≤ 2000) :
    Calls Tryd.prog 22 #[v] w fun e w' => ∃ a cap, e = .returned (.tuple #[.slice a ls.length cap, .int .i64 0]) ∧ Slc .u32 w' (.slice a ls.length cap) ls ∧ Below w.heap.size w w' := by
  have h := words_yes v (allB ls) w hx (allB_lt hb) (by rw [allB_length]; omega) (by rw [allB_length]; omega)
  rwa [allB_length, show 4 * ls.length / 4 = ls.length by omega, words_allB] at h
theorem bel {a b c : World} (h : Below a.heap.size a b) (k : Below b.heap.size b c) : Below a.heap.size a c := h.trans (k.mono h.size)
theorem bel_drew {a b : World} (h : Below a.heap.size a b) (k : Nat) : Below a.heap.size a (b.drewN k) := below_drewN h k
theorem words_let (v : Value) (xs : List Nat) (w : World) (hx : Slc .u8 w v xs) (hb : ∀ x ∈ xs, x < 256) (hlen : xs.length ≤ 2000) (h4 : xs.length % 4 = 0) :
    Calls Tryd.prog 22 #[v] w fun e w' => ∃ m, e = .returned (.tuple #[m, .int .i64 0]) ∧ Slc .u32 w' m ((List.range (xs.length / 4)).map (wd xs)) ∧ Below w.heap.size w w' :=
  (words_yes v xs w hx hb (by omega) h4).mono fun e w' ⟨a, cap, he, h⟩ => ⟨_, he, h⟩
/-- All of the words of bytes, as a text: the bytes'. -/
theorem all_str (v : Value) (xs : List Nat) (w : World) (hx : Slc .u32 w v ((List.range (xs.length / 4)).map (wd xs))) (hb : ∀ x ∈ xs, x < 256) (hlen : xs.length ≤ 2000) (h4 : xs.length % 4 = 0) :
    Calls Tryd.prog 20 #[v] w fun e w' => ∃ r, e = .returned r ∧ (convert 37 9 r).run Tryd.prog w' = .ok (.string (bstr xs)) w' ∧ Below w.heap.size w w' :=
  (all_slc v _ w hx (by intro x hm; obtain ⟨k, _, rfl⟩ := List.mem_map.1 hm; exact wd_lt hb k) (by simp; omega)).mono fun e w' ⟨a, cap, he, hs, hB⟩ =>
    ⟨_, he, by rw [slc_string hs, allB_words hb h4], hB⟩
end Go.Proofs.YtjoapeeljigjcaaDoor.BackNums
