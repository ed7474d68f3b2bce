/-
  Parts of rows of words; two rows one behind the other; what PutWords and Words come to, as far as a law with room asks.
-/
import Derived.Test.YtjoapeeljigjcaaUsl
namespace Go.Proofs.Ytjoapeeljigjcaa.Usp
open Go Go.RowKit Go.Shelf Kit Bk
open Usa Usb Usc Usd Use Usf Usg Ush Usi Usl Usm Usn
open Bytes (allB bs)
open Words (wd u32s)
set_option linter.unusedVariables false

variable {w w' : World} {p b n m : Nat} {qs ts : Nat → Nat} {M : Nat → Bool} {Vs : Nat → Nat → Nat}

/-- A slice expression, behind a name that a walk does not open. -/
def slO (t : TypeId) (x : Value) (lo hi mx : Option Value) : Sem Value := Instr.sliceAt t x lo hi mx
theorem sl_wrap (t : TypeId) (x : Value) (lo hi mx : Option Value) : Instr.sliceAt t x lo hi mx = slO t x lo hi mx := rfl
theorem elemW : Try.prog.underlying 22 = some (.slice (Try.prog.elem 22)) := by kernel_rfl
theorem sizeW (W : World) : (sizeOf (Try.prog.elem 22)).run Try.prog W = .ok 1 W := by
  have he : Try.prog.elem 22 = 32 := by kernel_rfl
  rw [he]
  have hi : (Try.prog.info? 32).map (·.size) = some 1 := by kernel_rfl
  cases hq : Try.prog.info? 32 with
  | none => rw [hq] at hi; cases hi
  | some i => rw [hq] at hi; simp [sizeOf, typeInfo, hq]; simpa using hi
theorem to_any {v : Value} {ys : List Nat} (h : Slc .u32 w v ys) (hi : Nat) (h2 : hi ≤ ys.length) :
    ∃ V, (∀ W, (slO 22 v none (some (.int .i64 (hi : Int))) none).run Try.prog W = .ok V W) ∧ Slc .u32 w V (ys.take hi) := by
  obtain ⟨a, cap, rfl, h3, h4, h5⟩ := h
  have hl : (ys.take hi).length = hi := by simp; omega
  refine ⟨.slice (if cap = 0 then a else a.map (·.add 0)) (hi - 0) (cap - 0), fun W => ?_, ?_⟩
  · unfold slO
    unfold maxLen at h4
    rw [run_sliceAt_slice (P := Try.prog) (w := W) _ _ _ _ _ elemW, run_slice_h (P := Try.prog) (w := W) 22 a ys.length cap elemW .i64 (hi : Int) (by omega) (by omega), sizeW]
    simp only [Result.andThen_ok, sliced, Int.toNat_natCast, Nat.mul_one]
  · refine ⟨_, _, by rw [hl, Nat.sub_zero], by rw [hl]; omega, by omega, ?_⟩
    by_cases h0 : hi = 0
    · left
      exact List.eq_nil_of_length_eq_zero (by rw [hl, h0])
    · right
      rcases h5 with rfl | ⟨b, off, rfl, hlt, hc⟩
      · simp at h2; omega
      · rw [if_neg (by omega)]
        refine ⟨b, off, by simp [Addr.add_mid], hlt, fun i hi2 => ?_⟩
        rw [hl] at hi2
        rw [hc i (by omega), List.getElem?_take, if_pos hi2]
theorem from_any {v : Value} {ys : List Nat} (h : Slc .u32 w v ys) (lo : Nat) (h2 : lo ≤ ys.length) :
    ∃ V, (∀ W, (slO 22 v (some (.int .i64 (lo : Int))) none none).run Try.prog W = .ok V W) ∧ Slc .u32 w V (ys.drop lo) := by
  obtain ⟨a, cap, rfl, h3, h4, h5⟩ := h
  have hl : (ys.drop lo).length = ys.length - lo := by simp
  refine ⟨.slice (if cap = lo then a else a.map (·.add lo)) (ys.length - lo) (cap - lo), fun W => ?_, ?_⟩
  · unfold slO
    unfold maxLen at h4
    rw [run_sliceAt_slice (P := Try.prog) (w := W) _ _ _ _ _ elemW, run_slice_l (P := Try.prog) (w := W) 22 a ys.length cap elemW .i64 (lo : Int) (by omega) (by omega), sizeW]
    simp only [Result.andThen_ok, sliced, Int.toNat_natCast, Nat.mul_one]
  · refine ⟨_, _, by rw [hl], by rw [hl]; omega, by omega, ?_⟩
    by_cases h0 : ys.length - lo = 0
    · left
      exact List.eq_nil_of_length_eq_zero (by rw [hl, h0])
    · right
      rcases h5 with rfl | ⟨b, off, rfl, hlt, hc⟩
      · simp at h0
      · rw [if_neg (by omega)]
        refine ⟨b, off + lo, by simp [Addr.add_mid], hlt, fun i hi2 => ?_⟩
        rw [hl] at hi2
        rw [Nat.add_assoc, hc (lo + i) (by omega), List.getElem?_drop]

/-- One row behind another one, which is the call's own. -/
theorem app_rows {B : Nat} {v u : Value} {xs ys : List Nat} (hv : w.ownsRow B 32 1 v xs.length (u32s xs)) (hu : Slc .u32 w u ys) (hl : xs.length + ys.length ≤ 1000) (hB : B ≤ w.heap.size) :
    ∃ v' w2, (Tl.appO #[22, 22] 22 #[v, u]).run Try.prog w = .ok v' w2 ∧ Slc .u32 w2 v' (xs ++ ys) ∧ Below B w w2 := by
  obtain ⟨i0, hi, hz0, hz1, hz2⟩ := info_parts Words.info22
  have hux : (u32s xs).length = xs.length := by simp [u32s]
  have hux' : ∀ l : List Nat, (u32s l).length = l.length := fun l => by simp [u32s]
  obtain ⟨a, cap, rfl, h1, h2, h3⟩ := hu
  by_cases h0 : ys = []
  · subst h0
    have hnil : ∀ W : World, (Builtin.firstCells 1 0 (.slice a 0 cap)).run Try.prog W = .ok #[] W := fun W => by
      cases a with
      | none => exact run_firstCells_none W 1 0 0 cap
      | some ad => exact run_firstCells_some W 1 0 ad 0 cap [] (by simp) (fun j u hj => by simp at hj)
    have hsrc : Src Try.prog i0.size 22 (.slice a 0 cap) 0 [] w := by
      rw [hz1]
      exact ⟨.inl ⟨_, Try.underlying22⟩, fun _ => rfl, hnil w, hnil w.drew, by simp, fun u hu => by cases hu⟩
    obtain ⟨av, c2, hv1, hv2, hv3⟩ : ∃ av c2, v = .slice av xs.length c2 ∧ xs.length ≤ c2 ∧ c2 ≤ maxLen := by
      obtain ⟨a2, c2, e, e1, e2, _⟩ := BackNums.own_slc32 hv
      exact ⟨a2, c2, e, e1, e2⟩
    have hs := BackNums.own_slc32 hv
    subst hv1
    cases av with
    | none =>
      have hx0 : xs = [] := by
        obtain ⟨a2, c3, e, _, _, e3⟩ := hs
        cases e
        rcases e3 with e3 | ⟨b, off, e4, _⟩
        · exact e3
        · cases e4
      subst hx0
      refine ⟨.slice none 0 c2, w, ?_, by rw [List.append_nil]; exact hs, Below.refl _ _⟩
      have : (Builtin.append_ #[22, 22] 22 #[.slice none 0 c2, .slice a 0 cap]).run Try.prog w = .ok (.slice none 0 c2) w := by
        simp [Builtin.append_, run_underlying Try.underlying22, sizeOf, typeInfo, hi, hsrc.len, hsrc.cells]
      exact this
    | some ad =>
      obtain ⟨g, off, sp⟩ := ad
      have hsp : sp = none := by
        rcases hv.2 with ⟨e, _⟩ | ⟨g', c', cur, e, _⟩
        · cases e
        · cases e; rfl
      subst hsp
      have hrun := run_append_room_src (P := Try.prog) w 22 22 22 32 i0 Try.underlying22 hi g off xs.length c2 _ 0 [] hsrc hv2 (fun j hj => absurd hj (Nat.not_lt_zero _)) (fun j hj => absurd hj (Nat.not_lt_zero _))
      exact ⟨_, _, hrun, by rw [List.append_nil]; exact hs, Below.refl _ _⟩
  · rcases h3 with h3 | ⟨g, off, rfl, hlt, hc⟩
    · exact absurd h3 h0
    obtain ⟨v', w2, hrun, hown', hgrow, -⟩ := run_append_own (P := Try.prog) (w := w) B 22 22 32 i0 (.int .u32 0) 1 4 Try.underlying22 hi hz0 hz1 hz2 rfl (by decide) v xs.length (u32s xs) hv ⟨g, off, none⟩ ys.length cap (u32s ys) (by rw [hux', Nat.mul_one])
      (fun j u hj => by
        have hj2 : j < ys.length := by rw [← hux']; exact (List.getElem?_eq_some_iff.1 hj).1
        rw [Addr.add_lit, hc j hj2, ← hj]
        simp [u32s, List.getElem?_eq_getElem hj2]) (fun u hu => by simp only [u32s, List.mem_map] at hu; obtain ⟨y, _, rfl⟩ := hu; rfl) (by unfold maxLen; omega) (by omega) hB
    refine ⟨v', w2, hrun, ?_, (Below.refl B w).grown hgrow hB (fun j h => (hv.lt j h).1)⟩
    have : w2.ownsRow B 32 1 v' (xs ++ ys).length (u32s (xs ++ ys)) := by
      rw [List.length_append, show u32s (xs ++ ys) = u32s xs ++ u32s ys by simp [u32s]]
      exact hown'
    exact BackNums.own_slc32 this

/-- Words, as a row of the call's own. -/
theorem oWordsR (h : On w p b n qs ts M Vs m) {i : Nat} (hi : i < m) (a k : Nat) (ha : a < 4294967296) (hk : k ≤ 250) (hM : mpd M a (4 * k)) (l : List Nat) (hl : rdv (Vs i) a (4 * k) = allB l) (hlk : l.length = k) :
    Calls Try.prog 13 #[.pointer (some ⟨qs i, 0, none⟩), .int .u32 (a : Int), .int .i64 (k : Int)] w fun e w' => ∃ r, e = .returned (.tuple #[r, .int .i64 0]) ∧ w'.ownsRow w.heap.size 32 1 r l.length (u32s l) ∧ Below w.heap.size w w' := by
  have hr := oRead h hi a (4 * k) ha (by omega) hM
  rw [show ((4 * k : Nat) : Int) = 4 * (k : Int) by omega] at hr
  have HR := Lib.hid hr
  have HX := Lib.hid (rdv_lt h hi hM)
  have HL := Lib.hid (And.intro hl hlk)
  have hd1 : decide ((k : Int) < 0) = false := decide_eq_false (by omega)
  have hd2 : decide ((1024 : Int) < (k : Int)) = false := decide_eq_false (by omega)
  have hkz : (k : Int) ≤ 250 := by omega
  have hk0 : 0 ≤ (k : Int) := by omega
  clear h hr hM hl hlk
  go_enter Try.func13, Try.ntmps13
  go_wp2_with (first
    | (go_at_call 31; (with_reducible refine HR.out.mono ?_); rintro e w1 ⟨hb, r, rfl, ho⟩; have HW : Hid (Calls Try.prog 32 #[r] w1 fun e W => ∃ r2, e = .returned (.tuple #[r2, .int .i64 0]) ∧ W.ownsRow w1.heap.size 32 1 r2 l.length (u32s l) ∧ Below w1.heap.size w1 W) := Lib.hid (by
        refine (Words.words_any r (rdv (Vs i) a (4 * k)) w1 (BackNums.own_slc8 ho) (BackNums.qb_lt HX.out) (by rw [rdv_len]; omega)).mono ?_
        rintro e W ⟨hB, ⟨_, r2, rfl, hown⟩ | ⟨hno, _⟩⟩
        · rw [rdv_len, show 4 * k / 4 = k by omega, HL.out.1] at hown
          rw [← HL.out.2, BackNums.words_allB l] at hown
          exact ⟨r2, rfl, hown, hB⟩
        · rw [rdv_len] at hno; omega); have HB := Lib.hid hb; clear ho hb)
    | (go_at_call 32; (with_reducible refine HW.out.mono ?_); rintro e w2 ⟨r2, rfl, hs, hb2⟩; have HK := Lib.hid (And.intro (own_base hs HB.out.size) (HB.out.trans (hb2.mono HB.out.size))); clear hs hb2))
  go_ret2
  exact ⟨_, rfl, HK.out.1, HK.out.2⟩

/-- PutWords, where there is room. -/
theorem pYes (h : On w p b 64 qs ts M Vs 2) (h16 : ∀ k, M k = true → k < 16) {i : Nat} (hi : i < 2) (a : Nat) (ha : a < 4294967296) (v : Value) (xs : List Nat) (hx : Slc .u32 w v xs) (hb : ∀ x ∈ xs, x < 4294967296) (hn : xs.length ≤ 64) (hM : mpd M a (4 * xs.length)) :
    Calls Try.prog 11 #[.pointer (some ⟨qs i, 0, none⟩), .int .u32 (a : Int), v] w fun e w' => e = .returned (.int .i64 0) ∧ Kp (fun j => j = b ∨ j = ts i) w w' ∧ On w' p b 64 qs ts M (up Vs i (wrv (Vs i) a (allB xs))) 2 := by
  refine (oPut h hi a ha v xs hx hb (by omega)).mono ?_
  rintro e w' ⟨code, Vs', rfl, hk, hO, hp⟩
  have hl := Bytes.allB_length xs
  obtain ⟨rfl, rfl⟩ := put_yes hp (by rw [hl]; exact hM) h16 (by rw [hl]; unfold Pz.cn; split <;> omega)
  exact ⟨rfl, hk, hO⟩
theorem pNo (h : On w p b 64 qs ts M Vs 2) {i : Nat} (hi : i < 2) (a : Nat) (ha : a < 4294967296) (v : Value) (xs : List Nat) (hx : Slc .u32 w v xs) (hb : ∀ x ∈ xs, x < 4294967296) (hn : xs.length ≤ 64) (hM : ¬ mpd M a (4 * xs.length)) :
    Calls Try.prog 11 #[.pointer (some ⟨qs i, 0, none⟩), .int .u32 (a : Int), v] w fun e w' => e = .returned (.int .i64 14) ∧ Kp (fun j => j = b ∨ j = ts i) w w' ∧ On w' p b 64 qs ts M Vs 2 := by
  refine (oPut h hi a ha v xs hx hb (by omega)).mono ?_
  rintro e w' ⟨code, Vs', rfl, hk, hO, hp⟩
  have hl := Bytes.allB_length xs
  obtain ⟨rfl, rfl⟩ := put_no hp (by rw [hl]; exact hM)
  exact ⟨rfl, hk, hO⟩
theorem allB_parts (l : List Nat) (k : Nat) : allB (l.take k) ++ allB (l.drop k) = allB l := by
  unfold Bytes.allB
  rw [← List.flatMap_append, List.take_append_drop]
theorem nn_w32 (n : Int) (h : (Lit.int .u32 n).wf = true) : 0 ≤ n := by
  have hx : 0 ≤ n ∧ n ≤ 4294967295 := by simpa [Lit.wf, IntKind.min, IntKind.max, IntKind.signed, IntKind.bits] using h
  exact hx.1
theorem own_blw {w w' : World} {N k size : Nat} {T : TypeId} {v : Value} {xs : List Value} (h : w.ownsRow N T size v k xs) (hb : Below w.heap.size w w') : w'.ownsRow N T size v k xs := by
  refine ⟨h.1, h.2.imp id ?_⟩
  rintro ⟨g, cap, cur, e, hg, hh, h1⟩
  exact ⟨g, cap, cur, e, hg, (hb.block g (Array.getElem?_eq_some_iff.1 hh).1).trans hh, h1⟩
end Go.Proofs.Ytjoapeeljigjcaa.Usp

/-
  A space beside its clone, with room for all writes.
-/
namespace Go.Proofs.Ytjoapeeljigjcaa.Usq
open Go Go.RowKit Go.Shelf Kit Bk
open Usa Usb Usc Usd Use Usf Usg Ush Usi Usl Usm Usn Usp
open Bytes (allB bs)
open Words (wd u32s)
set_option linter.unusedVariables false

/-- Two spaces over one memory, their pages alike; each one's bytes. -/
def Par (w : World) (p b q q' t t' : Nat) (M : Nat → Bool) (V V' : Nat → Nat) : Prop :=
  ∃ qs ts Vs, On w p b 64 qs ts M Vs 2 ∧ (∀ k, M k = true → k < 16) ∧ qs 0 = q ∧ qs 1 = q' ∧ ts 0 = t ∧ ts 1 = t' ∧ Vs 0 = V ∧ Vs 1 = V'
variable {w w' : World} {p b q q' t t' : Nat} {M : Nat → Bool} {V V' : Nat → Nat}
theorem Par.below (h : Par w p b q q' t t' M V V') (hb : Below w.heap.size w w') : Par w' p b q q' t t' M V V' := by
  obtain ⟨qs, ts, Vs, h1, h2⟩ := h
  exact ⟨qs, ts, Vs, h1.below hb, h2⟩
theorem Par.clone (h : Flat w p b 64 q t M) (h16 : ∀ k, M k = true → k < 16) :
    Calls Try.prog 10 #[.pointer (some ⟨q, 0, none⟩)] w fun e w' => ∃ q' t', e = .returned (.pointer (some ⟨q', 0, none⟩)) ∧ w.heap.size ≤ t' ∧ Kp (fun j => j = b ∨ j = t) w w' ∧ Par w' p b q q' t t' M (fun _ => 0) (fun _ => 0) := by
  refine (oClone h.on (by decide) (i := 0) (by decide)).mono ?_
  rintro e w' ⟨q', t', rfl, h1, h2, h3, h4⟩
  exact ⟨q', t', rfl, h2, h3, _, _, _, h4, h16, rfl, rfl, rfl, rfl, rfl, rfl⟩
variable (h : Par w p b q q' t t' M V V') (a : Nat) (ha : a < 4294967296) (v : Value) (xs : List Nat) (hx : Slc .u32 w v xs) (hb : ∀ x ∈ xs, x < 4294967296) (hn : xs.length ≤ 64)
include h ha hx hb hn in
theorem Par.yes0 (hM : mpd M a (4 * xs.length)) :
    Calls Try.prog 11 #[.pointer (some ⟨q, 0, none⟩), .int .u32 (a : Int), v] w fun e w' => e = .returned (.int .i64 0) ∧ Kp (fun j => j = b ∨ j = t) w w' ∧ Par w' p b q q' t t' M (wrv V a (allB xs)) V' := by
  obtain ⟨qs, ts, Vs, h1, h16, rfl, rfl, rfl, rfl, rfl, rfl⟩ := h
  refine (pYes h1 h16 (i := 0) (by decide) a ha v xs hx hb hn hM).mono ?_
  rintro e w' ⟨rfl, hk, hO⟩
  exact ⟨rfl, hk, _, _, _, hO, h16, rfl, rfl, rfl, rfl, up_same _ _ _, up_other _ _ _ _ (by decide)⟩
include h ha hx hb hn in
theorem Par.yes1 (hM : mpd M a (4 * xs.length)) :
    Calls Try.prog 11 #[.pointer (some ⟨q', 0, none⟩), .int .u32 (a : Int), v] w fun e w' => e = .returned (.int .i64 0) ∧ Kp (fun j => j = b ∨ j = t') w w' ∧ Par w' p b q q' t t' M V (wrv V' a (allB xs)) := by
  obtain ⟨qs, ts, Vs, h1, h16, rfl, rfl, rfl, rfl, rfl, rfl⟩ := h
  refine (pYes h1 h16 (i := 1) (by decide) a ha v xs hx hb hn hM).mono ?_
  rintro e w' ⟨rfl, hk, hO⟩
  exact ⟨rfl, hk, _, _, _, hO, h16, rfl, rfl, rfl, rfl, up_other _ _ _ _ (by decide), up_same _ _ _⟩
include h ha hx hb hn in
theorem Par.no0 (hM : ¬ mpd M a (4 * xs.length)) :
    Calls Try.prog 11 #[.pointer (some ⟨q, 0, none⟩), .int .u32 (a : Int), v] w fun e w' => e = .returned (.int .i64 14) ∧ Kp (fun j => j = b ∨ j = t) w w' ∧ Par w' p b q q' t t' M V V' := by
  obtain ⟨qs, ts, Vs, h1, h16, rfl, rfl, rfl, rfl, rfl, rfl⟩ := h
  refine (pNo h1 (i := 0) (by decide) a ha v xs hx hb hn hM).mono ?_
  rintro e w' ⟨rfl, hk, hO⟩
  exact ⟨rfl, hk, _, _, _, hO, h16, rfl, rfl, rfl, rfl, rfl, rfl⟩
include h ha hx hb hn in
theorem Par.no1 (hM : ¬ mpd M a (4 * xs.length)) :
    Calls Try.prog 11 #[.pointer (some ⟨q', 0, none⟩), .int .u32 (a : Int), v] w fun e w' => e = .returned (.int .i64 14) ∧ Kp (fun j => j = b ∨ j = t') w w' ∧ Par w' p b q q' t t' M V V' := by
  obtain ⟨qs, ts, Vs, h1, h16, rfl, rfl, rfl, rfl, rfl, rfl⟩ := h
  refine (pNo h1 (i := 1) (by decide) a ha v xs hx hb hn hM).mono ?_
  rintro e w' ⟨rfl, hk, hO⟩
  exact ⟨rfl, hk, _, _, _, hO, h16, rfl, rfl, rfl, rfl, rfl, rfl⟩
include h ha in
theorem Par.words (k : Nat) (hk : k ≤ 64) (hM : mpd M a (4 * k)) (l : List Nat) (hl : rdv V a (4 * k) = allB l) (hlk : l.length = k) :
    Calls Try.prog 13 #[.pointer (some ⟨q, 0, none⟩), .int .u32 (a : Int), .int .i64 (k : Int)] w fun e w' => ∃ r, e = .returned (.tuple #[r, .int .i64 0]) ∧ w'.ownsRow w.heap.size 32 1 r l.length (u32s l) ∧ Below w.heap.size w w' := by
  obtain ⟨qs, ts, Vs, h1, h16, rfl, rfl, rfl, rfl, rfl, rfl⟩ := h
  exact oWordsR h1 (i := 0) (by decide) a k ha (by omega) hM l hl hlk
include h ha in
theorem Par.wordsNo (k : Nat) (hk : k ≤ 64) (hM : ¬ mpd M a (4 * k)) :
    Calls Try.prog 13 #[.pointer (some ⟨q, 0, none⟩), .int .u32 (a : Int), .int .i64 (k : Int)] w fun e w' => e = .returned (.tuple #[.slice none 0 0, .int .i64 14]) ∧ Below w.heap.size w w' := by
  obtain ⟨qs, ts, Vs, h1, h16, rfl, rfl, rfl, rfl, rfl, rfl⟩ := h
  exact oWordsNo h1 (i := 0) (by decide) a k ha (by omega) hM
theorem Par.wordsYes (h : Par w p b q q' t t' M V V') (a : Nat) (ha : a < 4294967296) (k : Nat) (hk : k ≤ 64) (hM : mpd M a (4 * k)) :
    Calls Try.prog 13 #[.pointer (some ⟨q, 0, none⟩), .int .u32 (a : Int), .int .i64 (k : Int)] w fun e w' => ∃ r, e = .returned (.tuple #[r, .int .i64 0]) ∧ Below w.heap.size w w' := by
  obtain ⟨qs, ts, Vs, h1, h16, rfl, rfl, rfl, rfl, rfl, rfl⟩ := h
  refine (oWords h1 (i := 0) (by decide) a k ha (by omega) hM).mono ?_
  rintro e w' ⟨r, rfl, _, hb⟩
  exact ⟨r, rfl, hb⟩
theorem Par.wordsAny (h : Par w p b q q' t t' M V V') (a : Nat) (ha : a < 4294967296) (k : Nat) (hk : k ≤ 64) :
    Calls Try.prog 13 #[.pointer (some ⟨q, 0, none⟩), .int .u32 (a : Int), .int .i64 (k : Int)] w fun e w' => ∃ r c, e = .returned (.tuple #[r, .int .i64 c]) ∧ Below w.heap.size w w' := by
  by_cases hM : mpd M a (4 * k)
  · obtain ⟨qs, ts, Vs, h1, h16, rfl, rfl, rfl, rfl, rfl, rfl⟩ := h
    refine (oWords h1 (i := 0) (by decide) a k ha (by omega) hM).mono ?_
    rintro e w' ⟨r, rfl, _, hb⟩
    exact ⟨r, 0, rfl, hb⟩
  · refine (h.wordsNo a ha k hk hM).mono ?_
    rintro e w' ⟨rfl, hb⟩
    exact ⟨_, 14, rfl, hb⟩
theorem Par.alike (h : Par w p b q q' t t' M V V') (hV : V = V') :
    Calls Try.prog 12 #[.pointer (some ⟨q, 0, none⟩), .pointer (some ⟨q', 0, none⟩)] w fun e w' => e = .returned (.bool true) ∧ Below w.heap.size w w' := by
  obtain ⟨qs, ts, Vs, h1, h16, rfl, rfl, rfl, rfl, rfl, rfl⟩ := h
  exact oAlike h1 (i := 0) (j := 1) (by decide) (by decide) (fun x _ => by rw [hV])
end Go.Proofs.Ytjoapeeljigjcaa.Usq
