/-
  A futex: Clone, All, Copy.
-/
import Derived.Test.YtpfnjeicenhciaaFtb
import Derived.Maps.AppendAt
namespace Go.Proofs.Ytpfnjeicenhciaa.Ftc
open Go Go.RowKit Kit Bk Fta Ftb
set_option linter.unusedVariables false

/-- An append, behind a name that a walk does not open: its run is given as an equation. -/
def appO (ts : Array TypeId) (ty : TypeId) (vs : Array Value) : Sem Value := Builtin.append_ ts ty vs
theorem app_wrap (ts : Array TypeId) (ty : TypeId) (vs : Array Value) : Builtin.append_ ts ty vs = appO ts ty vs := rfl
attribute [local go_sem ↓] app_wrap
theorem eqw_nil (w : World) : (binOp .eql 24 (.slice none 0 0) (.slice none 0 0)).run Try.prog w = .ok (.bool true) w := by kernel_rfl
theorem eqw_some (a : Addr) (m c : Nat) (w : World) : (binOp .eql 24 (.slice (some a) m c) (.slice none 0 0)).run Try.prog w = .ok (.bool false) w := by kernel_rfl
attribute [local go_sem] eqw_nil eqw_some
theorem infoW : (Try.prog.info? 51).map (fun i => (i.zero, i.size, i.bytes)) = some (some (.agg #[.int .i64 0, .int .i64 0, .int .i64 0, .int .i64 0]), 4, 32) := by kernel_rfl
theorem info_parts' {T : TypeId} {z : Option Value} {s b : Nat} (h : (Try.prog.info? T).map (fun i => (i.zero, i.size, i.bytes)) = some (z, s, b)) : ∃ i, Try.prog.info? T = some i ∧ i.zero = z ∧ i.size = s ∧ i.bytes = b := by
  cases hi : Try.prog.info? T with
  | none => rw [hi] at h; cases h
  | some i =>
    rw [hi] at h
    simp at h
    exact ⟨i, rfl, h.1, h.2.1, h.2.2⟩
/-- Those of one slice behind those of another. -/
theorem app_rows (w : World) (base : Nat) (v : Value) (L : List Wt) (u : Value) (f r : Nat) (M : List Wt) (hown : w.ownsRow base 51 4 v L.length (wcs L)) (hu : Wr w u f r M) (hM : ∃ n c, u = .slice (some ⟨r, 0, none⟩) n c) (hl : L.length + M.length ≤ 100000) (hb : base ≤ w.heap.size) :
    ∃ v' w', (appO #[24, 24] 24 #[v, u]).run Try.prog w = .ok v' w' ∧ w'.ownsRow base 51 4 v' (L ++ M).length (wcs (L ++ M)) ∧ w.grownBy w' v.ownBlock ∧ (v'.ownBlock = v.ownBlock ∨ v'.ownBlock = some w.heap.size) := by
  obtain ⟨i0, hi, hz0, hz1, hz2⟩ := info_parts' infoW
  obtain ⟨a, c, rfl, h1, h2, ha⟩ := hu.form
  obtain ⟨n0, c0, hM⟩ := hM
  cases hM
  obtain ⟨v', w', q1, q2, q3, _, q4⟩ := run_append_own_at (P := Try.prog) (w := w) base 24 24 51 i0 (.agg #[.int .i64 0, .int .i64 0, .int .i64 0, .int .i64 0]) 4 32 Try.underlying24 hi hz0 hz1 hz2 rfl (by decide) v L.length (wcs L) hown ⟨r, 0, none⟩ M.length c (wcs M) (wcs_len M)
    (fun j u hj => by
      rw [Addr.add_mid, Nat.zero_add]
      have hjl : j < M.length * 4 := by rw [← wcs_len]; exact (List.getElem?_eq_some_iff.1 hj).1
      rw [hu.1.cellAt j hjl]
      exact hj) (wcs_ones M) (by unfold maxLen; omega) (by omega) hb
  exact ⟨v', w', q1, by rw [List.length_append, wcs_app]; exact q2, q3, q4⟩
/-- One more behind a row. -/
theorem app_one (w : World) (base : Nat) (v : Value) (L : List Wt) (x : Wt) (hown : w.ownsRow base 51 4 v L.length (wcs L)) (hl : L.length ≤ 90000) (hb : base ≤ w.heap.size) :
    ∃ v' w', (appO #[24, 24] 24 #[v, .slice (some ⟨w.heap.size, 0, none⟩) 1 1]).run Try.prog (w.alloc (.cells #[.int .i64 x.q, .int .i64 x.k.p, .int .i64 x.k.f, .int .i64 x.k.o] 51)) = .ok v' w' ∧ w'.ownsRow base 51 4 v' (L ++ [x]).length (wcs (L ++ [x])) ∧ (w.alloc (.cells #[.int .i64 x.q, .int .i64 x.k.p, .int .i64 x.k.f, .int .i64 x.k.o] 51)).grownBy w' v.ownBlock ∧ (v'.ownBlock = v.ownBlock ∨ v'.ownBlock = some (w.heap.size + 1)) := by
  have hb1 := (Below.refl w.heap.size w).alloc (Nat.le_refl _) (.cells #[.int .i64 x.q, .int .i64 x.k.p, .int .i64 x.k.f, .int .i64 x.k.o] 51)
  have hlit := World.ownsRow_lit (base := 0) (e := 51) (size := 4) w #[.int .i64 x.q, .int .i64 x.k.p, .int .i64 x.k.f, .int .i64 x.k.o] 1 (Nat.zero_le _) (by decide) rfl
  obtain ⟨v', w', q1, q2, q3, q4⟩ := app_rows _ base v L (.slice (some ⟨w.heap.size, 0, none⟩) 1 1) 0 w.heap.size [x] (own_below hown hb1) ⟨hlit, .inr ⟨1, 1, rfl⟩⟩ ⟨1, 1, rfl⟩ (by simp; omega) (by simp; omega)
  exact ⟨v', w', q1, q2, q3, by simpa using q4⟩

set_option maxHeartbeats 1000000 in
theorem clone_any (w : World) (v : Value) (f r : Nat) (L : List Wt) (h : Wr w v f r L) (hl : L.length ≤ 90000) :
    Calls Try.prog 37 #[v] w fun e w' => Below w.heap.size w w' ∧ ∃ r', e = .returned r' ∧ w'.ownsRow w.heap.size 51 4 r' L.length (wcs L) := by
  have HB0 := Lib.hid (Below.refl w.heap.size w)
  have HN : Hid (L.length = 0 → ∀ W : World, W.ownsRow w.heap.size 51 4 (.slice none 0 0) L.length (wcs L)) := Lib.hid (fun e W => by
    obtain rfl : L = [] := List.eq_nil_of_length_eq_zero e
    exact World.ownsRow_nil _ _ _ _)
  rcases h.2 with ⟨rfl, -⟩ | ⟨n, c, rfl⟩
  · have h0 : L.length = 0 := by
      obtain ⟨a, c, e, _⟩ := h.form
      injection e with _ e _
      exact e.symm
    clear h
    go_enter Try.func37, Try.ntmps37
    go_wp2
    go_ret
    exact ⟨HB0.out, _, rfl, HN.out h0 _⟩
  · have hb1 := (Below.refl w.heap.size w).alloc (Nat.le_refl _) (.cells #[] 51)
    have hlit := World.ownsRow_lit (base := w.heap.size) (e := 51) (size := 4) w #[] 0 (Nat.le_refl _) (by decide) rfl
    obtain ⟨v', w', q1, q2, q3, q4⟩ := app_rows _ w.heap.size _ [] _ f r L hlit (h.below hb1) ⟨n, c, rfl⟩ (by simp; omega) (by simp)
    have HE : Hid (Below w.heap.size w w' ∧ w'.ownsRow w.heap.size 51 4 v' L.length (wcs L)) := Lib.hid ⟨hb1.grown q3 (by simp) (fun k e => by cases e; exact Nat.le_refl _), q2⟩
    obtain ⟨a, cp, e, hcp, hm, _⟩ := h.form
    cases e
    clear h hb1 hlit q2 q3 q4
    go_enter Try.func37, Try.ntmps37
    go_wp2
    go_ret
    exact ⟨HE.out.1, _, rfl, HE.out.2⟩
/-- What a call has made: a row of its own. -/
theorem own_wr {w : World} {base : Nat} {v : Value} {L : List Wt} (h : w.ownsRow base 51 4 v L.length (wcs L)) (f : Nat) : ∃ r, Wr w v f r L ∧ (r = f ∨ base ≤ r) := by
  rcases h.2 with ⟨rfl, h0⟩ | ⟨g, cap, cur, rfl, hg, hh, h3⟩
  · exact ⟨f, ⟨own_base h (Nat.zero_le _), .inl ⟨rfl, rfl⟩⟩, .inl rfl⟩
  · exact ⟨g, ⟨own_base h (Nat.zero_le _), .inr ⟨_, _, rfl⟩⟩, .inr hg⟩
theorem own_form {w : World} {base : Nat} {e : TypeId} {s : Nat} {v : Value} {n : Nat} {xs : List Value} (h : w.ownsRow base e s v n xs) : ∃ a c, v = .slice a n c := by
  rcases h.2 with ⟨rfl, rfl⟩ | ⟨g, cap, cur, rfl, _⟩
  · exact ⟨_, _, rfl⟩
  · exact ⟨_, _, rfl⟩
theorem all_nil (w : World) : Calls Try.prog 20 #[.pointer none] w fun e w' => e = .returned (.slice none 0 0) ∧ w = w' := by
  have HC : Hid (∀ W : World, Calls Try.prog 37 #[.slice none 0 0] W fun e w' => e = .returned (.slice none 0 0) ∧ W = w') := Lib.hid (fun W => by
    go_enter Try.func37, Try.ntmps37
    go_wp2
    go_ret
    exact ⟨rfl, rfl⟩)
  go_enter Try.func20, Try.ntmps20
  go_wp2_with (first | (go_at_call 35; (with_reducible refine (waiting_nil _).mono ?_); rintro e w1 ⟨rfl, rfl⟩) | (go_at_call 37; (with_reducible refine (HC.out _).mono ?_); rintro e w1 ⟨rfl, rfl⟩))
  go_ret
  exact ⟨rfl, rfl⟩
theorem all_any (w : World) (f r : Nat) (L : List Wt) (h : Lx 26 w f r L) (hl : L.length ≤ 90000) :
    Calls Try.prog 20 #[.pointer (some ⟨f, 0, none⟩)] w fun e w' => Below w.heap.size w w' ∧ ∃ r', e = .returned r' ∧ w'.ownsRow w.heap.size 51 4 r' L.length (wcs L) := by
  obtain ⟨v, h1, h2⟩ := h
  have HC := Lib.hid (clone_any w v f r L h2 hl)
  have HW := Lib.hid (waiting_any w f _ h1)
  clear h1 h2
  go_enter Try.func20, Try.ntmps20
  go_wp2_with (first | (go_at_call 35; (with_reducible refine HW.out.mono ?_); rintro e w1 ⟨rfl, rfl⟩) | (go_at_call 37; (with_reducible refine HC.out.mono ?_); rintro e w1 ⟨hb, r', rfl, ho⟩))
  go_ret
  exact ⟨hb, _, rfl, ho⟩
theorem copy_nil (w : World) : Calls Try.prog 16 #[.pointer none] w fun e w' => e = .returned (.pointer none) ∧ w = w' := by
  go_enter Try.func16, Try.ntmps16
  go_wp2
  go_ret
  exact ⟨rfl, rfl⟩
theorem copy_any (w : World) (f r : Nat) (L : List Wt) (h : Lx 26 w f r L) (hl : L.length ≤ 90000) :
    Calls Try.prog 16 #[.pointer (some ⟨f, 0, none⟩)] w fun e w' => Below w.heap.size w w' ∧ ∃ f' r', e = .returned (.pointer (some ⟨f', 0, none⟩)) ∧ Lx 26 w' f' r' L ∧ w.heap.size ≤ f' ∧ w.heap.size ≤ r' := by
  have HC := Lib.hid (all_any w f r L h hl)
  clear h
  go_enter Try.func16, Try.ntmps16
  go_wp2_with (go_at_call 20; (with_reducible refine HC.out.mono ?_); rintro e w1 ⟨hb, v', rfl, ho⟩; obtain ⟨va, vc, rfl⟩ := own_form ho; replace hb := Lib.hid hb; replace ho := Lib.hid ho)
  go_ret
  have hb2 := hb.out.alloc hb.out.size (.cells #[.slice va L.length vc] 26)
  obtain ⟨r', h1, h2⟩ := own_wr ho.out w1.heap.size
  refine ⟨hb2, _, r', rfl, ⟨_, Blk.new _ _ _, h1.below ((Below.refl _ _).alloc (Nat.le_refl _) _)⟩, hb.out.size, ?_⟩
  rcases h2 with rfl | h2
  · exact hb.out.size
  · exact h2
end Go.Proofs.Ytpfnjeicenhciaa.Ftc
