/-
  A futex: waiting, Len, Key.
-/
import Derived.Test.YtpfnjeicenhciaaFta
namespace Go.Proofs.Ytpfnjeicenhciaa.Ftb
open Go Go.RowKit Kit Bk Fta
set_option linter.unusedVariables false

/-- Where one waits. -/
def fk (L : List Wt) (q : Int) : Option Ky := (L.find? fun x => x.q == q).map (·.k)
def fkK (L : List Wt) (q : Int) : Ky := (fk L q).getD ⟨0, 0, 0⟩
def fkB (L : List Wt) (q : Int) : Bool := (fk L q).isSome
theorem fk_none {L : List Wt} {q : Int} (h : ∀ i (hi : i < L.length), L[i].q ≠ q) : fk L q = none := by
  unfold fk
  rw [List.find?_eq_none.2 (fun x hx => ?_)]
  · rfl
  · obtain ⟨i, hi, rfl⟩ := List.getElem_of_mem hx
    simpa using h i hi
theorem fk_some : ∀ {L : List Wt} {q : Int} {k : Nat} (hk : k < L.length) (h : ∀ i (hi : i < k), L[i].q ≠ q) (e : L[k].q = q), fk L q = some L[k].k
  | [], _, _, hk, _, _ => absurd hk (by simp)
  | a :: r, q, 0, hk, h, e => by
    unfold fk
    have e' : a.q = q := e
    rw [List.find?_cons_of_pos (by simpa using e')]
    rfl
  | a :: r, q, k + 1, hk, h, e => by
    have h0 : a.q ≠ q := h 0 (by omega)
    have ih := fk_some (L := r) (q := q) (k := k) (by simpa using hk) (fun i hi => h (i + 1) (by omega)) e
    unfold fk at ih ⊢
    rw [List.find?_cons_of_neg (by simpa using h0)]
    exact ih

theorem waiting_nil (w : World) : Calls Try.prog 35 #[.pointer none] w fun e w' => e = .returned (.slice none 0 0) ∧ w = w' := by
  go_enter Try.func35, Try.ntmps35
  go_wp2
  go_ret
  exact ⟨rfl, rfl⟩
theorem waiting_any (w : World) (f : Nat) (v : Value) (h : Blk w f #[v] 26) : Calls Try.prog 35 #[.pointer (some ⟨f, 0, none⟩)] w fun e w' => e = .returned v ∧ w = w' := by
  have c0 : w.cell? ⟨f, 0, none⟩ = some v := h.cell 0
  clear h
  go_enter Try.func35, Try.ntmps35
  go_wp2
  go_ret
  exact ⟨rfl, rfl⟩
theorem flen_nil (w : World) : Calls Try.prog 24 #[.pointer none] w fun e w' => e = .returned (.int .i64 0) ∧ w = w' := by
  go_enter Try.func24, Try.ntmps24
  go_wp2_with (go_at_call 35; (with_reducible refine (waiting_nil _).mono ?_); rintro e w1 ⟨rfl, rfl⟩)
  go_ret
  exact ⟨rfl, rfl⟩
theorem flen_any (w : World) (f r : Nat) (L : List Wt) (h : Lx 26 w f r L) : Calls Try.prog 24 #[.pointer (some ⟨f, 0, none⟩)] w fun e w' => e = .returned (.int .i64 (L.length : Int)) ∧ w = w' := by
  obtain ⟨v, h1, h2⟩ := h
  obtain ⟨a, c, rfl, _, _, _⟩ := h2.form
  have HW := Lib.hid (waiting_any w f _ h1)
  clear h1 h2
  go_enter Try.func24, Try.ntmps24
  go_wp2_with (go_at_call 35; (with_reducible refine HW.out.mono ?_); rintro e w1 ⟨rfl, rfl⟩)
  go_ret
  exact ⟨rfl, rfl⟩

/-- A store of a key, behind a name that a walk does not open. -/
def stK (p v : Value) : Sem Unit := Instr.storeAt 31 p v
theorem stk_wrap (p v : Value) : Instr.storeAt 31 p v = stK p v := rfl
attribute [local go_sem ↓] stk_wrap
theorem infoK : (Try.prog.info? 31).map (fun i => (i.size)) = some 3 := by kernel_rfl
theorem run_stK (w : World) (b : Nat) (cs : Array Value) (T : TypeId) (h : Blk w b cs T) (hn : cs.size = 3) (k : Ky) :
    ∃ W', (stK (.pointer (some ⟨b, 0, none⟩)) (kv k)).run Try.prog w = .ok () W' ∧ Blk W' b #[.int .i64 k.p, .int .i64 k.f, .int .i64 k.o] T ∧ Kp (fun j => j = b) w W' := by
  refine ⟨w.setCells b 0 [.int .i64 k.p, .int .i64 k.f, .int .i64 k.o], ?_, ?_, Kp.sets (S := fun j => j = b) b rfl _ _ _⟩
  · unfold stK
    refine run_storeAt_mid w b 0 _ #[.int .i64 k.p, .int .i64 k.f, .int .i64 k.o] (h.there _ _ (by rw [hn]; exact Nat.le_refl 3)) ?_ (by simp [Value.oneCell'])
    rw [infoK]
    rfl
  · obtain ⟨ds, d1, d2, d3, d4⟩ := h.sets [.int .i64 k.p, .int .i64 k.f, .int .i64 k.o] 0
    have : ds = #[.int .i64 k.p, .int .i64 k.f, .int .i64 k.o] := by
      apply Array.ext (by rw [d2, hn]; rfl)
      intro i h1 h2
      have h3 : i < 3 := h2
      have := d4 i h3 (by omega)
      rw [Nat.zero_add, Array.getElem?_eq_getElem h1] at this
      have h4 : ([.int .i64 k.p, .int .i64 k.f, .int .i64 k.o] : List Value)[i]? = (#[.int .i64 k.p, .int .i64 k.f, .int .i64 k.o] : Array Value)[i]? := by simp
      rw [h4, Array.getElem?_eq_getElem h2] at this
      injection this
    rw [← this]
    exact d1
theorem key_nil (w : World) (q : Int) : Calls Try.prog 17 #[.pointer none, .int .i64 q] w fun e w' => e = .returned (.tuple #[kv ⟨0, 0, 0⟩, .bool false]) ∧ Below w.heap.size w w' := by
  obtain ⟨W', hst, hbl, hk⟩ := run_stK _ _ _ _ (Blk.new w #[.int .i64 0, .int .i64 0, .int .i64 0] 31) rfl ⟨0, 0, 0⟩
  have c0 := hbl.cell 0
  have c1 := hbl.cell 1
  have c2 := hbl.cell 2
  have HB : Hid (Below w.heap.size w W') := Lib.hid (((Below.refl _ _).alloc (Nat.le_refl _) _).trans (hk.below (by simp) (fun j e => by omega)))
  clear hbl hk
  go_enter Try.func17, Try.ntmps17
  go_wp2_with (go_at_call 35; (with_reducible refine (waiting_nil _).mono ?_); rintro e w1 ⟨rfl, rfl⟩)
  go_loop [11] (fun i => i = .int .i64 0) (fun i => 0)
  case atStart => rfl
  case round =>
    obtain rfl := hrel
    go_wp2
    exact bodyPost_ret (v := .tuple #[kv ⟨0, 0, 0⟩, .bool false]) (by simp [results, Try.results17, go_sem, c0, c1, c2]) rfl ⟨rfl, HB.out⟩
set_option maxRecDepth 100000 in
set_option maxHeartbeats 1000000 in
theorem key_any (w : World) (f r : Nat) (L : List Wt) (q : Int) (h : Lx 26 w f r L) :
    Calls Try.prog 17 #[.pointer (some ⟨f, 0, none⟩), .int .i64 q] w fun e w' => e = .returned (.tuple #[kv (fkK L q), .bool (fkB L q)]) ∧ Below w.heap.size w w' := by
  obtain ⟨v, h1, h2⟩ := h
  obtain ⟨a, c, rfl, hc1, hc2, ha⟩ := h2.form
  have HA := Lib.hid ha
  have HR := Lib.hid h2
  unfold maxLen at hc2
  have hcI : (L.length : Int) ≤ 9223372036854775807 := by omega
  have B0 := (Below.refl w.heap.size w).alloc (Nat.le_refl _) (.cells #[.int .i64 0, .int .i64 0, .int .i64 0] 31)
  have K0 := Lib.hid (Blk.new w #[.int .i64 0, .int .i64 0, .int .i64 0] 31)
  have HW := Lib.hid (waiting_any _ f _ (h1.below B0))
  have HB0 := Lib.hid B0
  clear h1 h2 ha B0 hc1 hc2
  go_enter Try.func17, Try.ntmps17
  go_wp2_with (go_at_call 35; (with_reducible refine HW.out.mono ?_); rintro e w1 ⟨rfl, rfl⟩)
  go_loopw [11] (fun i wr => ∃ j : Nat, j ≤ L.length ∧ i = .int .i64 (j : Int) ∧ (∀ m (hm : m < j) (hl : m < L.length), L[m].q ≠ q) ∧ Below w.heap.size w wr ∧ Blk wr w.heap.size #[.int .i64 0, .int .i64 0, .int .i64 0] 31) (fun i _ => L.length - (intOf i).toNat)
  case atStart => exact ⟨0, Nat.zero_le _, rfl, fun m hm => absurd hm (Nat.not_lt_zero _), HB0.out, K0.out⟩
  case round =>
    obtain ⟨j, hj, rfl, hno, hb, hk⟩ := hrel
    by_cases hlt : j < L.length
    · have hltI : (j : Int) < (L.length : Int) := by omega
      obtain rfl := HA.out j hlt
      obtain ⟨c0, c1, c2, c3⟩ := (HR.out.below hb).cells j hlt
      have HNo := Lib.hid hno
      have HHb := Lib.hid hb
      have hkw := hk.below ((Below.refl wr.heap.size wr).alloc (Nat.le_refl _) (.cells #[.int .i64 L[j].q, .int .i64 L[j].k.p, .int .i64 L[j].k.f, .int .i64 L[j].k.o] 51))
      obtain ⟨W', hst, hbl, hkp⟩ := run_stK _ _ _ _ hkw rfl L[j].k
      have HK := Lib.hid hk
      by_cases he : L[j].q = q
      · have d0 : (L[j].q == q) = true := by simpa using he
        have e0 := hbl.cell 0
        have e1 := hbl.cell 1
        have e2 := hbl.cell 2
        have hres : Hid (fkK L q = L[j].k ∧ fkB L q = true ∧ Below w.heap.size w W') := Lib.hid (by
          have hs := fk_some hlt (fun i hi => hno i hi (by omega)) he
          refine ⟨by unfold fkK; rw [hs]; rfl, by unfold fkB; rw [hs]; rfl, ?_⟩
          exact (hb.alloc hb.size _).trans (hkp.below (by have := hb.size; simp; omega) (fun j e => by omega)))
        generalize L[j] = x at *
        clear hno hb hk hkw hbl hkp he
        go_wp2
        exact bodyPost_ret (v := .tuple #[kv (fkK L q), .bool (fkB L q)]) (by rw [hres.out.1, hres.out.2.1]; simp [results, Try.results17, go_sem, e0, e1, e2]) rfl ⟨rfl, hres.out.2.2⟩
      · have d0 : (L[j].q == q) = false := by simpa using he
        have HE := Lib.hid he
        generalize hx : L[j] = x at *
        clear hno hb hk hkw hbl hkp he hst
        go_wp2
        go_roundw
        case rel => exact ⟨j + 1, by omega, by go_num, fun m hm hl => by
          by_cases e : m = j
          · subst e; rw [hx]; exact HE.out
          · exact HNo.out m (by omega) hl, HHb.out.alloc HHb.out.size _, HK.out.below ((Below.refl _ _).alloc (Nat.le_refl _) _)⟩
        case measure => simp [intOf]; omega
    · obtain rfl : j = L.length := by omega
      obtain ⟨W', hst, hbl, hkp⟩ := run_stK _ _ _ _ hk rfl ⟨0, 0, 0⟩
      have e0 := hbl.cell 0
      have e1 := hbl.cell 1
      have e2 := hbl.cell 2
      have hres : Hid (fkK L q = ⟨0, 0, 0⟩ ∧ fkB L q = false ∧ Below w.heap.size w W') := Lib.hid (by
        have hs := fk_none (fun i hi => hno i hi hi)
        refine ⟨by unfold fkK; rw [hs]; rfl, by unfold fkB; rw [hs]; rfl, ?_⟩
        exact hb.trans (hkp.below hb.size (fun j e => by omega)))
      clear hno hb hk hbl hkp
      go_wp2
      exact bodyPost_ret (v := .tuple #[kv (fkK L q), .bool (fkB L q)]) (by rw [hres.out.1, hres.out.2.1]; simp [results, Try.results17, go_sem, e0, e1, e2]) rfl ⟨rfl, hres.out.2.2⟩
end Go.Proofs.Ytpfnjeicenhciaa.Ftb
