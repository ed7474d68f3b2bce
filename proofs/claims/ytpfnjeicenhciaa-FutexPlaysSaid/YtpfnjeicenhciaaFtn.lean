/-
  A law's own futex; one, some, alive.
-/
import Derived.Test.YtpfnjeicenhciaaFtm
namespace Go.Proofs.Ytpfnjeicenhciaa.Ftn
open Go Go.RowKit Kit Bk Fta Ftb Ftc Ftd Fte Ftf Ftg Fth Fti Ftj Ftk Ftl Ftm
set_option linter.unusedVariables false

/-- Those who wait are good: each has a number of its own, from 1, and a key that may be. -/
structure Gd (c : Nat) (L : List Wt) : Prop where
  own : Own1 L
  each : ∀ x ∈ L, 1 ≤ x.q ∧ mayK x.k = true ∧ xwf x
  len : L.length ≤ c
theorem Gd.nil (c : Nat) : Gd c [] := ⟨List.nodup_nil, fun x hx => by simp at hx, Nat.zero_le _⟩
theorem Gd.mono {c d : Nat} {L : List Wt} (h : Gd c L) (hd : c ≤ d) : Gd d L := ⟨h.own, h.each, Nat.le_trans h.len hd⟩
theorem Gd.sub {c : Nat} {L M : List Wt} (h : Gd c L) (hs : M.Sublist L) : Gd c M :=
  ⟨List.Nodup.sublist (hs.map _) h.own, fun x hx => h.each x (hs.subset hx), Nat.le_trans hs.length_le h.len⟩
theorem Gd.stay {c : Nat} {L : List Wt} (h : Gd c L) (d : Wt → Bool) : Gd c (stay d L) := h.sub List.filter_sublist
theorem Gd.kwf {c : Nat} {L : List Wt} (h : Gd c L) : ∀ x ∈ L, kwf x.k := fun x hx => (h.each x hx).2.2.2
theorem Gd.xwf {c : Nat} {L : List Wt} (h : Gd c L) : ∀ x ∈ L, xwf x := fun x hx => (h.each x hx).2.2
theorem fkB_iff {L : List Wt} {q : Int} : fkB L q = true ↔ q ∈ L.map (·.q) := by
  unfold fkB fk
  rw [Option.isSome_map, List.find?_isSome]
  simp only [List.mem_map, beq_iff_eq]
theorem Gd.wait {c : Nat} {L : List Wt} (h : Gd c L) (q : Int) (k : Ky) (hq : (Lit.int .i64 q).wf = true) (hk : Fta.kwf k) : Gd (c + 1) (wtL L q k) := by
  by_cases hok : mayK k = true ∧ 1 ≤ q
  · cases hz : fkB L q with
    | true => rw [(wt_old hok hz).2]; exact h.mono (Nat.le_succ _)
    | false =>
      rw [(wt_new hok hz).2]
      refine ⟨?_, fun x hx => ?_, by have := h.len; simp; omega⟩
      · unfold Own1
        rw [List.map_append, List.nodup_append]
        refine ⟨h.own, by simp, fun a ha b hb => ?_⟩
        simp only [List.map_cons, List.map_nil, List.mem_singleton] at hb
        subst hb
        intro e
        subst e
        rw [fkB_iff.2 ha] at hz
        cases hz
      · rcases List.mem_append.1 hx with hx | hx
        · exact h.each x hx
        · simp only [List.mem_singleton] at hx
          subst hx
          exact ⟨hok.2, hok.1, hq, hk⟩
  · rw [(wt_bad hok).2]; exact h.mono (Nat.le_succ _)

/-- A futex that a law has made since W0. -/
structure On (W0 w : World) (f r : Nat) (L : List Wt) : Prop where
  bel : Below W0.heap.size W0 w
  lx : Lx 26 w f r L
  lo : W0.heap.size ≤ f ∧ W0.heap.size ≤ r
variable {W0 w w' : World} {f r : Nat} {L : List Wt}
theorem On.below (h : On W0 w f r L) (hb : Below w.heap.size w w') : On W0 w' f r L := ⟨h.bel.trans (hb.mono h.bel.size), h.lx.below hb, h.lo⟩
theorem On.step (h : On W0 w f r L) {r' : Nat} {M : List Wt} (hk : Kp (fr f r) w w') (hx : Lx 26 w' f r' M) (hr : r' = r ∨ w.heap.size ≤ r') : On W0 w' f r' M :=
  ⟨h.bel.trans (hk.below h.bel.size (fun j e => by have := h.lo; unfold fr at e; omega)), hx, h.lo.1, by have := h.lo; have := h.bel.size; omega⟩
/-- Rows of other types are kept. -/
theorem On.nr (h : On W0 w f r L) (hk : Kp (fr f r) w w') {v : Value} {l : List Int} (hv : Nr w v l) : Nr w' v l := hv.kept hk (fun g cs hb => h.lx.apart hb (by decide) (by decide))
theorem On.blk (h : On W0 w f r L) (hk : Kp (fr f r) w w') {g : Nat} {cs : Array Value} {U : TypeId} (hb : Blk w g cs U) (hU : U ≠ 26) (hW : U ≠ 51) : Blk w' g cs U := hb.kept hk (h.lx.apart hb hU hW)
theorem On.new (w : World) : On w (w.alloc (.cells #[.slice none 0 0] 26)) w.heap.size w.heap.size [] :=
  ⟨(Below.refl _ _).alloc (Nat.le_refl _) _, ⟨_, Blk.new _ _ _, ⟨World.ownsRow_nil _ _ _ _, .inl ⟨rfl, rfl⟩⟩⟩, Nat.le_refl _, Nat.le_refl _⟩
theorem On.wait (h : On W0 w f r L) (hll : L.length ≤ 80000) (q : Int) (k : Ky) :
    Calls Try.prog 9 #[.pointer (some ⟨f, 0, none⟩), .int .i64 q, kv k] w fun e w' => e = .returned (.int .i64 (wtE L q k)) ∧ Kp (fr f r) w w' ∧ ∃ r', On W0 w' f r' (wtL L q k) ∧ (r' = r ∨ w.heap.size ≤ r') := by
  refine (wait_any w f r L q k h.lx (by omega)).mono ?_
  rintro e w' ⟨rfl, r', h1, h2, h3⟩
  exact ⟨rfl, h1, r', h.step h1 h2 h3, h3⟩
theorem On.wake (h : On W0 w f r L) (hwf : ∀ x ∈ L, Fta.kwf x.k) (hll : L.length ≤ 80000) (k : Ky) (hk : Fta.kwf k) (n : Int) :
    Calls Try.prog 11 #[.pointer (some ⟨f, 0, none⟩), kv k, .int .i64 n] w fun e w' => Kp (fr f r) w w' ∧ On W0 w' f r (Ftf.stay (inn (wks L k n)) L) ∧ ∃ u, e = .returned u ∧ w'.ownsRow w.heap.size 3 1 u (wks L k n).length (ints (wks L k n)) := by
  refine (wake_any w f r L k n h.lx hwf hk (by omega)).mono ?_
  rintro e w' ⟨h1, h2, h3⟩
  exact ⟨h1, h.step h1 h2 (.inl rfl), h3⟩
theorem On.gone (h : On W0 w f r L) (q : Int) :
    Calls Try.prog 14 #[.pointer (some ⟨f, 0, none⟩), .int .i64 q] w fun e w' => e = .returned (.bool (fkB L q)) ∧ Kp (fr f r) w w' ∧ On W0 w' f r (Ftf.stay (eqq q) L) := by
  refine (gone_any w f r L q h.lx).mono ?_
  rintro e w' ⟨rfl, h1, h2⟩
  exact ⟨rfl, h1, h.step h1 h2 (.inl rfl)⟩

def k1 : Ky := ⟨0, 5, 8⟩
def k9 : Ky := ⟨9, 0, 8⟩
def A1 : List Wt := [⟨3, k1⟩]
def A2 : List Wt := [⟨3, k1⟩, ⟨2, k1⟩]
def A3 : List Wt := [⟨3, k1⟩, ⟨2, k1⟩, ⟨9, k9⟩]
def A4 : List Wt := [⟨2, k1⟩, ⟨9, k9⟩]
def A5 : List Wt := [⟨9, k9⟩]
theorem k1_wf : Fta.kwf k1 := ⟨by decide, by decide, by decide⟩
theorem k9_wf : Fta.kwf k9 := ⟨by decide, by decide, by decide⟩
theorem A3_wf : ∀ x ∈ A3, Fta.kwf x.k := fun x hx => by
  simp only [A3, List.mem_cons, List.not_mem_nil, or_false] at hx
  rcases hx with rfl | rfl | rfl
  · exact k1_wf
  · exact k1_wf
  · exact k9_wf
theorem A4_wf : ∀ x ∈ A4, Fta.kwf x.k := fun x hx => A3_wf x (by simp only [A4, A3, List.mem_cons, List.not_mem_nil, or_false] at hx ⊢; exact .inr hx)
theorem A5_wf : ∀ x ∈ A5, Fta.kwf x.k := fun x hx => A3_wf x (by simp only [A5, A3, List.mem_cons, List.not_mem_nil, or_false] at hx ⊢; exact .inr (.inr hx))
theorem one_any (w : World) : Calls Try.prog 27 #[] w fun e w' => e = .returned (kv k1) ∧ Below w.heap.size w w' := by
  have HB := Lib.hid ((Below.refl w.heap.size w).alloc (Nat.le_refl _) (.cells #[.int .i64 0, .int .i64 5, .int .i64 8] 31))
  go_enter Try.func27, Try.ntmps27
  go_wp2
  exact bodyPost_ret (v := kv k1) (by simp [results, Try.results27, go_sem, k1]) rfl ⟨rfl, HB.out⟩
set_option maxRecDepth 100000 in
theorem some_any (w : World) : Calls Try.prog 26 #[] w fun e w' => ∃ f r, e = .returned (.pointer (some ⟨f, 0, none⟩)) ∧ On w w' f r A3 := by
  have HO := Lib.hid (On.new w)
  have HB := Lib.hid (fun w : World => one_any w)
  go_enter Try.func26, Try.ntmps26
  go_wp2_with (first
    | (go_at_call 27; (with_reducible refine (HB.out _).mono ?_); rintro e w1 ⟨rfl, hb⟩; replace HO := Lib.hid (HO.out.below hb); clear hb)
    | (go_at_call 9; first
      | ((with_reducible refine (On.wait HO.out (by decide) 3 k1).mono ?_); rintro e w1 ⟨rfl, -, r1, ho, -⟩; replace HO : Hid (On w w1 _ r1 A1) := Lib.hid ho; clear ho)
      | ((with_reducible refine (On.wait HO.out (by decide) 2 k1).mono ?_); rintro e w1 ⟨rfl, -, r2, ho, -⟩; replace HO : Hid (On w w1 _ r2 A2) := Lib.hid ho; clear ho)
      | ((with_reducible refine (On.wait HO.out (by decide) 9 ⟨9, 0, 8⟩).mono ?_); rintro e w1 ⟨rfl, -, r3, ho, -⟩; replace HO : Hid (On w w1 _ r3 A3) := Lib.hid ho; clear ho)))
  go_ret
  exact ⟨_, _, rfl, HO.out⟩
end Go.Proofs.Ytpfnjeicenhciaa.Ftn
