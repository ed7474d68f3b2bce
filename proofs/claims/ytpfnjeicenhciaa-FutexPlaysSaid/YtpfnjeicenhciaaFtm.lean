/-
  The document's own Wait, whole; lists held against each other.
-/
import Derived.Test.YtpfnjeicenhciaaFtl
namespace Go.Proofs.Ytpfnjeicenhciaa.Ftm
open Go Go.RowKit Kit Bk Fta Ftb Ftc Ftd Fte Ftf Ftg Fth Fti Ftj Ftk Ftl
set_option linter.unusedVariables false

theorem rwait_old (w : World) (f r : Nat) (L : List Wt) (q : Int) (k : Ky) (h : Lx 29 w f r L) (hok : mayK k = true) (hq : 1 ≤ q) (hno : fkB L q = true) :
    Calls Try.prog 10 #[.pointer (some ⟨f, 0, none⟩), .int .i64 q, kv k] w fun e w' => e = .returned (.int .i64 110) ∧ Below w.heap.size w w' := by
  have b1 := (Below.refl w.heap.size w).alloc (Nat.le_refl _) (.cells #[.int .i64 k.p, .int .i64 k.f, .int .i64 k.o] 31)
  have HC : Hid (∀ W : World, Calls Try.prog 25 #[kv k] W fun e w' => e = .returned (.bool true) ∧ Below W.heap.size W w') := Lib.hid (fun W => by
    have := rmay_any W k
    rw [hok] at this
    exact this)
  have HK : Hid (∀ W, Below w.heap.size w W → Calls Try.prog 18 #[.pointer (some ⟨f, 0, none⟩), .int .i64 q] W fun e w' => e = .returned (.tuple #[kv (fkK L q), .bool true]) ∧ Below W.heap.size W w') := Lib.hid (fun W hb => by
    have := rkey_any W f r L q (h.below hb)
    rw [hno] at this
    exact this)
  have dq : decide (q < 1) = false := decide_eq_false (by omega)
  have HL := Lib.hid b1
  generalize fkK L q = K at *
  clear b1 h hok hno hq
  go_enter Try.func10, Try.ntmps10
  go_wp2_with (first | (go_at_call 25; (with_reducible refine (HC.out _).mono ?_); rintro e w1 ⟨rfl, hb1⟩; have HB1 := Lib.hid (HL.out.trans (hb1.mono HL.out.size)); clear hb1) | (go_at_call 18; (with_reducible refine (HK.out _ HB1.out).mono ?_); rintro e w2 ⟨rfl, hb2⟩; have HB2 := Lib.hid (HB1.out.trans ((hb2.alloc hb2.size (.cells #[.int .i64 K.p, .int .i64 K.f, .int .i64 K.o] 31)).mono HB1.out.size)); clear hb2))
  go_ret
  exact ⟨rfl, HB2.out⟩
theorem rwait_bad (w : World) (f r : Nat) (L : List Wt) (q : Int) (k : Ky) (hok : ¬ (mayK k = true ∧ 1 ≤ q)) :
    Calls Try.prog 10 #[.pointer (some ⟨f, 0, none⟩), .int .i64 q, kv k] w fun e w' => e = .returned (.int .i64 2) ∧ Below w.heap.size w w' := by
  have b1 := (Below.refl w.heap.size w).alloc (Nat.le_refl _) (.cells #[.int .i64 k.p, .int .i64 k.f, .int .i64 k.o] 31)
  have HC := fun W => rmay_any W k
  have HL := Lib.hid b1
  clear b1
  cases hm : mayK k with
  | true =>
    rw [hm] at HC
    replace HC := Lib.hid HC
    have dq : decide (q < 1) = true := decide_eq_true (Int.not_le.1 fun e => hok ⟨hm, e⟩)
    clear hok hm
    go_enter Try.func10, Try.ntmps10
    go_wp2_with (go_at_call 25; (with_reducible refine (HC.out _).mono ?_); rintro e w1 ⟨rfl, hb1⟩; have HB1 := Lib.hid (HL.out.trans (hb1.mono HL.out.size)); clear hb1)
    go_ret
    exact ⟨rfl, HB1.out⟩
  | false =>
    rw [hm] at HC
    replace HC := Lib.hid HC
    clear hok hm
    go_enter Try.func10, Try.ntmps10
    go_wp2_with (go_at_call 25; (with_reducible refine (HC.out _).mono ?_); rintro e w1 ⟨rfl, hb1⟩; have HB1 := Lib.hid (HL.out.trans (hb1.mono HL.out.size)); clear hb1)
    go_ret
    exact ⟨rfl, HB1.out⟩
theorem rwait_any (w : World) (f r : Nat) (L : List Wt) (q : Int) (k : Ky) (h : Lx 29 w f r L) (hll : L.length ≤ 80000) :
    Calls Try.prog 10 #[.pointer (some ⟨f, 0, none⟩), .int .i64 q, kv k] w fun e w' => e = .returned (.int .i64 (wtE L q k)) ∧ Kp (fun j => j = f) w w' ∧ ∃ r', Lx 29 w' f r' (wtL L q k) ∧ (r' = r ∨ r' = f ∨ w.heap.size ≤ r') := by
  by_cases hok : mayK k = true ∧ 1 ≤ q
  · cases hz : fkB L q with
    | true =>
      obtain ⟨e1, e2⟩ := wt_old hok hz
      rw [e1, e2]
      refine (rwait_old w f r L q k h hok.1 hok.2 hz).mono ?_
      rintro e w' ⟨rfl, hb⟩
      exact ⟨rfl, kp_below hb, r, h.below hb, .inl rfl⟩
    | false =>
      obtain ⟨e1, e2⟩ := wt_new hok hz
      rw [e1, e2]
      refine (rwait_new w f r L q k h hll hok.1 hok.2 hz).mono ?_
      rintro e w' ⟨rfl, hk, r', h1, h2⟩
      exact ⟨rfl, hk, r', h1, .inr h2⟩
  · obtain ⟨e1, e2⟩ := wt_bad (L := L) hok
    rw [e1, e2]
    refine (rwait_bad w f r L q k hok).mono ?_
    rintro e w' ⟨rfl, hb⟩
    exact ⟨rfl, kp_below hb, r, h.below hb, .inl rfl⟩

/-- One of those who wait is like itself. -/
def xwf (x : Wt) : Prop := (Lit.int .i64 x.q).wf = true ∧ kwf x.k
theorem wt_lits (x : Wt) (hx : xwf x) : Try.prog.keyLits 4 51 [.int .i64 x.q, .int .i64 x.k.p, .int .i64 x.k.f, .int .i64 x.k.o] = some [.int .i64 x.q, .int .i64 x.k.p, .int .i64 x.k.f, .int .i64 x.k.o] := by
  obtain ⟨h0, hk⟩ := hx
  have hc : Try.prog.cellsOf 51 = 4 := by kernel_rfl
  have hck : Try.prog.cellsOf 31 = 3 := by kernel_rfl
  have hc1 : Try.prog.cellsOf 3 = 1 := by kernel_rfl
  have hi : Try.prog.keyLits 3 3 [.int .i64 x.q] = some [.int .i64 x.q] := by
    rw [Program.keyLits.eq_def]
    simp only [Try.underlying3]
    simp [h0]
  have hkl := key_lits x.k hk
  rw [Program.keyLits.eq_def]
  simp only [Try.underlying51]
  rw [if_pos ⟨by rw [hc]; rfl, by kernel_rfl⟩]
  simp [hc1, hck, hi, hkl]
theorem run_wt (x : Wt) (hx : xwf x) (w : World) : (Op.equalIn 10000 51 (wv x) (wv x)).run Try.prog w = .ok true w := by
  have hf : ∀ a b c d : Int, (Value.agg #[.int .i64 a, .int .i64 b, .int .i64 c, .int .i64 d]).formed Try.prog 51 = true := fun a b c d => by
    unfold Value.formed
    rw [Try.underlying51]
    kernel_rfl
  obtain ⟨r, h1, h2⟩ := run_equalIn_deep (P := Try.prog) 9996 4 51 (by kernel_rfl) w 4 4 (wv x) (wv x) _ _ (hf _ _ _ _) (hf _ _ _ _) (wt_lits x hx) (wt_lits x hx)
  rw [h1]
  congr 1
  rw [h2]
/-- A slice of those who wait, as it reads. -/
def Nw (w : World) (v : Value) (L : List Wt) : Prop := w.ownsRow 0 51 4 v L.length (wcs L)
theorem Nw.cells {w : World} {v : Value} {L : List Wt} (h : Nw w v L) : ∃ a c r, v = .slice a L.length c ∧ L.length ≤ c ∧ c ≤ maxLen ∧ ∀ W, Below w.heap.size w W → ∀ (i : Nat) (hi : i < L.length), a = some ⟨r, 0, none⟩ ∧ W.cell? ⟨r, i * 4, none⟩ = some (.int .i64 L[i].q) ∧ W.cell? ⟨r, i * 4 + 1, none⟩ = some (.int .i64 L[i].k.p) ∧ W.cell? ⟨r, i * 4 + 2, none⟩ = some (.int .i64 L[i].k.f) ∧ W.cell? ⟨r, i * 4 + 3, none⟩ = some (.int .i64 L[i].k.o) := by
  obtain ⟨r, hw, -⟩ := own_wr h 0
  obtain ⟨a, c, rfl, h1, h2, h3⟩ := hw.form
  exact ⟨a, c, r, rfl, h1, h2, fun W hb i hi => ⟨h3 i hi, (hw.below hb).cells i hi⟩⟩
theorem Nw.below {w w' : World} {v : Value} {L : List Wt} (h : Nw w v L) (hb : Below w.heap.size w w') : Nw w' v L := own_below h hb
theorem Nw.kept {S : Nat → Prop} {w w' : World} {v : Value} {L : List Wt} (h : Nw w v L) (hk : Kp S w w') (hS : ∀ g n c, v = .slice (some ⟨g, 0, none⟩) n c → ¬ S g) : Nw w' v L := own_kept h hk hS
set_option maxHeartbeats 2000000 in
theorem same_nw (va vb : Value) (L : List Wt) (w : World) (hn : L.length ≤ 90000) (hwf : ∀ x ∈ L, xwf x) (ha : Nw w va L) (hb : Nw w vb L) :
    Calls Try.prog 23 #[va, vb] w fun e w' => e = .returned (.bool true) ∧ Below w.heap.size w w' := by
  obtain ⟨ada, capa, ra, rfl, ha1, ha2, ha3⟩ := ha.cells
  obtain ⟨adb, capb, rb, rfl, hb1, hb2, hb3⟩ := hb.cells
  have HA := Lib.hid ha3
  have HB := Lib.hid hb3
  have HW := Lib.hid hwf
  have hni : (L.length : Int) ≤ 90000 := by omega
  clear ha hb ha3 hb3 ha1 ha2 hb1 hb2 hwf
  go_enter Try.func23, Try.ntmps23
  go_wp2
  go_loopw [5] (fun i wr => ∃ k : Nat, k ≤ L.length ∧ i = .int .i64 k ∧ Below w.heap.size w wr) (fun i _ => L.length - (intOf i).toNat)
  case atStart => exact ⟨0, Nat.zero_le _, rfl, Below.refl _ _⟩
  case round =>
    obtain ⟨k, hk, rfl, hbr⟩ := hrel
    by_cases hlt : k < L.length
    · obtain ⟨rfl, a0, a1, a2, a3⟩ := HA.out wr hbr k hlt
      obtain ⟨rfl, b0, b1, b2, b3⟩ := HB.out wr hbr k hlt
      have hrun := run_wt L[k] (HW.out _ (List.getElem_mem hlt))
      have hlti : (k : Int) < (L.length : Int) := by omega
      have HBr := Lib.hid hbr
      generalize L[k] = x at *
      clear hbr
      go_wp2
      go_quiet (fail)
      have HB2 := Lib.hid (HBr.out.trans ((bel_dr (Below.refl _ wr) nq).mono HBr.out.size))
      go_wp2
      go_roundw
      case rel => exact ⟨k + 1, by omega, by go_num, HB2.out⟩
      case measure => simp [intOf]; omega
    · obtain rfl : k = L.length := by omega
      have HBr := Lib.hid hbr
      clear hbr
      go_wp2
      go_ret
      exact ⟨rfl, HBr.out⟩
set_option maxHeartbeats 2000000 in
theorem same_nr (va vb : Value) (l : List Int) (w : World) (hn : l.length ≤ 90000) (ha : Nr w va l) (hb : Nr w vb l) :
    Calls Try.prog 12 #[va, vb] w fun e w' => e = .returned (.bool true) ∧ Below w.heap.size w w' := by
  have HA := Lib.hid ha
  have HB := Lib.hid hb
  obtain ⟨ada, capa, rfl, ha1, ha2, _⟩ := ha.cells
  obtain ⟨adb, capb, rfl, hb1, hb2, _⟩ := hb.cells
  have hni : (l.length : Int) ≤ 90000 := by omega
  go_enter Try.func12, Try.ntmps12
  go_wp2
  go_loopw [5] (fun i wr => ∃ k : Nat, k ≤ l.length ∧ i = .int .i64 k ∧ Below w.heap.size w wr) (fun i _ => l.length - (intOf i).toNat)
  case atStart => exact ⟨0, Nat.zero_le _, rfl, Below.refl _ _⟩
  case round =>
    obtain ⟨k, hk, rfl, hbr⟩ := hrel
    by_cases hlt : k < l.length
    · obtain ⟨ga, ca, hea, hca, hca2, hga⟩ := Nr.cells (HA.out.below hbr)
      obtain ⟨gb, cb, heb, hcb, hcb2, hgb⟩ := Nr.cells (HB.out.below hbr)
      cases hea
      cases heb
      obtain ⟨g1, rfl, a0⟩ := hga k hlt
      obtain ⟨g2, rfl, b0⟩ := hgb k hlt
      generalize l[k] = q at a0 b0
      have hlti : (k : Int) < (l.length : Int) := by omega
      have HBr := Lib.hid hbr
      clear hca hcb hca2 hcb2 hbr hga hgb
      go_wp2
      go_quiet (fail)
      have HB2 := Lib.hid (HBr.out.trans ((bel_dr (Below.refl _ wr) nq).mono HBr.out.size))
      go_wp2
      go_roundw
      case rel => exact ⟨k + 1, by omega, by go_num, HB2.out⟩
      case measure => simp [intOf]; omega
    · obtain rfl : k = l.length := by omega
      have HBr := Lib.hid hbr
      clear hbr
      go_wp2
      go_ret
      exact ⟨rfl, HBr.out⟩
end Go.Proofs.Ytpfnjeicenhciaa.Ftm
