/-
  The document's own futex: Wake, Wait.
-/
import Derived.Test.YtpfnjeicenhciaaFtk
namespace Go.Proofs.Ytpfnjeicenhciaa.Ftl
open Go Go.RowKit Kit Bk Fta Ftb Ftc Ftd Fte Ftf Ftg Fth Fti Ftj Ftk
set_option linter.unusedVariables false
attribute [local go_sem ↓] app_wrap

theorem wks_yes {L : List Wt} {k : Ky} {n : Int} {j : Nat} (hj : j < L.length) (e : L[j].k = k) (h : (ats (L.take j) k).length < n.toNat) : wks (L.take (j + 1)) k n = wks (L.take j) k n ++ [L[j].q] := by
  unfold wks
  have h1 : (ats (L.take j) k).take n.toNat = ats (L.take j) k := List.take_of_length_le (by omega)
  have h2 : (ats (L.take j) k ++ [L[j].q]).take n.toNat = ats (L.take j) k ++ [L[j].q] := List.take_of_length_le (by rw [List.length_append, List.length_singleton]; omega)
  rw [ats_yes hj e, h2, h1]
theorem wks_full {L : List Wt} {k : Ky} {n : Int} {j : Nat} (hj : j < L.length) (e : L[j].k = k) (h : ¬ (ats (L.take j) k).length < n.toNat) : wks (L.take (j + 1)) k n = wks (L.take j) k n := by
  unfold wks
  rw [ats_yes hj e, List.take_append_of_le_length (by omega)]
theorem wks_no {L : List Wt} {k : Ky} {n : Int} {j : Nat} (hj : j < L.length) (e : L[j].k ≠ k) : wks (L.take (j + 1)) k n = wks (L.take j) k n := by
  unfold wks
  rw [ats_no hj e]
theorem rst_yes {L : List Wt} {k : Ky} {n j : Nat} (hj : j < L.length) (e : L[j].k = k) (h : (ats (L.take j) k).length < n) : rst (L.take (j + 1)) k n = rst (L.take j) k n := by
  rw [List.take_succ_eq_append_getElem hj, rst_snoc, if_pos ⟨e, h⟩, List.append_nil]
theorem rst_no {L : List Wt} {k : Ky} {n j : Nat} (hj : j < L.length) (h : ¬ (L[j].k = k ∧ (ats (L.take j) k).length < n)) : rst (L.take (j + 1)) k n = rst (L.take j) k n ++ [L[j]] := by
  rw [List.take_succ_eq_append_getElem hj, rst_snoc, if_neg h]
/-- Two rows of a call's own, of other types, and a key in a box. -/
structure Tw (w wr : World) (k : Ky) (o l : Value) (P : List Int) (M : List Wt) : Prop where
  ints : wr.ownsRow w.heap.size 3 1 o P.length (ints P)
  rows : wr.ownsRow w.heap.size 51 4 l M.length (wcs M)
  bel : Below w.heap.size w wr
  key : Blk wr w.heap.size #[.int .i64 k.p, .int .i64 k.f, .int .i64 k.o] 31
theorem own_ne {wr : World} {base s m : Nat} {e U : TypeId} {v : Value} {xs : List Value} (h : wr.ownsRow base e s v m xs) {g : Nat} {cs : Array Value} (hb : Blk wr g cs U) (hU : U ≠ e) : ¬ (some g = v.ownBlock) := by
  intro he
  rcases h.2 with ⟨e1, _⟩ | ⟨g', cap, cur, e1, _, hh, _⟩
  · rw [e1] at he; simp [Value.ownBlock] at he
  · rw [e1] at he
    simp [Value.ownBlock] at he
    subst he
    exact hU (hb.inj (show Blk wr g cur e from hh)).2
theorem own_blk {wr : World} {base s m g n c : Nat} {e : TypeId} {xs : List Value} (h : wr.ownsRow base e s (.slice (some ⟨g, 0, none⟩) n c) m xs) : ∃ cs, Blk wr g cs e := (own_lt h).2.2
theorem Tw.below {w wr w' : World} {k : Ky} {o l : Value} {P : List Int} {M : List Wt} (h : Tw w wr k o l P M) (hb : Below wr.heap.size wr w') : Tw w w' k o l P M :=
  ⟨own_below h.ints hb, own_below h.rows hb, h.bel.trans (hb.mono h.bel.size), h.key.below hb⟩
theorem Tw.int {w wr : World} {k : Ky} {o l : Value} {P : List Int} {M : List Wt} (h : Tw w wr k o l P M) (hP : P.length ≤ 90000) (x : Int) :
    ∃ v' w', (appO #[37, 37] 37 #[o, .slice (some ⟨wr.heap.size, 0, none⟩) 1 1]).run Try.prog (wr.alloc (.cells #[.int .i64 x] 3)) = .ok v' w' ∧ Tw w w' k v' l (P ++ [x]) M := by
  obtain ⟨v', w', g1, g2, g3, g4⟩ := app_int wr w.heap.size o P x h.ints hP h.bel.size
  have hk : Kp (fun j => some j = o.ownBlock) (wr.alloc (.cells #[.int .i64 x] 3)) w' := Kp.of_grown g3
  have ha := h.below ((Below.refl wr.heap.size wr).alloc (Nat.le_refl _) (.cells #[.int .i64 x] 3))
  refine ⟨v', w', g1, g2, own_kept ha.rows hk (fun g n c e => ?_), h.bel.trans g4, ha.key.kept hk (own_ne ha.ints ha.key (by decide))⟩
  obtain ⟨cs, hc⟩ := own_blk (by have := ha.rows; rw [e] at this; exact this)
  exact own_ne ha.ints hc (by decide)
theorem Tw.row {w wr : World} {k : Ky} {o l : Value} {P : List Int} {M : List Wt} (h : Tw w wr k o l P M) (hM : M.length ≤ 90000) (x : Wt) :
    ∃ v' w', (appO #[24, 24] 24 #[l, .slice (some ⟨wr.heap.size, 0, none⟩) 1 1]).run Try.prog (wr.alloc (.cells #[.int .i64 x.q, .int .i64 x.k.p, .int .i64 x.k.f, .int .i64 x.k.o] 51)) = .ok v' w' ∧ Tw w w' k o v' P (M ++ [x]) := by
  obtain ⟨v', w', g1, g2, g3, -⟩ := app_one wr w.heap.size l M x h.rows hM h.bel.size
  have hk : Kp (fun j => some j = l.ownBlock) (wr.alloc (.cells #[.int .i64 x.q, .int .i64 x.k.p, .int .i64 x.k.f, .int .i64 x.k.o] 51)) w' := Kp.of_grown g3
  have ha := h.below ((Below.refl wr.heap.size wr).alloc (Nat.le_refl _) (.cells #[.int .i64 x.q, .int .i64 x.k.p, .int .i64 x.k.f, .int .i64 x.k.o] 51))
  refine ⟨v', w', g1, own_kept ha.ints hk (fun g n c e => ?_), g2, (ha.bel).grown g3 ha.bel.size (fun j e => (ha.rows.lt j e).1), ha.key.kept hk (own_ne ha.rows ha.key (by decide))⟩
  obtain ⟨cs, hc⟩ := own_blk (by have := ha.ints; rw [e] at this; exact this)
  exact own_ne ha.rows hc (by decide)
theorem wks_lt {l : List Int} {n : Int} : decide ((((l.take n.toNat).length : Nat) : Int) < n) = decide (l.length < n.toNat) := by
  rw [List.length_take, decide_eq_decide]
  omega

set_option maxRecDepth 100000 in
set_option maxHeartbeats 4000000 in
theorem rwake_any (w : World) (f r : Nat) (L : List Wt) (k : Ky) (n : Int) (h : Lx 29 w f r L) (hwf : ∀ x ∈ L, kwf x.k) (hk : kwf k) (hll : L.length ≤ 90000) :
    Calls Try.prog 13 #[.pointer (some ⟨f, 0, none⟩), kv k, .int .i64 n] w fun e w' => Kp (fun j => j = f) w w' ∧ (∃ r', Lx 29 w' f r' (rst L k n.toNat) ∧ (r' = f ∨ w.heap.size ≤ r')) ∧ ∃ u, e = .returned u ∧ w'.ownsRow w.heap.size 3 1 u (wks L k n).length (ints (wks L k n)) := by
  obtain ⟨v, h1, h2⟩ := h
  obtain ⟨a, c, rfl, hc1, hc2, ha⟩ := h2.form
  have HA := Lib.hid ha
  have HR := Lib.hid (And.intro h1 h2)
  have HW := Lib.hid (And.intro hwf hk)
  unfold maxLen at hc2
  have hcI : (L.length : Int) ≤ 9223372036854775807 := by omega
  have B0 := (Below.refl w.heap.size w).alloc (Nat.le_refl _) (.cells #[.int .i64 k.p, .int .i64 k.f, .int .i64 k.o] 31)
  have H0 : Hid (Tw w (w.alloc (.cells #[.int .i64 k.p, .int .i64 k.f, .int .i64 k.o] 31)) k (.slice none 0 0) (.slice none 0 0) [] []) := Lib.hid ⟨World.ownsRow_nil _ _ _ _, World.ownsRow_nil _ _ _ _, B0, Blk.new _ _ _⟩
  clear h1 h2 ha B0 hc1 hc2 hwf hk
  go_enter Try.func13, Try.ntmps13
  go_wp2
  go_loopw [7, 8, 9] (fun o l i wr => ∃ j : Nat, j ≤ L.length ∧ i = .int .i64 (j : Int) ∧ Tw w wr k o l (wks (L.take j) k n) (rst (L.take j) k n.toNat)) (fun _ _ i _ => L.length - (intOf i).toNat)
  case atStart => exact ⟨0, Nat.zero_le _, rfl, by rw [show wks (L.take 0) k n = [] by simp [wks, ats], show rst (L.take 0) k n.toNat = [] by simp [rst]]; exact H0.out⟩
  case round =>
    obtain ⟨j, hj, rfl, ht⟩ := hrel
    have cf : wr.cell? ⟨f, 0, none⟩ = some (.slice a L.length c) := (HR.out.1.below ht.bel).cell 0
    obtain ⟨oa, oc, rfl⟩ := own_form ht.ints
    obtain ⟨la, lc, rfl⟩ := own_form ht.rows
    by_cases hlt : j < L.length
    · have hltI : (j : Int) < (L.length : Int) := by omega
      obtain rfl := HA.out j hlt
      obtain ⟨c0, c1, c2, c3⟩ := (HR.out.2.below ht.bel).cells j hlt
      have e0 : wr.cell? ⟨w.heap.size, 0, none⟩ = some (.int .i64 k.p) := ht.key.cell 0
      have e1 : wr.cell? ⟨w.heap.size, 1, none⟩ = some (.int .i64 k.f) := ht.key.cell 1
      have e2 : wr.cell? ⟨w.heap.size, 2, none⟩ = some (.int .i64 k.o) := ht.key.cell 2
      have hrk := run_key L[j].k k (HW.out.1 _ (List.getElem_mem hlt)) HW.out.2
      have hq : ∀ nq, Below wr.heap.size wr (wr.drewN nq) := fun nq => bel_dr (Below.refl wr.heap.size wr) nq
      have hcs : ∀ nq, Tw w (wr.drewN nq) k (.slice oa (wks (L.take j) k n).length oc) (.slice la (rst (L.take j) k n.toNat).length lc) (wks (L.take j) k n) (rst (L.take j) k n.toNat) ∧ (wr.drewN nq).cell? ⟨f, 0, none⟩ = some (.slice (some ⟨r, 0, none⟩) L.length c) ∧ (wr.drewN nq).cell? ⟨r, j * 4, none⟩ = some (.int .i64 L[j].q) ∧ (wr.drewN nq).cell? ⟨r, j * 4 + 1, none⟩ = some (.int .i64 L[j].k.p) ∧ (wr.drewN nq).cell? ⟨r, j * 4 + 2, none⟩ = some (.int .i64 L[j].k.f) ∧ (wr.drewN nq).cell? ⟨r, j * 4 + 3, none⟩ = some (.int .i64 L[j].k.o) := fun nq => by
        have hb := ht.bel.trans ((hq nq).mono ht.bel.size)
        exact ⟨ht.below (hq nq), (HR.out.1.below hb).cell 0, (HR.out.2.below hb).cells j hlt⟩
      have HC := Lib.hid hcs
      have hwl : decide (((wks (L.take j) k n).length : Int) < n) = decide ((ats (L.take j) k).length < n.toNat) := wks_lt
      have hl1 : (wks (L.take j) k n).length ≤ 90000 := by have := wks_len (L.take j) k n; rw [List.length_take] at this; omega
      have hl2 : (rst (L.take j) k n.toNat).length ≤ 90000 := by have := rst_len k (L.take j) n.toNat; rw [List.length_take] at this; omega
      clear hq hcs ht
      by_cases he : L[j].k = k
      · rw [decide_eq_true he] at hrk
        by_cases hn : (ats (L.take j) k).length < n.toNat
        · rw [decide_eq_true hn] at hwl
          have HT := Lib.hid (And.intro (wks_yes hlt he hn) (rst_yes hlt he hn))
          generalize wks (L.take j) k n = P at *
          generalize rst (L.take j) k n.toNat = M at *
          generalize hx : L[j] = x at *
          clear he hn
          go_wp2
          go_quiet (fail)
          obtain ⟨t1, zf, z0, z1, z2, z3⟩ := HC.out nq
          obtain ⟨v', w', g1, g2⟩ := t1.int hl1 x.q
          obtain ⟨va, vc, rfl⟩ := own_form g2.ints
          have HE := Lib.hid g2
          generalize hn4 : (P ++ [x.q]).length = n4 at *
          clear t1 g2 c0 c1 c2 c3 e0 e1 e2 hrk
          generalize wr.drewN nq = wf at *
          go_wp2
          go_roundw
          case rel => exact ⟨j + 1, by omega, by go_num, by rw [HT.out.1, HT.out.2]; exact HE.out⟩
          case measure => simp [intOf]; omega
        · rw [decide_eq_false hn] at hwl
          have HT := Lib.hid (And.intro (wks_full hlt he hn) (rst_no (k := k) (n := n.toNat) hlt (fun e => hn e.2)))
          generalize wks (L.take j) k n = P at *
          generalize rst (L.take j) k n.toNat = M at *
          generalize hx : L[j] = x at *
          clear he hn
          go_wp2
          go_quiet (fail)
          obtain ⟨t1, zf, z0, z1, z2, z3⟩ := HC.out nq
          obtain ⟨v', w', g1, g2⟩ := t1.row hl2 x
          obtain ⟨va, vc, rfl⟩ := own_form g2.rows
          have HE := Lib.hid g2
          generalize hn4 : (M ++ [x]).length = n4 at *
          clear t1 g2 c0 c1 c2 c3 e0 e1 e2 hrk
          generalize wr.drewN nq = wf at *
          go_wp2
          go_roundw
          case rel => exact ⟨j + 1, by omega, by go_num, by rw [HT.out.1, HT.out.2]; exact HE.out⟩
          case measure => simp [intOf]; omega
      · rw [decide_eq_false he] at hrk
        have HT := Lib.hid (And.intro (wks_no (n := n) hlt he) (rst_no (k := k) (n := n.toNat) hlt (fun e => he e.1)))
        generalize wks (L.take j) k n = P at *
        generalize rst (L.take j) k n.toNat = M at *
        generalize hx : L[j] = x at *
        clear he hwl
        go_wp2
        go_quiet (fail)
        obtain ⟨t1, zf, z0, z1, z2, z3⟩ := HC.out nq
        obtain ⟨v', w', g1, g2⟩ := t1.row hl2 x
        obtain ⟨va, vc, rfl⟩ := own_form g2.rows
        have HE := Lib.hid g2
        generalize hn4 : (M ++ [x]).length = n4 at *
        clear t1 g2 c0 c1 c2 c3 e0 e1 e2 hrk
        generalize wr.drewN nq = wf at *
        go_wp2
        go_roundw
        case rel => exact ⟨j + 1, by omega, by go_num, by rw [HT.out.1, HT.out.2]; exact HE.out⟩
        case measure => simp [intOf]; omega
    · obtain rfl : j = L.length := by omega
      rw [List.take_length] at ht ⊢
      have ff : wr.frozen? ⟨f, 0, none⟩ = false := (HR.out.1.below ht.bel).free 0
      have HE := Lib.hid (And.intro (Lx.store (T := 29) (HR.out.1.below ht.bel) ht.rows (by decide)) (And.intro ((kp_below ht.bel).trans (Kp.set (S := fun j => j = f) wr f 0 (.slice la (rst L k n.toNat).length lc) rfl) (fun _ e => .inl e)) (And.intro ht.ints (HR.out.1.below ht.bel))))
      clear ht
      go_wp2
      go_ret
      refine ⟨HE.out.2.1, HE.out.1, .slice oa (wks L k n).length oc, rfl, own_kept HE.out.2.2.1 (Kp.set (S := fun j => j = f) wr f 0 _ rfl) (fun g n' c' e => ?_)⟩
      rintro rfl
      obtain ⟨cs, hc⟩ := own_blk (by have := HE.out.2.2.1; rw [e] at this; exact this)
      exact absurd (hc.inj HE.out.2.2.2).2 (by decide)

theorem app_nil (w : World) : (appO #[24, 24] 24 #[.slice none 0 0, .slice none 0 0]).run Try.prog w = .ok (.slice none 0 0) w := by kernel_rfl
/-- Those of a slice behind none: a row of its own. -/
theorem app_copy (w : World) (u : Value) (f r : Nat) (M : List Wt) (hu : Wr w u f r M) (hl : M.length ≤ 90000) :
    ∃ v' w', (appO #[24, 24] 24 #[.slice none 0 0, u]).run Try.prog w = .ok v' w' ∧ w'.ownsRow w.heap.size 51 4 v' M.length (wcs M) ∧ Below w.heap.size w w' := by
  rcases hu.2 with ⟨rfl, -⟩ | ⟨n, c, e⟩
  · obtain ⟨a, c, e, _⟩ := hu.form
    injection e with _ e _
    obtain rfl : M = [] := List.eq_nil_of_length_eq_zero e.symm
    exact ⟨_, w, app_nil w, World.ownsRow_nil _ _ _ _, Below.refl _ _⟩
  · obtain ⟨v', w', q1, q2, q3, -⟩ := app_rows w w.heap.size (.slice none 0 0) [] u f r M (World.ownsRow_nil _ _ _ _) hu ⟨n, c, e⟩ (by simp; omega) (Nat.le_refl _)
    exact ⟨v', w', q1, q2, (Below.refl _ _).grown q3 (Nat.le_refl _) (fun k e => by cases e)⟩
set_option maxRecDepth 100000 in
set_option maxHeartbeats 2000000 in
theorem rwait_new (w : World) (f r : Nat) (L : List Wt) (q : Int) (k : Ky) (h : Lx 29 w f r L) (hll : L.length ≤ 80000) (hok : mayK k = true) (hq : 1 ≤ q) (hno : fkB L q = false) :
    Calls Try.prog 10 #[.pointer (some ⟨f, 0, none⟩), .int .i64 q, kv k] w fun e w' => e = .returned (.int .i64 0) ∧ Kp (fun j => j = f) w w' ∧ ∃ r', Lx 29 w' f r' (L ++ [⟨q, k⟩]) ∧ (r' = f ∨ w.heap.size ≤ r') := by
  have b1 := (Below.refl w.heap.size w).alloc (Nat.le_refl _) (.cells #[.int .i64 k.p, .int .i64 k.f, .int .i64 k.o] 31)
  have hbox := Blk.new w #[.int .i64 k.p, .int .i64 k.f, .int .i64 k.o] 31
  have HC : Hid (∀ W : World, Calls Try.prog 25 #[kv k] W fun e w' => e = .returned (.bool true) ∧ Below W.heap.size W w') := Lib.hid (fun W => by
    have := rmay_any W k
    rw [hok] at this
    exact this)
  have HK : Hid (∀ W, Below w.heap.size w W → Calls Try.prog 18 #[.pointer (some ⟨f, 0, none⟩), .int .i64 q] W fun e w' => e = .returned (.tuple #[kv (fkK L q), .bool false]) ∧ Below W.heap.size W w') := Lib.hid (fun W hb => by
    have := rkey_any W f r L q (h.below hb)
    rw [hno] at this
    exact this)
  have dq : decide (q < 1) = false := decide_eq_false (by omega)
  have HL := Lib.hid (And.intro b1 (And.intro hbox h))
  generalize fkK L q = K at *
  clear b1 hbox h hok hno hq
  go_enter Try.func10, Try.ntmps10
  go_wp2_with (first | (go_at_call 25; (with_reducible refine (HC.out _).mono ?_); rintro e w1 ⟨rfl, hb1⟩; have HB1 := Lib.hid (HL.out.1.trans (hb1.mono HL.out.1.size)); have hbx1 := HL.out.2.1.below hb1; clear hb1) | (go_at_call 18; (with_reducible refine (HK.out _ HB1.out).mono ?_); rintro e w2 ⟨rfl, hb2⟩; have hb3 := hb2.alloc hb2.size (.cells #[.int .i64 K.p, .int .i64 K.f, .int .i64 K.o] 31); have hb4 := HB1.out.trans (hb3.mono HB1.out.size); have hbx3 := hbx1.below hb3; obtain ⟨v, h1, h2⟩ := HL.out.2.2.below hb4; obtain ⟨v1, w4, a1, a2, a3⟩ := app_copy _ v f r L h2 (by omega); have c0 := h1.cell 0; have h4 := h1.below a3; have hb5 := hb4.trans (a3.mono hb4.size); have hbx4 := hbx3.below a3; have e0 := hbx4.cell 0; have e1 := hbx4.cell 1; have e2 := hbx4.cell 2; obtain ⟨v5, w5, g1, g2, g3, -⟩ := app_one w4 w.heap.size v1 L ⟨q, k⟩ (own_base a2 hb4.size) (by omega) hb5.size; have hb6 := (hb5.alloc hb5.size (.cells #[.int .i64 q, .int .i64 k.p, .int .i64 k.f, .int .i64 k.o] 51)).grown g3 (by have := hb5.size; simp; omega) (fun j e => ((own_base a2 hb4.size).lt j e).1); have h6 : Blk w5 f #[v] 29 := (hb6.block f HL.out.2.2.lt.1).trans (by obtain ⟨v0, u1, u2⟩ := id HL.out.2.2; have := (u1.below hb5); have := this.inj h4; rw [← this.1]; exact u1); have c6 := h6.cell 0; have f6 := h6.free 0; obtain ⟨va, vc, rfl⟩ := own_form h2.1; obtain ⟨xa, xc, rfl⟩ := own_form a2; obtain ⟨ya, yc, rfl⟩ := own_form g2; have HX := Lib.hid (And.intro (Lx.store h6 g2 (by decide)) ((kp_below hb6).trans (Kp.set (S := fun j => j = f) w5 f 0 (.slice ya (L ++ [(⟨q, k⟩ : Wt)]).length yc) rfl) (fun _ e => .inl e))); generalize (L ++ [(⟨q, k⟩ : Wt)]).length = n4 at *; clear hb2 hb3 hb4 hbx3 h1 h2 a2 a3 h4 hb5 hbx4 g2 g3 hb6 h6 hbx1))
  go_ret
  exact ⟨rfl, HX.out.2, HX.out.1⟩
end Go.Proofs.Ytpfnjeicenhciaa.Ftl
