/-
  The document's own futex: At, Gone, Wake, Wait.
-/
import Derived.Test.YtpfnjeicenhciaaFtj
namespace Go.Proofs.Ytpfnjeicenhciaa.Ftk
open Go Go.RowKit Kit Bk Fta Ftb Ftc Ftd Fte Ftf Ftg Fth Fti Ftj
set_option linter.unusedVariables false
attribute [local go_sem ↓] app_wrap

/-- Who is left when the first n at a key are taken, each from its place. -/
def rst : List Wt → Ky → Nat → List Wt
  | [], _, _ => []
  | x :: t, k, n => if x.k = k then (match n with | 0 => x :: rst t k 0 | n + 1 => rst t k n) else x :: rst t k n
theorem ats_cons (x : Wt) (t : List Wt) (k : Ky) : ats (x :: t) k = if x.k = k then x.q :: ats t k else ats t k := by
  unfold ats
  by_cases h : x.k = k
  · rw [if_pos h, List.filter_cons_of_pos (by simpa using h)]; rfl
  · rw [if_neg h, List.filter_cons_of_neg (by simpa using h)]
theorem rst_snoc (x : Wt) (k : Ky) : ∀ (L : List Wt) (n : Nat), rst (L ++ [x]) k n = rst L k n ++ (if x.k = k ∧ (ats L k).length < n then [] else [x])
  | [], n => by
    simp only [List.nil_append, rst, ats, List.filter_nil, List.map_nil, List.length_nil]
    by_cases h : x.k = k
    · rw [if_pos h]
      cases n with
      | zero => simp [h]
      | succ n => simp [h]
    · rw [if_neg h, if_neg (fun e => h e.1)]
  | y :: t, n => by
    simp only [List.cons_append, rst]
    rw [ats_cons]
    by_cases h : y.k = k
    · rw [if_pos h, if_pos h, if_pos h]
      cases n with
      | zero =>
        simp only
        rw [rst_snoc x k t 0, List.cons_append]
        congr 1
        simp
      | succ n =>
        simp only
        rw [rst_snoc x k t n]
        congr 1
        simp
    · rw [if_neg h, if_neg h, if_neg h, rst_snoc x k t n, List.cons_append]
theorem rst_len (k : Ky) : ∀ (L : List Wt) (n : Nat), (rst L k n).length ≤ L.length
  | [], n => Nat.le_refl _
  | y :: t, n => by
    unfold rst
    split
    · cases n with
      | zero => have := rst_len k t 0; simp only [List.length_cons]; omega
      | succ n => have := rst_len k t n; simp only [List.length_cons]; omega
    · have := rst_len k t n; simp only [List.length_cons]; omega
/-- Each has a number of its own. -/
def Own1 (L : List Wt) : Prop := (L.map (·.q)).Nodup
theorem ats_mem {L : List Wt} {k : Ky} {q : Int} (h : q ∈ ats L k) : q ∈ L.map (·.q) := by
  unfold ats at h
  simp only [List.mem_map, List.mem_filter] at h ⊢
  obtain ⟨x, h1, h2⟩ := h
  exact ⟨x, h1.1, h2⟩
theorem stay_cons (d : Wt → Bool) (x : Wt) (t : List Wt) : stay d (x :: t) = if d x = true then stay d t else x :: stay d t := by
  unfold stay
  by_cases h : d x = true
  · rw [if_pos h, List.filter_cons_of_neg (by rw [h]; decide)]
  · rw [if_neg h, List.filter_cons_of_pos (by simpa using h)]
theorem stay_ext {d e : Wt → Bool} {L : List Wt} (h : ∀ x ∈ L, d x = e x) : stay d L = stay e L := by
  unfold stay
  exact List.filter_congr (fun x hx => by rw [h x hx])
theorem inn_cons (q : Int) (l : List Int) (x : Wt) (h : x.q ≠ q) : inn (q :: l) x = inn l x := by
  unfold inn cnt
  rw [Bool.eq_iff_iff, List.contains_iff_mem, List.contains_iff_mem]
  simp [h]
theorem inn_no {l : List Int} {x : Wt} (h : x.q ∉ l) : inn l x = false := by
  unfold inn
  rw [← Bool.not_eq_true, cnt_iff]
  exact h
theorem inn_yes {l : List Int} {x : Wt} (h : x.q ∈ l) : inn l x = true := cnt_iff.2 h
theorem stay_wake (k : Ky) : ∀ (L : List Wt) (n : Nat), Own1 L → stay (inn ((ats L k).take n)) L = rst L k n
  | [], n, _ => rfl
  | x :: t, n, hu => by
    have hu2 : x.q ∉ t.map (·.q) ∧ Own1 t := by
      unfold Own1 at hu ⊢
      rw [List.map_cons, List.nodup_cons] at hu
      exact hu
    have hno : ∀ m, x.q ∉ (ats t k).take m := fun m e => hu2.1 (ats_mem (List.mem_of_mem_take e))
    unfold rst
    rw [ats_cons]
    by_cases h : x.k = k
    · rw [if_pos h, if_pos h]
      cases n with
      | zero =>
        rw [List.take_zero, stay_cons, if_neg (by rw [inn_no (by simp)]; decide)]
        have := stay_wake k t 0 hu2.2
        rw [List.take_zero] at this
        rw [this]
      | succ n =>
        rw [List.take_succ_cons, stay_cons, if_pos (inn_yes (by simp))]
        show _ = rst t k n
        rw [← stay_wake k t n hu2.2]
        refine stay_ext (fun y hy => inn_cons _ _ _ (fun e => hu2.1 ?_))
        rw [← e]
        exact List.mem_map_of_mem hy
    · rw [if_neg h, if_neg h, stay_cons, if_neg (by rw [inn_no (hno n)]; decide), stay_wake k t n hu2.2]

variable {w : World} {f r : Nat} {L : List Wt}
set_option maxRecDepth 100000 in
set_option maxHeartbeats 1000000 in
theorem rat_any (w : World) (f r : Nat) (L : List Wt) (k : Ky) (h : Lx 29 w f r L) (hwf : ∀ x ∈ L, kwf x.k) (hk : kwf k) (hll : L.length ≤ 90000) :
    Calls Try.prog 22 #[.pointer (some ⟨f, 0, none⟩), kv k] w fun e w' => Below w.heap.size w w' ∧ ∃ u, e = .returned u ∧ w'.ownsRow w.heap.size 3 1 u (ats L k).length (ints (ats L k)) := by
  obtain ⟨v, h1, h2⟩ := h
  obtain ⟨a, c, rfl, hc1, hc2, ha⟩ := h2.form
  have HA := Lib.hid ha
  have HR := Lib.hid (And.intro h1 h2)
  have HW := Lib.hid (And.intro hwf hk)
  unfold maxLen at hc2
  have hcI : (L.length : Int) ≤ 9223372036854775807 := by omega
  have B0 := (Below.refl w.heap.size w).alloc (Nat.le_refl _) (.cells #[.int .i64 k.p, .int .i64 k.f, .int .i64 k.o] 31)
  have K0 := Lib.hid (Blk.new w #[.int .i64 k.p, .int .i64 k.f, .int .i64 k.o] 31)
  have HB0 := Lib.hid B0
  clear h1 h2 ha B0 hc1 hc2 hwf hk
  go_enter Try.func22, Try.ntmps22
  go_wp2
  go_loopw [5, 6] (fun o i wr => ∃ j : Nat, j ≤ L.length ∧ i = .int .i64 (j : Int) ∧ wr.ownsRow w.heap.size 3 1 o (ats (L.take j) k).length (ints (ats (L.take j) k)) ∧ Below w.heap.size w wr ∧ Blk wr w.heap.size #[.int .i64 k.p, .int .i64 k.f, .int .i64 k.o] 31) (fun _ i _ => L.length - (intOf i).toNat)
  case atStart => exact ⟨0, Nat.zero_le _, rfl, World.ownsRow_nil _ _ _ _, HB0.out, K0.out⟩
  case round =>
    obtain ⟨j, hj, rfl, ho, hb, hk⟩ := hrel
    have cf : wr.cell? ⟨f, 0, none⟩ = some (.slice a L.length c) := (HR.out.1.below hb).cell 0
    by_cases hlt : j < L.length
    · have hltI : (j : Int) < (L.length : Int) := by omega
      obtain rfl := HA.out j hlt
      obtain ⟨c0, c1, c2, c3⟩ := (HR.out.2.below hb).cells j hlt
      have e0 : wr.cell? ⟨w.heap.size, 0, none⟩ = some (.int .i64 k.p) := hk.cell 0
      have e1 : wr.cell? ⟨w.heap.size, 1, none⟩ = some (.int .i64 k.f) := hk.cell 1
      have e2 : wr.cell? ⟨w.heap.size, 2, none⟩ = some (.int .i64 k.o) := hk.cell 2
      have hrk := run_key L[j].k k (HW.out.1 _ (List.getElem_mem hlt)) HW.out.2
      obtain ⟨oa, oc, rfl⟩ := own_form ho
      by_cases he : L[j].k = k
      · rw [decide_eq_true he] at hrk
        have HT := Lib.hid (ats_yes hlt he)
        have HO := Lib.hid (And.intro ho (And.intro hb hk))
        have hlen := ats_len (L.take j) k
        rw [List.length_take] at hlen
        generalize ats (L.take j) k = l at *
        have hl9 : l.length ≤ 90000 := by omega
        generalize hx : L[j] = x at *
        clear he ho hb hk hlen
        go_wp2
        go_quiet (fail)
        have hq := bel_dr (Below.refl wr.heap.size wr) nq
        obtain ⟨v', w', g1, g2, g3, g4⟩ := app_int (wr.drewN nq) w.heap.size (.slice oa l.length oc) l x.q (own_below HO.out.1 hq) hl9 HO.out.2.1.size
        obtain ⟨va, vc, rfl⟩ := own_form g2
        have HE : Hid (w'.ownsRow w.heap.size 3 1 (.slice va (l ++ [x.q]).length vc) (l ++ [x.q]).length (ints (l ++ [x.q])) ∧ Below w.heap.size w w' ∧ Blk w' w.heap.size #[.int .i64 k.p, .int .i64 k.f, .int .i64 k.o] 31) := Lib.hid (by
          refine ⟨g2, (HO.out.2.1.trans (hq.mono HO.out.2.1.size)).trans g4, ?_⟩
          refine (((HO.out.2.2.below hq).below ((Below.refl _ _).alloc (Nat.le_refl _) _)).kept (Kp.of_grown g3) (fun e => ?_))
          have := own_below HO.out.1 hq
          rcases this.2 with ⟨e1, _⟩ | ⟨g, cap, cur, e1, _, hh, _⟩
          · rw [e1] at e; simp [Value.ownBlock] at e
          · rw [e1] at e
            simp [Value.ownBlock] at e
            subst e
            exact absurd ((HO.out.2.2.below hq).inj (show Blk _ _ cur 3 from hh)).2 (by decide))
        have hrow := (HR.out.2.below (HO.out.2.1.trans (hq.mono HO.out.2.1.size))).cells j hlt
        rw [hx] at hrow
        obtain ⟨z0, z1, z2, z3⟩ := hrow
        have zf : (wr.drewN nq).cell? ⟨f, 0, none⟩ = some (.slice (some ⟨r, 0, none⟩) L.length c) := (HR.out.1.below (HO.out.2.1.trans (hq.mono HO.out.2.1.size))).cell 0
        clear g2 g3 g4 hq c0 c1 c2 c3 e0 e1 e2 hrk
        generalize hn4 : (l ++ [x.q]).length = n4 at *
        generalize wr.drewN nq = wf at *
        go_wp2
        go_roundw
        case rel => exact ⟨j + 1, by omega, by go_num, by rw [HT.out, hn4]; exact HE.out.1, HE.out.2⟩
        case measure => simp [intOf]; omega
      · rw [decide_eq_false he] at hrk
        have HT := Lib.hid (ats_no hlt he)
        have hq : ∀ nq, Below wr.heap.size wr (wr.drewN nq) := fun nq => bel_dr (Below.refl wr.heap.size wr) nq
        have HO := Lib.hid (And.intro ho (And.intro hb (And.intro hk hq)))
        generalize ats (L.take j) k = l at *
        generalize hx : L[j] = x at *
        clear he ho hb hk hq
        go_wp2
        go_quiet (fail)
        have HQ := Lib.hid (HO.out.2.2.2 nq)
        go_wp2
        go_roundw
        case rel => exact ⟨j + 1, by omega, by go_num, by rw [HT.out]; exact own_below HO.out.1 HQ.out, HO.out.2.1.trans (HQ.out.mono HO.out.2.1.size), HO.out.2.2.1.below HQ.out⟩
        case measure => simp [intOf]; omega
    · obtain rfl : j = L.length := by omega
      rw [List.take_length] at ho
      have HO := Lib.hid (And.intro ho hb)
      obtain ⟨oa, oc, rfl⟩ := own_form ho
      clear ho hb hk
      go_wp2
      go_ret
      exact ⟨HO.out.2, _, rfl, HO.out.1⟩
/-- A struct of one slice with another row. -/
theorem Lx.store {T : TypeId} {base : Nat} {wr : World} {v v' : Value} {M : List Wt} (hb : Blk wr f #[v] T) (ho : wr.ownsRow base 51 4 v' M.length (wcs M)) (hT : 51 ≠ T) :
    ∃ r', Lx T (wr.setCell ⟨f, 0, none⟩ v') f r' M ∧ (r' = f ∨ base ≤ r') := by
  obtain ⟨r', n1, n2⟩ := own_wr ho f
  refine ⟨r', ⟨_, hb.set 0 _, own_kept n1.1 (Kp.set (S := fun j => j = f) wr f 0 _ rfl) (fun g n c e => ?_), n1.2⟩, n2⟩
  rintro rfl
  obtain ⟨_, _, cs, hc⟩ := own_lt (by have := n1.1; rw [e] at this; exact this)
  exact absurd (hc.inj hb).2 hT
set_option maxRecDepth 100000 in
set_option maxHeartbeats 1000000 in
theorem rgone_any (w : World) (f r : Nat) (L : List Wt) (q : Int) (h : Lx 29 w f r L) (hll : L.length ≤ 90000) :
    Calls Try.prog 15 #[.pointer (some ⟨f, 0, none⟩), .int .i64 q] w fun e w' => e = .returned (.bool (fkB L q)) ∧ Kp (fun j => j = f) w w' ∧ ∃ r', Lx 29 w' f r' (stay (eqq q) L) ∧ (r' = f ∨ w.heap.size ≤ r') := by
  have HK := Lib.hid (rkey_any w f r L q h)
  obtain ⟨v, h1, h2⟩ := h
  obtain ⟨a, c, rfl, hc1, hc2, ha⟩ := h2.form
  have HA := Lib.hid ha
  have HR := Lib.hid (And.intro h1 h2)
  unfold maxLen at hc2
  have hcI : (L.length : Int) ≤ 9223372036854775807 := by omega
  generalize fkB L q = Z at *
  generalize fkK L q = K at *
  clear h1 h2 ha hc1 hc2
  go_enter Try.func15, Try.ntmps15
  go_wp2_with (go_at_call 18; (with_reducible refine HK.out.mono ?_); rintro e w1 ⟨rfl, hb1⟩; have hb2 := hb1.alloc hb1.size (.cells #[.int .i64 K.p, .int .i64 K.f, .int .i64 K.o] 31); replace hb1 := Lib.hid hb1; replace hb2 := Lib.hid hb2)
  go_loopw [7, 8] (fun o i wr => ∃ j : Nat, j ≤ L.length ∧ i = .int .i64 (j : Int) ∧ wr.ownsRow w.heap.size 51 4 o (stay (eqq q) (L.take j)).length (wcs (stay (eqq q) (L.take j))) ∧ Below w.heap.size w wr) (fun _ i _ => L.length - (intOf i).toNat)
  case atStart => exact ⟨0, Nat.zero_le _, rfl, World.ownsRow_nil _ _ _ _, hb2.out⟩
  case round =>
    obtain ⟨j, hj, rfl, ho, hb⟩ := hrel
    have cf : wr.cell? ⟨f, 0, none⟩ = some (.slice a L.length c) := (HR.out.1.below hb).cell 0
    have ff : wr.frozen? ⟨f, 0, none⟩ = false := (HR.out.1.below hb).free 0
    by_cases hlt : j < L.length
    · have hltI : (j : Int) < (L.length : Int) := by omega
      obtain rfl := HA.out j hlt
      obtain ⟨c0, c1, c2, c3⟩ := (HR.out.2.below hb).cells j hlt
      obtain ⟨oa, oc, rfl⟩ := own_form ho
      by_cases he : L[j].q = q
      · have d0 : (L[j].q == q) = true := by simpa using he
        have HT := Lib.hid (stay_no (d := eqq q) hlt d0)
        have HO := Lib.hid (And.intro ho hb)
        generalize stay (eqq q) (L.take j) = l at *
        generalize L[j] = x at *
        clear he ho hb
        go_wp2
        go_roundw
        case rel => exact ⟨j + 1, by omega, by go_num, by rw [HT.out]; exact HO.out.1, HO.out.2⟩
        case measure => simp [intOf]; omega
      · have d0 : (L[j].q == q) = false := by simpa using he
        have HT := Lib.hid (stay_yes (d := eqq q) hlt d0)
        have hlen := stay_len (eqq q) L j
        obtain ⟨v', w', g1, g2, g3, -⟩ := app_one wr w.heap.size _ (stay (eqq q) (L.take j)) L[j] ho (by omega) hb.size
        obtain ⟨va, vc, rfl⟩ := own_form g2
        have HE := Lib.hid (And.intro g2 (((hb.alloc hb.size (.cells #[.int .i64 L[j].q, .int .i64 L[j].k.p, .int .i64 L[j].k.f, .int .i64 L[j].k.o] 51))).grown g3 (by have := hb.size; simp; omega) (fun k e => (ho.lt k e).1)))
        generalize stay (eqq q) (L.take j) = l at *
        generalize L[j] = x at *
        generalize hn4 : (l ++ [x]).length = n4 at *
        clear he ho hb hlen g2 g3
        go_wp2
        go_roundw
        case rel => exact ⟨j + 1, by omega, by go_num, by rw [HT.out, hn4]; exact HE.out.1, HE.out.2⟩
        case measure => simp [intOf]; omega
    · obtain rfl : j = L.length := by omega
      rw [List.take_length] at ho
      obtain ⟨oa, oc, rfl⟩ := own_form ho
      have HE := Lib.hid (And.intro (Lx.store (T := 29) (HR.out.1.below hb) ho (by decide)) ((kp_below hb).trans (Kp.set (S := fun j => j = f) wr f 0 (.slice oa (stay (eqq q) L).length oc) rfl) (fun _ e => .inl e)))
      clear ho hb
      go_wp2
      go_ret
      exact ⟨rfl, HE.out.2, HE.out.1⟩
end Go.Proofs.Ytpfnjeicenhciaa.Ftk
