/-
  SleepWakes: both sleepers and the map of wanted ticks; the walk.
-/
import Derived.Test.YtpblnjphkgilfaaSlt
namespace Go.Proofs.Ytpblnjphkgilfaa.Slu
open Go Go.RowKit Go.Shelf Kit Bk Sla Slb Slc Sld Sle Slf Slg Slh Sli Slj Slk Sll Sln Slo Slp Slq Slr Sls Slt
set_option linter.unusedVariables false

/-- Two sleepers, and the map of wanted ticks. -/
structure Ws (w0 w : World) (q : Nat) (m : Option Nat) (L : St) (q2 : Nat) (m2 : Option Nat) (M : St) (b0 : Nat) (K : St) : Prop where
  two : Two w0 w q m L q2 m2 M
  map : Mq w b0 K
  nm : (∀ b, m = some b → b ≠ b0) ∧ ∀ b, m2 = some b → b ≠ b0
  lo : w0.heap.size ≤ b0
variable {w0 w w' : World} {q q2 b0 : Nat} {m m2 : Option Nat} {L M K : St} {p : Int} {n : Nat}
theorem Ws.below (h : Ws w0 w q m L q2 m2 M b0 K) (hb : Below w.heap.size w w') : Ws w0 w' q m L q2 m2 M b0 K := ⟨h.two.below hb, h.map.below hb, h.nm, h.lo⟩
theorem Ws.symm (h : Ws w0 w q m L q2 m2 M b0 K) : Ws w0 w q2 m2 M q m L b0 K := ⟨h.two.symm, h.map, ⟨h.nm.2, h.nm.1⟩, h.lo⟩
theorem Ws.left {L' : St} {m' : Option Nat} (h : Ws w0 w q m L q2 m2 M b0 K) (h1 : On w0 w' q m' L') (hk : Kp (Slb.fr q m) w w') (hm : m' = m ∨ ∃ b, m' = some b ∧ w.heap.size ≤ b) : Ws w0 w' q m' L' q2 m2 M b0 K := by
  refine ⟨h.two.left h1 hk hm, h.map.kept hk (fun e => ?_), ⟨fun b e => ?_, h.nm.2⟩, h.lo⟩
  · rcases e with e | e
    · exact Mq.ne h.map h.two.a.sv.blk e.symm
    · exact h.nm.1 b0 e.symm rfl
  · rcases hm with hm | ⟨c, hm, hc⟩
    · rw [hm] at e; exact h.nm.1 b e
    · rw [hm] at e
      cases e
      have := h.map.lt
      omega
theorem Ws.add (h : Ws w0 w q m L q2 m2 M b0 K) (hl : L.length < 80000) (p : Int) (n : Nat) (hp : (Lit.int .i64 p).wf = true) (hn : n < 4294967296) :
    Calls Try.prog 8 #[pv q, .int .i64 p, uv n] w fun e w' => e = .returned (.int .i64 ((adE L p n : Nat) : Int)) ∧ ∃ m', Ws w0 w' q m' (adL L p n) q2 m2 M b0 K := by
  refine (h.two.a.add hl p n hp hn).mono ?_
  rintro e w' ⟨rfl, m', h1, h2, h3⟩
  exact ⟨rfl, m', h.left h1 h2 h3⟩
theorem Ws.tick (h : Ws w0 w q m L q2 m2 M b0 K) (hl : L.length < 80000) : Calls Try.prog 10 #[pv q] w fun e w' => Ws w0 w' q m (tkL L) q2 m2 M b0 K ∧ ∃ a c, e = .returned (.slice a (tkW L).length c) ∧ Nr w' (.slice a (tkW L).length c) (tkW L) := by
  refine (h.two.a.tick hl).mono ?_
  rintro e w' ⟨h1, h2, u, rfl, h3⟩
  have h4 : Nr w' u (tkW L) := own_base h3 (Nat.zero_le _)
  obtain ⟨a, c, rfl, -⟩ := nr_cells h4
  exact ⟨h.left h1 h2 (.inl rfl), a, c, rfl, h4⟩
theorem Ws.all (h : Ws w0 w q m L q2 m2 M b0 K) (hl : L.length < 80000) : Calls Try.prog 20 #[pv q] w fun e w' => Ws w0 w' q m L q2 m2 M b0 K ∧ Below w.heap.size w w' ∧ ∃ a c, e = .returned (.slice a L.length c) ∧ Sr w' (.slice a L.length c) L := by
  refine (Sls.Two.all h.two hl).mono ?_
  rintro e w' ⟨_, h2, a, c, rfl, h3⟩
  exact ⟨h.below h2, h2, a, c, rfl, h3⟩
/-- One more is wanted. -/
theorem Ws.put (h : Ws w0 w q m L q2 m2 M b0 K) (ho : Ok K) (hl : K.length < 90000) (hp : (Lit.int .i64 p).wf = true) (h1 : 1 ≤ p) (h2 : 1 ≤ n) (h3 : n < 1000000) :
    ∃ w', (Instr.mapUpdate 49 (.map (some b0)) (.int .i64 p) (.int .i64 (n : Int))).run Try.prog w = .ok () w' ∧ Ws w0 w' q m L q2 m2 M b0 (ins K p n) := by
  obtain ⟨w', q1, q2', q3⟩ := Mq.put h.map hl hp h3 (ho.ins ⟨h1, by have := i64_bd hp; omega⟩ ⟨h2, by omega⟩).nodup (slp_ins K p n) (lft_ins K p n)
  have hlo : ∀ j, j = b0 → w0.heap.size ≤ j := fun j e => by rw [e]; exact h.lo
  exact ⟨w', q1, ⟨⟨h.two.a.kept q3 hlo (Mq.ne h.map h.two.a.sv.blk) (fun b e => h.nm.1 b e), h.two.b.kept q3 hlo (Mq.ne h.map h.two.b.sv.blk) (fun b e => h.nm.2 b e), h.two.ne, h.two.nm⟩, q2', h.nm, h.lo⟩⟩
theorem Ws.start (w : World) : Ws w (((w.alloc (.cells #[.map none] 26)).alloc (.cells #[.map none] 26)).alloc (.map #[] 0)) w.heap.size none [] (w.heap.size + 1) none [] (w.heap.size + 1 + 1) [] := by
  have a0 := On.new w
  have b1 : Below (w.alloc (.cells #[.map none] 26)).heap.size (w.alloc (.cells #[.map none] 26)) ((w.alloc (.cells #[.map none] 26)).alloc (.cells #[.map none] 26)) := (Below.refl _ _).alloc (Nat.le_refl _) _
  have b2 : Below ((w.alloc (.cells #[.map none] 26)).alloc (.cells #[.map none] 26)).heap.size ((w.alloc (.cells #[.map none] 26)).alloc (.cells #[.map none] 26)) (((w.alloc (.cells #[.map none] 26)).alloc (.cells #[.map none] 26)).alloc (.map #[] 0)) := (Below.refl _ _).alloc (Nat.le_refl _) _
  have a1 := (a0.below b1).below b2
  have c0 := (On.new (w.alloc (.cells #[.map none] 26))).below b2
  rw [World.size_alloc] at c0
  have bw : Below w.heap.size w (w.alloc (.cells #[.map none] 26)) := (Below.refl _ _).alloc (Nat.le_refl _) _
  have c1 : On w (((w.alloc (.cells #[.map none] 26)).alloc (.cells #[.map none] 26)).alloc (.map #[] 0)) (w.heap.size + 1) none [] := ⟨c0.sv, ok_nil, bw.trans (c0.bel.mono bw.size), by omega, fun b e => by cases e⟩
  have hm := Mq.made ((w.alloc (.cells #[.map none] 26)).alloc (.cells #[.map none] 26))
  simp only [World.size_alloc] at hm
  exact ⟨⟨a1, c1, by omega, fun b e => by cases e⟩, hm, ⟨fun b e => (by cases e), fun b e => (by cases e)⟩, by omega⟩
theorem wakes_long (va : Value) (prs : List Pr) (w : World) (h : PrsAt w va prs) (hl : ¬ prs.length ≤ 50) :
    Calls Try.prog 5 #[va] w fun e w' => e = .returned (.bool true) ∧ Below w.heap.size w w' := by
  obtain ⟨ad, cap, rfl, h1, h2, h3⟩ := h
  have dl : decide ((50 : Int) < (prs.length : Int)) = true := decide_eq_true (by omega)
  clear h3 hl
  go_enter Try.func5, Try.ntmps5
  go_wp2_with (go_at_call 22; (with_reducible refine (alive_any _).mono ?_); rintro e w1 ⟨rfl, b1⟩; have B1 := Lib.hid b1; clear b1)
  go_ret
  exact ⟨rfl, B1.out⟩
set_option maxRecDepth 100000 in
set_option maxHeartbeats 4000000 in
theorem wakes_short (va : Value) (prs : List Pr) (w : World) (h : PrsAt w va prs) (hl : prs.length ≤ 50) :
    Calls Try.prog 5 #[va] w fun e w' => e = .returned (.bool true) ∧ Below w.heap.size w w' := by
  obtain ⟨ad, cap, rfl, hc1, hc2, h3⟩ := h
  have dl : decide ((50 : Int) < (prs.length : Int)) = false := decide_eq_false (by omega)
  have hli : (prs.length : Int) ≤ 50 := by omega
  have HC : Hid (∀ i (hi : i < prs.length), ∃ b off, ad = some ⟨b, off, none⟩ ∧ ∀ W, Below w.heap.size w W → PrAt W b (off + i * 2) prs[i]) := Lib.hid (fun i hi => by
    rcases h3 with e | ⟨b, off, rfl, hb, h4⟩
    · subst e; simp at hi
    · exact ⟨b, off, rfl, fun W hB => (h4 i hi).below hb hB⟩)
  have HP : Hid (∀ x ∈ prs, x.1 < 256) := Lib.hid (fun x hx => by
    obtain ⟨i, hi, rfl⟩ := List.getElem_of_mem hx
    obtain ⟨b, off, _, h4⟩ := HC.out i hi
    exact (h4 w (Below.refl _ _)).2.1)
  clear h3
  have hmk := fun w => run_makeMap (P := Try.prog) 49 w
  go_enter Try.func5, Try.ntmps5
  go_wp2_with (go_at_call 22; (with_reducible refine (alive_any _).mono ?_); rintro e w1 ⟨rfl, b1⟩; have B1 := Lib.hid b1; clear b1)
  have HS := Lib.hid (Ws.start w1)
  clear hmk
  obtain ⟨W0, hW0⟩ : ∃ W0, ((w1.alloc (.cells #[.map none] 26)).alloc (.cells #[.map none] 26)).alloc (.map #[] 0) = W0 := ⟨_, rfl⟩
  rw [hW0] at HS ⊢
  clear hW0
  generalize w1.heap.size + 1 + 1 = b0 at HS ⊢
  generalize w1.heap.size + 1 = q2 at HS ⊢
  generalize w1.heap.size = q at HS ⊢
  go_loopw [32] (fun i wr => ∃ (j : Nat) (m : Option Nat), j ≤ prs.length ∧ i = .int .i64 (j : Int) ∧ Ws w1 wr q m (Slt.ad (prs.take j)) q2 none [] b0 (Slt.ad (prs.take j))) (fun i _ => prs.length - (intOf i).toNat)
  case atStart => exact ⟨0, none, Nat.zero_le _, rfl, HS.out⟩
  case round =>
    obtain ⟨j, m, hj, rfl, hW⟩ := hrel
    by_cases hlt : j < prs.length
    · have hltI : (j : Int) < (prs.length : Int) := by omega
      obtain ⟨b, off, rfl, hat⟩ := HC.out j hlt
      obtain ⟨⟨c0, c1⟩, x0, x1⟩ := hat wr (B1.out.trans (hW.two.a.bel.mono B1.out.size))
      have HW := Lib.hid hW
      have hnx := ad_next hlt
      clear hW hat
      go_wp2
      go_quiet (fail)
      have HW2 := Lib.hid (HW.out.below (below_drewN (Below.refl _ _) nq))
      have hall := ad_all (prs.take j) (fun x hx => HP.out x (List.mem_of_mem_take hx))
      have hlen : (Slt.ad (prs.take j)).length < 80000 := by have := hall.2.2.2; rw [List.length_take] at this; omega
      have hpn := pn_lt prs[j]
      have hp1 : 1 ≤ pp prs[j] := by unfold pp; omega
      have hpw : (Lit.int .i64 (pp prs[j])).wf = true := wf64 (by unfold pp; omega)
      have en : (1 + (prs[j].2 : Int) % 60) = ((pn prs[j] : Nat) : Int) := by unfold pn; simp
      have ep : (1 + (prs[j].1 : Int)) = pp prs[j] := rfl
      rw [en, ep]
      have HA := Lib.hid (HW2.out.add hlen (pp prs[j]) (pn prs[j]) hpw (by omega))
      have hno := ok_add prs[j]
      clear en ep c0 c1 x0 x1
      generalize wr.drewN nq = wz at *
      cases hs : slp (Slt.ad (prs.take j)) (pp prs[j])
      · have e1 := adE_new hno hs
        rw [e1.2] at hnx
        rw [e1.1, e1.2] at HA
        have HN := Lib.hid hnx
        have HO := Lib.hid (And.intro hall.1 (And.intro hlen (And.intro hpw (And.intro hp1 hpn))))
        clear hs hno hall hlen hnx hpn hp1 hpw e1
        generalize pp prs[j] = p at *
        generalize pn prs[j] = n at *
        go_wp2_with (go_at_call 8; (with_reducible refine HA.out.mono ?_); rintro e w5 ⟨rfl, m', h1⟩; obtain ⟨w6, hput, h6⟩ := h1.put (p := p) (n := n) HO.out.1 (by have := HO.out.2.1; omega) HO.out.2.2.1 HO.out.2.2.2.1 HO.out.2.2.2.2.1 (by have := HO.out.2.2.2.2.2; omega); have H6 := Lib.hid h6; have hn60 := HO.out.2.2.2.2.2; clear HA h1 h6)
        go_roundw
        case rel => exact ⟨j + 1, m', by omega, by go_num, by rw [HN.out]; exact H6.out⟩
        case measure => simp [intOf]; omega
      · have e1 := adE_in hno hs
        rw [e1.2] at hnx
        rw [e1.1, e1.2] at HA
        have HN := Lib.hid hnx
        clear hs hno hall hlen hnx hpn hp1 hpw e1
        generalize pp prs[j] = p at *
        generalize pn prs[j] = n at *
        go_wp2_with (go_at_call 8; (with_reducible refine HA.out.mono ?_); rintro e w5 ⟨rfl, m', h1⟩; have H6 := Lib.hid h1; clear HA h1)
        go_roundw
        case rel => exact ⟨j + 1, m', by omega, by go_num, by rw [HN.out]; exact H6.out⟩
        case measure => simp [intOf]; omega
    · obtain rfl : j = prs.length := by omega
      rw [List.take_length] at hW
      have hall := ad_all prs HP.out
      have HALL := Lib.hid hall
      have HW := Lib.hid hW
      clear hW hall
      generalize hK : Slt.ad prs = K at *
      clear hK
      go_wp2
      go_loopw [10] (fun i wr => ∃ (j : Nat) (z : Int) (m2 : Option Nat), j ≤ prs.length ∧ z = (j : Int) - 1 ∧ i = .int .i64 z ∧ Ws w1 wr q m K q2 m2 (tt K ((prs.drop j).map pp)) b0 K) (fun i _ => ((intOf i) + 1).toNat)
      case atStart => exact ⟨prs.length, _, none, Nat.le_refl _, rfl, rfl, by rw [List.drop_length, List.map_nil, tt_nil]; exact HW.out⟩
      case round =>
        obtain ⟨j, z, m2, hj, hz, rfl, hW⟩ := hrel
        cases j with
        | succ k =>
          obtain rfl : z = (k : Int) := by omega
          clear hz
          have hlt : k < prs.length := by omega
          have hltI : (k : Int) < (prs.length : Int) := by omega
          obtain ⟨b, off, rfl, hat⟩ := HC.out k hlt
          obtain ⟨⟨c0, c1⟩, x0, x1⟩ := hat wr (B1.out.trans (hW.two.a.bel.mono B1.out.size))
          have hall := HALL.out
          have hpw : (Lit.int .i64 (pp prs[k])).wf = true := wf64 (by unfold pp; omega)
          have hs : slp K (pp prs[k]) = true := (hall.2.2.1 _).2 (List.mem_map.2 ⟨_, List.getElem_mem hlt, rfl⟩)
          have hlk := hW.map.look1 hpw
          have h60 : lft K (pp prs[k]) ≤ 60 := by
            obtain ⟨x, hx, e⟩ := List.mem_map.1 (slp_mem.1 hs)
            rw [← e, mem_lft hall.1 hx]
            exact hall.2.1 x hx
          have hdr : prs.drop k = prs[k] :: prs.drop (k + 1) := List.drop_eq_getElem_cons hlt
          have HD : Hid (tt K ((prs.drop k).map pp) = adL (tt K ((prs.drop (k + 1)).map pp)) (pp prs[k]) (lft K (pp prs[k]))) := Lib.hid (by rw [hdr, List.map_cons, tt_add hall.1 hs])
          have HA := Lib.hid (hW.symm.add (Nat.lt_of_le_of_lt (List.length_filter_le _ _) (by have := hall.2.2.2; omega)) (pp prs[k]) (lft K (pp prs[k])) hpw (by omega))
          have ep : pp prs[k] = (1 + (prs[k].1 : Int)) := rfl
          generalize lft K (pp prs[k]) = n at HA hlk HD h60
          rw [ep] at HA hlk HD
          have hwn : IntKind.u32.wrap (n : Int) = (n : Int) := by
            simp only [IntKind.wrap, IntKind.bits, IntKind.signed, Bool.false_and, Bool.false_eq_true, if_false]
            omega
          clear hW hat hpw hs hdr hall ep x1 c1 h60
          go_wp2_with (go_at_call 8; (with_reducible refine HA.out.mono ?_); rintro e w5 ⟨rfl, m', h1⟩; have H6 := Lib.hid h1.symm; clear HA h1)
          go_roundw
          case rel => exact ⟨k, _, m', by omega, by go_num, rfl, by rw [HD.out]; exact H6.out⟩
          case measure => simp [intOf]
        | zero =>
          have hz0 : decide ((0 : Int) ≤ z) = false := decide_eq_false (by omega)
          clear hz
          have e0 : tt K ((prs.drop 0).map pp) = K := tt_all (fun x hx => (HALL.out.2.2.1 x.1).1 (slp_mem.2 (List.mem_map.2 ⟨x, hx, rfl⟩)))
          rw [e0] at hW
          have hones := HALL.out.1.ones
          have hKl : K.length < 80000 := by have := HALL.out.2.2.2; omega
          have HW3 := Lib.hid hW
          clear e0 hW
          go_wp2_with (first
            | (go_at_call 20; (with_reducible refine (HW3.out.all hKl).mono ?_); rintro e w5 ⟨h1, -, a1, n1, rfl, h2⟩; have HW4 := Lib.hid h1.symm; have HS1 := Lib.hid h2; clear HW3 h1 h2)
            | (go_at_call 20; (with_reducible refine (HW4.out.all hKl).mono ?_); rintro e w6 ⟨h1, hb, a2, n2, rfl, h2⟩; have HW5 := Lib.hid h1.symm; have HS2 := Lib.hid (And.intro (own_below HS1.out hb) h2); clear HW4 HS1 h1 h2 hb)
            | (go_at_call 21; (with_reducible refine (same_sl_self _ _ _ _ HS2.out.1 HS2.out.2 HALL.out.1).mono ?_); rintro e w7 ⟨rfl, hb⟩; have HW6 := Lib.hid (HW5.out.below hb); clear HW5 HS2 hb; refine Hid.out ?_))
          refine Lib.hid ?_
          go_wp2
          go_loopw [12, 13] (fun c i wr => ∃ (j : Nat) (cz : Int), 1 ≤ j ∧ j ≤ 61 ∧ i = .int .i64 (j : Int) ∧ cz = ((ct K (j - 1) : Nat) : Int) ∧ c = .int .i64 cz ∧ Ws w1 wr q m (dz K (j - 1)) q2 m2 K b0 K) (fun _ i _ => 61 - (intOf i).toNat)
          case atStart => exact ⟨1, 0, Nat.le_refl _, by omega, rfl, by rw [ct_zero hones]; rfl, rfl, by rw [dz_zero hones]; exact HW6.out⟩
          case round =>
            obtain ⟨j, cz, hj1, hj2, rfl, hcz, rfl, hW⟩ := hrel
            by_cases hlt : j ≤ 60
            · have hltI : (j : Int) ≤ 60 := by omega
              have hdl : (dz K (j - 1)).length < 80000 := by
                unfold dz
                rw [List.length_map]
                exact Nat.lt_of_le_of_lt (List.length_filter_le _ _) hKl
              have HT := hW.tick hdl
              rw [(tk_dz K (j - 1)).1, (tk_dz K (j - 1)).2, show j - 1 + 1 = j by omega] at HT
              replace HT := Lib.hid HT
              have hcn := ct_next K (j - 1)
              rw [show j - 1 + 1 = j by omega] at hcn
              have hcl := ct_le K j
              have hcz0 : (0 : Int) ≤ cz ∧ cz ≤ 80000 := by have := ct_le K (j - 1); omega
              have HCZ := Lib.hid (And.intro hcz hcz0)
              clear hW hdl hcz hcz0
              go_wp2_with (go_at_call 10; (with_reducible refine HT.out.mono ?_); rintro e w8 ⟨h1, ta, tn, rfl, h2⟩; have HW7 := Lib.hid h1; have HR := Lib.hid h2; clear HT h1 h2; refine Hid.out ?_)
              refine Lib.hid ?_
              obtain ⟨ra, rc, er, hrc1, hrc2, hrow⟩ := nr_cells HR.out
              cases er
              have HR3 := Lib.hid hrow
              have HK : Hid (((ct K j : Nat) : Int) = ((ct K (j - 1) : Nat) : Int) + (((fs j K).length : Nat) : Int)) := Lib.hid (by rw [hcn]; omega)
              have hfl : ((fs j K).length : Int) ≤ 80000 := by omega
              have hwj : j + 1 - 1 = j := by omega
              clear hrow hrc1 hrc2 hcn hcl
              go_wp2
              go_loopw [12, 95] (fun c i wr => ∃ (k : Nat) (dz2 : Int), k ≤ (fs j K).length ∧ i = .int .i64 (k : Int) ∧ dz2 = cz + (k : Int) ∧ c = .int .i64 dz2 ∧ Ws w1 wr q m (dz K j) q2 m2 K b0 K ∧ Below w8.heap.size w8 wr) (fun _ i _ => (fs j K).length - (intOf i).toNat)
              case atStart => exact ⟨0, cz, Nat.zero_le _, rfl, by simp, rfl, HW7.out, Below.refl _ _⟩
              case round =>
                obtain ⟨k, cz2, hk, rfl, hcz2, rfl, hW2, hb2⟩ := hrel
                by_cases hkl : k < (fs j K).length
                · have hklI : (k : Int) < ((fs j K).length : Int) := by omega
                  obtain ⟨r, rfl, c1⟩ := HR3.out k hkl
                  replace c1 := (hb2.cell (p := ⟨r, k, none⟩) (cell_lt c1)).trans c1
                  have hfw := fs_want HALL.out.1 hkl
                  have hlk : ∀ nq, (Instr.lookup 49 (.map (some b0)) (.int .i64 (fs j K)[k]) false).run Try.prog (wr.drewN nq) = .ok (.int .i64 (j : Int)) (wr.drewN nq) := fun nq => by
                    have := (hW2.map.below (below_drewN (Below.refl _ _) nq)).look1 hfw.2
                    rwa [hfw.1] at this
                  have HW8 := Lib.hid (And.intro hW2 hb2)
                  have hwc : IntKind.i64.wrap (cz2 + 1) = cz2 + 1 := by
                    have := HCZ.out.2
                    simp [IntKind.wrap, IntKind.bits, IntKind.signed]
                    omega
                  have HC2 : Hid (cz2 + 1 = cz + ((k + 1 : Nat) : Int)) := Lib.hid (by rw [hcz2]; omega)
                  have hfl' := hfl
                  cases k with
                  | zero =>
                    rw [show ((0 : Nat) : Int) = 0 from rfl] at hklI ⊢
                    clear hW2 hb2 hfw hcz2
                    generalize (fs j K)[0] = x at *
                    go_wp2
                    go_quiet (fail)
                    have HW9 : Hid (Ws w1 (wr.drewN nq) q m (dz K j) q2 m2 K b0 K ∧ Below w8.heap.size w8 (wr.drewN nq)) := Lib.hid ⟨HW8.out.1.below (below_drewN (Below.refl _ _) nq), below_drewN HW8.out.2 nq⟩
                    generalize wr.drewN nq = wz at *
                    go_wp2
                    go_roundw
                    case rel => exact ⟨1, _, by omega, rfl, HC2.out, rfl, HW9.out.1, HW9.out.2⟩
                    case measure => simp [intOf]; omega
                  | succ g =>
                    have hgl : g < (fs j K).length := by omega
                    obtain ⟨r', er, c2⟩ := HR3.out g hgl
                    cases er
                    replace c2 := (hb2.cell (p := ⟨r, g, none⟩) (cell_lt c2)).trans c2
                    have hup : decide ((fs j K)[g + 1] ≤ (fs j K)[g]) = false := decide_eq_false (by have := fs_up HALL.out.1 hkl; omega)
                    have e6 : IntKind.i64.wrap (((g + 1 : Nat) : Int) - 1) = (g : Int) := wrap_prev rfl (by omega)
                    have e7 : decide ((0 : Int) < ((g + 1 : Nat) : Int)) = true := decide_eq_true (by omega)
                    have e8 : decide (0 < g + 1) = true := decide_eq_true (by omega)
                    have hgI : (g : Int) < ((fs j K).length : Int) := by omega
                    clear hW2 hb2 hfw hcz2
                    generalize (fs j K)[g + 1] = x at *
                    generalize (fs j K)[g] = y at *
                    clear hgl
                    generalize hkk : g + 1 = k at *
                    have HKK := Lib.hid hkk
                    clear hkk
                    go_wp2
                    go_quiet (fail)
                    have HW9 : Hid (Ws w1 (wr.drewN nq) q m (dz K j) q2 m2 K b0 K ∧ Below w8.heap.size w8 (wr.drewN nq)) := Lib.hid ⟨HW8.out.1.below (below_drewN (Below.refl _ _) nq), below_drewN HW8.out.2 nq⟩
                    generalize wr.drewN nq = wz at *
                    go_wp2
                    go_roundw
                    case rel => exact ⟨k + 1, _, by omega, by go_num, HC2.out, rfl, HW9.out.1, HW9.out.2⟩
                    case measure => simp [intOf]; omega
                · obtain rfl : k = (fs j K).length := by omega
                  have HW8 := Lib.hid hW2
                  have HCC : Hid (cz2 = ((ct K j : Nat) : Int)) := Lib.hid (by rw [hcz2, HK.out, HCZ.out.1])
                  clear hW2 hb2 hcz2 HK
                  go_wp2
                  go_roundw
                  case rel => exact ⟨j + 1, _, by omega, by omega, by go_num, by rw [hwj]; exact HCC.out, rfl, by rw [hwj]; exact HW8.out⟩
                  case measure => simp [intOf]; omega
            · obtain rfl : j = 61 := by omega
              have he := ct_end HALL.out.2.1
              rw [show 61 - 1 = 60 from rfl, he.2] at hW
              rw [show 61 - 1 = 60 from rfl, he.1] at hcz
              have hln := fun ty => hW.map.len HALL.out.1.nodup ty
              have HW9 := Lib.hid hW
              have HCE := Lib.hid hcz
              rw [show ((61 : Nat) : Int) = 61 from rfl]
              have hcq : (cz == ((K.length : Nat) : Int)) = true := by rw [hcz]; simp
              clear hW he hcz
              go_wp2_with (go_at_call 20; (with_reducible refine (HW9.out.all (by decide)).mono ?_); rintro e w9 ⟨h1, -, za, zn, rfl, -⟩; have HE := Lib.hid (B1.out.trans (h1.two.a.bel.mono B1.out.size)); clear h1)
              go_ret
              exact ⟨rfl, HE.out⟩
theorem wakes_law (va : Value) (prs : List Pr) (w : World) (h : PrsAt w va prs) :
    Calls Try.prog 5 #[va] w fun e w' => e = .returned (.bool true) ∧ Below w.heap.size w w' := by
  by_cases hl : prs.length ≤ 50
  · exact wakes_short va prs w h hl
  · exact wakes_long va prs w h hl
end Go.Proofs.Ytpblnjphkgilfaa.Slu
namespace Go.Proofs.Ytpblnjphkgilfaa.Walk
open Go Go.RowKit Sln
theorem sleepWakes (va : Value) (prs : List Pr) (w : World) (h : PrsAt w va prs) : Calls Try.prog 5 #[va] w fun e w' => e = .returned (.bool true) ∧ Below w.heap.size w w' := Slu.wakes_law va prs w h
end Go.Proofs.Ytpblnjphkgilfaa.Walk
