/-
  FutexGone: what the walk carries, and the walk.
-/
import Derived.Test.YtpfnjeicenhciaaFtt
namespace Go.Proofs.Ytpfnjeicenhciaa.Ftu
open Go Go.RowKit Kit Bk Fta Ftb Ftc Ftd Fte Ftf Ftg Fth Fti Ftj Ftk Ftl Ftm Ftn Fto Ftq Ftr Fts Ftt
set_option linter.unusedVariables false
attribute [local go_sem ↓] app_wrap

theorem stay_gone (L : List Wt) (q : Int) : fkB (stay (eqq q) L) q = false := by
  rw [← Bool.not_eq_true, fkB_iff]
  intro h
  obtain ⟨x, hx, e⟩ := List.mem_map.1 h
  have := (List.mem_filter.1 hx).2
  simp [eqq, e] at this
theorem stay_lt (L : List Wt) (q : Int) : decide (((stay (eqq q) L).length : Int) < (L.length : Int)) = fkB L q ∧ decide ((stay (eqq q) L).length < L.length) = fkB L q := by
  have h : (stay (eqq q) L).length < L.length ↔ fkB L q = true := by
    rw [fkB_iff]
    unfold stay
    rw [List.length_filter_lt_length_iff_exists]
    simp [eqq]
  have h2 : decide ((stay (eqq q) L).length < L.length) = fkB L q := by
    rw [Bool.eq_iff_iff, decide_eq_true_iff, h]
  refine ⟨?_, h2⟩
  rw [← h2, decide_eq_decide]
  omega
theorem stay_stay (L : List Wt) (d : Wt → Bool) : stay d (stay d L) = stay d L := by
  unfold stay
  rw [List.filter_filter]
  simp
theorem stay_le (L : List Wt) (d : Wt → Bool) : (stay d L).length ≤ L.length := List.length_filter_le _ _
theorem ats_snoc (M : List Wt) (q : Int) (k : Ky) : ats (M ++ [⟨q, k⟩]) k = ats M k ++ [q] := by
  unfold ats
  rw [List.filter_append, List.map_append, List.filter_cons_of_pos (by simp)]
  rfl
/-- The futex f (of M), its copy c (of L), and all who waited (slice ua, L). -/
structure Gs (W1 w : World) (f r c rc b0 : Nat) (k : Ky) (L M : List Wt) (ua : Value) : Prop where
  on_ : On W1 w f r M
  cp : Lx 26 w c rc L
  key : Blk w b0 #[.int .i64 k.p, .int .i64 k.f, .int .i64 k.o] 31
  all : Nw w ua L
  ap : ¬ fr f r c ∧ ¬ fr f r rc
  na : ∀ b n c, ua = .slice (some ⟨b, 0, none⟩) n c → ¬ fr f r b
variable {W1 w w' : World} {f r c rc b0 : Nat} {k : Ky} {L M : List Wt} {ua : Value}
theorem Gs.below (h : Gs W1 w f r c rc b0 k L M ua) (hb : Below w.heap.size w w') : Gs W1 w' f r c rc b0 k L M ua := ⟨h.on_.below hb, h.cp.below hb, h.key.below hb, h.all.below hb, h.ap, h.na⟩
theorem Gs.gone (h : Gs W1 w f r c rc b0 k L M ua) (q : Int) :
    Calls Try.prog 14 #[.pointer (some ⟨f, 0, none⟩), .int .i64 q] w fun e w' => e = .returned (.bool (fkB M q)) ∧ Gs W1 w' f r c rc b0 k L (stay (eqq q) M) ua := by
  refine (h.on_.gone q).mono ?_
  rintro e w' ⟨rfl, hk, ho⟩
  exact ⟨rfl, ho, h.cp.kept hk h.ap.1 h.ap.2, h.on_.blk hk h.key (by decide) (by decide), h.all.kept hk h.na, h.ap, h.na⟩
theorem Gs.wait (h : Gs W1 w f r c rc b0 k L M ua) (hM : M.length ≤ 200) (q : Int) :
    Calls Try.prog 9 #[.pointer (some ⟨f, 0, none⟩), .int .i64 q, kv k] w fun e w' => e = .returned (.int .i64 (wtE M q k)) ∧ ∃ r', On W1 w' f r' (wtL M q k) ∧ Blk w' b0 #[.int .i64 k.p, .int .i64 k.f, .int .i64 k.o] 31 := by
  refine (h.on_.wait (by omega) q k).mono ?_
  rintro e w' ⟨rfl, hk, r', ho, -⟩
  exact ⟨rfl, r', ho, h.on_.blk hk h.key (by decide) (by decide)⟩

theorem gone_long (va : Value) (ops : List Opr) (q : Int) (k : Ky) (w : World) (h : OpsAt w va ops) (hl : ¬ ops.length ≤ 200) :
    Calls Try.prog 7 #[va, .int .i64 q, kv k] w fun e w' => e = .returned (.bool true) ∧ Below w.heap.size w w' := by
  obtain ⟨ad, cap, rfl, h1, h2, h3⟩ := h
  have dl : decide ((200 : Int) < (ops.length : Int)) = true := decide_eq_true (by omega)
  have hb0 := Lib.hid ((Below.refl w.heap.size w).alloc (Nat.le_refl _) (.cells #[.int .i64 k.p, .int .i64 k.f, .int .i64 k.o] 31))
  clear h3 hl
  go_enter Try.func7, Try.ntmps7
  go_wp2_with (go_at_call 28; (with_reducible refine (alive_any _).mono ?_); rintro e w1 ⟨rfl, b1⟩; have B1 := Lib.hid (hb0.out.trans (b1.mono hb0.out.size)); clear b1)
  go_ret
  exact ⟨rfl, B1.out⟩

set_option maxRecDepth 100000 in
set_option maxHeartbeats 8000000 in
theorem gone_fine (va : Value) (ops : List Opr) (q : Int) (k : Ky) (w : World) (h : OpsAt w va ops) (hl : ops.length ≤ 200) (hk : Fta.kwf k) :
    Calls Try.prog 7 #[va, .int .i64 q, kv k] w fun e w' => e = .returned (.bool true) ∧ Below w.heap.size w w' := by
  obtain ⟨ad, cap, rfl, h1, h2, -⟩ := id h
  have HO := Lib.hid h
  have HL := Lib.hid hl
  have HK := Lib.hid hk
  have dl : decide ((200 : Int) < (ops.length : Int)) = false := decide_eq_false (by omega)
  have hb0 := (Below.refl w.heap.size w).alloc (Nat.le_refl _) (.cells #[.int .i64 k.p, .int .i64 k.f, .int .i64 k.o] 31)
  have hbox := Blk.new w #[.int .i64 k.p, .int .i64 k.f, .int .i64 k.o] 31
  have HB0 := Lib.hid (And.intro hb0 hbox)
  clear h hl hk hb0 hbox
  go_enter Try.func7, Try.ntmps7
  go_wp2_with (first
    | (go_at_call 28; (with_reducible refine (alive_any _).mono ?_); rintro e w1 ⟨rfl, b1⟩; have B1 := Lib.hid (HB0.out.1.trans (b1.mono HB0.out.1.size)); have X1 := Lib.hid (HB0.out.2.below b1); clear b1)
    | (go_at_call 29; (with_reducible refine (grown_any _ _ ops (OpsAt.below HO.out B1.out) HL.out).mono ?_); rintro e w2 ⟨f, rfl, r, L, ho, hd⟩; have HF := Lib.hid ho; have HD := Lib.hid hd; have X2 := Lib.hid (X1.out.below ho.bel); clear ho hd)
    | (go_at_call 16; (with_reducible refine (copy_any _ f r L HF.out.lx (by have := HD.out.len; omega)).mono ?_); rintro e w3 ⟨hb3, c, rc, rfl, hc3, hlc, hlr⟩; have HF3 := Lib.hid (HF.out.below hb3); have X3 := Lib.hid (X2.out.below hb3); have HC3 := Lib.hid (And.intro hc3 (And.intro hlc (And.intro hlr (And.intro HF.out.lx.lt hb3.size)))); clear hb3 hc3 hlc hlr)
    | (go_at_call 20; (with_reducible refine (all_any _ f r L HF3.out.lx (by have := HD.out.len; omega)).mono ?_); rintro e w4 ⟨hb4, ua, rfl, ha4⟩; refine Hid.out ?_))
  have HG : Hid (Gs w1 w4 f r c rc w.heap.size k L L ua) := Lib.hid ⟨HF3.out.below hb4, HC3.out.1.below hb4, X3.out.below hb4, nw_own ha4, by have := HC3.out.2; unfold fr; omega, fun b n c' e => by
    have h1 := own_lt (by rw [e] at ha4; exact ha4)
    have h2 := HC3.out.2
    unfold fr
    omega⟩
  obtain ⟨xa, xc, rfl⟩ := own_form ha4
  clear HF HF3 X1 X2 X3 HC3 ha4 hb4
  have HS := Lib.hid (And.intro (stay_gone L q) (stay_lt L q))
  obtain ⟨hb, hhb⟩ : ∃ hb, fkB L q = hb := ⟨_, rfl⟩
  obtain ⟨K, hK⟩ : ∃ K, fkK L q = K := ⟨_, rfl⟩
  have HKey := Lib.hid (key_any _ f r L q HG.out.on_.lx)
  have HGo : Hid (∀ W, Gs w1 W f r c rc w.heap.size k L L (.slice xa L.length xc) → Calls Try.prog 14 #[.pointer (some ⟨f, 0, none⟩), .int .i64 q] W fun e w' => e = .returned (.bool hb) ∧ Gs w1 w' f r c rc w.heap.size k L (stay (eqq q) L) (.slice xa L.length xc)) := Lib.hid (fun W hg => by have := hg.gone q; rw [hhb] at this; exact this)
  have HGn : Hid (∀ W, Gs w1 W f r c rc w.heap.size k L (stay (eqq q) L) (.slice xa L.length xc) → Calls Try.prog 14 #[.pointer (some ⟨f, 0, none⟩), .int .i64 q] W fun e w' => e = .returned (.bool false) ∧ Gs w1 w' f r c rc w.heap.size k L (stay (eqq q) L) (.slice xa L.length xc)) := Lib.hid (fun W hg => by have := hg.gone q; rw [HS.out.1, stay_stay] at this; exact this)
  rw [hhb, hK] at HKey
  rw [hhb] at HS
  clear hhb hK
  refine Lib.hid ?_
  go_wp2_with (first
    | (go_at_call 17; (with_reducible refine HKey.out.mono ?_); rintro e w5 ⟨rfl, hb5⟩; have HG5 := Lib.hid ((HG.out.below hb5).below ((Below.refl _ _).alloc (Nat.le_refl _) (.cells #[.int .i64 K.p, .int .i64 K.f, .int .i64 K.o] 31))); clear hb5)
    | (go_at_call 14; first
      | ((with_reducible refine (HGo.out _ HG5.out).mono ?_); rintro e w6 ⟨rfl, hg6⟩; have HG6 := Lib.hid hg6; clear hg6 HG5)
      | ((with_reducible refine (HGn.out _ HG6.out).mono ?_); rintro e w7 ⟨rfl, hg7⟩; have HG7 := Lib.hid hg7; clear hg7)))
  clear HGo HGn HKey HG6 HG
  have HLen : Hid (L.length ≤ 200) := Lib.hid HD.out.len
  have hl200 : (L.length : Int) ≤ 200 := by have := HD.out.len; omega
  go_loopw [13, 51] (fun o i wr => ∃ j : Nat, j ≤ L.length ∧ i = .int .i64 (j : Int) ∧ wr.ownsRow w7.heap.size 51 4 o (stay (eqq q) (L.take j)).length (wcs (stay (eqq q) (L.take j))) ∧ Below w7.heap.size w7 wr) (fun _ i _ => L.length - (intOf i).toNat)
  case atStart => exact ⟨0, Nat.zero_le _, rfl, World.ownsRow_nil _ _ _ _, Below.refl _ _⟩
  case round =>
    obtain ⟨j, hj, rfl, ho, hb⟩ := hrel
    obtain ⟨oa, oc, rfl⟩ := own_form ho
    by_cases hlt : j < L.length
    · have hltI : (j : Int) < (L.length : Int) := by omega
      obtain ⟨a, c', b, e, q1, q2, hc⟩ := (HG7.out.below hb).all.cells
      cases e
      obtain ⟨rfl, c0, c1, c2, c3⟩ := hc _ (Below.refl _ _) j hlt
      have hlen := stay_len (eqq q) L j
      by_cases he : L[j].q = q
      · have d0 : (L[j].q == q) = true := by simpa using he
        have HT := Lib.hid (stay_no (d := eqq q) hlt d0)
        have HO6 := Lib.hid (And.intro ho hb)
        generalize stay (eqq q) (L.take j) = l at *
        generalize L[j] = x at *
        clear he ho hb hc
        go_wp2
        go_roundw
        case rel => exact ⟨j + 1, by omega, by go_num, by rw [HT.out]; exact HO6.out.1, HO6.out.2⟩
        case measure => simp [intOf]; omega
      · have d0 : (L[j].q == q) = false := by simpa using he
        have HT := Lib.hid (stay_yes (d := eqq q) hlt d0)
        obtain ⟨v', w', g1, g2, g3, -⟩ := app_one wr w7.heap.size _ (stay (eqq q) (L.take j)) L[j] ho (by omega) hb.size
        obtain ⟨ga, gc, rfl⟩ := own_form g2
        have HE := Lib.hid (And.intro g2 (((hb.alloc hb.size (.cells #[.int .i64 L[j].q, .int .i64 L[j].k.p, .int .i64 L[j].k.f, .int .i64 L[j].k.o] 51))).grown g3 (by rw [World.size_alloc]; exact Nat.le_succ_of_le hb.size) (fun k e => (ho.lt k e).1)))
        generalize stay (eqq q) (L.take j) = l at *
        generalize L[j] = x at *
        generalize hn4 : (l ++ [x]).length = n4 at *
        clear he ho hb hlen g2 g3 hc
        go_wp2
        go_roundw
        case rel => exact ⟨j + 1, by omega, by go_num, by rw [HT.out, hn4]; exact HE.out.1, HE.out.2⟩
        case measure => simp [intOf]; omega
    · obtain rfl : j = L.length := by omega
      rw [List.take_length] at ho ⊢
      have HX := Lib.hid (HG7.out.below hb)
      have HV := Lib.hid (nw_own ho)
      have hML := stay_le L (eqq q)
      have HW : Hid (∀ x ∈ stay (eqq q) L, xwf x) := Lib.hid (HD.out.stay _).xwf
      have HF := Lib.hid (HD.out.stay (eqq q)).kwf
      have h9 : Hid ((stay (eqq q) L).length ≤ 90000 ∧ L.length ≤ 90000) := Lib.hid ⟨by omega, by omega⟩
      have ds1 := HS.out.2.1
      have ds2 := HS.out.2.2
      have hno := HS.out.1
      generalize stay (eqq q) L = M at *
      have hmI : (M.length : Int) ≤ 200 := by omega
      clear ho hb hj hlt
      by_cases hok : mayK k = true ∧ 1 ≤ q
      · obtain ⟨e1, e2⟩ := wt_new hok hno
        have hck : ckE k = 0 := ckE_ok.2 hok.1
        have dq : decide (q < 1) = false := decide_eq_false (by omega)
        have HWt : Hid (∀ W, Gs w1 W f r c rc w.heap.size k L M (.slice xa L.length xc) → Calls Try.prog 9 #[.pointer (some ⟨f, 0, none⟩), .int .i64 q, kv k] W fun e w' => e = .returned (.int .i64 0) ∧ ∃ r', On w1 w' f r' (M ++ [⟨q, k⟩]) ∧ Blk w' w.heap.size #[.int .i64 k.p, .int .i64 k.f, .int .i64 k.o] 31) := Lib.hid (fun W hg => by
          have := hg.wait (by omega) q
          rw [e1, e2] at this
          exact this)
        have HC : Hid (∀ W : World, Calls Try.prog 21 #[kv k] W fun e w' => e = .returned (.int .i64 0) ∧ Below W.heap.size W w') := Lib.hid (fun W => by
          have := check_any W k
          rw [hck] at this
          exact this)
        have HN := Lib.hid (ats_snoc M q k)
        have han := ats_len M k
        have HMk : Hid (∀ x ∈ M ++ [(⟨q, k⟩ : Wt)], Fta.kwf x.k) := Lib.hid (fun x hx => by
          rcases List.mem_append.1 hx with hx | hx
          · exact HF.out x hx
          · simp only [List.mem_singleton] at hx
            subst hx
            exact HK.out)
        have hMl : (M ++ [(⟨q, k⟩ : Wt)]).length = M.length + 1 := by simp
        have h91 : Hid ((M ++ [(⟨q, k⟩ : Wt)]).length ≤ 90000) := Lib.hid (by omega)
        have HLn : Hid (∀ W r', On w1 W f r' (M ++ [⟨q, k⟩]) → Calls Try.prog 24 #[.pointer (some ⟨f, 0, none⟩)] W fun e w' => e = .returned (.int .i64 ((M.length : Int) + 1)) ∧ W = w') := Lib.hid (fun W r' hg => by
          have := flen_any W f r' _ hg.lx
          rw [hMl] at this
          exact this)
        have HAt : Hid (∀ W r', On w1 W f r' (M ++ [⟨q, k⟩]) → Calls Try.prog 19 #[.pointer (some ⟨f, 0, none⟩), kv k] W fun e w' => Below W.heap.size W w' ∧ ∃ g cg, e = .returned (.slice (some ⟨g, 0, none⟩) ((ats M k).length + 1) cg) ∧ w'.cell? ⟨g, (ats M k).length, none⟩ = some (.int .i64 q)) := Lib.hid (fun W r' hg => by
          refine (at_any W f r' _ k hg.lx HMk.out HK.out h91.out).mono ?_
          rintro e w' ⟨hb, u, rfl, hu⟩
          rw [HN.out] at hu
          obtain ⟨a, c, rfl, _, _, hc⟩ := (nr_own hu).cells
          obtain ⟨g, rfl, hcell⟩ := hc (ats M k).length (by simp)
          refine ⟨hb, g, c, by simp, ?_⟩
          rw [hcell]
          simp)
        have hnI : ((ats M k).length : Int) ≤ 200 := by omega
        have d0 : decide ((0 : Int) < (((ats M k).length + 1 : Nat) : Int)) = true := decide_eq_true (by omega)
        generalize (ats M k).length = n at *
        clear hok hck e1 e2 hno han hMl HN
        go_wp2_with (first
          | (go_at_call 20; first
            | ((with_reducible refine (all_any _ f r M HX.out.on_.lx h9.out.1).mono ?_); rintro e w8 ⟨hb8, v8, rfl, ha8⟩; have HX8 := Lib.hid (HX.out.below hb8); have HV8 := Lib.hid (HV.out.below hb8); have HA8 := Lib.hid (nw_own ha8); obtain ⟨ea, ec, rfl⟩ := own_form ha8; clear hb8 ha8)
            | ((with_reducible refine (all_any _ c rc L HX9.out.cp h9.out.2).mono ?_); rintro e w10 ⟨hb10, v10, rfl, ha10⟩; have HX10 := Lib.hid (HX9.out.below hb10); have HA10 := Lib.hid (nw_own ha10); obtain ⟨fa, fc, rfl⟩ := own_form ha10; clear hb10 ha10))
          | (go_at_call 23; first
            | ((with_reducible refine (same_nw _ _ M _ h9.out.1 HW.out HA8.out HV8.out).mono ?_); rintro e w9 ⟨rfl, hb9⟩; have HX9 := Lib.hid (HX8.out.below hb9); clear hb9)
            | ((with_reducible refine (same_nw _ _ L _ h9.out.2 HD.out.xwf HA10.out HX10.out.all).mono ?_); rintro e w11 ⟨rfl, hb11⟩; have HX11 := Lib.hid (HX10.out.below hb11); have y0 := HX11.out.key.cell 0; have y1 := HX11.out.key.cell 1; have y2 := HX11.out.key.cell 2; clear hb11))
          | (go_at_call 9; (with_reducible refine (HWt.out _ HX11.out).mono ?_); rintro e w12 ⟨rfl, r', ho12, hk12⟩; have HX12 := Lib.hid ho12; have HK12 := Lib.hid hk12; clear y0 y1 y2; have y0 := hk12.cell 0; have y1 := hk12.cell 1; have y2 := hk12.cell 2; clear ho12 hk12)
          | (go_at_call 21; (with_reducible refine (HC.out _).mono ?_); rintro e w13 ⟨rfl, hb13⟩; have HX13 := Lib.hid (HX12.out.below hb13); have hk13 := HK12.out.below hb13; clear y0 y1 y2; have y0 := hk13.cell 0; have y1 := hk13.cell 1; have y2 := hk13.cell 2; clear hb13 hk13)
          | (go_at_call 19; (with_reducible refine (HAt.out _ _ HX13.out).mono ?_); rintro e w14 ⟨hb14, g, cg, rfl, cx⟩; have HX14 := Lib.hid (HX13.out.below hb14); clear hb14)
          | (go_at_call 24; (with_reducible refine (HLn.out _ _ HX14.out).mono ?_); rintro e w15 ⟨rfl, rfl⟩))
        go_ret
        exact ⟨rfl, B1.out.trans (HX14.out.bel.mono B1.out.size)⟩
      · obtain ⟨e1, e2⟩ := wt_bad (L := M) hok
        have HWt : Hid (∀ W, Gs w1 W f r c rc w.heap.size k L M (.slice xa L.length xc) → Calls Try.prog 9 #[.pointer (some ⟨f, 0, none⟩), .int .i64 q, kv k] W fun e w' => e = .returned (.int .i64 2) ∧ ∃ r', On w1 w' f r' M ∧ Blk w' w.heap.size #[.int .i64 k.p, .int .i64 k.f, .int .i64 k.o] 31) := Lib.hid (fun W hg => by
          have := hg.wait (by omega) q
          rw [e1, e2] at this
          exact this)
        have HLn : Hid (∀ W r', On w1 W f r' M → Calls Try.prog 24 #[.pointer (some ⟨f, 0, none⟩)] W fun e w' => e = .returned (.int .i64 (M.length : Int)) ∧ W = w') := Lib.hid (fun W r' hg => flen_any W f r' _ hg.lx)
        by_cases hq : 1 ≤ q
        · have dq : decide (q < 1) = false := decide_eq_false (by omega)
          have hck : ckE k = 2 := by unfold ckE; rw [if_neg (fun e => hok ⟨e, hq⟩)]
          have HC : Hid (∀ W : World, Calls Try.prog 21 #[kv k] W fun e w' => e = .returned (.int .i64 2) ∧ Below W.heap.size W w') := Lib.hid (fun W => by
            have := check_any W k
            rw [hck] at this
            exact this)
          clear hok hck e1 e2 hno hq
          go_wp2_with (first
            | (go_at_call 20; first
              | ((with_reducible refine (all_any _ f r M HX.out.on_.lx h9.out.1).mono ?_); rintro e w8 ⟨hb8, v8, rfl, ha8⟩; have HX8 := Lib.hid (HX.out.below hb8); have HV8 := Lib.hid (HV.out.below hb8); have HA8 := Lib.hid (nw_own ha8); obtain ⟨ea, ec, rfl⟩ := own_form ha8; clear hb8 ha8)
              | ((with_reducible refine (all_any _ c rc L HX9.out.cp h9.out.2).mono ?_); rintro e w10 ⟨hb10, v10, rfl, ha10⟩; have HX10 := Lib.hid (HX9.out.below hb10); have HA10 := Lib.hid (nw_own ha10); obtain ⟨fa, fc, rfl⟩ := own_form ha10; clear hb10 ha10))
            | (go_at_call 23; first
              | ((with_reducible refine (same_nw _ _ M _ h9.out.1 HW.out HA8.out HV8.out).mono ?_); rintro e w9 ⟨rfl, hb9⟩; have HX9 := Lib.hid (HX8.out.below hb9); clear hb9)
              | ((with_reducible refine (same_nw _ _ L _ h9.out.2 HD.out.xwf HA10.out HX10.out.all).mono ?_); rintro e w11 ⟨rfl, hb11⟩; have HX11 := Lib.hid (HX10.out.below hb11); have y0 := HX11.out.key.cell 0; have y1 := HX11.out.key.cell 1; have y2 := HX11.out.key.cell 2; clear hb11))
            | (go_at_call 9; (with_reducible refine (HWt.out _ HX11.out).mono ?_); rintro e w12 ⟨rfl, r', ho12, hk12⟩; have HX12 := Lib.hid ho12; clear y0 y1 y2; have y0 := hk12.cell 0; have y1 := hk12.cell 1; have y2 := hk12.cell 2; clear ho12 hk12)
            | (go_at_call 21; (with_reducible refine (HC.out _).mono ?_); rintro e w13 ⟨rfl, hb13⟩; have HX13 := Lib.hid (HX12.out.below hb13); clear hb13)
            | (go_at_call 24; (with_reducible refine (HLn.out _ _ HX13.out).mono ?_); rintro e w15 ⟨rfl, rfl⟩))
          go_ret
          exact ⟨rfl, B1.out.trans (HX13.out.bel.mono B1.out.size)⟩
        · have dq : decide (q < 1) = true := decide_eq_true (by omega)
          clear hok e1 e2 hno hq
          go_wp2_with (first
            | (go_at_call 20; first
              | ((with_reducible refine (all_any _ f r M HX.out.on_.lx h9.out.1).mono ?_); rintro e w8 ⟨hb8, v8, rfl, ha8⟩; have HX8 := Lib.hid (HX.out.below hb8); have HV8 := Lib.hid (HV.out.below hb8); have HA8 := Lib.hid (nw_own ha8); obtain ⟨ea, ec, rfl⟩ := own_form ha8; clear hb8 ha8)
              | ((with_reducible refine (all_any _ c rc L HX9.out.cp h9.out.2).mono ?_); rintro e w10 ⟨hb10, v10, rfl, ha10⟩; have HX10 := Lib.hid (HX9.out.below hb10); have HA10 := Lib.hid (nw_own ha10); obtain ⟨fa, fc, rfl⟩ := own_form ha10; clear hb10 ha10))
            | (go_at_call 23; first
              | ((with_reducible refine (same_nw _ _ M _ h9.out.1 HW.out HA8.out HV8.out).mono ?_); rintro e w9 ⟨rfl, hb9⟩; have HX9 := Lib.hid (HX8.out.below hb9); clear hb9)
              | ((with_reducible refine (same_nw _ _ L _ h9.out.2 HD.out.xwf HA10.out HX10.out.all).mono ?_); rintro e w11 ⟨rfl, hb11⟩; have HX11 := Lib.hid (HX10.out.below hb11); have y0 := HX11.out.key.cell 0; have y1 := HX11.out.key.cell 1; have y2 := HX11.out.key.cell 2; clear hb11))
            | (go_at_call 9; (with_reducible refine (HWt.out _ HX11.out).mono ?_); rintro e w12 ⟨rfl, r', ho12, hk12⟩; have HX12 := Lib.hid ho12; clear y0 y1 y2 ho12 hk12)
            | (go_at_call 24; (with_reducible refine (HLn.out _ _ HX12.out).mono ?_); rintro e w15 ⟨rfl, rfl⟩))
          go_ret
          exact ⟨rfl, B1.out.trans (HX12.out.bel.mono B1.out.size)⟩
theorem gone (va : Value) (ops : List Opr) (q : Int) (k : Ky) (w : World) (h : OpsAt w va ops) (hk : Fta.kwf k) :
    Calls Try.prog 7 #[va, .int .i64 q, kv k] w fun e w' => e = .returned (.bool true) ∧ Below w.heap.size w w' := by
  by_cases hl : ops.length ≤ 200
  · exact gone_fine va ops q k w h hl hk
  · exact gone_long va ops q k w h hl
end Go.Proofs.Ytpfnjeicenhciaa.Ftu
namespace Go.Proofs.Ytpfnjeicenhciaa.Walk
open Go Go.RowKit Kit Fta Ftq Ftu
theorem futexGone (va : Value) (ops : List Opr) (q : Int) (k : Ky) (w : World) (h : OpsAt w va ops) (_hq : (Lit.int .i64 q).wf = true) (hk : Fta.kwf k) : Calls Try.prog 7 #[va, .int .i64 q, kv k] w fun e w' => e = .returned (.bool true) ∧ Below w.heap.size w w' := gone va ops q k w h hk
end Go.Proofs.Ytpfnjeicenhciaa.Walk
