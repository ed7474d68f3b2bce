/-
  SignalPosts' walk.
-/
import Derived.Test.YtlhhgapimhpgnaaSgq
import Derived.Deep.DeepCutAuto
import Derived.Deep.CutBlock
import Derived.Deep.RegionLawGrows
namespace Go.Proofs.Ytlhhgapimhpgnaa.Walk
open Go Go.RowKit Kit Bk Sga Sgb Sgc Sgd Sgf Sgg Sgh Sgq
set_option linter.unusedVariables false
attribute [local go_sem ↓] lds_wrap sts_wrap eqv_wrap nev_wrap

/-- The law's three: what came in, and what is posted forth and back. -/
structure Tr (w0 : World) (n A B : Nat) (s a b : Sg) (w : World) : Prop where
  s : V w n s
  a : V w A a
  b : V w B b
  nA : n < A
  nB : n < B
  ne : A ≠ B
  n0 : w0.heap.size ≤ n
  d : Below w0.heap.size w0 w
theorem Tr.below {w0 w w' : World} {n A B : Nat} {s a b : Sg} (h : Tr w0 n A B s a b w) (hb : Below w.heap.size w w') : Tr w0 n A B s a b w' :=
  ⟨h.s.below hb, h.a.below hb, h.b.below hb, h.nA, h.nB, h.ne, h.n0, h.d.trans (hb.mono h.d.size)⟩
theorem Tr.sta {w0 w : World} {n A B : Nat} {s a b : Sg} (h : Tr w0 n A B s a b w) (u : Sg) : ∃ w', (stS (sp A) (cv u)).run Try.prog w = .ok () w' ∧ Tr w0 n A B s u b w' := by
  obtain ⟨w', h1, h2, h3, h4⟩ := h.a.st u
  have := h.nA
  have := h.n0
  exact ⟨w', h1, h.s.kept h3 (by show ¬ n = A; omega), h2, h.b.kept h3 (fun e => h.ne e.symm), h.nA, h.nB, h.ne, h.n0, h.d.trans (h3.below h.d.size (fun j e => by have e : j = A := e; omega))⟩
theorem Tr.stb {w0 w : World} {n A B : Nat} {s a b : Sg} (h : Tr w0 n A B s a b w) (u : Sg) : ∃ w', (stS (sp B) (cv u)).run Try.prog w = .ok () w' ∧ Tr w0 n A B s a u w' := by
  obtain ⟨w', h1, h2, h3, h4⟩ := h.b.st u
  have := h.nB
  have := h.n0
  exact ⟨w', h1, h.s.kept h3 (by show ¬ n = B; omega), h.a.kept h3 (fun e => h.ne e), h2, h.nA, h.nB, h.ne, h.n0, h.d.trans (h3.below h.d.size (fun j e => by have e : j = B := e; omega))⟩
/-- Two new ones, whichever is made first. -/
theorem two_new (w : World) (n : Nat) (s : Sg) (h : V w n s) (hn : w.heap.size ≤ w.heap.size) :
    V ((w.alloc (.cells zcs 25)).alloc (.cells zcs 25)).drew n s ∧ V ((w.alloc (.cells zcs 25)).alloc (.cells zcs 25)).drew w.heap.size z0 ∧ V ((w.alloc (.cells zcs 25)).alloc (.cells zcs 25)).drew (w.heap.size + 1) z0 ∧ Below w.heap.size w ((w.alloc (.cells zcs 25)).alloc (.cells zcs 25)).drew := by
  have b1 := (Below.refl w.heap.size w).alloc (Nat.le_refl _) (.cells zcs 25)
  have b2 := (Below.refl (w.alloc (.cells zcs 25)).heap.size (w.alloc (.cells zcs 25))).alloc (Nat.le_refl _) (.cells zcs 25)
  have v2 := (V.zero w).below b2
  have v3 := V.zero (w.alloc (.cells zcs 25))
  rw [World.size_alloc] at v3
  have bd := (Below.refl ((w.alloc (.cells zcs 25)).alloc (.cells zcs 25)).heap.size ((w.alloc (.cells zcs 25)).alloc (.cells zcs 25))).drew
  exact ⟨((h.below b1).below b2).below bd, v2.below bd, v3.below bd, (b1.trans (b2.mono b1.size)).drew⟩

theorem wrap_in {a : Int} (h1 : 0 ≤ a) (h2 : a < 1000) : IntKind.i64.wrap a = a := by
  rw [IntKind.wrap_i64]
  omega
def at_ (xs : List Nat) (i : Nat) : Nat := xs[i]?.getD 0
/-- Signals of the first k bytes; of the last k, from behind. -/
def fw (xs : List Nat) : Nat → List Nat
  | 0 => []
  | k + 1 => fw xs k ++ [sg (at_ xs k)]
def bw (xs : List Nat) : Nat → List Nat
  | 0 => []
  | k + 1 => bw xs k ++ [sg (at_ xs (xs.length - 1 - k))]
theorem ps_step (s : Sg) (l : List Nat) (n : Nat) : pS (ps s (toI l)) (n : Int) = ps s (toI (l ++ [n])) := by
  rw [toI_app, ps_two]
  rfl
theorem fw_step (s : Sg) (xs : List Nat) (k : Nat) : pS (ps s (toI (fw xs k))) (sg (at_ xs k) : Nat) = ps s (toI (fw xs (k + 1))) := ps_step s _ _
theorem bw_step (s : Sg) (xs : List Nat) (k : Nat) : pS (ps s (toI (bw xs k))) (sg (at_ xs (xs.length - 1 - k)) : Nat) = ps s (toI (bw xs (k + 1))) := ps_step s _ _
theorem fw_bd (xs : List Nat) : ∀ k, ∀ n ∈ fw xs k, 1 ≤ n ∧ n ≤ 15
  | 0 => fun n h => by simp [fw] at h
  | k + 1 => fun n h => by
    rcases List.mem_append.1 h with h | h
    · exact fw_bd xs k n h
    · rw [List.mem_singleton] at h; subst h; exact sg_bd _
theorem mem_fw (xs : List Nat) (n : Nat) : ∀ k, n ∈ fw xs k ↔ ∃ i, i < k ∧ n = sg (at_ xs i)
  | 0 => by simp [fw]
  | k + 1 => by
    show n ∈ fw xs k ++ [sg (at_ xs k)] ↔ _
    rw [List.mem_append, List.mem_singleton, mem_fw xs n k]
    constructor
    · rintro (⟨i, h1, h2⟩ | h)
      · exact ⟨i, by omega, h2⟩
      · exact ⟨k, by omega, h⟩
    · rintro ⟨i, h1, h2⟩
      by_cases e : i = k
      · subst e; exact .inr h2
      · exact .inl ⟨i, by omega, h2⟩
theorem mem_bw (xs : List Nat) (n : Nat) : ∀ k, n ∈ bw xs k ↔ ∃ i, i < k ∧ n = sg (at_ xs (xs.length - 1 - i))
  | 0 => by simp [bw]
  | k + 1 => by
    show n ∈ bw xs k ++ [sg (at_ xs (xs.length - 1 - k))] ↔ _
    rw [List.mem_append, List.mem_singleton, mem_bw xs n k]
    constructor
    · rintro (⟨i, h1, h2⟩ | h)
      · exact ⟨i, by omega, h2⟩
      · exact ⟨k, by omega, h⟩
    · rintro ⟨i, h1, h2⟩
      by_cases e : i = k
      · subst e; exact .inr h2
      · exact .inl ⟨i, by omega, h2⟩
theorem fw_bw (xs : List Nat) (n : Nat) : n ∈ bw xs xs.length ↔ n ∈ fw xs xs.length := by
  rw [mem_fw, mem_bw]
  constructor
  · rintro ⟨i, h1, h2⟩
    exact ⟨xs.length - 1 - i, by omega, h2⟩
  · rintro ⟨i, h1, h2⟩
    exact ⟨xs.length - 1 - i, by omega, by rw [h2]; congr 2; omega⟩

set_option maxRecDepth 100000 in
set_option maxHeartbeats 8000000 in
theorem posts_yes (s : Sg) (v : Value) (xs : List Nat) (w : World) (hs : s.Ok) (hl : Slc .u8 w v xs) (hx : ∀ x ∈ xs, x < 256) (hy : may s = true) (hlen : xs.length ≤ 40) :
    Calls Try.prog 8 #[cv s, v] w fun e w' => e = .returned (.bool true) ∧ Below w.heap.size w w' := by
  obtain ⟨v0, d0⟩ := one_box w s
  have HL := Lib.hid hl
  obtain ⟨a, c, rfl, hc1, hc2, hl4⟩ := hl
  have HX := Lib.hid (And.intro hs (And.intro hx (And.intro hy hlen)))
  have HA := Lib.hid alive_any
  have HC := Lib.hid (fun w => check_any w s hs)
  rw [ckE_yes hy] at HC
  have hlI : (xs.length : Int) ≤ 40 := by omega
  have hld : decide (40 < xs.length) = false := decide_eq_false (by omega)
  have H4 := Lib.hid hl4
  clear hc1 hc2 hl4 hs hx hy hlen
  go_enter Try.func8, Try.ntmps8
  go_wp2_with (first | (go_at_call 24; (with_reducible refine (HA.out _).mono ?_); rintro e w1 ⟨rfl, hb1⟩; have v1 := v0.below hb1; have d1 := d0.trans (hb1.mono d0.size); have l1 := v1.ld) | (go_at_call 14; (with_reducible refine (HC.out _).mono ?_); rintro e w2 ⟨rfl, hb2⟩; refine Hid.out ?_))
  refine Lib.hid ?_
  have v2 := v1.below hb2
  have d2 := d1.trans (hb2.mono d1.size)
  have H2 := Lib.hid (And.intro v2 (And.intro d2 v2.lt))
  clear v0 d0 v1 d1 l1 hb1 hb2 v2 d2
  go_wp2_with fail
  go_cut [6, 7] (fun sa sb wx => ∃ A B : Nat, sa = .pointer (some ⟨A, 0, none⟩) ∧ sb = .pointer (some ⟨B, 0, none⟩) ∧ Tr w w.heap.size A B s s s wx)
  case first =>
    obtain ⟨k1, k2, k3, k4⟩ := two_new w2 w.heap.size s H2.out.1 (Nat.le_refl _)
    have hlt := H2.out.2.2
    have T1 : Tr w w.heap.size w2.heap.size (w2.heap.size + 1) s z0 z0 _ := ⟨k1, k2, k3, hlt, by omega, by omega, Nat.le_refl _, H2.out.2.1.trans (k4.mono H2.out.2.1.size)⟩
    have T2 : Tr w w.heap.size (w2.heap.size + 1) w2.heap.size s z0 z0 _ := ⟨k1, k3, k2, by omega, hlt, by omega, Nat.le_refl _, H2.out.2.1.trans (k4.mono H2.out.2.1.size)⟩
    obtain ⟨w3, h3, T3⟩ := T1.sta s
    obtain ⟨w4, h4, T4⟩ := T3.stb s
    obtain ⟨w5, h5, T5⟩ := T2.sta s
    obtain ⟨w6, h6, T6⟩ := T5.stb s
    have l0 := (H2.out.1.below (Below.refl _ _).drew).ld
    have l1 := ((H2.out.1.below ((Below.refl _ _).alloc (Nat.le_refl _) (.cells zcs 25))).below (Below.refl _ _).drew).ld
    have l2 := k1.ld
    have l3 := T3.s.ld
    have l5 := T5.s.ld
    have HT4 := Lib.hid T4
    have HT6 := Lib.hid T6
    clear k1 k2 k3 k4 hlt T1 T2 T3 T4 T5 T6
    go_region
    all_goals go_wp2_with fail
    all_goals go_meet
    all_goals first | exact ⟨_, _, rfl, rfl, HT4.out⟩ | exact ⟨_, _, rfl, rfl, HT6.out⟩
  case rest =>
    · skip
      obtain ⟨A, B, rfl, rfl, hT⟩ := hcut
      obtain ⟨w7, hwc⟩ : ∃ u, u = wc := ⟨_, rfl⟩
      subst hwc
      have HT7 := Lib.hid hT
      clear hT
      go_wp2
      go_loopw [33] (fun i wr => ∃ k : Nat, k ≤ xs.length ∧ i = .int .i64 (k : Int) ∧ Tr w w.heap.size A B s (ps s (toI (fw xs k))) (ps s (toI (bw xs k))) wr) (fun i _ => xs.length - (intOf i).toNat)
      case atStart => exact ⟨0, Nat.zero_le _, rfl, HT7.out⟩
      case round =>
        obtain ⟨k, hk, rfl, hT⟩ := hrel
        by_cases hlt : k < xs.length
        · have hltI : (k : Int) < (xs.length : Int) := by omega
          clear hk
          rcases H4.out with h0 | ⟨bb, off, rfl, hbb, hcl⟩
          · rw [h0] at hlt; cases hlt
          have HCL := Lib.hid (And.intro hbb hcl)
          clear hbb hcl
          generalize hpa : ps s (toI (fw xs k)) = pa at *
          generalize hpb : ps s (toI (bw xs k)) = pb at *
          have hpak : pa.Ok := by rw [← hpa]; exact ps_ok HX.out.1 _
          have hpbk : pb.Ok := by rw [← hpb]; exact ps_ok HX.out.1 _
          have HPA := Lib.hid (And.intro hpa (And.intro hpb (And.intro hpak hpbk)))
          have HT := Lib.hid hT
          clear hpa hpb hpak hpbk hT
          go_wp2_with fail
          obtain ⟨x, hxe⟩ : ∃ x, at_ xs (k) = x := ⟨_, rfl⟩
          obtain ⟨q, hqe⟩ : ∃ q, sg x = q := ⟨_, rfl⟩
          have HQ := Lib.hid (And.intro hxe hqe)
          clear hxe hqe
          go_cut [] (fun wx => Tr w w.heap.size A B s (pS pa (q : Int)) pb wx)
          case first =>
            as_aux_lemma =>
              have hsg := sg_eq x
              rw [HQ.out.2] at hsg
              have hx0 : (0 : Int) ≤ (x : Int) := by omega
              have hx1 : (x : Int) < 256 := by
                have := HX.out.2.1 (at_ xs (k)) (by unfold at_; rw [List.getElem?_eq_getElem hlt]; exact List.getElem_mem hlt)
                rw [HQ.out.1] at this
                omega
              have ew1 : IntKind.i64.wrap (x : Int) = (x : Int) := wrap_in (by omega) (by omega)
              have ew2 : IntKind.i64.wrap (1 + (x : Int).tmod 15) = (q : Int) := by
                rw [Int.tmod_eq_emod_of_nonneg hx0, hsg]
                exact wrap_in (by omega) (by have := sg_bd x; rw [HQ.out.2] at this; omega)
              clear hsg
              have cc : w.cell? ⟨bb, off + (k), none⟩ = some (.int .u8 (x : Int)) := by rw [← HQ.out.1]; exact HCL.out.2 _ hlt
              have br := (Below.refl wr.heap.size wr).alloc (Nat.le_refl _) (.cells #[.int .i64 (q : Int)] 3)
              have l1 := (HT.out.below (Below.refl _ _).drew).a.ld
              have T2 := (HT.out.below br).below (Below.refl _ _).drew
              have l2 := T2.a.ld
              have c1 : wr.drew.cell? ⟨bb, off + (k), none⟩ = some (.int .u8 (x : Int)) := (((HT.out.below (Below.refl _ _).drew).d).cell (p := ⟨bb, off + (k), none⟩) HCL.out.1).trans cc
              have c2 : (wr.alloc (.cells #[.int .i64 (q : Int)] 3)).drew.cell? ⟨bb, off + (k), none⟩ = some (.int .u8 (x : Int)) := (T2.d.cell (p := ⟨bb, off + (k), none⟩) HCL.out.1).trans cc
              have HP : Hid (Calls Try.prog 20 #[cv pa, .slice (some ⟨wr.heap.size, 0, none⟩) 1 1] (wr.alloc (.cells #[.int .i64 (q : Int)] 3)).drew fun e w' => e = .returned (cv (pS pa (q : Int))) ∧ Below (wr.alloc (.cells #[.int .i64 (q : Int)] 3)).drew.heap.size (wr.alloc (.cells #[.int .i64 (q : Int)] 3)).drew w') := Lib.hid (post_all (wr.alloc (.cells #[.int .i64 (q : Int)] 3)).drew pa HPA.out.2.2.1 _ [(q : Int)] ((nr_one wr (q : Int)).below (Below.refl _ _).drew) (by simp))
              have HT2 := Lib.hid T2
              clear br T2 cc
              go_region_with (first | (go_at_call 20; (with_reducible refine HP.out.mono ?_); rintro e w8 ⟨rfl, hb8⟩; obtain ⟨w9, h9, T9⟩ := (HT2.out.below hb8).sta (pS pa q); have HT9 := Lib.hid T9; clear T9 hb8))
              all_goals go_wp2_with fail
              all_goals go_meet
              all_goals exact HT9.out
          case rest =>
            obtain ⟨w10, hwc⟩ : ∃ u, u = wc := ⟨_, rfl⟩
            subst hwc
            have HT := Lib.hid hcut
            clear hcut
            obtain ⟨q0, hq0⟩ : ∃ q0, q = q0 := ⟨_, rfl⟩
            rw [hq0] at HQ HT
            have HQ0 := HQ
            clear HQ hq0
            go_wp2_with fail
            obtain ⟨m, hm⟩ : ∃ m, xs.length - 1 - k = m := ⟨_, rfl⟩
            have hsub : ((xs.length : Int) - 1 - (k : Int)) = (m : Int) := by omega
            have hml : m < xs.length := by omega
            have HM := Lib.hid hm
            clear hm
            obtain ⟨x, hxe⟩ : ∃ x, at_ xs (m) = x := ⟨_, rfl⟩
            obtain ⟨q, hqe⟩ : ∃ q, sg x = q := ⟨_, rfl⟩
            have HQ := Lib.hid (And.intro hxe hqe)
            clear hxe hqe
            have hsg := sg_eq x
            rw [HQ.out.2] at hsg
            have hx0 : (0 : Int) ≤ (x : Int) := by omega
            have hx1 : (x : Int) < 256 := by
              have := HX.out.2.1 (at_ xs (m)) (by unfold at_; rw [List.getElem?_eq_getElem hml]; exact List.getElem_mem hml)
              rw [HQ.out.1] at this
              omega
            have ew1 : IntKind.i64.wrap (x : Int) = (x : Int) := wrap_in (by omega) (by omega)
            have ew2 : IntKind.i64.wrap (1 + (x : Int).tmod 15) = (q : Int) := by
              rw [Int.tmod_eq_emod_of_nonneg hx0, hsg]
              exact wrap_in (by omega) (by have := sg_bd x; rw [HQ.out.2] at this; omega)
            clear hsg
            have cc : w.cell? ⟨bb, off + (m), none⟩ = some (.int .u8 (x : Int)) := by rw [← HQ.out.1]; exact HCL.out.2 _ hml
            have br := (Below.refl w10.heap.size w10).alloc (Nat.le_refl _) (.cells #[.int .i64 (q : Int)] 3)
            have l1 := (HT.out.below (Below.refl _ _).drew).b.ld
            have T2 := (HT.out.below br).below (Below.refl _ _).drew
            have l2 := T2.b.ld
            have c1 : w10.drew.cell? ⟨bb, off + (m), none⟩ = some (.int .u8 (x : Int)) := (((HT.out.below (Below.refl _ _).drew).d).cell (p := ⟨bb, off + (m), none⟩) HCL.out.1).trans cc
            have c2 : (w10.alloc (.cells #[.int .i64 (q : Int)] 3)).drew.cell? ⟨bb, off + (m), none⟩ = some (.int .u8 (x : Int)) := (T2.d.cell (p := ⟨bb, off + (m), none⟩) HCL.out.1).trans cc
            have HP : Hid (Calls Try.prog 20 #[cv pb, .slice (some ⟨w10.heap.size, 0, none⟩) 1 1] (w10.alloc (.cells #[.int .i64 (q : Int)] 3)).drew fun e w' => e = .returned (cv (pS pb (q : Int))) ∧ Below (w10.alloc (.cells #[.int .i64 (q : Int)] 3)).drew.heap.size (w10.alloc (.cells #[.int .i64 (q : Int)] 3)).drew w') := Lib.hid (post_all (w10.alloc (.cells #[.int .i64 (q : Int)] 3)).drew pb HPA.out.2.2.2 _ [(q : Int)] ((nr_one w10 (q : Int)).below (Below.refl _ _).drew) (by simp))
            have HT2 := Lib.hid T2
            clear br T2 cc
            have ews1 : IntKind.i64.wrap ((xs.length : Int) - 1) = (xs.length : Int) - 1 := wrap_in (by omega) (by omega)
            have ews2 : IntKind.i64.wrap (m : Int) = (m : Int) := wrap_in (by omega) (by omega)
            have hm0 : (0 : Int) ≤ (m : Int) := by omega
            have hmI : (m : Int) < (xs.length : Int) := by omega
            have HLT := Lib.hid hlt
            clear hlt hltI
            go_region_with (first | (go_at_call 20; (with_reducible refine HP.out.mono ?_); rintro e w8 ⟨rfl, hb8⟩; obtain ⟨w9, h9, T9⟩ := (HT2.out.below hb8).stb (pS pb q); have HT9 := Lib.hid T9; clear T9 hb8))
            all_goals
              go_wp2
              go_roundw
              case rel =>
                refine ⟨k + 1, by have := HLT.out; omega, by go_num, ?_⟩
                have e1 : pS pa (q0 : Int) = ps s (toI (fw xs (k + 1))) := by
                  rw [← HPA.out.1, ← HQ0.out.2, ← HQ0.out.1]
                  exact fw_step s xs k
                have e2 : pS pb (q : Int) = ps s (toI (bw xs (k + 1))) := by
                  rw [← HPA.out.2.1, ← HQ.out.2, ← HQ.out.1, ← HM.out]
                  exact bw_step s xs k
                rw [← e1, ← e2]
                exact HT9.out
              case measure => have := HLT.out; simp [intOf]; omega
        · obtain rfl : k = xs.length := by omega
          have hab := ps_order HX.out.1 HX.out.2.2.1 (fw_bd xs xs.length) (m := bw xs xs.length) (fun n => fw_bw xs n)
          have ha0 := ps_ok HX.out.1 (toI (fw xs xs.length))
          have hb0 := ps_ok HX.out.1 (toI (bw xs xs.length))
          generalize ps s (toI (fw xs xs.length)) = a0 at *
          generalize ps s (toI (bw xs xs.length)) = b0 at *
          have HAB := Lib.hid (And.intro hab (And.intro ha0 hb0))
          have HT8 := Lib.hid hT
          clear hab ha0 hb0 hT hk hlt
          go_wp2
          go_loopw [63] (fun i wr => ∃ k : Nat, k ≤ xs.length ∧ i = .int .i64 (k : Int) ∧ Tr w w.heap.size A B s a0 (ps b0 (toI (fw xs k))) wr) (fun i _ => xs.length - (intOf i).toNat)
          case atStart => exact ⟨0, Nat.zero_le _, rfl, HT8.out⟩
          case round =>
            obtain ⟨k, hk, rfl, hT⟩ := hrel
            by_cases hlt : k < xs.length
            · have hltI : (k : Int) < (xs.length : Int) := by omega
              clear hk
              rcases H4.out with h0 | ⟨bb, off, rfl, hbb, hcl⟩
              · rw [h0] at hlt; cases hlt
              have HCL := Lib.hid (And.intro hbb hcl)
              clear hbb hcl
              generalize hpb : ps b0 (toI (fw xs k)) = pb at *
              have hpbk : pb.Ok := by rw [← hpb]; exact ps_ok HAB.out.2.2 _
              have HPA := Lib.hid (And.intro True.intro (And.intro hpb (And.intro True.intro hpbk)))
              have HT := Lib.hid hT
              clear hpb hpbk hT
              go_wp2_with fail
              obtain ⟨x, hxe⟩ : ∃ x, at_ xs (k) = x := ⟨_, rfl⟩
              obtain ⟨q, hqe⟩ : ∃ q, sg x = q := ⟨_, rfl⟩
              have HQ := Lib.hid (And.intro hxe hqe)
              clear hxe hqe
              have hsg := sg_eq x
              rw [HQ.out.2] at hsg
              have hx0 : (0 : Int) ≤ (x : Int) := by omega
              have hx1 : (x : Int) < 256 := by
                have := HX.out.2.1 (at_ xs (k)) (by unfold at_; rw [List.getElem?_eq_getElem hlt]; exact List.getElem_mem hlt)
                rw [HQ.out.1] at this
                omega
              have ew1 : IntKind.i64.wrap (x : Int) = (x : Int) := wrap_in (by omega) (by omega)
              have ew2 : IntKind.i64.wrap (1 + (x : Int).tmod 15) = (q : Int) := by
                rw [Int.tmod_eq_emod_of_nonneg hx0, hsg]
                exact wrap_in (by omega) (by have := sg_bd x; rw [HQ.out.2] at this; omega)
              clear hsg
              have cc : w.cell? ⟨bb, off + (k), none⟩ = some (.int .u8 (x : Int)) := by rw [← HQ.out.1]; exact HCL.out.2 _ hlt
              have br := (Below.refl wr.heap.size wr).alloc (Nat.le_refl _) (.cells #[.int .i64 (q : Int)] 3)
              have l1 := (HT.out.below (Below.refl _ _).drew).b.ld
              have T2 := (HT.out.below br).below (Below.refl _ _).drew
              have l2 := T2.b.ld
              have c1 : wr.drew.cell? ⟨bb, off + (k), none⟩ = some (.int .u8 (x : Int)) := (((HT.out.below (Below.refl _ _).drew).d).cell (p := ⟨bb, off + (k), none⟩) HCL.out.1).trans cc
              have c2 : (wr.alloc (.cells #[.int .i64 (q : Int)] 3)).drew.cell? ⟨bb, off + (k), none⟩ = some (.int .u8 (x : Int)) := (T2.d.cell (p := ⟨bb, off + (k), none⟩) HCL.out.1).trans cc
              have HP : Hid (Calls Try.prog 20 #[cv pb, .slice (some ⟨wr.heap.size, 0, none⟩) 1 1] (wr.alloc (.cells #[.int .i64 (q : Int)] 3)).drew fun e w' => e = .returned (cv (pS pb (q : Int))) ∧ Below (wr.alloc (.cells #[.int .i64 (q : Int)] 3)).drew.heap.size (wr.alloc (.cells #[.int .i64 (q : Int)] 3)).drew w') := Lib.hid (post_all (wr.alloc (.cells #[.int .i64 (q : Int)] 3)).drew pb HPA.out.2.2.2 _ [(q : Int)] ((nr_one wr (q : Int)).below (Below.refl _ _).drew) (by simp))
              have HT2 := Lib.hid T2
              clear br T2 cc
              go_region_with (first | (go_at_call 20; (with_reducible refine HP.out.mono ?_); rintro e w8 ⟨rfl, hb8⟩; obtain ⟨w9, h9, T9⟩ := (HT2.out.below hb8).stb (pS pb q); have HT9 := Lib.hid T9; clear T9 hb8))
              all_goals
                go_wp2
                go_roundw
                case rel =>
                  refine ⟨k + 1, by omega, by go_num, ?_⟩
                  have e2 : pS pb (q : Int) = ps b0 (toI (fw xs (k + 1))) := by
                    rw [← HPA.out.2.1, ← HQ.out.2, ← HQ.out.1]
                    exact fw_step b0 xs k
                  rw [← e2]
                  exact HT9.out
                case measure => simp [intOf]; omega
            · obtain rfl : k = xs.length := by omega
              rw [← HAB.out.1] at hT
              have HT := Lib.hid hT
              clear hT hk hlt HT8 HT7
              have HF := Lib.hid (fun w => fork_any w s)
              have hfk : (setP s 0).Ok := Ok.setP HX.out.1 (by decide)
              have hfm := may_none HX.out.2.2.1
              have hnx := next_zero hfk hfm rfl
              have HN := Lib.hid (fun w => next_any w (setP s 0) hfk)
              rw [hnx.1, hnx.2.1, hnx.2.2] at HN
              replace HN : Hid (∀ w, Calls Try.prog 19 #[cv (setP s 0)] w fun e w' => e = .returned (.tuple #[.int .i64 0, .int .i64 0, cv (setP s 0)]) ∧ Below w.heap.size w w') := HN
              have hback : setP (setP s 0) s.p = s := rfl
              have hfp : (setP s 0).p = 0 := rfl
              have hpb2 := ps_back HX.out.1 HX.out.2.2.1
              have hE1 := fun w => run_eqV HAB.out.2.1 HAB.out.2.1 w
              have hE2 := fun w => run_eqV HX.out.1 HX.out.1 w
              have hE3 := fun w => run_eqV hfk hfk w
              rw [eqS_self] at hE1 hE2 hE3
              have HS := Lib.hid (And.intro hback (And.intro hfp (And.intro hpb2 hfk)))
              clear hback hfp hpb2 hfk hfm hnx
              generalize setP s 0 = f at *
              have l1 := HT.out.s.ld
              go_wp2_with (first | (go_at_call 25; (with_reducible refine (HF.out _).mono ?_); rintro e w11 ⟨rfl, hb11⟩; refine Hid.out ?_))
              refine Lib.hid ?_
              have T11 := HT.out.below hb11
              obtain ⟨w12, h12, vf12, d12, s12⟩ := V.made w11 f
              have T12 := T11.below d12
              have lf12 := vf12.ld
              obtain ⟨w13, h13, vm13, d13, s13⟩ := V.made w12 f
              have T13 := T12.below d13
              have vf13 := vf12.below d13
              have p13 := T13.s.p0
              have pm13 := vm13.p0
              have fm13 := vm13.free 0
              have vm14 := vm13.setp s.p
              rw [HS.out.1] at vm14
              have hl13 := T13.s.lt
              have hnw := T12.s.lt
              have hA := T12.a.lt
              have hB := T12.b.lt
              have hF := vf12.lt
              have T14 : Tr w w.heap.size A B s a0 a0 (w13.setCell ⟨w12.heap.size, 0, none⟩ (uv s.p)) := ⟨Blk.other T13.s _ _ _ (by omega), Blk.other T13.a _ _ _ (by omega), Blk.other T13.b _ _ _ (by omega), T13.nA, T13.nB, T13.ne, T13.n0, T13.d.setCell (p := ⟨w12.heap.size, 0, none⟩) (by show w.heap.size ≤ w12.heap.size; omega) _⟩
              have vf14 : V (w13.setCell ⟨w12.heap.size, 0, none⟩ (uv s.p)) w11.heap.size f := Blk.other vf13 _ _ _ (by omega)
              obtain ⟨w14, hw14⟩ : ∃ w14, w13.setCell ⟨w12.heap.size, 0, none⟩ (uv s.p) = w14 := ⟨_, rfl⟩
              rw [hw14] at vm14 T14 vf14
              have lf14 := vf14.ld
              have H14 := Lib.hid (And.intro T14 (And.intro vf14 vm14))
              clear T11 T12 vf12 d12 s12 vm13 d13 s13 T13 vf13 hl13 hnw hA hB hF T14 vf14 vm14 hb11 l1
              go_wp2_with (first | (go_at_call 19; (with_reducible refine (HN.out _).mono ?_); rintro e w15 ⟨rfl, hb15⟩; refine Hid.out ?_))
              refine Lib.hid ?_
              have T15 := H14.out.1.below hb15
              have vf15 := H14.out.2.1.below hb15
              have vm15 := H14.out.2.2.below hb15
              obtain ⟨w16, h16, vg16, d16, s16⟩ := V.made w15 f
              have T16 := T15.below d16
              have vf16 := vf15.below d16
              have vm16 := vm15.below d16
              have HK : Hid (∀ X, Below w16.heap.size w16 X → (ldS (sp A)).run Try.prog X = .ok (cv a0) X ∧ (ldS (sp B)).run Try.prog X = .ok (cv a0) X ∧ X.cell? ⟨w11.heap.size, 0, none⟩ = some (.int .u32 0) ∧ (ldS (sp w12.heap.size)).run Try.prog X = .ok (cv s) X ∧ (ldS (sp w.heap.size)).run Try.prog X = .ok (cv s) X ∧ (ldS (sp w15.heap.size)).run Try.prog X = .ok (cv f) X ∧ (ldS (sp w11.heap.size)).run Try.prog X = .ok (cv f) X ∧ X.cell? ⟨w.heap.size, 0, none⟩ = some (uv s.p)) := Lib.hid (fun X hb => ⟨(T16.below hb).a.ld, (T16.below hb).b.ld, (by have := (vf16.below hb).p0; rw [HS.out.2.1] at this; exact this), (vm16.below hb).ld, (T16.below hb).s.ld, (vg16.below hb).ld, (vf16.below hb).ld, (T16.below hb).s.p0⟩)
              have HD := Lib.hid T16.d
              have HLs := Lib.hid (fun w => list_any w s.p HX.out.1.p)
              have HPo : Hid (∀ W u, W.ownsRow 0 3 1 u (sgs s.p 15).length (ints (sgs s.p 15)) → Calls Try.prog 20 #[cv f, u] W fun e w' => e = .returned (cv s) ∧ Below W.heap.size W w') := Lib.hid (fun W u ho => by
                have := post_all W f HS.out.2.2.2 u (toI (sgs s.p 15)) (nr_own ho) (by rw [toI_len]; have := sgs_len s.p 15; omega)
                rw [HS.out.2.2.1] at this
                exact this)
              have B0 := (Below.refl w16.heap.size w16).drew
              clear T15 vf15 vm15 vg16 d16 s16 T16 vf16 vm16 hb15 h12 h13 p13 pm13 fm13 lf12 lf14 hw14
              generalize sgs s.p 15 = sl at *
              go_wp2_with fail
              go_region_held (fun X => (ldS (sp A)).run Try.prog X = .ok (cv a0) X ∧ (ldS (sp B)).run Try.prog X = .ok (cv a0) X ∧ X.cell? ⟨w11.heap.size, 0, none⟩ = some (.int .u32 0) ∧ (ldS (sp w12.heap.size)).run Try.prog X = .ok (cv s) X ∧ (ldS (sp w.heap.size)).run Try.prog X = .ok (cv s) X ∧ (ldS (sp w15.heap.size)).run Try.prog X = .ok (cv f) X ∧ (ldS (sp w11.heap.size)).run Try.prog X = .ok (cv f) X ∧ X.cell? ⟨w.heap.size, 0, none⟩ = some (uv s.p)) (first | exact HK.out _ B2.out | exact HK.out _ B1.out | exact HK.out _ B0) (first | (go_at_call 12; (with_reducible refine (HLs.out _).mono ?_); rintro e w17 ⟨hb17, u, rfl, ho⟩; have B1 := Lib.hid (B0.trans hb17); have HO := Lib.hid (Kit.own_base ho (Nat.zero_le _)); clear ho hb17) | (go_at_call 20; (with_reducible refine (HPo.out _ _ HO.out).mono ?_); rintro e w18 ⟨rfl, hb18⟩; have B2 := Lib.hid (B1.out.trans (hb18.mono B1.out.size)); clear hb18))
              all_goals
                go_wp2
                go_ret
                exact ⟨rfl, HD.out.trans (B2.out.mono HD.out.size)⟩

set_option maxRecDepth 100000 in
set_option maxHeartbeats 4000000 in
theorem posts_no (s : Sg) (v : Value) (xs : List Nat) (w : World) (hs : s.Ok) (hl : Slc .u8 w v xs) (hy : may s = true → 40 < xs.length) :
    Calls Try.prog 8 #[cv s, v] w fun e w' => e = .returned (.bool true) ∧ Below w.heap.size w w' := by
  obtain ⟨v0, d0⟩ := one_box w s
  obtain ⟨a, c, rfl, hc1, hc2, hl4⟩ := hl
  have HA := Lib.hid alive_any
  have HC := Lib.hid (fun w => check_any w s hs)
  have hlm : xs.length ≤ maxLen := by omega
  unfold maxLen at hlm
  clear hc1 hc2 hl4 hs
  cases hm : may s
  · rw [ckE_no hm] at HC
    clear hy hm hlm
    go_enter Try.func8, Try.ntmps8
    go_wp2_with (first | (go_at_call 24; (with_reducible refine (HA.out _).mono ?_); rintro e w1 ⟨rfl, hb1⟩; have v1 := v0.below hb1; have d1 := d0.trans (hb1.mono d0.size); have l1 := v1.ld) | (go_at_call 14; (with_reducible refine (HC.out _).mono ?_); rintro e w2 ⟨rfl, hb2⟩; have d2 := d1.trans (hb2.mono d1.size); clear hb2))
    go_ret
    exact ⟨rfl, d2⟩
  · rw [ckE_yes hm] at HC
    have hlt := hy hm
    have hd : decide (40 < xs.length) = true := decide_eq_true hlt
    have hd2 : decide ((40 : Int) < (xs.length : Int)) = true := decide_eq_true (by omega)
    clear hy hm hlm hlt
    go_enter Try.func8, Try.ntmps8
    go_wp2_with (first | (go_at_call 24; (with_reducible refine (HA.out _).mono ?_); rintro e w1 ⟨rfl, hb1⟩; have v1 := v0.below hb1; have d1 := d0.trans (hb1.mono d0.size); have l1 := v1.ld) | (go_at_call 14; (with_reducible refine (HC.out _).mono ?_); rintro e w2 ⟨rfl, hb2⟩; have d2 := d1.trans (hb2.mono d1.size); clear hb2))
    go_ret
    exact ⟨rfl, d2⟩
theorem signalPosts (s : Sg) (a : Option Addr) (len cap : Nat) (z : List Int) (w : World) (hs : s.Ok) (hz : IsRow .u8 w a len cap z) :
    Calls Try.prog 8 #[cv s, .slice a len cap] w fun e w' => e = .returned (.bool true) ∧ Below w.heap.size w w' := by
  obtain ⟨xs, h1, h2, h3⟩ := hz.slc nn_u8
  have hx : ∀ x ∈ xs, x < 256 := fun x hx => by
    have := h3 x hx
    have hx : 0 ≤ (x : Int) ∧ (x : Int) ≤ 255 := by simpa [Lit.wf, IntKind.min, IntKind.max, IntKind.signed, IntKind.bits] using this
    omega
  by_cases hy : may s = true ∧ xs.length ≤ 40
  · exact posts_yes s _ xs w hs h2 hx hy.1 hy.2
  · exact posts_no s _ xs w hs h2 (fun h => Nat.lt_of_not_le fun h4 => hy ⟨h, h4⟩)
end Go.Proofs.Ytlhhgapimhpgnaa.Walk
