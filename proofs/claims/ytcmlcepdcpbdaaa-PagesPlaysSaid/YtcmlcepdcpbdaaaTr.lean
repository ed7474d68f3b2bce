/-
  Hole of a table of pages.
-/
import Derived.Test.YtcmlcepdcpbdaaaTd
namespace Go.Proofs.Ytcmlcepdcpbdaaa.Tr
open Go Go.RowKit Go.Shelf Kit Bk Tm Ts Tc Ti Td
set_option linter.unusedVariables false

attribute [local go_sem] Oper.semAt_some

set_option maxRecDepth 100000 in
set_option maxHeartbeats 2000000 in
theorem hole_in (n : Nat) (hn : 4 ≤ n) (p : Nat) (T : Nat → Option En) (w : World) (hM : Gets w.heap.size w (.pointer (some ⟨p, 0, none⟩)) T) (m : Nat) (hm : 1 ≤ m) (hmx : (m : Int) ≤ 9223372036854775807) :
    CallsIn Fence.wide n Try.prog 22 #[.pointer (some ⟨p, 0, none⟩), .int .i64 (m : Int)] w fun e w' => (∃ a b, e = .returned (.tuple #[.int .i64 a, .bool b]) ∧ HoleIs T (m : Int) a b) ∧ Below w.heap.size w w' := by
  have dm : decide ((m : Int) < 1) = false := decide_eq_false (by omega)
  refine callsIn_of_wp_marks Try.func22 rfl trivial ?_ rfl
  simp only [Try.ntmps22, List.size_toArray, List.length_cons, List.length_nil, Nat.reduceAdd, Nat.reduceSub, Array.replicate_succ, Array.replicate_zero, List.push_toArray, List.append_toArray, List.nil_append, List.cons_append]
  gi_wp2_with (first | (refine ⟨trivial, fun _ => (by omega), ?_⟩; gi_at_call 37; refine (entries_in (n - 1) (some ⟨p, 0, none⟩) _).mono ?_; rintro e w' ⟨rfl, rfl⟩))
  have bN := ((Boxed.new w 3 (.int .i64 (m : Int))).alloc (.cells #[.int .i64 0] 3)).alloc (.cells #[.pointer (some ⟨p, 0, none⟩)] 23)
  have bL := (Boxed.new (w.alloc (.cells #[.int .i64 (m : Int)] 3)) 3 (.int .i64 0)).alloc (.cells #[.pointer (some ⟨p, 0, none⟩)] 23)
  have bP := Boxed.new ((w.alloc (.cells #[.int .i64 (m : Int)] 3)).alloc (.cells #[.int .i64 0] 3)) 23 (.pointer (some ⟨p, 0, none⟩))
  have hB0 := ((((Below.refl w.heap.size w).alloc (Nat.le_refl _) (.cells #[.int .i64 (m : Int)] 3))).alloc (by simp) (.cells #[.int .i64 0] 3)).alloc (by simp; omega) (.cells #[.pointer (some ⟨p, 0, none⟩)] 23)
  have hsz : (((w.alloc (.cells #[.int .i64 (m : Int)] 3)).alloc (.cells #[.int .i64 0] 3)).alloc (.cells #[.pointer (some ⟨p, 0, none⟩)] 23)).heap.size = w.heap.size + 3 := by simp
  simp only [World.size_alloc] at bP bL
  obtain ⟨W0, hW0⟩ : ∃ W0, ((w.alloc (.cells #[.int .i64 (m : Int)] 3)).alloc (.cells #[.int .i64 0] 3)).alloc (.cells #[.pointer (some ⟨p, 0, none⟩)] 23) = W0 := ⟨_, rfl⟩
  rw [hW0] at bN bL bP hB0 hsz ⊢
  clear hW0
  have hM0 := hM.low hB0
  refine wpIn_rangeFunc_ownH rfl (by omega) (gf := 41) (lb := #[.pointer (some ⟨w.heap.size + 1 + 1, 0, none⟩)]) rfl trivial (enters_of Try.func41 (by kernel_rfl) rfl)
    (entries_stops (n - 1) (by omega) (w.heap.size + 1 + 1) w.heap.size (.pointer (some ⟨p, 0, none⟩)) T encp encp_of W0 (by omega) hM0 bP) Kq.trans (Kq.put (by omega)) (Below.refl _ _) (fun _ => rfl)
    (fun pre W => (((Boxed W w.heap.size 3 (.int .i64 (m : Int)) ∧ Boxed W (w.heap.size + 1) 3 (.int .i64 (fr pre : Int))) ∧ gap (m : Int) pre) ∧ Boxed W (w.heap.size + 1 + 1) 23 (.pointer (some ⟨p, 0, none⟩))) ∧ Below w.heap.size w W)
    (fun c pre W => ((∃ f, Boxed W w.heap.size 3 (.int .i64 (m : Int)) ∧ Boxed W (w.heap.size + 1) 3 (.int .i64 (f : Int)) ∧ c = .exit 0 ∧ ∃ ini x, pre = ini ++ [x] ∧ f = fr ini ∧ gap (m : Int) ini ∧ (m : Int) ≤ (pg x : Int) - (fr ini : Int))) ∧ Below w.heap.size w W)
    (OwnFrom.and (OwnFrom.and (OwnFrom.and (OwnFrom.and (Own.from (boxed_own _ _ (fun (pre : List (Nat × En)) => Value.int .i64 (m : Int))) _) (Own.from (boxed_own _ _ (fun (pre : List (Nat × En)) => Value.int .i64 (fr pre : Int))) _)) (ownFrom_pure _ _)) (Own.from (boxed_own _ _ _) _)) (ownFrom_below (Nat.le_refl _) (by omega)))
    (fun c => OwnFrom.and (fun s X Y row ⟨f, h1, h2, h3⟩ hg hr => ⟨f, Own.from (boxed_own _ _ (fun (_ : Unit) => Value.int .i64 (m : Int))) _ () X Y row h1 hg hr, Own.from (boxed_own _ _ (fun (_ : Unit) => Value.int .i64 (f : Int))) _ () X Y row h2 hg hr, h3⟩) (ownFrom_below (Nat.le_refl _) (by omega)))
    ⟨⟨⟨⟨bN, bL⟩, gap_nil _⟩, by simpa using bP⟩, hB0⟩
    (fun x a' W => a' = { tmps := #[.pointer (some ⟨p, 0, none⟩), .int .i64 (m : Int), undef, .pointer (some ⟨w.heap.size, 0, none⟩), .int .i64 0, .bool false, .pointer (some ⟨w.heap.size + 1, 0, none⟩), .int .i64 (pg x : Int), .pointer (some ⟨p, 0, none⟩), .bool false, .bool false, .int .i64 (m : Int), .bool false, .bool false, .pointer (some ⟨p, 0, none⟩), .func (.func 41) #[] #[.pointer (some ⟨w.heap.size + 1 + 1, 0, none⟩)], .int .i64 (pg x : Int), ev x.2, undef, undef, undef, undef, undef, undef, undef, undef, undef, undef, undef, undef], defers := [] })
    (fun x a' => ownFrom_pure _ (fun _ : Unit => _))
    ?assign ?body ?done ?stop
  case assign =>
    rintro l pre x W K hI hK
    dsimp only [encp]
    gi_wp2
    exact hK _ _ ((KeepsOthers.refl _).from _) (Kq.refl _ _ _) hI (by simp)
  case body =>
    rintro l pre x a' W hl ⟨rr, hr⟩ ⟨⟨⟨⟨hN, hL⟩, hgp⟩, hP⟩, hB⟩ rfl hlt
    have cN := hN.cell
    have cL := hL.cell
    have fL := hL.frozen
    have hsW := hB.size
    have hpg := pg_le x
    have hfl := fr_le pre
    have hfa := fr_app pre x
    have hga := gap_app (m : Int) pre x
    by_cases he : (m : Int) ≤ (pg x : Int) - (fr pre : Int)
    · have HX : Hid (gap (m : Int) pre ∧ (m : Int) ≤ (pg x : Int) - (fr pre : Int)) := Lib.hid ⟨hgp, he⟩
      have hd : decide ((m : Int) ≤ (pg x : Int) - (fr pre : Int)) = true := decide_eq_true he
      have HBo := Lib.hid (And.intro hN hL)
      have HB := Lib.hid hB
      obtain ⟨k, hk⟩ : ∃ k : Int, (pg x : Int) = k := ⟨_, rfl⟩
      obtain ⟨f, hf⟩ : ∃ f : Int, (fr pre : Int) = f := ⟨_, rfl⟩
      have hk0 : 0 ≤ k := by omega
      have hk1 : k ≤ 63 := by omega
      have hf0 : 0 ≤ f := by omega
      have hf1 : f ≤ 64 := by omega
      rw [hk, hf] at hd
      rw [hf] at cL
      rw [hk]
      clear hgp he hga hfa hpg hfl hk hf hN hL hP hB hlt
      gi_wp2
      exact ⟨(KeepsOthers.refl _).from _, ⟨_, HBo.out.1, HBo.out.2, rfl, pre, x, rfl, rfl, HX.out.1, HX.out.2⟩, HB.out⟩
    · have HX : Hid (gap (m : Int) (pre ++ [x])) := Lib.hid (hga.2 ⟨hgp, he⟩)
      have hd : decide ((m : Int) ≤ (pg x : Int) - (fr pre : Int)) = false := decide_eq_false he
      have HBo := Lib.hid (And.intro hN (And.intro hL hP))
      have HB := Lib.hid hB
      have HF : Hid ((fr (pre ++ [x]) : Int) = (pg x : Int) + 1) := Lib.hid (by rw [hfa]; omega)
      obtain ⟨k, hk⟩ : ∃ k : Int, (pg x : Int) = k := ⟨_, rfl⟩
      obtain ⟨f, hf⟩ : ∃ f : Int, (fr pre : Int) = f := ⟨_, rfl⟩
      have hk0 : 0 ≤ k := by omega
      have hk1 : k ≤ 63 := by omega
      have hf0 : 0 ≤ f := by omega
      have hf1 : f ≤ 64 := by omega
      rw [hk, hf] at hd
      rw [hf] at cL
      rw [hk] at HF ⊢
      clear hgp he hga hfa hpg hfl hk hf hN hL hP hB hlt
      gi_wp2
      exact ⟨(KeepsOthers.setCell _ _ _).from _, ⟨(Below.refl _ _).setCell (p := ⟨w.heap.size + 1, 0, none⟩) (by simp) _, fun v hv => hv.other (by omega) _⟩, ⟨⟨⟨HBo.out.1.other (by omega) _, by rw [HF.out]; exact HBo.out.2.1.set _⟩, HX.out⟩, HBo.out.2.2.other (by omega) _⟩, HB.out.setCell (p := ⟨w.heap.size + 1, 0, none⟩) (by simp) _⟩
  case done =>
    rintro D ys W hD rfl ⟨⟨⟨⟨hN, hL⟩, hgp⟩, hP⟩, hB⟩ hK
    have cN := hN.cell
    have cL := hL.cell
    have hh := hole_done hm hgp
    have hfl := fr_le (ents T 64)
    have HBl := Lib.hid (hB.trans (belowK_b (w := w) (Nat.le_refl _) W D _ (.deferred none) (by omega) hK rfl rfl))
    by_cases he : fr (ents T 64) + m ≤ 64
    · rw [if_pos he, decide_eq_true he] at hh
      have HH := Lib.hid hh
      obtain ⟨f, hf⟩ : ∃ f : Int, (fr (ents T 64) : Int) = f := ⟨_, rfl⟩
      have hf0 : 0 ≤ f := by omega
      have hf1 : f ≤ 64 := by omega
      have hd : decide (64 - f < (m : Int)) = false := decide_eq_false (by omega)
      rw [hf] at HH cL
      clear hh hf hfl hgp hN hL hP hB he
      gi_wp2
      refine ⟨by simp, .inl ⟨_, _, rfl, run_takeDeferred hK, ?_⟩⟩
      refine ⟨.tuple #[.int .i64 f, .bool true], ?_, ⟨f, true, rfl, HH.out⟩, HBl.out⟩
      simp [results, go_sem]
    · rw [if_neg he, decide_eq_false he] at hh
      have HH := Lib.hid hh
      obtain ⟨f, hf⟩ : ∃ f : Int, (fr (ents T 64) : Int) = f := ⟨_, rfl⟩
      have hf0 : 0 ≤ f := by omega
      have hf1 : f ≤ 64 := by omega
      have hd : decide (64 - f < (m : Int)) = true := decide_eq_true (by omega)
      rw [hf] at cL
      clear hh hf hfl hgp hN hL hP hB he
      gi_wp2
      refine ⟨by simp, .inl ⟨_, _, rfl, run_takeDeferred hK, ?_⟩⟩
      refine ⟨.tuple #[.int .i64 0, .bool false], ?_, ⟨0, false, rfl, HH.out⟩, HBl.out⟩
      simp [results, go_sem]
  case stop =>
    rintro D c pre W hD ⟨k, hk, hpre⟩ ⟨⟨f, hN, hL, rfl, ini, x, rfl, rfl, hgp, hx⟩, hB⟩ hK
    have cN := hN.cell
    have cL := hL.cell
    obtain ⟨hh, hle⟩ := hole_stop hm hk hpre hgp hx
    have HBl := Lib.hid (hB.trans (belowK_b (w := w) (Nat.le_refl _) W D _ (.deferred none) (by omega) hK rfl rfl))
    have HH := Lib.hid hh
    obtain ⟨f, hf⟩ : ∃ f : Int, (fr ini : Int) = f := ⟨_, rfl⟩
    have hf0 : 0 ≤ f := by omega
    have hf1 : f ≤ 64 := by omega
    have hd : decide (64 - f < (m : Int)) = false := decide_eq_false (by omega)
    rw [hf] at HH cL
    clear hh hf hgp hN hL hB hx hpre hle
    gi_wp2
    refine ⟨by simp, .inl ⟨_, _, rfl, run_takeDeferred hK, ?_⟩⟩
    refine ⟨.tuple #[.int .i64 f, .bool true], ?_, ⟨f, true, rfl, HH.out⟩, HBl.out⟩
    simp [results, go_sem]
theorem hole_nil (w : World) (i : Int) :
    Calls Try.prog 22 #[.pointer none, .int .i64 i] w fun e w' => e = .returned (.tuple #[.int .i64 0, .bool false]) ∧ Below w.heap.size w w' := by
  go_enter Try.func22, Try.ntmps22
  go_wp2
  go_ret2
  exact ⟨rfl, (Below.refl _ _).alloc (Nat.le_refl _) _⟩
theorem hole_few (w : World) (p : Nat) (i : Int) (hi : i < 1) :
    Calls Try.prog 22 #[.pointer (some ⟨p, 0, none⟩), .int .i64 i] w fun e w' => e = .returned (.tuple #[.int .i64 0, .bool false]) ∧ Below w.heap.size w w' := by
  have d : decide (i < 1) = true := decide_eq_true hi
  clear hi
  go_enter Try.func22, Try.ntmps22
  go_wp2
  go_ret2
  exact ⟨rfl, (Below.refl _ _).alloc (Nat.le_refl _) _⟩
theorem hole_any (w : World) (p : Nat) (T : Nat → Option En) (hM : Gets w.heap.size w (.pointer (some ⟨p, 0, none⟩)) T) (i : Int) (hi : i ≤ 9223372036854775807) :
    Calls Try.prog 22 #[.pointer (some ⟨p, 0, none⟩), .int .i64 i] w fun e w' => (∃ a b, e = .returned (.tuple #[.int .i64 a, .bool b]) ∧ HoleIs T i a b) ∧ Below w.heap.size w w' := by
  by_cases h : i < 1
  · exact (hole_few w p i h).mono fun e w' ⟨h1, h2⟩ => ⟨⟨0, false, h1, .inr ⟨rfl, rfl, .inl h⟩⟩, h2⟩
  · obtain ⟨m, rfl⟩ := Int.eq_ofNat_of_zero_le (show 0 ≤ i by omega)
    exact (callsIn_wide (n := 4)).1 (hole_in 4 (Nat.le_refl _) p T w hM m (by omega) hi)
end Go.Proofs.Ytcmlcepdcpbdaaa.Tr
