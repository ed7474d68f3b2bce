/-
  children: what the iterator tells, for whatever loop body.
-/
import Derived.Test.YtkjcjodhpcfjiaaTee
namespace Go.Proofs.Ytkjcjodhpcfjiaa.Tef
open Go Go.RowKit Go.Shelf Kit Bk Tea Teb Tec Ted Tee
set_option linter.unusedVariables false
attribute [local go_sem] Oper.semAt_some

/-- The children; how many are among the first i. -/
def kl (L : St) (p : Int) : St := L.filter fun x => x.2.par == p
def kc (L : St) (p : Int) (i : Nat) : Nat := (kl (L.take i) p).length
theorem kids_kl (L : St) (p : Int) : kids L p = pids (kl L p) := rfl
theorem kc_zero (L : St) (p : Int) : kc L p 0 = 0 := rfl
theorem kc_all (L : St) (p : Int) : kc L p L.length = (kl L p).length := by unfold kc; rw [List.take_length]
theorem kl_app (A C : St) (p : Int) : kl (A ++ C) p = kl A p ++ kl C p := by simp [kl]
theorem kc_no {L : St} {p : Int} {i : Nat} (hi : i < L.length) (h : (rc L i).par ≠ p) : kc L p (i + 1) = kc L p i := by
  unfold kc
  rw [List.take_succ_eq_append_getElem hi, kl_app]
  rw [rc_at hi] at h
  have : kl [L[i]] p = [] := by
    unfold kl
    rw [List.filter_cons, if_neg (by simpa using h)]
    rfl
  rw [this, List.append_nil]
theorem kc_yes {L : St} {p : Int} {i : Nat} (hi : i < L.length) (h : (rc L i).par = p) : kc L p (i + 1) = kc L p i + 1 ∧ kc L p i < (kl L p).length ∧ pd (kl L p) (kc L p i) = pd L i ∧ rc (kl L p) (kc L p i) = rc L i := by
  have h' := h
  rw [rc_at hi] at h'
  have h1 : kl [L[i]] p = [L[i]] := by
    unfold kl
    rw [List.filter_cons, if_pos (by simpa using h')]
    rfl
  have hsp : kl L p = kl (L.take i) p ++ L[i] :: kl (L.drop (i + 1)) p := by
    have e : L = L.take i ++ ([L[i]] ++ L.drop (i + 1)) := by
      rw [List.singleton_append, ← List.drop_eq_getElem_cons hi, List.take_append_drop]
    have e2 := congrArg (fun M => kl M p) e
    simp only [kl_app, h1] at e2
    simpa using e2
  have hg : (kl L p)[kc L p i]? = some L[i] := by
    unfold kc
    rw [hsp, List.getElem?_append_right (Nat.le_refl _)]
    simp
  refine ⟨?_, ?_, ?_, ?_⟩
  · unfold kc
    rw [List.take_succ_eq_append_getElem hi, kl_app, h1]
    simp
  · exact (List.getElem?_eq_some_iff.1 hg).1
  · unfold pd
    rw [hg, List.getElem?_eq_getElem hi]
  · unfold rc
    rw [hg, List.getElem?_eq_getElem hi]
/-- What the iterator needs of the worlds meanwhile. -/
def Ec (q b : Nat) (L : St) (p : Int) (c : Nat) (X : World) : Prop := ∀ i, kc L p i = c → Er q b L i X
theorem Boxed.kz {B0 : Nat} {X Y : World} {g : Nat} {T : TypeId} {v : Value} (h : Boxed X g T v) (hk : Kz B0 X Y) : Boxed Y g T v := (hk.block g h.lt (.inr ⟨_, _, _, h⟩)).trans h
/-- A box that no round turns. -/
def Bx (P : Nat → Prop) (b : Nat) (X : World) (g : Nat) (T : TypeId) (v : Value) : Prop := Boxed X g T v ∧ ¬ Mine P b X g
theorem Bx.kz {P : Nat → Prop} {b : Nat} {B0 : Nat} {X Y : World} {g : Nat} {T : TypeId} {v : Value} (h : Bx P b X g T v) (hk : Kz B0 X Y) (hP : ∀ k, P k → k < B0 ∧ k < X.heap.size) : Bx P b Y g T v :=
  ⟨Boxed.kz h.1 hk, fun e => h.2 ((Mine.same (fun g hg => hk.block g (hP g hg).2 (.inl (hP g hg).1))).1 e)⟩
theorem Bx.stay {P : Nat → Prop} {b : Nat} {X Y : World} {g : Nat} {T : TypeId} {v : Value} (h : Bx P b X g T v) (hs : Stay P b X Y) : Bx P b Y g T v := hs g _ _ _ h.1 h.2

set_option maxRecDepth 100000 in
set_option maxHeartbeats 4000000 in
theorem children_tells {B : Nat} {W : World} {q b : Nat} {v : Value} {rm : Nat} {L : St} {S : List Bool} (h : Tb B W q b v rm L S) (ho : Up L) (hl : L.length ≤ 90000) {P : Nat → Prop} {Bt Bp : Nat} {p : Int} (hBt : Boxed W Bt 22 (pv q)) (hBp : Boxed W Bp 3 (.int .i64 p)) (hM : ∀ k, Mine P b W k → k < W.heap.size ∧ k ≠ Bt ∧ k ≠ Bp) :
    Tells P b 40 #[.pointer (some ⟨Bt, 0, none⟩), .pointer (some ⟨Bp, 0, none⟩)] (kl L p).length (fun i => #[.int .i64 (pd (kl L p) i), rv (rc (kl L p) i)]) (Ec q b L p) W := by
  intro l J Jx hJ hJx hE hY h0
  have hcB := (hBt.alloc (.cells #[.func (.yield l) #[] #[]] 76)).cell
  refine callsIn_of_wp_marks Try.func40 rfl trivial ?_ rfl
  simp only [Try.ntmps40, List.size_toArray, List.length_cons, List.length_nil, Nat.reduceAdd, Nat.reduceSub, Array.replicate_succ, Array.replicate_zero, List.push_toArray, List.append_toArray, List.nil_append, List.cons_append]
  gi_wp2_with (first | (refine ⟨trivial, ?_⟩; gi_at_call 38; refine (rising_in _ _ _).mono ?_; rintro e w' ⟨rfl, rfl⟩) | (refine ⟨trivial, fun _ => (by omega), ?_⟩; gi_at_call 38; refine (rising_in _ _ _).mono ?_; rintro e w' ⟨rfl, rfl⟩))
  have b1 := (Below.refl W.heap.size W).alloc (Nat.le_refl _) (.cells #[.func (.yield l) #[] #[]] 76)
  have hB0 := b1.alloc b1.size (.cells #[pv q] 22)
  have bY := (Boxed.new W 76 (.func (.yield l) #[] #[])).alloc (.cells #[pv q] 22)
  have bI := Boxed.new (W.alloc (.cells #[.func (.yield l) #[] #[]] 76)) 22 (pv q)
  have hsz : ((W.alloc (.cells #[.func (.yield l) #[] #[]] 76)).alloc (.cells #[pv q] 22)).heap.size = W.heap.size + 2 := by simp
  simp only [World.size_alloc] at bI
  obtain ⟨W0, hW0⟩ : ∃ W0, (W.alloc (.cells #[.func (.yield l) #[] #[]] 76)).alloc (.cells #[pv q] 22) = W0 := ⟨_, rfl⟩
  clear b1 hcB
  rw [hW0] at bY bI hB0 hsz ⊢
  clear hW0
  have hP : ∀ k, P k → k < W.heap.size := fun k hk => (hM k (.inl hk)).1
  have hmine : ∀ k, Mine P b W0 k → Mine P b W k := fun k e => (Mine.same (fun g hg => hB0.block g (hP g hg))).1 e
  have xY : Bx P b W0 W.heap.size 76 (.func (.yield l) #[] #[]) := ⟨bY, fun e => by have := (hM _ (hmine _ e)).1; omega⟩
  have xP : Bx P b W0 Bp 3 (.int .i64 p) := ⟨(hB0.block Bp hBp.lt).trans hBp, fun e => by have := (hM _ (hmine _ e)).2.2; omega⟩
  have hkz0 : Kz W.heap.size W W0 := Kz.of_below hB0
  have hb0 := h.map.lt
  refine tells_loop (by omega) eg_rising (c := L.length) (v1 := fun i => .int .i64 (pd L i)) (v2 := fun i => rv (rc L i)) (E := Er q b L) (P := P) (b := b) (fv := #[.pointer (some ⟨W.heap.size + 1, 0, none⟩)]) rfl (fun k hk => by have := hP k hk; omega)
    (fun W1 hW1 hs1 => rising_tells (h.below (hB0.trans (hW1.mono hB0.size))) ho hl ((hW1.block _ bI.lt).trans bI) (fun k hk => by
      have h1 := (Mine.same (fun g hg => hW1.block g (by have := hP g hg; omega))).1 hk
      have := (hM k (hmine k h1)).1
      omega))
    (fun i X => J (kc L p i) X ∧ Bx P b X W.heap.size 76 (.func (.yield l) #[] #[]) ∧ Bx P b X Bp 3 (.int .i64 p))
    (fun cc i X => cc = .ret ∧ ∃ k, k < (kl L p).length ∧ Jx k X)
    (fun i X hi => hE _ X hi.1 i rfl)
    (fun i X Y hk hi => ⟨hJ _ X Y (Tee.Kz.mono hk (by omega)) hi.1, hi.2.1.kz hk (fun k e => ?_), hi.2.2.kz hk (fun k e => ?_)⟩)
    (fun cc i X Y hk hi => ⟨hi.1, hi.2.imp fun k hk2 => ⟨hk2.1, hJx _ X Y (Tee.Kz.mono hk (by omega)) hk2.2⟩⟩)
    (fun s0 i a' X => ∃ r, a' = { tmps := #[.func (.yield l) #[] #[], .pointer (some ⟨Bt, 0, none⟩), .pointer (some ⟨Bp, 0, none⟩), .pointer (some ⟨W.heap.size, 0, none⟩), .int .i64 (pd L i), .pointer (some ⟨r, 0, none⟩), pv q, .func (.func 44) #[] #[.pointer (some ⟨W.heap.size + 1, 0, none⟩)], .int .i64 (pd L i), rv (rc L i), undef, undef, undef, undef, undef, undef, undef, undef, undef, undef, undef], defers := [] } ∧ Blk X r #[.int .i64 (rc L i).par, .int .i64 (rc L i).st, uv (rc L i).su] 61)
    (fun s0 i a' X Y hk ⟨r, e, hb⟩ => ⟨r, e, (hk.block r hb.lt (.inr ⟨_, _, _, hb⟩)).trans hb⟩)
    ⟨hJ _ _ _ hkz0 h0, xY, xP⟩ ?assign ?body ?done ?stop
  · have := hP k e
    have := hi.2.1.1.lt
    omega
  · have := hP k e
    have := hi.2.1.1.lt
    omega
  case assign =>
    intro l i W K hic hi hW hK
    generalize rc L i = r at *
    unfold rv
    gi_wp2
    exact hK _ _ ((Below.refl _ _).alloc (Nat.le_refl _) _) ⟨_, rfl, Blk.new _ _ _⟩
  case body =>
    rintro l' i s0 a' X hlw ⟨hJi, xYi, xPi⟩ ⟨r, rfl, hr⟩ hic hXs _
    have cP := xPi.1.cell
    have cY := xYi.1.cell
    have r0 := hr.cell 0
    have r1 := hr.cell 1
    have r2 := hr.cell 2
    simp only [List.getElem?_toArray, List.getElem?_cons_zero, List.getElem?_cons_succ] at r0 r1 r2
    by_cases hpar : (rc L i).par = p
    · obtain ⟨k1, k2, k3, k4⟩ := kc_yes hic hpar
      obtain ⟨fn, tmps, assign, body, hy, hR⟩ := hY (kc L p i) X k2 hJi
      rw [k3, k4] at hy
      have hR2 := Lib.hid hR
      have HE := Lib.hid (And.intro (And.intro xYi xPi) (And.intro k1 k2))
      have HX := Lib.hid hsz
      rw [hpar] at r0
      unfold rv at hy ⊢
      rw [hpar] at hy ⊢
      clear hR k1 k2 k3 k4 xYi xPi hpar hJ hJx hE hY h0 h ho hM hb0 hkz0 xY xP bY bI hB0 hr hJi
      generalize rc L i = x at *
      gi_wp2
      refine (round_any hR2.out).mono ?_
      rintro e W3 ⟨hkf, (⟨rfl, hJ3, hk3⟩ | ⟨rfl, hJx3⟩)⟩
      · gi_wp2
        refine ⟨kf_mono hkf (by have := HX.out; omega), StayB.of hk3, ?_⟩
        dsimp only
        rw [HE.out.2.1]
        exact ⟨hJ3, HE.out.1.1.stay hk3, HE.out.1.2.stay hk3⟩
      · gi_wp2
        exact ⟨kf_mono hkf (by have := HX.out; omega), rfl, _, HE.out.2.2, hJx3⟩
    · have k1 := kc_no hic hpar
      have HE := Lib.hid (And.intro (And.intro xYi xPi) (And.intro k1 hJi))
      have dp : ((rc L i).par == p) = false := by simpa using hpar
      clear hJ hJx hE hY h0 h ho hM hb0 hkz0 xY xP bY bI hB0 hr hJi xYi xPi hpar k1
      generalize rc L i = x at *
      gi_wp2
      refine ⟨fun f hf => (by cases hf), ?_⟩
      gi_wp2
      refine ⟨KeepsFrom.refl _ _, StayB.of (Stay.refl _ _ _), ?_⟩
      dsimp only
      rw [HE.out.2.1]
      exact ⟨HE.out.2.2, HE.out.1⟩
  case done =>
    rintro D X hD ⟨hJi, xYi, xPi⟩ hK
    rw [kc_all] at hJi
    have HE := Lib.hid hJi
    have HJ := Lib.hid hJ
    clear hJ hJx hE hY h0 h ho hM hb0 hkz0 xY xP bY bI hB0 hJi xYi xPi
    gi_wp2
    refine ⟨by simp, .inl ⟨_, _, rfl, run_takeDeferred hK, ?_⟩⟩
    have hk := Kz.putObj (B0 := W.heap.size) (by omega) hK rfl (.deferred none)
    exact ⟨_, results_none rfl _ _ _, ⟨_, rfl⟩, .inl (HJ.out _ _ _ hk HE.out)⟩
  case stop =>
    rintro D cc i X hD hic ⟨rfl, k, hk1, hk2⟩ hK
    have HE := Lib.hid (And.intro hk1 hk2)
    have HJ := Lib.hid hJx
    clear hJ hJx hE hY h0 h ho hM hb0 hkz0 xY xP bY bI hB0 hk1 hk2
    gi_wp2
    refine ⟨by simp, .inl ⟨_, _, rfl, run_takeDeferred hK, ?_⟩⟩
    have hk := Kz.putObj (B0 := W.heap.size) (by omega) hK rfl (.deferred none)
    exact ⟨_, results_none rfl _ _ _, ⟨_, rfl⟩, .inr ⟨k, HE.out.1, HJ.out _ _ _ hk HE.out.2⟩⟩
end Go.Proofs.Ytkjcjodhpcfjiaa.Tef
