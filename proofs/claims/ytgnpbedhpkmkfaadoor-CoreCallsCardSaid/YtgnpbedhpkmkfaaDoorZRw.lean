/-
  core.Run.
-/
import Derived.Test.YtgnpbedhpkmkfaaDoorZRv
namespace Go.Proofs.YtgnpbedhpkmkfaaDoor.Rw
open Go Go.RowKit Go.Shelf Kit Bk CoM CoR CoB CoC CoW CoI CoE CoY Ps IsaT Ru Rv
set_option linter.unusedVariables false
attribute [local go_sem] Oper.semAt_some
attribute [local go_sem ↓] ldc_wrap stc_wrap

/-- How a run ends: the Cpu, the steps done, the trap, the bytes. -/
def Ends (s : St) (b : CoM.Bs) (cnt : Nat) (x : St) (k : Nat) (t : Int) (b' : CoM.Bs) : Prop :=
  k ≤ cnt ∧ (∀ j, j ≤ k → (sq s b j).2.1 = 0) ∧ ((k = cnt ∧ x = (sq s b k).1 ∧ t = 0 ∧ b' = (sq s b k).2.2) ∨ (k < cnt ∧ (sq s b (k + 1)).2.1 ≠ 0 ∧ x = (sq s b (k + 1)).1 ∧ t = (sq s b (k + 1)).2.1 ∧ b' = (sq s b (k + 1)).2.2))
theorem Ends.det {s : St} {b : CoM.Bs} {cnt : Nat} {x y : St} {k j : Nat} {t r : Int} {c d : CoM.Bs} (h : Ends s b cnt x k t c) (g : Ends s b cnt y j r d) : x = y ∧ k = j ∧ t = r ∧ c = d := by
  obtain ⟨h1, h2, h3⟩ := h
  obtain ⟨g1, g2, g3⟩ := g
  have e : k = j := by
    rcases Nat.lt_trichotomy k j with l | l | l
    · exfalso
      rcases h3 with h | h
      · omega
      · exact h.2.1 (g2 (k + 1) (by omega))
    · exact l
    · exfalso
      rcases g3 with g | g
      · omega
      · exact g.2.1 (h2 (j + 1) (by omega))
  subst e
  rcases h3 with ⟨a1, a2, a3, a4⟩ | ⟨a1, a2, a3, a4, a5⟩ <;> rcases g3 with ⟨b1, b2, b3, b4⟩ | ⟨b1, b2, b3, b4, b5⟩
  · exact ⟨by rw [a2, b2], rfl, by rw [a3, b3], by rw [a4, b4]⟩
  · omega
  · omega
  · exact ⟨by rw [a3, b3], rfl, by rw [a4, b4], by rw [a5, b5]⟩
theorem sq_len (s : St) (b : CoM.Bs) : ∀ i, (sq s b i).2.2.length = b.length
  | 0 => rfl
  | i + 1 => (step_len _ _).trans (sq_len s b i)

structure Jr (w : World) (Bx : Nat) (ad : Option Addr) (cap : Nat) (x : St) (d : Nat) (t : Int) (bs : CoM.Bs) (W : World) : Prop where
  kp : Kp (fun j => j = Bx) w W
  l : Lies W Bx ad cap bs
  c : Blk W w.heap.size (cs x) 30
  z : Blk W (w.heap.size + 1) zcs 30
  d : Blk W (w.heap.size + 1 + 1) #[.int .i64 (d : Int)] 3
  t : Blk W (w.heap.size + 1 + 1 + 1) #[.int .i64 t] 3
section
variable {w X Y : World} {Bx B : Nat} {ad : Option Addr} {cap : Nat} {x : St} {d : Nat} {t : Int} {bs : CoM.Bs}
theorem Jr.kc (h : Jr w Bx ad cap x d t bs X) (hk : Kc B X Y) (hB : w.heap.size + 4 ≤ B) (hBx : Bx < w.heap.size) : Jr w Bx ad cap x d t bs Y :=
  ⟨h.kp.trans hk (fun j hj => .inr (by omega)), Lies.kept h.l hk (by omega), h.c.kept hk (by omega), h.z.kept hk (by omega), h.d.kept hk (by omega), h.t.kept hk (by omega)⟩
theorem Jr.wrote {b' : CoM.Bs} (h : Jr w Bx ad cap x d t bs X) (hk : Wrote X Bx ad cap b' Y) (hBx : Bx < w.heap.size) : Jr w Bx ad cap x d t b' Y :=
  ⟨h.kp.trans hk.kp (fun j hj => .inl hj), hk.lies, h.c.kept hk.kp (by omega), h.z.kept hk.kp (by omega), h.d.kept hk.kp (by omega), h.t.kept hk.kp (by omega)⟩
theorem Jr.setC (h : Jr w Bx ad cap x d t bs X) (y : St) (hBx : Bx < w.heap.size) : Jr w Bx ad cap y d t bs (X.setCells w.heap.size 0 (cs y).toList) := by
  have k := Kp.sets (S := fun j => j = w.heap.size) w.heap.size rfl (cs y).toList 0 X
  exact ⟨h.kp.trans k (fun j hj => .inr (by omega)), Lies.kept h.l k (by omega), CoC.Blk.setAll h.c rfl, h.z.kept k (by omega), h.d.kept k (by omega), h.t.kept k (by omega)⟩
theorem Jr.setT (h : Jr w Bx ad cap x d t bs X) (y : Int) (hBx : Bx < w.heap.size) : Jr w Bx ad cap x d y bs (X.setCell ⟨w.heap.size + 1 + 1 + 1, 0, none⟩ (.int .i64 y)) := by
  have k := Kp.set (S := fun j => j = w.heap.size + 1 + 1 + 1) X (w.heap.size + 1 + 1 + 1) 0 (.int .i64 y) rfl
  exact ⟨h.kp.trans k (fun j hj => .inr (by omega)), Lies.kept h.l k (by omega), h.c.kept k (by omega), h.z.kept k (by omega), h.d.kept k (by omega), h.t.set 0 _⟩
theorem Jr.setD (h : Jr w Bx ad cap x d t bs X) (y : Nat) (hBx : Bx < w.heap.size) : Jr w Bx ad cap x y t bs (X.setCell ⟨w.heap.size + 1 + 1, 0, none⟩ (.int .i64 (y : Int))) := by
  have k := Kp.set (S := fun j => j = w.heap.size + 1 + 1) X (w.heap.size + 1 + 1) 0 (.int .i64 (y : Int)) rfl
  exact ⟨h.kp.trans k (fun j hj => .inr (by omega)), Lies.kept h.l k (by omega), h.c.kept k (by omega), h.z.kept k (by omega), h.d.set 0 _, h.t.kept k (by omega)⟩
end
/-- Run's own. -/
abbrev Sr (r : Nat) (k : Nat) : Prop := k = r ∨ k = r + 1 + 1 ∨ k = r + 1 + 1 + 1
theorem kb_kp {S S' : Nat → Prop} {X Y : World} (h : Kp S' X Y) (hS : ∀ j, S' j → S j) : Kb S X Y := fun k cs T z hk hs => h.block k (Array.getElem?_eq_some_iff.1 hk).1 (fun e => hs (hS k e))

theorem kf_kp {S' : Nat → Prop} {B : Nat} {X Y : World} (h : Kp S' X Y) (hS : ∀ j, S' j → ∃ cs T z, X.heap[j]? = some (.cells cs T z)) : KeepsFrom B X Y :=
  ⟨h.size, fun k o _ hk ho => (h.block k (Array.getElem?_eq_some_iff.1 hk).1 (fun e => by
    obtain ⟨cs, T, z, hc⟩ := hS k e
    rw [hk] at hc
    cases hc
    cases ho)).trans hk⟩

set_option maxRecDepth 100000 in
set_option maxHeartbeats 2000000 in
theorem run_in (n : Nat) (hn : 4 ≤ n) (u w : World) (hT : Tabs u) (hu : Below u.heap.size u w) (M Bx : Nat) (ad : Option Addr) (cap : Nat) (b : CoM.Bs) (hM : RamAt w M ad cap b) (hL : Lies w Bx ad cap b) (hMx : M ≠ Bx) (hBx : Bx < w.heap.size) (hBu : u.heap.size ≤ Bx)
    (s : St) (hs : s.Ok) (most : Int) (cnt : Nat) (hcnt : most = (cnt : Int) ∨ (most ≤ 0 ∧ cnt = 0)) (hc2 : cnt < 9223372036854775808) :
    CallsIn Fence.wide n Tryd.prog 15 #[cv s, mv M, .int .i64 most] w fun e w' => ∃ (x : St) (k : Nat) (t : Int) (b' : CoM.Bs), Ends s b cnt x k t b' ∧ e = .returned (.tuple #[cv x, .int .i64 (k : Int), .int .i64 t]) ∧ Wrote w Bx ad cap b' w' := by
  have hst := steps_in (n - 1) s M most
  refine callsIn_of_wp_marks Tryd.func15 rfl trivial ?_ rfl
  simp only [Tryd.ntmps15, List.size_toArray, List.length_cons, List.length_nil, Nat.reduceAdd, Nat.reduceSub, Array.replicate_succ, Array.replicate_zero, List.push_toArray, List.append_toArray, List.nil_append, List.cons_append]
  gi_wp2
  refine wpIn_wide.2 (wp_scope_straight ((wpIn_wide (n := n)).1 ?_))
  gi_wp2
  refine wpIn_label ?_
  have hJ1 : Jr w Bx ad cap s 0 0 b ((((w.alloc (.cells (cs s) 30)).alloc (.cells zcs 30)).alloc (.cells #[.int .i64 0] 3)).alloc (.cells #[.int .i64 0] 3)) := by
    have k1 := Kp.alloc (fun j => j = Bx) w (.cells (cs s) 30)
    have k2 := Below.alloc (Below.refl (w.alloc (.cells (cs s) 30)).heap.size _) (Nat.le_refl _) (.cells zcs 30)
    have k3 := Below.alloc (Below.refl ((w.alloc (.cells (cs s) 30)).alloc (.cells zcs 30)).heap.size _) (Nat.le_refl _) (.cells #[.int .i64 0] 3)
    have k4 := Below.alloc (Below.refl (((w.alloc (.cells (cs s) 30)).alloc (.cells zcs 30)).alloc (.cells #[.int .i64 0] 3)).heap.size _) (Nat.le_refl _) (.cells #[.int .i64 0] 3)
    have a1 := Blk.new w (cs s) 30
    have a2 := Blk.new (w.alloc (.cells (cs s) 30)) zcs 30
    have a3 := Blk.new ((w.alloc (.cells (cs s) 30)).alloc (.cells zcs 30)) #[.int .i64 0] 3
    have a4 := Blk.new (((w.alloc (.cells (cs s) 30)).alloc (.cells zcs 30)).alloc (.cells #[.int .i64 0] 3)) #[.int .i64 0] 3
    have kk := ((k1.trans (.of_below (S := fun _ => False) k2) (fun _ h => h.elim)).trans (.of_below (S := fun _ => False) k3) (fun _ h => h.elim)).trans (.of_below (S := fun _ => False) k4) (fun _ h => h.elim)
    have bb : Below w.heap.size w _ := ((((Below.refl w.heap.size w).alloc (Nat.le_refl _) (.cells (cs s) 30)).alloc (by simp) (.cells zcs 30)).alloc (by simp; omega) (.cells #[.int .i64 0] 3)).alloc (by simp; omega) (.cells #[.int .i64 0] 3)
    have c2 := (a2.below k3).below k4
    have c3 := a3.below k4
    simp only [World.size_alloc] at a2 a3 a4 c2 c3
    exact ⟨kk, Lies.below hL bb, ((a1.below k2).below k3).below k4, c2, c3, a4⟩
  have hs1 : ((((w.alloc (.cells (cs s) 30)).alloc (.cells zcs 30)).alloc (.cells #[.int .i64 0] 3)).alloc (.cells #[.int .i64 0] 3)).heap.size = w.heap.size + 4 := by simp
  generalize (((w.alloc (.cells (cs s) 30)).alloc (.cells zcs 30)).alloc (.cells #[.int .i64 0] 3)).alloc (.cells #[.int .i64 0] 3) = W1 at hJ1 hs1 ⊢
  have l1 := run_ldC hJ1.c (cs_size s)
  gi_wp2_with (first | (refine ⟨trivial, ?_⟩; gi_at_call 40; refine (hst _).mono ?_; rintro e Y ⟨rfl, rfl⟩) | (refine ⟨trivial, fun _ => (by omega), ?_⟩; gi_at_call 40; refine (hst _).mono ?_; rintro e Y ⟨rfl, rfl⟩) | fail)
  clear l1 hst
  have hBc := ((Blk.new W1 (cs s) 30).below ((Below.refl _ _).alloc (Nat.le_refl _) (.cells #[mv M] 67))).below ((Below.refl _ _).alloc (Nat.le_refl _) (.cells #[.int .i64 most] 3))
  have hBm := (Blk.new (W1.alloc (.cells (cs s) 30)) #[mv M] 67).below ((Below.refl _ _).alloc (Nat.le_refl _) (.cells #[.int .i64 most] 3))
  have hBn := Blk.new ((W1.alloc (.cells (cs s) 30)).alloc (.cells #[mv M] 67)) #[.int .i64 most] 3
  have hJ2 := ((hJ1.kc (B := w.heap.size + 4) (Kp.alloc _ W1 (.cells (cs s) 30)) (by omega) hBx).kc (B := w.heap.size + 4) (Kp.alloc _ _ (.cells #[mv M] 67)) (by omega) hBx).kc (B := w.heap.size + 4) (Kp.alloc _ _ (.cells #[.int .i64 most] 3)) (by omega) hBx
  have hs2 : (((W1.alloc (.cells (cs s) 30)).alloc (.cells #[mv M] 67)).alloc (.cells #[.int .i64 most] 3)).heap.size = w.heap.size + 7 := by simp; omega
  simp only [World.size_alloc] at hBm hBn
  generalize ((W1.alloc (.cells (cs s) 30)).alloc (.cells #[mv M] 67)).alloc (.cells #[.int .i64 most] 3) = W2 at hBc hBm hBn hJ2 hs2 ⊢
  have hMlt : M < w.heap.size := hM.lt
  rw [hs1] at hBc hBm hBn
  refine steps_loop (by omega) (w.heap.size + 4) (w.heap.size + 4 + 1 + 1) (w.heap.size + 4 + 1) M Bx ad cap s b most cnt hcnt hc2 (Sr w.heap.size) rfl
    (fun k hk => by rcases hk with h | h | h <;> omega) (by unfold Sr; omega) (by unfold Sr; omega) (by unfold Sr; omega) hBc hBn hBm
    (fun i W => Jr w Bx ad cap (sq s b i).1 i 0 (sq s b i).2.2 W ∧ (∀ j, j ≤ i → (sq s b j).2.1 = 0) ∧ (sq s b i).1.Ok)
    (fun i W => Jr w Bx ad cap (sq s b i).1 i 0 (sq s b (i + 1)).2.2 W ∧ (∀ j, j ≤ i → (sq s b j).2.1 = 0) ∧ (sq s b (i + 1)).1.Ok)
    (fun i W => Jr w Bx ad cap (sq s b (i + 1)).1 i (sq s b (i + 1)).2.1 (sq s b (i + 1)).2.2 W ∧ (∀ j, j ≤ i → (sq s b j).2.1 = 0) ∧ (sq s b (i + 1)).1.Ok)
    (fun c i W => c = .exit 0 ∧ (sq s b (i + 1)).2.1 ≠ 0 ∧ Jr w Bx ad cap (sq s b (i + 1)).1 i (sq s b (i + 1)).2.1 (sq s b (i + 1)).2.2 W ∧ (∀ j, j ≤ i → (sq s b j).2.1 = 0) ∧ (sq s b (i + 1)).1.Ok)
    (fun i X Y hk h => ⟨h.1.kc hk (by omega) hBx, h.2⟩) (fun i X Y hk h => ⟨h.1.kc hk (by omega) hBx, h.2⟩) (fun i X Y hk h => ⟨h.1.kc hk (by omega) hBx, h.2⟩) (fun c i X Y hk h => ⟨h.1, h.2.1, h.2.2.1.kc hk (by omega) hBx, h.2.2.2⟩)
    ⟨hJ2, fun j hj => by obtain rfl : j = 0 := by omega
                         rfl, hs⟩
    (fun i X hi h => ⟨hT.below (hu.trans (h.1.kp.below hu.size (fun j e => by omega))), (by
      have := hM.kept h.1.kp (show ¬ M = Bx from hMx)
      unfold RamAt sl
      rw [sq_len]
      exact this), h.1.l, h.2.2⟩) hMx (by omega)
    (fun i X Y hi h hw => ⟨h.1.wrote hw hBx, h.2.1, step_ok h.2.2 h.1.l.small⟩) (by omega)
    (fun i => { tmps := #[cv s, mv M, .int .i64 most, .pointer (some ⟨w.heap.size, 0, none⟩), undef, undef, .pointer (some ⟨w.heap.size + 1, 0, none⟩), .int .i64 0, .int .i64 0, .pointer (some ⟨w.heap.size + 1 + 1, 0, none⟩), .pointer (some ⟨w.heap.size + 1 + 1 + 1, 0, none⟩), cv s, mv M, .int .i64 most, .func (.func 61) #[] #[.pointer (some ⟨w.heap.size + 4, 0, none⟩), .pointer (some ⟨w.heap.size + 4 + 1 + 1, 0, none⟩), .pointer (some ⟨w.heap.size + 4 + 1, 0, none⟩)], cv (sq s b (i + 1)).1, .int .i64 (sq s b (i + 1)).2.1, undef, undef, undef, undef, undef, undef, undef, undef], defers := [] })
    ?assign ?body ?done ?stop
  case assign =>
    intro l i W K ⟨hJ, hz, hok⟩ hic hK
    have HK := Lib.hid hK
    obtain ⟨X, hX⟩ : ∃ X, (sq s b (i + 1)).1 = X := ⟨_, rfl⟩
    obtain ⟨tr, htr⟩ : ∃ tr, (sq s b (i + 1)).2.1 = tr := ⟨_, rfl⟩
    have hJ3 := hJ.setC (sq s b (i + 1)).1 hBx
    have hJ4 := hJ3.setT (sq s b (i + 1)).2.1 hBx
    have k3 := Kp.sets (S := fun j => j = w.heap.size ∨ j = w.heap.size + 1 + 1 + 1) w.heap.size (.inl rfl) (cs (sq s b (i + 1)).1).toList 0 W
    have k4 := Kp.set (S := fun j => j = w.heap.size ∨ j = w.heap.size + 1 + 1 + 1) (W.setCells w.heap.size 0 (cs (sq s b (i + 1)).1).toList) (w.heap.size + 1 + 1 + 1) 0 (.int .i64 (sq s b (i + 1)).2.1) (.inr rfl)
    have kk := k3.trans k4 (fun j hj => .inl hj)
    have h1 := run_stC hJ.c (cs_size _) (cs_size (sq s b (i + 1)).1) (cs_one _)
    have hkf : KeepsFrom W2.heap.size W _ := kf_kp kk (fun j hj => by
      rcases hj with rfl | rfl
      · exact ⟨_, _, _, hJ.c⟩
      · exact ⟨_, _, _, hJ.t⟩)
    have hfin := HK.out _ hkf (kb_kp kk (fun j hj => by unfold Sr; omega)) ⟨hJ4, hz, hok⟩
    have HF := Lib.hid hfin
    have ct := (hJ3.t).cell 0
    have ft := (hJ3.t).free 0
    clear hkf kk k3 k4 hJ3 hJ4 hfin hK HK
    dsimp only [List.setIfInBounds_toArray, List.set_cons_zero, List.set_cons_succ]
    rw [hX, htr] at *
    obtain ⟨W3, hW3⟩ : ∃ W3, W.setCells w.heap.size 0 (cs X).toList = W3 := ⟨_, rfl⟩
    rw [hW3] at h1 HF ct ft
    gi_wp2
    exact HF.out
  case body =>
    intro l i W hl ⟨hJ, hz, hok⟩ hic
    have ct := hJ.t.cell 0
    have cd := hJ.d.cell 0
    have fd := hJ.d.free 0
    by_cases htr : ((sq s b (i + 1)).2.1 == 0) = true
    · have e0 : (sq s b (i + 1)).2.1 = 0 := by simpa using htr
      have k3 := Kp.set (S := fun j => j = w.heap.size + 1 + 1) W (w.heap.size + 1 + 1) 0 (.int .i64 ((i : Int) + 1)) rfl
      have hJ3 : Jr w Bx ad cap (sq s b (i + 1)).1 (i + 1) (sq s b (i + 1)).2.1 (sq s b (i + 1)).2.2 (W.setCell ⟨w.heap.size + 1 + 1, 0, none⟩ (.int .i64 ((i : Int) + 1))) := hJ.setD (i + 1) hBx
      have kf : KeepsFrom W2.heap.size W _ := kf_kp k3 (fun j hj => by subst hj; exact ⟨_, _, _, hJ.d⟩)
      have kb := kb_kp k3 (S := Sr w.heap.size) (fun j hj => .inr (.inl hj))
      rw [e0] at hJ3
      have HP := Lib.hid (And.intro kf (And.intro kb (show Jr w Bx ad cap (sq s b (i + 1)).1 (i + 1) 0 (sq s b (i + 1)).2.2 (W.setCell ⟨w.heap.size + 1 + 1, 0, none⟩ (.int .i64 ((i : Int) + 1))) ∧ (∀ j, j ≤ i + 1 → (sq s b j).2.1 = 0) ∧ (sq s b (i + 1)).1.Ok from ⟨hJ3, fun j hj => by
        by_cases h : j ≤ i
        · exact hz j h
        · obtain rfl : j = i + 1 := by omega
          exact e0, hok⟩)))
      obtain ⟨X, hX⟩ : ∃ X, cv (sq s b (i + 1)).1 = X := ⟨_, rfl⟩
      obtain ⟨tr, ht⟩ : ∃ tr, (sq s b (i + 1)).2.1 = tr := ⟨_, rfl⟩
      rw [ht] at ct htr
      have hic2 : (i : Int) + 1 < 9223372036854775808 := by omega
      have hi0 : (0 : Int) ≤ (i : Int) := by omega
      clear hJ hJ3 k3 kf kb hcnt hJ1 hJ2 hBc hBm hBn
      rw [hX, ht]
      gi_wp2
      exact HP.out
    · have htr' : ((sq s b (i + 1)).2.1 == 0) = false := by simpa using htr
      have e0 : (sq s b (i + 1)).2.1 ≠ 0 := by simpa using htr
      have HP := Lib.hid (And.intro (KeepsFrom.refl W2.heap.size W) (show Code.exit 0 = Code.exit 0 ∧ (sq s b (i + 1)).2.1 ≠ 0 ∧ Jr w Bx ad cap (sq s b (i + 1)).1 i (sq s b (i + 1)).2.1 (sq s b (i + 1)).2.2 W ∧ (∀ j, j ≤ i → (sq s b j).2.1 = 0) ∧ (sq s b (i + 1)).1.Ok from ⟨rfl, e0, hJ, hz, hok⟩))
      obtain ⟨X, hX⟩ : ∃ X, cv (sq s b (i + 1)).1 = X := ⟨_, rfl⟩
      obtain ⟨tr, ht⟩ : ∃ tr, (sq s b (i + 1)).2.1 = tr := ⟨_, rfl⟩
      rw [ht] at ct htr'
      clear htr e0 hJ hJ1 hJ2 hBc hBm hBn hcnt
      rw [hX, ht]
      gi_wp2
      exact ⟨by rw [← hs2]; exact HP.out.1, rfl, HP.out.2.2⟩
  case done =>
    rintro D W hD ⟨hJ, hz, hok⟩ hK
    have hE : Ends s b cnt (sq s b cnt).1 cnt 0 (sq s b cnt).2.2 := ⟨Nat.le_refl _, hz, .inl ⟨rfl, rfl, rfl, rfl⟩⟩
    generalize (sq s b cnt).1 = X at hJ hE hok
    generalize (sq s b cnt).2.2 = b' at hJ hE
    have hJd : Jr w Bx ad cap X cnt 0 b' W.drew := hJ.kc (B := w.heap.size + 4) (.of_below ((Below.refl _ _).drew)) (by omega) hBx
    have hKd : W.drew.heap[D]? = some (.deferred (some [])) := hK
    have k8 := Kp.sets (S := fun j => j = w.heap.size + 1) (w.heap.size + 1) rfl (cs X).toList 0 W.drew
    have cc := run_ldC hJd.c (cs_size X)
    have ct := hJd.t.cell 0
    have cd := hJd.d.cell 0
    have ct' := (hJd.t.kept k8 (by omega)).cell 0
    have cd' := (hJd.d.kept k8 (by omega)).cell 0
    have h8 := run_stC hJd.z rfl (cs_size X) (cs_one _)
    have HZ := Lib.hid (CoC.Blk.setAll hJd.z (ds := cs X) rfl)
    have HK := Lib.hid ((k8.block D (Array.getElem?_eq_some_iff.1 hKd).1 (by omega)).trans hKd)
    have HW : Hid (Wrote w Bx ad cap b' _) := Lib.hid ⟨Lies.kept hJd.l k8 (by omega), hJd.kp.trans k8 (fun j hj => .inr (by omega))⟩
    obtain ⟨W', hW'⟩ : ∃ W', W.drew.setCells (w.heap.size + 1) 0 (cs X).toList = W' := ⟨_, rfl⟩
    rw [hW'] at h8 ct' cd' HZ HK HW
    have HE := Lib.hid hE
    have HD := Lib.hid hD
    obtain ⟨Y, hY⟩ : ∃ Y, cs X = Y := ⟨_, rfl⟩
    have HY := Lib.hid hY
    rw [hY] at cc h8
    clear hE hJ hz hok hJ1 hJ2 hBc hBm hBn hcnt hD hJd hKd k8 hK hW' hY
    gi_wp2
    gi_region
    gi_wp2
    refine ⟨by simp, .inl ⟨_, _, rfl, run_takeDeferred HK.out, ?_⟩⟩
    have kD := kc_put (B := W2.heap.size) (X := W') (l := D) HD.out (.deferred none)
    refine ⟨.tuple #[cv X, .int .i64 (cnt : Int), .int .i64 0], ?_, X, cnt, 0, b', HE.out, rfl, ⟨Lies.kept HW.out.lies kD (by omega), HW.out.kp.trans kD (fun j hj => .inr (by omega))⟩⟩
    exact results_cell_row3 rfl _ _ (w.heap.size + 1) 30 (cs X) (0, 0) _ _ _ rfl rfl rfl (HZ.out.kept kD (by omega)) Tryd.underlying30 rfl (by rw [infoC]; rfl)
  case stop =>
    rintro D c i W hD hic ⟨rfl, hne, hJ, hz, hok⟩ hK
    have hE : Ends s b cnt (sq s b (i + 1)).1 i (sq s b (i + 1)).2.1 (sq s b (i + 1)).2.2 := ⟨Nat.le_of_lt hic, hz, .inr ⟨hic, hne, rfl, rfl, rfl⟩⟩
    generalize (sq s b (i + 1)).1 = X at hJ hE hok
    generalize (sq s b (i + 1)).2.1 = tr at hJ hE hne
    generalize (sq s b (i + 1)).2.2 = b' at hJ hE
    have hJd : Jr w Bx ad cap X i tr b' W.drew := hJ.kc (B := w.heap.size + 4) (.of_below ((Below.refl _ _).drew)) (by omega) hBx
    have hKd : W.drew.heap[D]? = some (.deferred (some [])) := hK
    have k8 := Kp.sets (S := fun j => j = w.heap.size + 1) (w.heap.size + 1) rfl (cs X).toList 0 W.drew
    have cc := run_ldC hJd.c (cs_size X)
    have ct := hJd.t.cell 0
    have cd := hJd.d.cell 0
    have ct' := (hJd.t.kept k8 (by omega)).cell 0
    have cd' := (hJd.d.kept k8 (by omega)).cell 0
    have h8 := run_stC hJd.z rfl (cs_size X) (cs_one _)
    have HZ := Lib.hid (CoC.Blk.setAll hJd.z (ds := cs X) rfl)
    have HK := Lib.hid ((k8.block D (Array.getElem?_eq_some_iff.1 hKd).1 (by omega)).trans hKd)
    have HW : Hid (Wrote w Bx ad cap b' _) := Lib.hid ⟨Lies.kept hJd.l k8 (by omega), hJd.kp.trans k8 (fun j hj => .inr (by omega))⟩
    obtain ⟨W', hW'⟩ : ∃ W', W.drew.setCells (w.heap.size + 1) 0 (cs X).toList = W' := ⟨_, rfl⟩
    rw [hW'] at h8 ct' cd' HZ HK HW
    have HE := Lib.hid hE
    have HD := Lib.hid hD
    obtain ⟨Y, hY⟩ : ∃ Y, cs X = Y := ⟨_, rfl⟩
    have HY := Lib.hid hY
    rw [hY] at cc h8
    clear hE hJ hz hok hJ1 hJ2 hBc hBm hBn hcnt hD hJd hKd k8 hK hW' hY
    gi_wp2
    gi_region
    gi_wp2
    refine ⟨by simp, .inl ⟨_, _, rfl, run_takeDeferred HK.out, ?_⟩⟩
    have kD := kc_put (B := W2.heap.size) (X := W') (l := D) HD.out (.deferred none)
    refine ⟨.tuple #[cv X, .int .i64 (i : Int), .int .i64 tr], ?_, X, i, tr, b', HE.out, rfl, ⟨Lies.kept HW.out.lies kD (by omega), HW.out.kp.trans kD (fun j hj => .inr (by omega))⟩⟩
    exact results_cell_row3 rfl _ _ (w.heap.size + 1) 30 (cs X) (0, 0) _ _ _ rfl rfl rfl (HZ.out.kept kD (by omega)) Tryd.underlying30 rfl (by rw [infoC]; rfl)

/-- Run is steps, up to a trap. -/
theorem run_any (u w : World) (hT : Tabs u) (hu : Below u.heap.size u w) (M Bx : Nat) (ad : Option Addr) (cap : Nat) (b : CoM.Bs) (hM : RamAt w M ad cap b) (hL : Lies w Bx ad cap b) (hMx : M ≠ Bx) (hBx : Bx < w.heap.size) (hBu : u.heap.size ≤ Bx)
    (s : St) (hs : s.Ok) (most : Int) (cnt : Nat) (hcnt : most = (cnt : Int) ∨ (most ≤ 0 ∧ cnt = 0)) (hc2 : cnt < 9223372036854775808) :
    Calls Tryd.prog 15 #[cv s, mv M, .int .i64 most] w fun e w' => ∃ (x : St) (k : Nat) (t : Int) (b' : CoM.Bs), Ends s b cnt x k t b' ∧ e = .returned (.tuple #[cv x, .int .i64 (k : Int), .int .i64 t]) ∧ Wrote w Bx ad cap b' w' :=
  (callsIn_wide (n := 4)).1 (run_in 4 (Nat.le_refl _) u w hT hu M Bx ad cap b hM hL hMx hBx hBu s hs most cnt hcnt hc2)
end Go.Proofs.YtgnpbedhpkmkfaaDoor.Rw
