/-
  A space, its clone and its clone's clone, with no page Shared: what each call leaves; a new space; frames' New.
-/
import Derived.Test.YtclpokkjbkbkgaaSn
namespace Go.Proofs.Ytclpokkjbkbkgaa.Tg
open Go Go.RowKit Go.Shelf Kit Bk
open Fm hiding Mem made_any len_any
open Fo Fr Fw Fx Fu Fq
open Tm hiding Mem
open Ts Tc Ti Sp Sa Pz To My Pv Mp Mq Dr Cl Iv Iw Ix Wr Sy Al Pg So Oq Sn
set_option linter.unusedVariables false

variable {N : Nat} {w w' : World} {p b n q t : Nat} {qs ts : Nat → Nat} {Tc : Tab} {F X Y : Array Value}

/-- One space. -/
def On (N : Nat) (W : World) (p b n q t : Nat) : Prop := ∃ R B T, Sy.Sys W p b n R B (fun _ => q) (fun _ => t) [T] ∧ NS T
theorem On.below (h : On N w p b n q t) (hb : Below w.heap.size w w') : On N w' p b n q t := by
  obtain ⟨R, B, T, h1, h2⟩ := h
  exact ⟨R, B, T, h1.below hb, h2⟩
/-- What stands below is kept. -/
theorem below_of {S : Nat → Prop} (hk : Kp S w w') (hN : N ≤ w.heap.size) (hS : ∀ j, S j → N ≤ j) : Below N w w' := kpB hk hN hS
theorem oMap (h : On N w p b n q t) (hN : N ≤ w.heap.size) (hb : N ≤ b) (ht : N ≤ t) (page k : Int) (hp : (Lit.int .i64 page).wf = true) (hk : (Lit.int .i64 k).wf = true) (wb : Bool) :
    Calls Try.prog 11 #[.pointer (some ⟨q, 0, none⟩), .int .i64 page, .int .i64 k, .bool wb, .bool false] w fun e w' => (∃ v, e = .returned v) ∧ On N w' p b n q t ∧ Below N w w' := by
  obtain ⟨R, B, T, h1, h2⟩ := h
  refine (sMapN h1 (i := 0) (by decide : 0 < 1) h2 page k hp hk wb).mono ?_
  rintro e w' ⟨v, R', T', rfl, hkp, hS, hN'⟩
  exact ⟨⟨v, rfl⟩, ⟨R', B, T', hS, hN'⟩, below_of hkp hN (fun j hj => by rcases hj with rfl | rfl <;> assumption)⟩
theorem oWrite (h : On N w p b n q t) (hN : N ≤ w.heap.size) (hb : N ≤ b) (ht : N ≤ t) (a : Nat) (ha : a < 4294967296) (v : Value) (xs : List Nat) (hv : Src (fun j => j = b ∨ j = t) w v xs) (h8 : ∀ x ∈ xs, x < 256) (hl : xs.length ≤ 300) :
    Calls Try.prog 12 #[.pointer (some ⟨q, 0, none⟩), .int .u32 (a : Int), v] w fun e w' => (∃ v, e = .returned v) ∧ On N w' p b n q t ∧ Below N w w' := by
  obtain ⟨R, B, T, h1, h2⟩ := h
  refine (sWriteN h1 (i := 0) (by decide : 0 < 1) h2 a ha v xs hv h8 (by omega)).mono ?_
  rintro e w' ⟨v, R', B', T', rfl, hkp, hS, hN', _⟩
  exact ⟨⟨v, rfl⟩, ⟨R', B', T', hS, hN'⟩, below_of hkp hN (fun j hj => by rcases hj with rfl | rfl <;> assumption)⟩

/-- Three of them. -/
def Tri (W : World) (p b n : Nat) (qs ts : Nat → Nat) (Tc : Tab) (F X Y : Array Value) : Prop := ∃ R B Ta Tb, Sy.Sys W p b n R B qs ts [Ta, Tb, Tc] ∧ NS Ta ∧ NS Tb ∧ pgP B Tc 64 = F ∧ pgP B Ta 64 = X ∧ pgP B Tb 64 = Y
theorem Tri.below (h : Tri w p b n qs ts Tc F X Y) (hb : Below w.heap.size w w') : Tri w' p b n qs ts Tc F X Y := by
  obtain ⟨R, B, Ta, Tb, h1, h2⟩ := h
  exact ⟨R, B, Ta, Tb, h1.below hb, h2⟩
theorem neP_self (X : Array Value) (h : ∃ B T, X = pgP B T 64) (w : World) : (neP (.agg X) (.agg X)).run Try.prog w = .ok (.bool false) w := by
  obtain ⟨B, T, rfl⟩ := h
  exact run_neP B T w
theorem Tri.eqF (h : Tri w p b n qs ts Tc F X Y) : (∃ B T, F = pgP B T 64) ∧ (∃ B T, X = pgP B T 64) ∧ (∃ B T, Y = pgP B T 64) := by
  obtain ⟨R, B, Ta, Tb, h1, h2, h3, h4, h5, h6⟩ := h
  exact ⟨⟨B, Tc, h4.symm⟩, ⟨B, Ta, h5.symm⟩, ⟨B, Tb, h6.symm⟩⟩
theorem tPagesA (h : Tri w p b n qs ts Tc F X Y) :
    Calls Try.prog 21 #[.pointer (some ⟨qs 0, 0, none⟩)] w fun e w' => e = .returned (.agg X) ∧ Below w.heap.size w w' := by
  obtain ⟨R, B, Ta, Tb, h1, h2, h3, h4, rfl, rfl⟩ := h
  exact sPages h1 (i := 0) (by decide : 0 < 3)
theorem tPagesB (h : Tri w p b n qs ts Tc F X Y) :
    Calls Try.prog 21 #[.pointer (some ⟨qs 1, 0, none⟩)] w fun e w' => e = .returned (.agg Y) ∧ Below w.heap.size w w' := by
  obtain ⟨R, B, Ta, Tb, h1, h2, h3, h4, rfl, rfl⟩ := h
  exact sPages h1 (i := 1) (by decide : 1 < 3)
theorem tPagesC (h : Tri w p b n qs ts Tc F X Y) :
    Calls Try.prog 21 #[.pointer (some ⟨qs 2, 0, none⟩)] w fun e w' => e = .returned (.agg F) ∧ Below w.heap.size w w' := by
  obtain ⟨R, B, Ta, Tb, h1, h2, h3, rfl, rfl, rfl⟩ := h
  exact sPages h1 (i := 2) (by decide : 2 < 3)
theorem tWriteA (h : Tri w p b n qs ts Tc F X Y) (a : Nat) (ha : a < 4294967296) (v : Value) (xs : List Nat) (hv : Src (fun j => j = b ∨ j = ts 0) w v xs) (h8 : ∀ x ∈ xs, x < 256) (hl : xs.length ≤ 300) :
    Calls Try.prog 12 #[.pointer (some ⟨qs 0, 0, none⟩), .int .u32 (a : Int), v] w fun e w' => ∃ v X', e = .returned v ∧ Tri w' p b n qs ts Tc F X' Y ∧ Kp (fun j => j = b ∨ j = ts 0) w w' := by
  obtain ⟨R, B, Ta, Tb, h1, h2, h3, rfl, rfl, rfl⟩ := h
  refine (sWriteN h1 (i := 0) (by decide : 0 < 3) h2 a ha v xs hv h8 (by omega)).mono ?_
  rintro e w' ⟨v, R', B', T', rfl, hkp, hS, hN', hpg⟩
  exact ⟨v, _, rfl, ⟨R', B', T', Tb, hS, hN', h3, hpg 2 (by decide : 2 < 3) (by decide), rfl, hpg 1 (by decide : 1 < 3) (by decide)⟩, hkp⟩
theorem tWriteB (h : Tri w p b n qs ts Tc F X Y) (a : Nat) (ha : a < 4294967296) (v : Value) (xs : List Nat) (hv : Src (fun j => j = b ∨ j = ts 1) w v xs) (h8 : ∀ x ∈ xs, x < 256) (hl : xs.length ≤ 300) :
    Calls Try.prog 12 #[.pointer (some ⟨qs 1, 0, none⟩), .int .u32 (a : Int), v] w fun e w' => ∃ v Y', e = .returned v ∧ Tri w' p b n qs ts Tc F X Y' ∧ Kp (fun j => j = b ∨ j = ts 1) w w' := by
  obtain ⟨R, B, Ta, Tb, h1, h2, h3, rfl, rfl, rfl⟩ := h
  refine (sWriteN h1 (i := 1) (by decide : 1 < 3) h3 a ha v xs hv h8 (by omega)).mono ?_
  rintro e w' ⟨v, R', B', T', rfl, hkp, hS, hN', hpg⟩
  exact ⟨v, _, rfl, ⟨R', B', Ta, T', hS, h2, hN', hpg 2 (by decide : 2 < 3) (by decide), hpg 0 (by decide : 0 < 3) (by decide), rfl⟩, hkp⟩
/-- The first is dropped; the second; the third. -/
def Du (W : World) (p b n : Nat) (qs ts : Nat → Nat) (Tc : Tab) (F : Array Value) : Prop := ∃ R B Tb, Sy.Sys W p b n R B qs ts [fun _ => none, Tb, Tc] ∧ pgP B Tc 64 = F
def Ee (W : World) (p b n : Nat) (qs ts : Nat → Nat) (Tc : Tab) (F : Array Value) : Prop := ∃ R B, Sy.Sys W p b n R B qs ts [fun _ => none, fun _ => none, Tc] ∧ pgP B Tc 64 = F
def Zz (W : World) (p b n : Nat) (qs ts : Nat → Nat) : Prop := ∃ R B, Sy.Sys W p b n R B qs ts [fun _ => none, fun _ => none, fun _ => none]
theorem Ee.below (h : Ee w p b n qs ts Tc F) (hb : Below w.heap.size w w') : Ee w' p b n qs ts Tc F := by
  obtain ⟨R, B, h1, h2⟩ := h
  exact ⟨R, B, h1.below hb, h2⟩
theorem Zz.below (h : Zz w p b n qs ts) (hb : Below w.heap.size w w') : Zz w' p b n qs ts := by
  obtain ⟨R, B, h1⟩ := h
  exact ⟨R, B, h1.below hb⟩
theorem tDropA (h : Tri w p b n qs ts Tc F X Y) :
    Calls Try.prog 19 #[.pointer (some ⟨qs 0, 0, none⟩)] w fun e w' => ∃ v, e = .returned v ∧ Du w' p b n qs ts Tc F ∧ Kp (fun j => j = b ∨ j = ts 0) w w' := by
  obtain ⟨R, B, Ta, Tb, h1, h2, h3, rfl, rfl, rfl⟩ := h
  refine (sDropN h1 (i := 0) (by decide : 0 < 3)).mono ?_
  rintro e w' ⟨v, R', B', rfl, hkp, hS, hpg⟩
  exact ⟨v, rfl, ⟨R', B', Tb, hS, hpg 2 (by decide : 2 < 3) (by decide)⟩, hkp⟩
theorem tDropB (h : Du w p b n qs ts Tc F) :
    Calls Try.prog 19 #[.pointer (some ⟨qs 1, 0, none⟩)] w fun e w' => ∃ v, e = .returned v ∧ Ee w' p b n qs ts Tc F ∧ Kp (fun j => j = b ∨ j = ts 1) w w' := by
  obtain ⟨R, B, Tb, h1, rfl⟩ := h
  refine (sDropN h1 (i := 1) (by decide : 1 < 3)).mono ?_
  rintro e w' ⟨v, R', B', rfl, hkp, hS, hpg⟩
  exact ⟨v, rfl, ⟨R', B', hS, hpg 2 (by decide : 2 < 3) (by decide)⟩, hkp⟩
theorem tDropC (h : Ee w p b n qs ts Tc F) :
    Calls Try.prog 19 #[.pointer (some ⟨qs 2, 0, none⟩)] w fun e w' => ∃ v, e = .returned v ∧ Zz w' p b n qs ts ∧ Kp (fun j => j = b ∨ j = ts 2) w w' := by
  obtain ⟨R, B, h1, rfl⟩ := h
  refine (sDropN h1 (i := 2) (by decide : 2 < 3)).mono ?_
  rintro e w' ⟨v, R', B', rfl, hkp, hS, hpg⟩
  exact ⟨v, rfl, ⟨R', B', hS⟩, hkp⟩
theorem ePages (h : Ee w p b n qs ts Tc F) :
    Calls Try.prog 21 #[.pointer (some ⟨qs 2, 0, none⟩)] w fun e w' => e = .returned (.agg F) ∧ Below w.heap.size w w' := by
  obtain ⟨R, B, h1, rfl⟩ := h
  exact sPages h1 (i := 2) (by decide : 2 < 3)
theorem eFree (h : Ee w p b n qs ts Tc F) :
    Calls Try.prog 23 #[.pointer (some ⟨p, 0, none⟩)] w fun e w' => e = .returned (.int .i64 (fre n (occ Tc) : Int)) ∧ Below w.heap.size w w' := by
  obtain ⟨R, B, h1, rfl⟩ := h
  have := free_is w p b n R B h1.fm
  rw [show fre n R = fre n (occ Tc) from fre_congr fun k => by
    rw [h1.inv.cnt k]
    show occ (fun _ => none) k + (occ (fun _ => none) k + (occ Tc k + 0)) = 0 ↔ _
    rw [occ_none]
    omega] at this
  exact this
theorem fre_all {R : Nat → Nat} (h : ∀ k, R k = 0) : fre n R = n := by
  have : usd R n = [] := List.filter_eq_nil_iff.2 fun k _ => by simp [h k]
  unfold fre
  rw [this]
  rfl
theorem zFree (h : Zz w p b n qs ts) :
    Calls Try.prog 23 #[.pointer (some ⟨p, 0, none⟩)] w fun e w' => e = .returned (.int .i64 (n : Int)) ∧ Below w.heap.size w w' := by
  obtain ⟨R, B, h1⟩ := h
  have := free_is w p b n R B h1.fm
  rw [show fre n R = n from fre_all fun k => by
    rw [h1.inv.cnt k]
    show occ (fun _ => none) k + (occ (fun _ => none) k + (occ (fun _ => none) k + 0)) = 0
    rw [occ_none]] at this
  exact this
theorem zLen (h : Zz w p b n qs ts) :
    Calls Try.prog 24 #[.pointer (some ⟨p, 0, none⟩)] w fun e w' => e = .returned (.int .i64 (n : Int)) ∧ w = w' := by
  obtain ⟨R, B, h1⟩ := h
  exact Fm.len_any w p b n R B h1.fm
theorem zList (h : Zz w p b n qs ts) :
    Calls Try.prog 25 #[.pointer (some ⟨qs 0, 0, none⟩)] w fun e w' => ∃ a c, e = .returned (.slice a 0 c) ∧ Below w.heap.size w w' := by
  obtain ⟨R, B, h1⟩ := h
  refine (list_any w (qs 0) p (ts 0) _ (h1.sp 0 (by decide : 0 < 3)) (h1.tm 0 (by decide : 0 < 3))).mono ?_
  rintro e w' ⟨hb, r, rfl, ho⟩
  have he : (ents (fun _ => none) 64) = [] := by rfl
  have ho2 : w'.ownsRow w.heap.size 62 6 r 0 [] := ho
  obtain ⟨c, ⟨h, _⟩ | ⟨g, c', cur, h, _⟩⟩ := ho2
  · exact ⟨_, _, by rw [h], hb⟩
  · exact ⟨_, _, by rw [h], hb⟩
/-- Two clones. -/
theorem tri_of (h : On N w p b n q t) : ∃ (fv : Nat) (Tc : Tab) (F : Array Value), fv ≤ n ∧ fv = fre n (occ Tc) ∧ (∃ B T, F = pgP B T 64) ∧
    (Calls Try.prog 23 #[.pointer (some ⟨p, 0, none⟩)] w fun e w' => e = .returned (.int .i64 (fv : Int)) ∧ Below w.heap.size w w') ∧
    ∀ W, Below w.heap.size w W → Calls Try.prog 14 #[.pointer (some ⟨q, 0, none⟩)] W fun e w1 => ∃ q1 t1, e = .returned (.pointer (some ⟨q1, 0, none⟩)) ∧ W.heap.size ≤ t1 ∧ Kp (fun j => j = b ∨ j = t) W w1 ∧
      Calls Try.prog 14 #[.pointer (some ⟨q, 0, none⟩)] w1 fun e w2 => ∃ q2 t2, e = .returned (.pointer (some ⟨q2, 0, none⟩)) ∧ w1.heap.size ≤ t2 ∧ Kp (fun j => j = b ∨ j = t) w1 w2 ∧
        ∃ qs ts : Nat → Nat, qs 0 = q ∧ qs 1 = q1 ∧ qs 2 = q2 ∧ ts 0 = t ∧ ts 1 = t1 ∧ ts 2 = t2 ∧ Tri w2 p b n qs ts Tc F F F ∧
        ∀ W', Below w2.heap.size w2 W' → Calls Try.prog 23 #[.pointer (some ⟨p, 0, none⟩)] W' fun e w' => e = .returned (.int .i64 (fv : Int)) ∧ Below W'.heap.size W' w' := by
  obtain ⟨R, B, T, h1, h2⟩ := h
  have hR : ∀ k, R k = occ T k := fun k => by rw [h1.inv.cnt k]; rfl
  have hfr : fre n R = fre n (occ (cowT (cowT T))) := fre_congr fun k => by rw [hR k, occ_cow, occ_cow]
  refine ⟨fre n R, cowT (cowT T), pgP B T 64, Nat.sub_le _ _, hfr, ⟨B, T, rfl⟩, free_is w p b n R B h1.fm, fun W hW => ?_⟩
  refine (clone_ok (h1.below hW) (by decide : 1 ≤ 8) (i := 0) (by decide : 0 < 1)).mono ?_
  rintro e w1 ⟨q1, t1, rfl, _, ht1, hk1, hS1⟩
  refine ⟨q1, t1, rfl, ht1, hk1, ?_⟩
  refine (clone_ok hS1 (by decide : 2 ≤ 8) (i := 0) (by decide : 0 < 2)).mono ?_
  rintro e w2 ⟨q2, t2, rfl, _, ht2, hk2, hS2⟩
  refine ⟨q2, t2, rfl, ht2, hk2, _, _, rfl, rfl, rfl, rfl, rfl, rfl, ⟨_, _, _, _, hS2, ns_cow (ns_cow h2), ns_cow h2, ?_, ?_, ?_⟩, fun W' hW' => ?_⟩
  · exact (pgP_cow _ _).trans (pgP_cow _ _)
  · exact (pgP_cow _ _).trans (pgP_cow _ _)
  · exact pgP_cow _ _
  · have := free_is W' p b n _ B (hS2.fm.below hW')
    rw [show fre n _ = fre n R from fre_congr fun k => by
      show R k + occ T k + occ (cowT T) k = 0 ↔ R k = 0
      rw [occ_cow, hR k]
      omega] at this
    exact this
/-- A new space. -/
theorem sNew (w : World) (p b n : Nat) (hF : Fm.Mem w p b n (fun _ => 0) (fun _ _ => 0)) :
    Calls Try.prog 15 #[.pointer (some ⟨p, 0, none⟩)] w fun e w' => ∃ q t, e = .returned (.pointer (some ⟨q, 0, none⟩)) ∧ w.heap.size ≤ t ∧ Below w.heap.size w w' ∧ Sy.Sys w' p b n (fun _ => 0) (fun _ _ => 0) (fun _ => q) (fun _ => t) [fun _ => none] := by
  refine (Nw.new_any w p).mono ?_
  rintro e w' ⟨rfl, hb, hS, hT⟩
  exact ⟨_, w.heap.size, rfl, Nat.le_refl _, hb, hF.below hb, fun i hi => hS, fun i hi => by
    have : i = 0 := by simpa using hi
    subst this
    exact hT, fun i j hi hj hne => by simp at hi hj; omega, Inv.empty n⟩
/-- New, whatever the number. -/
theorem new_some (many : Int) (w : World) : Calls Try.prog 17 #[.int .i64 many] w fun e w' => ∃ pv c, e = .returned (.tuple #[pv, .int .i64 c]) ∧ Below w.heap.size w w' := by
  by_cases h : 1 ≤ many ∧ many ≤ 256
  · obtain ⟨m, rfl⟩ := Int.eq_ofNat_of_zero_le (show 0 ≤ many by omega)
    refine (new_ok w m (by omega)).mono ?_
    rintro e w' ⟨hb, p, b, rfl, _⟩
    exact ⟨_, _, rfl, hb⟩
  · refine (new_arg w many h).mono ?_
    rintro e w' ⟨rfl, rfl⟩
    exact ⟨_, _, rfl, Below.refl _ _⟩
end Go.Proofs.Ytclpokkjbkbkgaa.Tg
