/-
  SleepTraces: plain facts; two of a law's own; what the loop carries.
-/
import Derived.Test.YtpblnjphkgilfaaSlq
namespace Go.Proofs.Ytpblnjphkgilfaa.Slr
open Go Go.RowKit Go.Shelf Kit Bk Sla Slb Slc Sld Sle Slf Slg Slh Sli Slj Slk Sll Sln Slo Slp Slq
set_option linter.unusedVariables false

theorem drL_no {L : St} {p : Int} (h : slp L p = false) : drL L p = L := by
  unfold drL
  refine List.filter_eq_self.2 (fun x hx => ?_)
  have : p ∉ pids L := fun e => by rw [slp_mem.2 e] at h; cases h
  rw [bne_iff_ne]
  rintro rfl
  exact this (List.mem_map.2 ⟨x, hx, rfl⟩)
theorem filter_lt {L R : St} {p : Int} (hA : ∀ x ∈ L, x.1 < p) (hR : ∀ x ∈ R, p < x.1) : ((L ++ R).filter fun x => decide (x.1 < p)) = L ∧ ((L ++ R).filter fun x => decide (p < x.1)) = R := by
  constructor
  · rw [List.filter_append, List.filter_eq_self.2 (fun x hx => decide_eq_true (hA x hx)), List.filter_eq_nil_iff.2 (fun x hx => by have := hR x hx; simp; omega), List.append_nil]
  · rw [List.filter_append, List.filter_eq_nil_iff.2 (fun x hx => by have := hA x hx; simp; omega), List.filter_eq_self.2 (fun x hx => decide_eq_true (hR x hx)), List.nil_append]
/-- Who is dropped, and added with what was left, leaves no trace. -/
theorem ins_back {L : St} (ho : Ok L) {p : Int} (h : slp L p = true) : ins (drL L p) p (lft L p) = L := by
  obtain ⟨x, hx, rfl⟩ := List.mem_map.1 (slp_mem.1 h)
  obtain ⟨A, R, rfl⟩ := List.append_of_mem hx
  obtain ⟨h1, h2, h3⟩ := List.pairwise_append.1 ho.up
  obtain ⟨h4, h5⟩ := List.pairwise_cons.1 h2
  have hA : ∀ y ∈ A, y.1 < x.1 := fun y hy => h3 y hy x List.mem_cons_self
  have hno : slp A x.1 = false := by
    cases e : slp A x.1
    · rfl
    · obtain ⟨y, hy, e2⟩ := List.mem_map.1 (slp_mem.1 e)
      have := hA y hy
      omega
  have hd : drL (A ++ x :: R) x.1 = A ++ R := by
    unfold drL
    rw [List.filter_append, List.filter_cons, if_neg (by simp), List.filter_eq_self.2 (fun y hy => by have := hA y hy; rw [bne_iff_ne]; omega), List.filter_eq_self.2 (fun y hy => by have := h4 y hy; rw [bne_iff_ne]; omega)]
  have hl : lft (A ++ x :: R) x.1 = x.2 := by
    rw [lft_app, hno, lft_cons]
    simp
  rw [hd, hl]
  unfold ins
  rw [(filter_lt hA h4).1, (filter_lt hA h4).2]
theorem add_back {L : St} (ho : Ok L) {p : Int} (h : slp L p = true) : adE (drL L p) p (lft L p) = 0 ∧ adL (drL L p) p (lft L p) = L := by
  have hs : slp (drL L p) p = false := by rw [slp_drL]; simp
  obtain ⟨x, hx, rfl⟩ := List.mem_map.1 (slp_mem.1 h)
  have h1 := ho.each x hx
  have h2 : 1 ≤ lft L x.1 := by
    have hb := ins_back ho h
    have hm : (x.1, lft L x.1) ∈ L := by
      have h2 : (x.1, lft L x.1) ∈ ins (drL L x.1) x.1 (lft L x.1) := by unfold ins; simp
      generalize (x.1, lft L x.1) = z at *
      rw [hb] at h2
      exact h2
    exact (ho.each _ hm).2.1
  have hn : ¬ (x.1 < 1 ∨ lft L x.1 < 1) := by omega
  have := adE_new hn hs
  rw [ins_back ho h] at this
  exact this
theorem lft_lt {L : St} (ho : Ok L) (p : Int) : lft L p < 4294967296 := by
  unfold lft
  cases h : L.find? (fun x => x.1 == p) with
  | none => simp
  | some x => exact (ho.each x (List.mem_of_find?_eq_some h)).2.2
theorem dr_next {L : St} {i : Nat} (hi : i < L.length) (p : Int) : drL (L.take (i + 1)) p = drL (L.take i) p ++ (if L[i].1 = p then [] else [L[i]]) := by
  rw [List.take_succ_eq_append_getElem hi]
  have : ∀ (A : St) (x : Sl), drL (A ++ [x]) p = drL A p ++ (if x.1 = p then [] else [x]) := by
    intro A x
    unfold drL
    by_cases h : x.1 = p
    · simp [List.filter_append, h]
    · simp [List.filter_append, h]
  exact this _ _
/-- The i-th, not dropped, stands where those ahead of it end. -/
theorem dr_at {L : St} {i : Nat} (hi : i < L.length) {p : Int} (h : L[i].1 ≠ p) : ∃ hk : (drL (L.take i) p).length < (drL L p).length, (drL L p)[(drL (L.take i) p).length] = L[i] := by
  have e : drL L p = drL (L.take i) p ++ L[i] :: drL (L.drop (i + 1)) p := by
    conv => lhs; rw [← List.take_append_drop (i + 1) L]
    have h1 : drL (L.take (i + 1) ++ L.drop (i + 1)) p = drL (L.take (i + 1)) p ++ drL (L.drop (i + 1)) p := by unfold drL; rw [List.filter_append]
    rw [h1, dr_next hi, if_neg h]
    simp
  have hk : (drL (L.take i) p).length < (drL L p).length := by rw [e]; simp
  refine ⟨hk, ?_⟩
  have h1 := List.getElem?_eq_getElem hk
  have h2 : (drL L p)[(drL (L.take i) p).length]? = some L[i] := by
    conv => lhs; rw [e]
    rw [List.getElem?_append_right (Nat.le_refl _), Nat.sub_self]
    rfl
  rw [h1] at h2
  exact Option.some.inj h2

/-- Two of a law's own. -/
structure Two (w0 w : World) (q : Nat) (m : Option Nat) (L : St) (q2 : Nat) (m2 : Option Nat) (L2 : St) : Prop where
  a : On w0 w q m L
  b : On w0 w q2 m2 L2
  ne : q ≠ q2
  nm : ∀ b, m = some b → m2 ≠ some b
variable {w0 w w' : World} {q q2 : Nat} {m m2 : Option Nat} {L L2 : St}
theorem Two.symm (h : Two w0 w q m L q2 m2 L2) : Two w0 w q2 m2 L2 q m L := ⟨h.b, h.a, h.ne.symm, fun b e e2 => h.nm b e2 e⟩
theorem Two.below (h : Two w0 w q m L q2 m2 L2) (hb : Below w.heap.size w w') : Two w0 w' q m L q2 m2 L2 := ⟨h.a.below hb, h.b.below hb, h.ne, h.nm⟩
theorem Two.left {L' : St} {m' : Option Nat} (h : Two w0 w q m L q2 m2 L2) (h1 : On w0 w' q m' L') (hk : Kp (Slb.fr q m) w w') (hm : m' = m ∨ ∃ b, m' = some b ∧ w.heap.size ≤ b) : Two w0 w' q m' L' q2 m2 L2 := by
  have hb : On w0 w' q2 m2 L2 := h.b.kept hk h.a.fr (fun e => by
    rcases e with e | e
    · exact h.ne e.symm
    · exact Mp.ne (show Mp w q2 L from by have := h.a.sv.map; rw [← e] at this; exact this) h.b.sv.blk rfl) (fun b e e2 => by
    subst e
    rcases e2 with e2 | e2
    · subst e2
      exact Mp.ne (show Mp w b L2 from h.b.sv.map) h.a.sv.blk rfl
    · exact h.nm b e2.symm rfl)
  refine ⟨h1, hb, h.ne, fun b e e2 => ?_⟩
  rcases hm with hm | ⟨c, hm, hc⟩
  · rw [hm] at e; exact h.nm b e e2
  · rw [hm] at e
    cases e
    have := h.b.sv.map.lt b e2
    omega
theorem Two.copy (h : On w0 w q m L) : Calls Try.prog 15 #[pv q] w fun e w' => ∃ q' m', e = .returned (pv q') ∧ Two w0 w' q m L q' m' L ∧ Below w.heap.size w w' := by
  refine (copy_any h.sv).mono ?_
  rintro e w' ⟨q', m', rfl, h1, h2, h3, h4⟩
  have hq := h.sv.blk.lt
  have hs := h.bel.size
  exact ⟨q', m', rfl, ⟨h.below h2, ⟨h1, h.ok, h.bel.trans (h2.mono hs), by omega, fun b e => Nat.le_trans hs (h4 b e)⟩, by omega, fun b e e2 => by have := h.sv.map.lt b e; have := h4 b e2; omega⟩, h2⟩
/-- What the loop carries: both, and two lists. -/
structure Tz (w0 w : World) (q : Nat) (m : Option Nat) (L : St) (q2 : Nat) (m2 : Option Nat) (p : Int) (u v : Value) : Prop where
  two : Two w0 w q m (drL L p) q2 m2 L
  all : Sr w u L
  now : Sr w v (drL L p)
theorem Tz.below {p : Int} {u v : Value} (h : Tz w0 w q m L q2 m2 p u v) (hb : Below w.heap.size w w') : Tz w0 w' q m L q2 m2 p u v := ⟨h.two.below hb, own_below h.all hb, own_below h.now hb⟩
theorem Tz.cell {p : Int} {u v : Value} (h : Tz w0 w q m L q2 m2 p u v) {i : Nat} (hi : i < L.length) : ∃ r c, u = .slice (some ⟨r, 0, none⟩) L.length c ∧ w.cell? ⟨r, i * 2, none⟩ = some (.int .i64 (pd L i)) ∧ w.cell? ⟨r, i * 2 + 1, none⟩ = some (uv (tc L i)) := by
  obtain ⟨a, c, rfl, h1, h2, h3⟩ := sr_cells h.all
  obtain ⟨r, rfl, e1, e2⟩ := h3 i hi
  rw [pd_at hi, tc_at hi]
  exact ⟨r, c, rfl, e1, e2⟩
theorem Tz.cell2 {p : Int} {u v : Value} (h : Tz w0 w q m L q2 m2 p u v) {i : Nat} (hi : i < L.length) (hp : pd L i ≠ p) : ∃ r c, v = .slice (some ⟨r, 0, none⟩) (drL L p).length c ∧ (drL (L.take i) p).length < (drL L p).length ∧ w.cell? ⟨r, (drL (L.take i) p).length * 2, none⟩ = some (.int .i64 (pd L i)) ∧ w.cell? ⟨r, (drL (L.take i) p).length * 2 + 1, none⟩ = some (uv (tc L i)) := by
  obtain ⟨a, c, rfl, h1, h2, h3⟩ := sr_cells h.now
  rw [pd_at hi] at hp
  obtain ⟨hk, hat⟩ := dr_at hi hp
  obtain ⟨r, rfl, e1, e2⟩ := h3 _ hk
  rw [hat] at e1 e2
  rw [pd_at hi, tc_at hi]
  exact ⟨r, c, rfl, hk, e1, e2⟩
end Go.Proofs.Ytpblnjphkgilfaa.Slr
