/-
  Processes in plain words: a list of pids and records, rising; parents, trees; what each call answers and leaves.
-/
import Derived.Test.YtkjcjodhpcfjiaaKit
namespace Go.Proofs.Ytkjcjodhpcfjiaa.Tea
set_option linter.unusedVariables false

/-- What a process is: its parent, its state, its status. -/
structure Rc where
  par : Int
  st : Int
  su : Nat
abbrev Pr := Int × Rc
abbrev St := List Pr
def Z : Rc := ⟨0, 0, 0⟩
/-- Is p there? What is it? -/
def hs (L : St) (p : Int) : Bool := L.any fun x => x.1 == p
def gt (L : St) (p : Int) : Rc := ((L.find? fun x => x.1 == p).map (·.2)).getD Z
def pids (L : St) : List Int := L.map (·.1)
def ins (L : St) (p : Int) (r : Rc) : St := (L.filter fun x => decide (x.1 < p)) ++ (p, r) :: (L.filter fun x => decide (p < x.1))
def del (L : St) (p : Int) : St := L.filter fun x => x.1 != p
def mp (L : St) (f : Int → Rc → Rc) : St := L.map fun x => (x.1, f x.1 x.2)
def kids (L : St) (p : Int) : List Int := pids (L.filter fun x => x.2.par == p)
/-- From parent to parent. -/
def up (L : St) : Nat → Int → Int → Bool
  | 0, top, p => p == top
  | n + 1, top, p => p == top || (p != 0 && up L n top (gt L p).par)
def wi (L : St) (top p : Int) : Bool := up L (L.length + 1) top p
def tr (L : St) (p : Int) : List Int := if hs L p = true then pids (L.filter fun x => wi L p x.1) else []

theorem hs_mem {L : St} {p : Int} : hs L p = true ↔ p ∈ pids L := by
  unfold hs pids
  simp only [List.any_eq_true, List.mem_map, beq_iff_eq]
theorem hs_nil (p : Int) : hs [] p = false := rfl
theorem gt_nil (p : Int) : gt [] p = Z := rfl
theorem hs_cons (x : Pr) (L : St) (p : Int) : hs (x :: L) p = (x.1 == p || hs L p) := rfl
theorem gt_cons (x : Pr) (L : St) (p : Int) : gt (x :: L) p = if x.1 = p then x.2 else gt L p := by
  unfold gt
  rw [List.find?_cons]
  by_cases h : x.1 = p
  · rw [if_pos h, show (x.1 == p) = true from beq_iff_eq.2 h]; rfl
  · rw [if_neg h, show (x.1 == p) = false from beq_eq_false_iff_ne.2 h]
theorem hs_app (A B : St) (p : Int) : hs (A ++ B) p = (hs A p || hs B p) := by simp [hs]
theorem gt_app (A B : St) (p : Int) : gt (A ++ B) p = if hs A p = true then gt A p else gt B p := by
  induction A with
  | nil => rfl
  | cons x A ih =>
    rw [List.cons_append, gt_cons, ih, gt_cons, hs_cons]
    by_cases h : x.1 = p
    · rw [if_pos h, if_pos (by rw [show (x.1 == p) = true from beq_iff_eq.2 h]; rfl), if_pos h]
    · rw [if_neg h, show (x.1 == p) = false from beq_eq_false_iff_ne.2 h]
      simp only [Bool.false_or, if_neg h]
theorem gt_no {L : St} {p : Int} (h : hs L p = false) : gt L p = Z := by
  induction L with
  | nil => rfl
  | cons x L ih =>
    rw [hs_cons, Bool.or_eq_false_iff] at h
    rw [gt_cons, if_neg (beq_eq_false_iff_ne.1 h.1), ih h.2]
theorem hs_filter (f : Int → Bool) (L : St) (p : Int) : hs (L.filter fun x => f x.1) p = (f p && hs L p) := by
  induction L with
  | nil => simp [hs]
  | cons x L ih =>
    rw [List.filter_cons]
    by_cases hf : f x.1 = true
    · rw [if_pos hf, hs_cons, hs_cons, ih]
      by_cases h : x.1 = p
      · rw [← h, hf]; simp
      · rw [show (x.1 == p) = false from beq_eq_false_iff_ne.2 h]; simp
    · rw [if_neg hf, ih, hs_cons]
      by_cases h : x.1 = p
      · rw [← h, show f x.1 = false from by simpa using hf]; simp
      · rw [show (x.1 == p) = false from beq_eq_false_iff_ne.2 h]; simp
theorem gt_filter (f : Int → Bool) (L : St) (p : Int) : gt (L.filter fun x => f x.1) p = if f p = true then gt L p else Z := by
  induction L with
  | nil => simp [gt]
  | cons x L ih =>
    rw [List.filter_cons]
    by_cases hf : f x.1 = true
    · rw [if_pos hf, gt_cons, gt_cons, ih]
      by_cases h : x.1 = p
      · rw [if_pos h, if_pos (by rw [← h]; exact hf), if_pos h]
      · rw [if_neg h, if_neg h]
    · rw [if_neg hf, ih, gt_cons]
      by_cases h : x.1 = p
      · rw [← h, if_neg hf, if_neg hf]
      · rw [if_neg h]
theorem hs_ins (L : St) (p : Int) (r : Rc) (q : Int) : hs (ins L p r) q = (p == q || hs L q) := by
  unfold ins
  rw [hs_app, hs_cons, hs_filter (fun z => decide (z < p)), hs_filter (fun z => decide (p < z))]
  dsimp only
  by_cases h : p = q
  · subst h; simp
  · rcases Int.lt_or_gt_of_ne h with h1 | h1
    · rw [decide_eq_false (show ¬ q < p by omega), decide_eq_true h1]; simp
    · rw [decide_eq_true (show q < p by omega), decide_eq_false (show ¬ p < q by omega), show (p == q) = false from beq_eq_false_iff_ne.2 h]; simp
theorem gt_ins (L : St) (p : Int) (r : Rc) (q : Int) : gt (ins L p r) q = if p = q then r else gt L q := by
  unfold ins
  rw [gt_app, gt_cons, gt_filter (fun z => decide (z < p)), gt_filter (fun z => decide (p < z)), hs_filter (fun z => decide (z < p))]
  dsimp only
  by_cases h : p = q
  · subst h; simp
  · rw [if_neg h, if_neg h]
    rcases Int.lt_or_gt_of_ne h with h1 | h1
    · rw [decide_eq_false (show ¬ q < p by omega), decide_eq_true h1]; simp
    · rw [decide_eq_true (show q < p by omega), decide_eq_false (show ¬ p < q by omega)]
      simp only [Bool.true_and, if_true, Bool.false_eq_true, if_false]
      by_cases hq : hs L q = true
      · rw [if_pos hq]
      · rw [if_neg hq, gt_no (by simpa using hq)]
theorem hs_del (L : St) (p q : Int) : hs (del L p) q = (q != p && hs L q) := hs_filter (fun z => z != p) L q
theorem gt_del (L : St) (p q : Int) : gt (del L p) q = if (q != p) = true then gt L q else Z := gt_filter (fun z => z != p) L q
theorem hs_mp (L : St) (f : Int → Rc → Rc) (q : Int) : hs (mp L f) q = hs L q := by
  unfold hs mp
  rw [List.any_map]
  rfl
theorem gt_mp (L : St) (f : Int → Rc → Rc) (q : Int) : gt (mp L f) q = if hs L q = true then f q (gt L q) else Z := by
  induction L with
  | nil => rfl
  | cons x L ih =>
    show gt ((x.1, f x.1 x.2) :: mp L f) q = _
    rw [gt_cons, ih, gt_cons, hs_cons]
    by_cases h : x.1 = q
    · rw [if_pos h, if_pos h, if_pos (by rw [show (x.1 == q) = true from beq_iff_eq.2 h]; rfl)]; rw [h]
    · rw [if_neg h, if_neg h, show (x.1 == q) = false from beq_eq_false_iff_ne.2 h, Bool.false_or]
theorem pids_mp (L : St) (f : Int → Rc → Rc) : pids (mp L f) = pids L := by simp [pids, mp]
theorem len_mp (L : St) (f : Int → Rc → Rc) : (mp L f).length = L.length := by simp [mp]

/-- Rising pids. -/
abbrev Up (L : St) : Prop := L.Pairwise fun x y => x.1 < y.1
theorem Up.nodup {L : St} (h : Up L) : (pids L).Nodup := by
  unfold pids
  exact List.pairwise_map.2 (h.imp (fun hlt e => by omega))
theorem Up.pids {L : St} (h : Up L) : (pids L).Pairwise (· < ·) := by
  unfold Tea.pids
  exact List.pairwise_map.2 h
theorem Up.sub {L M : St} (h : Up L) (hs : List.Sublist M L) : Up M := h.sublist hs
theorem Up.mp {L : St} (h : Up L) (f : Int → Rc → Rc) : Up (mp L f) := by
  unfold Tea.mp
  exact List.pairwise_map.2 h
theorem Up.del {L : St} (h : Up L) (p : Int) : Up (del L p) := h.sub List.filter_sublist
theorem Up.ins {L : St} (h : Up L) (p : Int) (r : Rc) : Up (ins L p r) := by
  have hl : ∀ x ∈ (L.filter fun x => decide (x.1 < p)), x ∈ L ∧ x.1 < p := fun x hx => by simpa using hx
  have hg : ∀ x ∈ (L.filter fun x => decide (p < x.1)), x ∈ L ∧ p < x.1 := fun x hx => by simpa using hx
  unfold Tea.ins
  refine List.pairwise_append.2 ⟨h.sublist List.filter_sublist, List.pairwise_cons.2 ⟨fun y hy => (hg y hy).2, h.sublist List.filter_sublist⟩, fun a ha b hb => ?_⟩
  rcases List.mem_cons.1 hb with rfl | hb
  · exact (hl a ha).2
  · have := (hl a ha).2; have := (hg b hb).2; omega
theorem Up.gt {L : St} (h : Up L) {x : Pr} (hx : x ∈ L) : gt L x.1 = x.2 ∧ hs L x.1 = true := by
  refine ⟨?_, hs_mem.2 (List.mem_map.2 ⟨x, hx, rfl⟩)⟩
  induction L with
  | nil => cases hx
  | cons y L ih =>
    rw [gt_cons]
    obtain ⟨h1, h2⟩ := List.pairwise_cons.1 h
    rcases List.mem_cons.1 hx with rfl | hx
    · rw [if_pos rfl]
    · rw [if_neg (by have := h1 x hx; omega), ih h2 hx]
theorem mem_gt {L : St} {p : Int} (h : hs L p = true) : (p, gt L p) ∈ L := by
  induction L with
  | nil => cases h
  | cons y L ih =>
    rw [gt_cons]
    by_cases e : y.1 = p
    · rw [if_pos e, ← e]; exact List.mem_cons_self
    · rw [if_neg e]
      rw [hs_cons, show (y.1 == p) = false from beq_eq_false_iff_ne.2 e, Bool.false_or] at h
      exact List.mem_cons_of_mem _ (ih h)
theorem len_ins (L : St) (p : Int) (r : Rc) : (ins L p r).length ≤ L.length + 1 := by
  unfold ins
  rw [List.length_append, List.length_cons]
  have : ∀ M : St, (M.filter fun x => decide (x.1 < p)).length + (M.filter fun x => decide (p < x.1)).length ≤ M.length := by
    intro M
    induction M with
    | nil => simp
    | cons x M ih =>
      rw [List.filter_cons, List.filter_cons, List.length_cons]
      by_cases h1 : x.1 < p
      · rw [if_pos (by simpa using h1), if_neg (by simp; omega), List.length_cons]; omega
      · rw [if_neg (by simpa using h1)]
        by_cases h2 : p < x.1
        · rw [if_pos (by simpa using h2), List.length_cons]; omega
        · rw [if_neg (by simpa using h2)]; omega
  exact Nat.succ_le_succ (this L)
theorem len_del (L : St) (p : Int) : (del L p).length ≤ L.length := List.length_filter_le _ _
theorem len_del_in {L : St} {p : Int} (h : hs L p = true) : (del L p).length + 1 ≤ L.length := by
  unfold del
  induction L with
  | nil => cases h
  | cons y L ih =>
    rw [List.filter_cons]
    by_cases e : y.1 = p
    · rw [if_neg (by simp [e]), List.length_cons]; have := List.length_filter_le (fun x : Pr => x.1 != p) L; omega
    · rw [hs_cons, show (y.1 == p) = false from beq_eq_false_iff_ne.2 e, Bool.false_or] at h
      rw [if_pos (by simpa using e), List.length_cons, List.length_cons]
      have := ih h
      omega

/-- A tree of processes. -/
structure Ok (L : St) : Prop where
  up : Up L
  pid : ∀ p, hs L p = true → 1 ≤ p ∧ p ≤ 65535
  st : ∀ p, hs L p = true → (1 ≤ (gt L p).st ∧ (gt L p).st ≤ 3) ∧ (gt L p).su < 4294967296 ∧ ((gt L p).st = 1 → (gt L p).su = 0)
  one : hs L 1 = true ∧ gt L 1 = ⟨0, 1, 0⟩
  tree : ∃ rk : Int → Nat, ∀ p, hs L p = true → p ≠ 1 → hs L (gt L p).par = true ∧ (gt L (gt L p).par).st ≠ 2 ∧ rk (gt L p).par < rk p
theorem ok_one : Ok [(1, ⟨0, 1, 0⟩)] := by
  have h1 : ∀ p, hs [((1 : Int), (⟨0, 1, 0⟩ : Rc))] p = true → p = 1 := fun p h => by
    rw [hs_cons, hs_nil, Bool.or_false] at h
    exact (beq_iff_eq.1 h).symm
  refine ⟨by simp, fun p h => ?_, fun p h => ?_, ⟨rfl, rfl⟩, ⟨fun _ => 0, fun p h hn => absurd (h1 p h) hn⟩⟩
  · have := h1 p h; omega
  · obtain rfl := h1 p h; decide
variable {L : St}
theorem Ok.st0 (h : Ok L) (p : Int) : hs L p = false ↔ (gt L p).st = 0 := by
  constructor
  · intro e; rw [gt_no e]; rfl
  · intro e
    cases hp : hs L p
    · rfl
    · have := (h.st p hp).1; omega
theorem Ok.there (h : Ok L) {p : Int} (hp : (gt L p).st ≠ 0) : hs L p = true := by
  cases e : hs L p
  · exact absurd ((h.st0 p).1 e) hp
  · rfl
theorem Ok.par_in (h : Ok L) {p : Int} (hp : hs L p = true) : (gt L p).par = 0 ∨ hs L (gt L p).par = true := by
  by_cases e : p = 1
  · subst e; rw [h.one.2]; exact .inl rfl
  · obtain ⟨rk, hr⟩ := h.tree; exact .inr (hr p hp e).1
theorem Ok.zero (h : Ok L) : hs L 0 = false := by
  cases e : hs L 0
  · rfl
  · have := h.pid 0 e; omega
theorem Ok.par_bd (h : Ok L) (p : Int) : 0 ≤ (gt L p).par ∧ (gt L p).par ≤ 65535 := by
  cases e : hs L p
  · rw [gt_no e]; decide
  · rcases h.par_in e with e2 | e2
    · rw [e2]; decide
    · have := h.pid _ e2; omega
/-- Ranks below the number of processes. -/
theorem cnt_lt (rk : Int → Nat) (L : St) {a b : Int} (hb : hs L a = true) (hl : rk a < rk b) :
    (L.filter fun x => decide (rk x.1 < rk a)).length < (L.filter fun x => decide (rk x.1 < rk b)).length := by
  have mono : ∀ M : St, (M.filter fun x => decide (rk x.1 < rk a)).length ≤ (M.filter fun x => decide (rk x.1 < rk b)).length := by
    intro M
    induction M with
    | nil => simp
    | cons x M ih =>
      rw [List.filter_cons, List.filter_cons]
      by_cases h1 : rk x.1 < rk a
      · rw [if_pos (by simpa using h1), if_pos (by simp; omega)]; simpa using ih
      · rw [if_neg (by simpa using h1)]
        by_cases h2 : rk x.1 < rk b
        · rw [if_pos (by simpa using h2), List.length_cons]; omega
        · rw [if_neg (by simpa using h2)]; exact ih
  induction L with
  | nil => cases hb
  | cons x M ih =>
    rw [List.filter_cons, List.filter_cons]
    by_cases e : x.1 = a
    · rw [if_neg (by simp [e]), if_pos (by simp [e]; exact hl), List.length_cons]
      have := mono M
      omega
    · rw [hs_cons, show (x.1 == a) = false from beq_eq_false_iff_ne.2 e, Bool.false_or] at hb
      have := ih hb
      by_cases h1 : rk x.1 < rk a
      · rw [if_pos (by simpa using h1), if_pos (by simp; omega)]; simpa using this
      · rw [if_neg (by simpa using h1)]
        by_cases h2 : rk x.1 < rk b
        · rw [if_pos (by simpa using h2), List.length_cons]; omega
        · rw [if_neg (by simpa using h2)]; exact this
theorem cnt_le (rk : Int → Nat) (L : St) {a : Int} (ha : hs L a = true) : (L.filter fun x => decide (rk x.1 < rk a)).length < L.length := by
  induction L with
  | nil => cases ha
  | cons x M ih =>
    rw [List.filter_cons, List.length_cons]
    by_cases e : x.1 = a
    · rw [if_neg (by simp [e])]
      have := List.length_filter_le (fun x : Pr => decide (rk x.1 < rk a)) M
      omega
    · rw [hs_cons, show (x.1 == a) = false from beq_eq_false_iff_ne.2 e, Bool.false_or] at ha
      have := ih ha
      split
      · rw [List.length_cons]; omega
      · omega
theorem Ok.ranks (h : Ok L) : ∃ rk : Int → Nat, (∀ p, hs L p = true → rk p < L.length) ∧ (∀ p, hs L p = true → p ≠ 1 → hs L (gt L p).par = true ∧ (gt L (gt L p).par).st ≠ 2 ∧ rk (gt L p).par < rk p) := by
  obtain ⟨rk, hr⟩ := h.tree
  refine ⟨fun p => (L.filter fun x => decide (rk x.1 < rk p)).length, fun p hp => cnt_le rk L hp, fun p hp h1 => ?_⟩
  obtain ⟨a, b, c⟩ := hr p hp h1
  exact ⟨a, b, cnt_lt rk L a c⟩
/-- How far one is from process 1, one more; 0 of none. -/
theorem Ok.depth (h : Ok L) : ∃ dp : Int → Nat, dp 0 = 0 ∧ (∀ p, hs L p = true → 1 ≤ dp p ∧ dp p ≤ L.length) ∧ (∀ p, hs L p = true → dp (gt L p).par < dp p) ∧ ∀ p, hs L p = true → p ≠ 1 → dp 1 < dp p := by
  obtain ⟨rk, h1, h2⟩ := h.ranks
  have low : ∀ n p, rk p ≤ n → hs L p = true → p ≠ 1 → rk 1 < rk p := by
    intro n
    induction n with
    | zero => intro p hn hp hp1; have := (h2 p hp hp1).2.2; omega
    | succ n ih =>
      intro p hn hp hp1
      have a := h2 p hp hp1
      by_cases e : (gt L p).par = 1
      · rw [e] at a; exact a.2.2
      · have := ih _ (by omega) a.1 e; omega
  refine ⟨fun p => if p = 0 then 0 else rk p + 1, if_pos rfl, fun p hp => ?_, fun p hp => ?_, fun p hp hp1 => ?_⟩
  · have := h.pid p hp
    have := h1 p hp
    dsimp only
    rw [if_neg (by omega)]
    omega
  · have hp0 := h.pid p hp
    dsimp only
    rw [if_neg (show p ≠ 0 by omega)]
    by_cases e : p = 1
    · subst e; rw [h.one.2]; simp
    · have a := h2 p hp e
      have b := h.pid _ a.1
      rw [if_neg (by omega)]
      omega
  · have hp0 := h.pid p hp
    dsimp only
    rw [if_neg (by omega), if_neg (by omega)]
    have := low _ p (Nat.le_refl _) hp hp1
    omega
theorem up_same (h : Ok L) {dp : Int → Nat} (d1 : ∀ p, hs L p = true → 1 ≤ dp p) (d2 : ∀ p, hs L p = true → dp (gt L p).par < dp p) (top : Int) :
    ∀ n m z, (z = 0 ∨ hs L z = true) → dp z ≤ n → dp z ≤ m → up L n top z = up L m top z := by
  intro n
  induction n with
  | zero =>
    intro m z hz hn hm
    rcases hz with rfl | hz
    · cases m with
      | zero => rfl
      | succ m => simp [up]
    · have := d1 z hz; omega
  | succ n ih =>
    intro m z hz hn hm
    rcases hz with rfl | hz
    · cases m with
      | zero => simp [up]
      | succ m => simp [up]
    · cases m with
      | zero => have := d1 z hz; omega
      | succ m =>
        have := d2 z hz
        unfold up
        rw [ih m _ (h.par_in hz) (by omega) (by omega)]
theorem wi_zero (h : Ok L) (top : Int) : wi L top 0 = (0 == top) := by
  unfold wi
  cases L.length with
  | zero => simp [up]
  | succ n => simp [up]
theorem wi_in (h : Ok L) (top : Int) {p : Int} (hp : hs L p = true) : wi L top p = (p == top || wi L top (gt L p).par) := by
  obtain ⟨dp, d0, d1, d2, _⟩ := h.depth
  have hp0 := h.pid p hp
  have e : wi L top p = (p == top || (p != 0 && up L L.length top (gt L p).par)) := rfl
  rw [e, show (p != 0) = true from by simp; omega, Bool.true_and]
  unfold wi
  have := d2 p hp
  have := (d1 p hp).2
  rw [up_same h (fun p hp => (d1 p hp).1) d2 top L.length (L.length + 1) _ (h.par_in hp) (by omega) (by omega)]
theorem wi_self (h : Ok L) {p : Int} (hp : hs L p = true) : wi L p p = true := by rw [wi_in h p hp]; simp

/-! ### what calls leave -/
/-- One child more. -/
theorem Ok.new (h : Ok L) {p q : Int} {r : Rc} (hp : 1 ≤ p ∧ p ≤ 65535) (hn : hs L p = false) (hr : hs L r.par = true) (hz : (gt L r.par).st ≠ 2) (hs1 : (1 ≤ r.st ∧ r.st ≤ 3) ∧ r.su < 4294967296 ∧ (r.st = 1 → r.su = 0)) : Ok (ins L p r) := by
  obtain ⟨rk, hk⟩ := h.tree
  have e1 : p ≠ 1 := fun e => by rw [e, h.one.1] at hn; cases hn
  have np : ∀ q, hs L q = true → p ≠ q := fun q hq e => by rw [e, hq] at hn; cases hn
  refine ⟨h.up.ins p r, fun q hq => ?_, fun q hq => ?_, ⟨?_, ?_⟩, fun q => if p = q then rk r.par + 1 else rk q, fun q hq hq1 => ?_⟩
  · rw [hs_ins, Bool.or_eq_true, beq_iff_eq] at hq
    rcases hq with rfl | hq
    · exact hp
    · exact h.pid q hq
  · rw [hs_ins, Bool.or_eq_true, beq_iff_eq] at hq
    rw [gt_ins]
    by_cases e : p = q
    · rw [if_pos e]; exact hs1
    · rw [if_neg e]; exact h.st q (hq.resolve_left e)
  · rw [hs_ins, h.one.1]; simp
  · rw [gt_ins, if_neg e1]; exact h.one.2
  · rw [hs_ins, Bool.or_eq_true, beq_iff_eq] at hq
    rw [gt_ins]
    by_cases e : p = q
    · rw [if_pos e, hs_ins, gt_ins, if_neg (np _ hr), hr]
      refine ⟨by simp, hz, ?_⟩
      dsimp only
      rw [if_neg (np _ hr), if_pos e]
      omega
    · have a := hk q (hq.resolve_left e) hq1
      rw [if_neg e, hs_ins, gt_ins, if_neg (np _ a.1), a.1]
      refine ⟨by simp, a.2.1, ?_⟩
      dsimp only
      rw [if_neg (np _ a.1), if_neg e]
      exact a.2.2
/-- A zombie less. -/
theorem Ok.reap (h : Ok L) {p : Int} (hp : (gt L p).st = 2) : Ok (del L p) := by
  obtain ⟨rk, hk⟩ := h.tree
  have e1 : (1 : Int) ≠ p := fun e => by rw [← e, h.one.2] at hp; cases hp
  refine ⟨h.up.del p, fun q hq => ?_, fun q hq => ?_, ⟨?_, ?_⟩, rk, fun q hq hq1 => ?_⟩
  · rw [hs_del, Bool.and_eq_true] at hq; exact h.pid q hq.2
  · rw [hs_del, Bool.and_eq_true] at hq; rw [gt_del, if_pos hq.1]; exact h.st q hq.2
  · rw [hs_del, h.one.1]; simpa using e1
  · rw [gt_del, if_pos (by simpa using e1)]; exact h.one.2
  · rw [hs_del, Bool.and_eq_true] at hq
    have a := hk q hq.2 hq1
    have e2 : ((gt L q).par != p) = true := by
      rw [bne_iff_ne]
      intro e
      rw [e] at a
      exact a.2.1 hp
    rw [gt_del, if_pos hq.1, hs_del, gt_del, if_pos e2, e2, a.1]
    exact ⟨rfl, a.2⟩
/-- Parents stay, and no zombie is made that has children. -/
theorem Ok.map (h : Ok L) (f : Int → Rc → Rc) (hf : ∀ q, hs L q = true → (f q (gt L q)).par = (gt L q).par ∧ ((1 ≤ (f q (gt L q)).st ∧ (f q (gt L q)).st ≤ 3) ∧ (f q (gt L q)).su < 4294967296 ∧ ((f q (gt L q)).st = 1 → (f q (gt L q)).su = 0)))
    (h1 : f 1 (gt L 1) = gt L 1) (h2 : ∀ q, hs L q = true → (f q (gt L q)).st = 2 → (gt L q).st = 2 ∨ ∀ x, hs L x = true → (gt L x).par ≠ q) : Ok (mp L f) := by
  obtain ⟨rk, hk⟩ := h.tree
  refine ⟨h.up.mp f, fun q hq => h.pid q (by rwa [hs_mp] at hq), fun q hq => ?_, ⟨by rw [hs_mp]; exact h.one.1, by rw [gt_mp, if_pos h.one.1, h1]; exact h.one.2⟩, rk, fun q hq hq1 => ?_⟩
  · rw [hs_mp] at hq; rw [gt_mp, if_pos hq]; exact (hf q hq).2
  · rw [hs_mp] at hq
    have a := hk q hq hq1
    rw [gt_mp, if_pos hq, (hf q hq).1, hs_mp, gt_mp, if_pos a.1]
    refine ⟨a.1, fun e => ?_, a.2.2⟩
    rcases h2 _ a.1 e with e2 | e2
    · exact a.2.1 e2
    · exact e2 q hq rfl
def exF (p : Int) (s : Nat) (q : Int) (r : Rc) : Rc := if q = p then ⟨r.par, 2, s⟩ else if r.par = p then ⟨1, r.st, r.su⟩ else r
def exL (L : St) (p : Int) (s : Nat) : St := mp L (exF p s)
/-- One exits. -/
theorem Ok.exit (h : Ok L) {p : Int} {s : Nat} (hp : (gt L p).st = 1) (h1 : p ≠ 1) (hs1 : s < 4294967296) : Ok (exL L p s) := by
  obtain ⟨dp, d0, d1, d2, d3⟩ := h.depth
  obtain ⟨rk, hk⟩ := h.tree
  have hin : hs L p = true := h.there (by omega)
  have hp0 := h.pid p hin
  have e1 : exF p s 1 (gt L 1) = gt L 1 := by
    unfold exF
    rw [if_neg (fun e => h1 e.symm), h.one.2, if_neg (show ¬ (0 : Int) = p by omega)]
  refine ⟨h.up.mp _, fun q hq => h.pid q (by rwa [exL, hs_mp] at hq), fun q hq => ?_, ⟨by rw [exL, hs_mp]; exact h.one.1, by rw [exL, gt_mp, if_pos h.one.1, e1]; exact h.one.2⟩, dp, fun q hq hq1 => ?_⟩
  · rw [exL, hs_mp] at hq
    have a := h.st q hq
    rw [exL, gt_mp, if_pos hq]
    unfold exF
    split
    · exact ⟨by dsimp only; omega, hs1, fun e => by cases e⟩
    · split
      · exact a
      · exact a
  · rw [exL, hs_mp] at hq
    have a := hk q hq hq1
    have hd := d2 q hq
    have hne : ∀ x, x ≠ p → ((exF p s x (gt L x)).st = (gt L x).st) := fun x hx => by
      unfold exF
      rw [if_neg hx]
      split <;> rfl
    by_cases e : q = p
    · have e2 : (exF p s q (gt L q)).par = (gt L q).par := by unfold exF; rw [if_pos e]
      have e3 : (gt L q).par ≠ p := fun e3 => by rw [e3, e] at hd; omega
      rw [exL, gt_mp, if_pos hq, e2, hs_mp, gt_mp, if_pos a.1, hne _ e3]
      exact ⟨a.1, a.2.1, hd⟩
    · by_cases e4 : (gt L q).par = p
      · have e2 : (exF p s q (gt L q)).par = 1 := by unfold exF; rw [if_neg e, if_pos e4]
        rw [exL, gt_mp, if_pos hq, e2, hs_mp, gt_mp, if_pos h.one.1, e1, h.one.2]
        exact ⟨h.one.1, by decide, d3 q hq hq1⟩
      · have e2 : (exF p s q (gt L q)).par = (gt L q).par := by unfold exF; rw [if_neg e, if_neg e4]
        rw [exL, gt_mp, if_pos hq, e2, hs_mp, gt_mp, if_pos a.1, hne _ e4]
        exact ⟨a.1, a.2.1, hd⟩
def frF (S : List Int) (q : Int) (r : Rc) : Rc := if q ∈ S then ⟨r.par, 3, 0⟩ else r
def frL (L : St) (S : List Int) : St := mp L (frF S)
theorem Ok.freeze (h : Ok L) {S : List Int} (h1 : (1 : Int) ∉ S) : Ok (frL L S) := by
  refine h.map _ (fun q hq => ?_) ?_ (fun q hq e => ?_)
  · have a := h.st q hq
    unfold frF
    split
    · exact ⟨rfl, by dsimp only; omega, by dsimp only; omega, fun e => by cases e⟩
    · exact ⟨rfl, a⟩
  · unfold frF; rw [if_neg h1]
  · unfold frF at e
    split at e
    · cases e
    · exact .inl e
def thF (p st : Int) (su : Nat) (q : Int) (r : Rc) : Rc := if q = p then ⟨r.par, st, su⟩ else r
def thL (L : St) (p st : Int) (su : Nat) : St := mp L (thF p st su)
theorem kids_nil {p : Int} (hu : Up L) : kids L p = [] ↔ ∀ x, hs L x = true → (gt L x).par ≠ p := by
  constructor
  · intro h x hx e
    have := mem_gt hx
    have h2 : x ∈ kids L p := List.mem_map.2 ⟨_, List.mem_filter.2 ⟨this, by simpa using e⟩, rfl⟩
    rw [h] at h2
    cases h2
  · intro h
    apply List.eq_nil_iff_forall_not_mem.2
    intro x hx
    obtain ⟨y, hy, rfl⟩ := List.mem_map.1 hx
    rw [List.mem_filter] at hy
    have := hu.gt hy.1
    exact h _ this.2 (by rw [this.1]; simpa using hy.2)
theorem Ok.thaw (h : Ok L) {p st : Int} {su : Nat} (hp : (gt L p).st = 3) (h2 : (st = 1 ∧ su = 0) ∨ (st = 2 ∧ su < 4294967296 ∧ kids L p = [])) : Ok (thL L p st su) := by
  have n1 : (1 : Int) ≠ p := fun e => by rw [← e, h.one.2] at hp; cases hp
  refine h.map _ (fun q hq => ?_) ?_ (fun q hq e => ?_)
  · have a := h.st q hq
    unfold thF
    split
    · exact ⟨rfl, by dsimp only; rcases h2 with ⟨rfl, rfl⟩ | ⟨rfl, h3, _⟩ <;> omega⟩
    · exact ⟨rfl, a⟩
  · unfold thF; rw [if_neg n1]
  · unfold thF at e
    split at e
    · rename_i e3
      subst e3
      dsimp only at e
      rcases h2 with ⟨rfl, rfl⟩ | ⟨rfl, _, h3⟩
      · cases e
      · exact .inr ((kids_nil h.up).1 h3)
    · exact .inl e
/-- A tree that is not process 1's does not hold process 1. -/
theorem one_out (h : Ok L) {p : Int} (h1 : p ≠ 1) : (1 : Int) ∉ tr L p := by
  unfold tr
  split
  · rename_i hp
    have hp0 := h.pid p hp
    intro hm
    obtain ⟨x, hx, e⟩ := List.mem_map.1 hm
    rw [List.mem_filter] at hx
    have h2 := hx.2
    rw [e, wi_in h p h.one.1, h.one.2, wi_zero h] at h2
    simp at h2
    omega
  · exact List.not_mem_nil
end Go.Proofs.Ytkjcjodhpcfjiaa.Tea
