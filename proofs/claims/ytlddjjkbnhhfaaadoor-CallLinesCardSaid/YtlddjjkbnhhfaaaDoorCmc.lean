/-
  The document's own reading of a line, in plain words.
-/
import Derived.Test.YtlddjjkbnhhfaaaDoorClo
namespace Go.Proofs.YtlddjjkbnhhfaaaDoor.Cmc
open Go Go.RowKit IsaM Cla Clh Clo
set_option linter.unusedVariables false

/-- A number's digits, read as far as they go. -/
def rdN : Tx → Nat → Nat × Tx
  | [], v => (v, [])
  | c :: r, v => if 48 ≤ c.toNat ∧ c.toNat ≤ 57 ∧ v < 5000000000 then rdN r (v * 10 + c.toNat - 48) else (v, c :: r)
theorem rdN_go {c : UInt8} {r : Tx} {v : Nat} (h1 : 48 ≤ c.toNat) (h2 : c.toNat ≤ 57) (h3 : v < 5000000000) : rdN (c :: r) v = rdN r (v * 10 + c.toNat - 48) := if_pos ⟨h1, h2, h3⟩
theorem rdN_stop {c : UInt8} {r : Tx} {v : Nat} (h : ¬ (48 ≤ c.toNat ∧ c.toNat ≤ 57 ∧ v < 5000000000)) : rdN (c :: r) v = (v, c :: r) := if_neg h
theorem rdN_dec (u : Nat) (hu : u < 4294967296) : ∀ r, rdN (Lib.decDigits u ++ r) 0 = rdN r u := by
  induction u using Nat.strongRecOn with
  | _ u ih =>
    intro r
    by_cases h : u < 10
    · rw [Lib.decDigits, dif_pos h]
      have hc : (UInt8.ofNat (48 + u)).toNat = 48 + u := by rw [UInt8.toNat_ofNat']; omega
      show rdN (UInt8.ofNat (48 + u) :: r) 0 = _
      rw [rdN_go (by omega) (by omega) (by omega), hc]
      congr 1
      omega
    · rw [Lib.decDigits, dif_neg h, List.append_assoc, ih (u / 10) (by omega) (by omega)]
      have hc : (UInt8.ofNat (48 + u % 10)).toNat = 48 + u % 10 := by rw [UInt8.toNat_ofNat']; omega
      show rdN (UInt8.ofNat (48 + u % 10) :: r) (u / 10) = _
      rw [rdN_go (by omega) (by omega) (by omega), hc]
      congr 1
      omega
theorem rdN_end (u : Nat) (hu : u < 4294967296) : rdN (Lib.decDigits u) 0 = (u, []) := by
  have := rdN_dec u hu []
  rw [List.append_nil] at this
  exact this
theorem rdN_sp (u : Nat) (hu : u < 4294967296) (r : Tx) : rdN (Lib.decDigits u ++ 32 :: r) 0 = (u, 32 :: r) := by
  rw [rdN_dec u hu]
  exact rdN_stop (by intro h; exact absurd h.1 (by decide))
def setA (c : Cl) (i v : Nat) : Cl := if i = 0 then { c with a := v } else if i = 1 then { c with b := v } else { c with c := v }
/-- What is left of a line, read as arguments: j may come yet. -/
def rdA : Nat → Tx → Cl → Option Cl
  | 0, _, c => some c
  | j + 1, t, c => if t = [] then some c else if 4294967295 < (rdN (t.drop 1) 0).1 then none else rdA j (rdN (t.drop 1) 0).2 (setA c (2 - j) (rdN (t.drop 1) 0).1)
def hd (s : Tx) : Tx := s.takeWhile (· != 32)
def tl (s : Tx) : Tx := s.dropWhile (· != 32)
def rdL (s : Tx) : Option Cl := rdA 3 (tl s) ⟨(byT (hd s) : Nat), 0, 0, 0⟩
theorem hd_app {a r : Tx} (ha : (32 : UInt8) ∉ a) (hr : r = [] ∨ ∃ q, r = 32 :: q) : hd (a ++ r) = a ∧ tl (a ++ r) = r := by
  induction a with
  | nil => rcases hr with rfl | ⟨q, rfl⟩ <;> exact ⟨rfl, rfl⟩
  | cons c b ih =>
    have h1 : (32 : UInt8) ∉ b := fun h => ha (List.mem_cons_of_mem _ h)
    have h2 : (c != 32) = true := by
      rw [bne_iff_ne]
      intro e
      exact ha (by rw [e]; exact List.mem_cons_self)
    have := ih h1
    unfold hd tl at *
    rw [List.cons_append, List.takeWhile_cons, List.dropWhile_cons, h2, if_pos rfl, if_pos rfl, this.1, this.2]
    exact ⟨rfl, rfl⟩
theorem rd_one {j : Nat} {t : Tx} {u : Nat} (hu : u < 4294967296) (c : Cl) (h : rdN t 0 = (u, [])) : rdA (j + 1) (32 :: t) c = some (setA c (2 - j) u) := by
  show (if (32 :: t : Tx) = [] then some c else if 4294967295 < (rdN t 0).1 then none else rdA j (rdN t 0).2 (setA c (2 - j) (rdN t 0).1)) = _
  rw [if_neg (by simp), h, if_neg (by show ¬ 4294967295 < u; omega)]
  cases j <;> rfl
theorem rd_more {j : Nat} {t r : Tx} {u : Nat} (hu : u < 4294967296) (c : Cl) (h : rdN t 0 = (u, r)) : rdA (j + 1) (32 :: t) c = rdA j r (setA c (2 - j) u) := by
  show (if (32 :: t : Tx) = [] then some c else if 4294967295 < (rdN t 0).1 then none else rdA j (rdN t 0).2 (setA c (2 - j) (rdN t 0).1)) = _
  rw [if_neg (by simp), h, if_neg (by show ¬ 4294967295 < u; omega)]
theorem argsT_form (x : Cl) (m : Nat) : argsT x m = [] ∨ ∃ q, argsT x m = 32 :: q := by
  induction m with
  | zero => exact .inl rfl
  | succ m ih =>
    rcases ih with h | ⟨q, h⟩
    · exact .inr ⟨_, by show argsT x m ++ _ = _; rw [h]; rfl⟩
    · exact .inr ⟨_, by show argsT x m ++ _ = _; rw [h]; rfl⟩
theorem rdL_line {x : Cl} (hx : mayC x = true) (hw : Wf x) : rdL (lineT x) = some x := by
  obtain ⟨k, hk, h1, h2⟩ := isC_nat (may_isC hx)
  have hm3 := mn3 h2
  have e : lineT x = wd k ++ argsT x (mn k) := by unfold lineT; rw [hk, Int.toNat_natCast]
  have hh := hd_app (wd_sp h2) (argsT_form x (mn k))
  unfold rdL
  rw [e, hh.1, hh.2, byT_wd h2]
  have ho := may_only hx
  rw [hk] at ho
  unfold only at ho
  simp only [many_nat h1 h2] at ho
  have ea := congrArg Cl.a ho
  have eb := congrArg Cl.b ho
  have ec := congrArg Cl.c ho
  simp only at ea eb ec
  obtain ⟨n, a, b, c⟩ := x
  simp only at hk ea eb ec
  have ha := hw.a
  have hb := hw.b
  have hc := hw.c
  simp only at ha hb hc
  subst hk
  have hmm : mn k = 0 ∨ mn k = 1 ∨ mn k = 2 ∨ mn k = 3 := by omega
  rcases hmm with hm | hm | hm | hm <;> rw [hm] at ea eb ec ⊢
  · rw [if_neg (by omega)] at ea eb ec
    subst ea eb ec
    rfl
  · rw [if_neg (by omega)] at eb ec
    subst eb ec
    show rdA (2 + 1) (32 :: Lib.decDigits a) _ = _
    rw [rd_one ha _ (rdN_end a ha)]
    rfl
  · rw [if_neg (by omega)] at ec
    subst ec
    show rdA (2 + 1) (32 :: (Lib.decDigits a ++ 32 :: Lib.decDigits b)) _ = _
    rw [rd_more ha _ (rdN_sp a ha _), rd_one hb _ (rdN_end b hb)]
    rfl
  · rw [show argsT ⟨(k : Int), a, b, c⟩ 3 = 32 :: (Lib.decDigits a ++ 32 :: (Lib.decDigits b ++ 32 :: Lib.decDigits c)) from by
      show (([] ++ 32 :: Lib.decDigits a) ++ 32 :: Lib.decDigits b) ++ 32 :: Lib.decDigits c = _
      simp [List.append_assoc]]
    show rdA (2 + 1) _ _ = _
    rw [rd_more ha _ (rdN_sp a ha _), rd_more hb _ (rdN_sp b hb _), rd_one hc _ (rdN_end c hc)]
    rfl
/-- What the document's Read answers. -/
def rdR (s : Tx) : Value := match rdL s with
  | some c => if mayC c = true ∧ lineT c = s then .tuple #[cv c, .int .i64 0] else .tuple #[cv zc, .int .i64 160]
  | none => .tuple #[cv zc, .int .i64 160]
theorem rdR_ok {s : ByteArray} (h : ∀ c, rdL s.data.toList = some c → Wf c) : ReadR s (.returned (rdR s.data.toList)) := by
  unfold rdR ReadR
  cases e : rdL s.data.toList with
  | none => exact .inr ⟨fun x hx hw hl => (by rw [← hl, rdL_line hx hw] at e; exact absurd e (by simp)), rfl⟩
  | some c =>
    simp only
    split
    · rename_i hc
      exact .inl ⟨c, hc.1, h c e, hc.2, rfl⟩
    · rename_i hc
      refine .inr ⟨fun x hx hw hl => hc ?_, rfl⟩
      rw [← hl, rdL_line hx hw] at e
      cases e
      exact ⟨hx, hl⟩
/-- Two such answers are one. -/
theorem readR_one {s : ByteArray} {e f : Ending} (h : ReadR s e) (k : ReadR s f) : e = f := by
  rcases h with ⟨x, hx, hw, hl, rfl⟩ | ⟨h1, rfl⟩
  · rcases k with ⟨y, hy, hv, hm, rfl⟩ | ⟨k1, rfl⟩
    · rw [line_inj hx hy (hl.trans hm.symm)]
    · exact absurd hl (k1 x hx hw)
  · rcases k with ⟨y, hy, hv, hm, rfl⟩ | ⟨k1, rfl⟩
    · exact absurd hm (h1 y hy hv)
    · rfl
end Go.Proofs.YtlddjjkbnhhfaaaDoor.Cmc
