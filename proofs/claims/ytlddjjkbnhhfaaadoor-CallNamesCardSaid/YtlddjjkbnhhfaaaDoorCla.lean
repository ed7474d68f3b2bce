/-
  Plain words of layer 16: calls' words and how many arguments they have, codes' words, answers, which calls may be, their lines, and programs of them.
-/
import Derived.Test.YtlddjjkbnhhfaaaDoorIsaM
import Derived.Test.YtlddjjkbnhhfaaaDoorIsaS
namespace Go.Proofs.YtlddjjkbnhhfaaaDoor.Cla
open Go IsaM IsaS
set_option linter.unusedVariables false

def wdT : List Tx := [[], [101,120,105,116], [102,111,114,107], [119,97,105,116], [103,101,116,112,105,100], [103,101,116,112,112,105,100], [112,105,112,101], [114,101,97,100], [119,114,105,116,101], [99,108,111,115,101], [100,117,112], [107,105,108,108], [109,97,115,107], [104,97,110,100,108,101], [115,105,103,114,101,116,117,114,110], [102,117,116,101,120,119,97,105,116], [102,117,116,101,120,119,97,107,101], [115,108,101,101,112], [121,105,101,108,100], [109,97,112], [117,110,109,97,112], [97,102,102,105,110,105,116,121], [112,114,105,110,116]]
def mnT : List Nat := [0, 1, 0, 1, 0, 0, 1, 3, 3, 1, 1, 2, 1, 2, 0, 2, 2, 1, 0, 3, 2, 1, 1]
def cdT : List Tx := [[], [69,80,69,82,77], [], [69,83,82,67,72], [69,73,78,84,82], [], [], [], [], [69,66,65,68,70], [69,67,72,73,76,68], [69,65,71,65,73,78], [69,78,79,77,69,77], [], [69,70,65,85,76,84], [], [69,66,85,83,89], [], [], [], [], [], [69,73,78,86,65,76], [69,78,70,73,76,69], [69,77,70,73,76,69], [], [], [], [], [], [], [], [69,80,73,80,69], [], [], [], [], [], [69,78,79,83,89,83], [], [], [], [], [], [], [], [], [], [], [], [], [], [], [], [], [], [], [], [], [], [69,78,79,84,67,76,79,83,69,68]]
def tx (l : Tx) : ByteArray := ⟨l.toArray⟩
theorem tx_app (a b : Tx) : tx a ++ tx b = tx (a ++ b) := by
  apply ByteArray.ext
  simp [tx, ByteArray.data_append]
theorem tx_size (l : Tx) : (tx l).size = l.length := by show l.toArray.size = _; simp
theorem tx_data (l : Tx) : (tx l).data.toList = l := rfl
theorem tx_inj {a b : Tx} : tx a = tx b ↔ a = b := ⟨fun h => by have := congrArg (fun x : ByteArray => x.data.toList) h; simpa [tx] using this, fun h => by rw [h]⟩
theorem tx_mk (s : ByteArray) : tx s.data.toList = s := by unfold tx; simp

def wd (k : Nat) : Tx := wdT.getD k []
def mn (k : Nat) : Nat := mnT.getD k 0
def cd (k : Nat) : Tx := cdT.getD k []
def isC (n : Int) : Bool := decide (1 ≤ n) && decide (n < 23)
def nameT (n : Int) : Tx := if isC n then wd n.toNat else []
def manyI (n : Int) : Int := if isC n then (mn n.toNat : Int) else -1
def codeT (n : Int) : Tx := if n < 0 ∨ 61 ≤ n then [] else cd n.toNat
def isCd (n : Int) : Bool := codeT n != []
def answer (n : Int) : Int := if isCd n then 4294967296 - n else 0
/-- What -w is, as a word. -/
def neg32 (w : Int) : Int := -w % 4294967296
def failed (w : Int) : Int := if isCd (neg32 w) then neg32 w else 0
/-- The first number whose word is t. -/
def byF (t : Tx) : Nat → Nat → Nat
  | 0, _ => 0
  | f + 1, k => if wd k = t then k else byF t f (k + 1)
def byT (t : Tx) : Nat := byF t 23 0
theorem isC_iff {n : Int} : isC n = true ↔ 1 ≤ n ∧ n < 23 := by simp [isC]
theorem isC_nat {n : Int} (h : isC n = true) : ∃ k : Nat, n = k ∧ 1 ≤ k ∧ k < 23 := by
  rw [isC_iff] at h
  exact ⟨n.toNat, by omega, by omega, by omega⟩
theorem mn_le : ∀ k : Fin 23, mn k.val ≤ 3 := by decide +kernel
theorem mn3 {k : Nat} (h : k < 23) : mn k ≤ 3 := mn_le ⟨k, h⟩
theorem wd_ne : ∀ k : Fin 23, 1 ≤ k.val → wd k.val ≠ [] := by decide +kernel
theorem wd_len : ∀ k : Fin 23, (wd k.val).length ≤ 9 := by decide +kernel
theorem wd_low : ∀ k : Fin 23, (wd k.val).all (fun c => decide (97 ≤ c.toNat ∧ c.toNat ≤ 122)) = true := by decide +kernel
theorem wd_inj : ∀ a b : Fin 23, wd a.val = wd b.val → a = b := by decide +kernel
theorem cd_inj : ∀ a b : Fin 61, cd a.val = cd b.val → cd a.val ≠ [] → a = b := by decide +kernel
theorem cd_zero : cd 0 = [] := rfl
theorem byF_spec (t : Tx) : ∀ (f k : Nat), f + k = 23 → (∃ j, k ≤ j ∧ j < 23 ∧ wd j = t ∧ byF t f k = j) ∨ ((∀ j, k ≤ j → j < 23 → wd j ≠ t) ∧ byF t f k = 0)
  | 0, k, h => .inr ⟨fun j h1 h2 => by omega, rfl⟩
  | f + 1, k, h => by
    unfold byF
    by_cases e : wd k = t
    · rw [if_pos e]
      exact .inl ⟨k, Nat.le_refl _, by omega, e, rfl⟩
    · rw [if_neg e]
      rcases byF_spec t f (k + 1) (by omega) with ⟨j, h1, h2, h3, h4⟩ | ⟨h1, h2⟩
      · exact .inl ⟨j, by omega, h2, h3, h4⟩
      · refine .inr ⟨fun j h3 h4 => ?_, h2⟩
        by_cases e2 : j = k
        · rw [e2]; exact e
        · exact h1 j (by omega) h4
theorem byT_wd {k : Nat} (h : k < 23) : byT (wd k) = k := by
  rcases byF_spec (wd k) 23 0 rfl with ⟨j, -, h2, h3, h4⟩ | ⟨h1, -⟩
  · have := wd_inj ⟨j, h2⟩ ⟨k, h⟩ h3
    simp at this
    unfold byT
    omega
  · exact absurd rfl (h1 k (Nat.zero_le _) h)
theorem byT_lt (t : Tx) : byT t < 23 := by
  rcases byF_spec t 23 0 rfl with ⟨j, -, h2, h3, h4⟩ | ⟨h1, h2⟩
  · unfold byT; omega
  · unfold byT; omega
theorem byT_pos {t : Tx} (h : 1 ≤ byT t) : wd (byT t) = t := by
  rcases byF_spec t 23 0 rfl with ⟨j, -, h2, h3, h4⟩ | ⟨h1, h2⟩
  · unfold byT; rw [h4]; exact h3
  · unfold byT at h; omega
/-- The last number whose word is t, of 1 to i. -/
def lastBy (t : Tx) : Nat → Nat
  | 0 => 0
  | i + 1 => if wd (i + 1) = t then i + 1 else lastBy t i
theorem lastBy_spec (t : Tx) : ∀ i, i ≤ 22 → (∃ j, 1 ≤ j ∧ j ≤ i ∧ wd j = t ∧ lastBy t i = j) ∨ ((∀ j, 1 ≤ j → j ≤ i → wd j ≠ t) ∧ lastBy t i = 0)
  | 0, _ => .inr ⟨fun j h1 h2 => by omega, rfl⟩
  | i + 1, h => by
    unfold lastBy
    by_cases e : wd (i + 1) = t
    · rw [if_pos e]
      exact .inl ⟨i + 1, by omega, Nat.le_refl _, e, rfl⟩
    · rw [if_neg e]
      rcases lastBy_spec t i (by omega) with ⟨j, h1, h2, h3, h4⟩ | ⟨h1, h2⟩
      · exact .inl ⟨j, h1, by omega, h3, h4⟩
      · refine .inr ⟨fun j h3 h4 => ?_, h2⟩
        by_cases e2 : j = i + 1
        · rw [e2]; exact e
        · exact h1 j h3 (by omega)
theorem lastBy_byT (t : Tx) : lastBy t 22 = byT t := by
  rcases lastBy_spec t 22 (Nat.le_refl _) with ⟨j, h1, h2, h3, h4⟩ | ⟨h1, h2⟩
  · rw [h4, ← h3, byT_wd (by omega)]
  · rw [h2]
    rcases byF_spec t 23 0 rfl with ⟨j, -, g2, g3, g4⟩ | ⟨g1, g2⟩
    · by_cases hj : j = 0
      · unfold byT; omega
      · exact absurd g3 (h1 j (by omega) (by omega))
    · exact g2.symm
/-- Codes. -/
theorem cd_some {n : Int} (h : isCd n = true) : 0 ≤ n ∧ n < 61 ∧ codeT n = cd n.toNat ∧ cd n.toNat ≠ [] := by
  unfold isCd codeT at h
  unfold codeT
  by_cases e : n < 0 ∨ 61 ≤ n
  · rw [if_pos e] at h; cases h
  · rw [if_neg e] at h ⊢
    have : cd n.toNat ≠ [] := by simpa using h
    exact ⟨by omega, by omega, rfl, this⟩
theorem cd_one {n : Int} (h : isCd n = true) : 1 ≤ n ∧ n ≤ 60 := by
  have h1 := cd_some h
  refine ⟨?_, by omega⟩
  rcases Int.lt_or_le n 1 with h2 | h2
  · obtain rfl : n = 0 := by omega
    exact absurd rfl h1.2.2.2
  · exact h2
theorem neg32_bd (w : Int) : 0 ≤ neg32 w ∧ neg32 w < 4294967296 := by unfold neg32; omega
theorem failed_answer {n : Int} (h : isCd n = true) : failed (answer n) = n := by
  have h1 := cd_one h
  have e : neg32 (answer n) = n := by unfold answer neg32; rw [if_pos h]; omega
  unfold failed
  rw [e, if_pos h]

/-- A call. -/
structure Cl where
  n : Int
  a : Nat
  b : Nat
  c : Nat
deriving DecidableEq
def zc : Cl := ⟨0, 0, 0, 0⟩
def ar (x : Cl) (i : Nat) : Nat := if i = 0 then x.a else if i = 1 then x.b else x.c
/-- Of the words, those that are the call's. -/
def only (n : Int) (xs : Nat → Nat) : Cl := let m := manyI n; ⟨n, if 0 < m then xs 0 else 0, if 1 < m then xs 1 else 0, if 2 < m then xs 2 else 0⟩
def mayC (x : Cl) : Bool := isC x.n && decide (x = only x.n (ar x))
structure Wf (x : Cl) : Prop where
  n : (Lit.int .i64 x.n).wf = true
  a : x.a < 4294967296
  b : x.b < 4294967296
  c : x.c < 4294967296
/-- Its first i arguments, told. -/
def argsT (x : Cl) : Nat → Tx
  | 0 => []
  | i + 1 => argsT x i ++ 32 :: Lib.decDigits (ar x i)
def lineT (x : Cl) : Tx := wd x.n.toNat ++ argsT x (mn x.n.toNat)
def liT (r w : Nat) : Tx := [108, 105, 32] ++ Lib.decDigits r ++ [32] ++ Lib.decDigits w ++ [10]
def sysT : Tx := [115, 121, 115, 10]
def lisT (x : Cl) : Nat → Tx
  | 0 => []
  | i + 1 => lisT x i ++ liT (i + 1) (ar x i)
def callT (x : Cl) : Tx := liT 0 x.n.toNat ++ lisT x (mn x.n.toNat) ++ sysT
def near (x : Cl) : Bool := (List.range (mn x.n.toNat)).all fun i => decide (ar x i ≤ 32767)
def okB (x : Cl) : Bool := mayC x && near x
def progT : List Cl → Tx
  | [] => []
  | x :: r => callT x ++ progT r
theorem progT_app : ∀ (a b : List Cl), progT (a ++ b) = progT a ++ progT b
  | [], b => rfl
  | x :: r, b => by show callT x ++ progT (r ++ b) = (callT x ++ progT r) ++ progT b; rw [progT_app r b, List.append_assoc]

theorem may_isC {x : Cl} (h : mayC x = true) : isC x.n = true := by unfold mayC at h; rw [Bool.and_eq_true] at h; exact h.1
theorem may_only {x : Cl} (h : mayC x = true) : x = only x.n (ar x) := by unfold mayC at h; rw [Bool.and_eq_true] at h; exact of_decide_eq_true h.2
theorem many_nat {k : Nat} (h1 : 1 ≤ k) (h : k < 23) : manyI (k : Int) = (mn k : Int) := by
  unfold manyI
  rw [if_pos (isC_iff.2 ⟨by omega, by omega⟩), Int.toNat_natCast]
theorem many_no {n : Int} (h : isC n = false) : manyI n = -1 := by unfold manyI; rw [h]; rfl
theorem only_may {k : Nat} (h1 : 1 ≤ k) (h : k < 23) (xs : Nat → Nat) : mayC (only (k : Int) xs) = true := by
  have hn : (only (k : Int) xs).n = k := rfl
  unfold mayC
  rw [hn, Bool.and_eq_true]
  refine ⟨isC_iff.2 ⟨by omega, by omega⟩, decide_eq_true ?_⟩
  unfold only
  simp only [ar]
  refine congr (congr (congr rfl ?_) ?_) ?_ <;> split <;> simp_all
theorem only_ar {k : Nat} (h1 : 1 ≤ k) (h : k < 23) (xs : Nat → Nat) (i : Nat) (hi : i < mn k) : ar (only (k : Int) xs) i = xs i := by
  have hm := many_nat h1 h
  have h3 := mn3 h
  unfold only ar
  simp only [hm]
  split
  · rename_i e; subst e; rw [if_pos (by omega)]
  · split
    · rename_i e; subst e; rw [if_pos (by omega)]
    · obtain rfl : i = 2 := by omega
      rw [if_pos (by omega)]
/-- Two calls that may be are one, if their numbers and their own arguments are. -/
theorem may_ext {x y : Cl} (hx : mayC x = true) (hy : mayC y = true) (hn : x.n = y.n) (ha : ∀ i, i < mn x.n.toNat → ar x i = ar y i) : x = y := by
  have e1 := may_only hx
  have e2 := may_only hy
  obtain ⟨k, hk, h1, h2⟩ := isC_nat (may_isC hx)
  rw [e1, e2, ← hn]
  rw [hk] at ha ⊢
  rw [Int.toNat_natCast] at ha
  have hm := many_nat h1 h2
  unfold only
  simp only [hm]
  refine congr (congr (congr rfl ?_) ?_) ?_ <;> split
  · exact ha 0 (by omega)
  · rfl
  · exact ha 1 (by omega)
  · rfl
  · exact ha 2 (by omega)
  · rfl

/-- Digits. -/
theorem dig (u : Nat) : ∀ b ∈ Lib.decDigits u, 48 ≤ b.toNat ∧ b.toNat ≤ 57 := by
  induction u using Nat.strongRecOn with
  | _ u ih =>
    intro b hb
    rw [Lib.decDigits] at hb
    split at hb
    · obtain rfl : b = UInt8.ofNat (48 + u) := by simpa using hb
      rw [UInt8.toNat_ofNat']
      omega
    · rcases List.mem_append.1 hb with h | h
      · exact ih (u / 10) (by omega) b h
      · obtain rfl : b = UInt8.ofNat (48 + u % 10) := by simpa using h
        rw [UInt8.toNat_ofNat']
        omega
theorem dec_ne (u : Nat) : Lib.decDigits u ≠ [] := by
  rw [Lib.decDigits]
  split <;> simp
theorem dec_sp (u : Nat) : (32 : UInt8) ∉ Lib.decDigits u := fun h => by have := (dig u 32 h).1; exact absurd this (by decide)
theorem dd_one {u : Nat} (h : u < 10) : Lib.decDigits u = [UInt8.ofNat (48 + u)] := by rw [Lib.decDigits, dif_pos h]
theorem dd_more {u : Nat} (h : ¬ u < 10) : Lib.decDigits u = Lib.decDigits (u / 10) ++ [UInt8.ofNat (48 + u % 10)] := by rw [Lib.decDigits, dif_neg h]
theorem val_snoc (t : Tx) (c : UInt8) : val (t ++ [c]) = 10 * val t + (c.toNat - 48) := by unfold val; rw [List.foldl_append]; rfl
theorem dd_val (u : Nat) : val (Lib.decDigits u) = u := by
  induction u using Nat.strongRecOn with
  | ind u ih =>
    by_cases h : u < 10
    · rw [dd_one h]
      show 10 * 0 + ((UInt8.ofNat (48 + u)).toNat - 48) = u
      rw [UInt8.toNat_ofNat']; omega
    · rw [dd_more h, val_snoc, ih (u / 10) (by omega), UInt8.toNat_ofNat']; omega
theorem dd_inj {a b : Nat} (h : Lib.decDigits a = Lib.decDigits b) : a = b := by rw [← dd_val a, h, dd_val]
theorem dd_len : ∀ (f u : Nat), u < 10 ^ (f + 1) → (Lib.decDigits u).length ≤ f + 1
  | 0, u, h => by rw [dd_one (by omega)]; simp
  | f + 1, u, h => by
    by_cases h10 : u < 10
    · rw [dd_one h10]; simp
    · rw [dd_more h10, List.length_append]
      have := dd_len f (u / 10) (by rw [Nat.pow_succ] at h; omega)
      simp; omega
theorem dd10 {u : Nat} (h : u < 4294967296) : (Lib.decDigits u).length ≤ 10 := dd_len 9 u (by omega)

/-- Parts. -/
theorem sp_cons {c : UInt8} {r : Tx} (hc : c ≠ 32) {p : Tx} {q : List Tx} (h : splitSp r = p :: q) : splitSp (c :: r) = (c :: p) :: q := by
  unfold splitSp
  rw [if_neg hc, h]
theorem sp_word : ∀ (t : Tx), (32 : UInt8) ∉ t → splitSp t = [t]
  | [], _ => rfl
  | c :: r, h => by
    rw [List.mem_cons, not_or] at h
    exact sp_cons (fun e => h.1 e.symm) (sp_word r h.2)
theorem sp_app : ∀ (t r : Tx), (32 : UInt8) ∉ t → splitSp (t ++ 32 :: r) = t :: splitSp r
  | [], r, _ => by show splitSp (32 :: r) = _; conv => lhs; unfold splitSp
                   rw [if_pos rfl]
  | c :: l, r, h => by
    rw [List.mem_cons, not_or] at h
    exact sp_cons (fun e => h.1 e.symm) (sp_app l r h.2)
/-- What parts are of, a blank ahead of each but the first. -/
def joinT : List Tx → Tx
  | [] => []
  | p :: r => 32 :: p ++ joinT r
def unsplit : List Tx → Tx
  | [] => []
  | p :: r => p ++ joinT r
theorem joinT_app : ∀ a b, joinT (a ++ b) = joinT a ++ joinT b
  | [], b => rfl
  | p :: r, b => by show 32 :: p ++ joinT (r ++ b) = (32 :: p ++ joinT r) ++ joinT b; rw [joinT_app r b]; simp
theorem splitK_un : ∀ (m : Nat) (t : Tx), unsplit (Lib.splitK [32] 0 m t) = t
  | 0, t => by show t ++ [] = t; rw [List.append_nil]
  | m + 1, t => by
    unfold Lib.splitK
    rcases (show Lib.index t [32] < 0 ∨ 0 ≤ Lib.index t [32] by omega) with h1 | h1
    · have := Lib.index_ge t [32]
      rw [if_pos (by simp; omega)]; show t ++ [] = t; rw [List.append_nil]
    · obtain ⟨i, hi⟩ := Int.eq_ofNat_of_zero_le h1
      have hs := split_hit t i hi
      rw [if_neg (by simp; omega)]
      have e : (Lib.index t [32]).toNat = i := by omega
      rw [e]
      show unsplit (t.take i :: Lib.splitK [32] 0 m (t.drop (i + 1))) = t
      have ih := splitK_un m (t.drop (i + 1))
      have hne := cut_ne (t.drop (i + 1)) m
      have e32 : t = t.take i ++ 32 :: t.drop (i + 1) := idx_hit t i hi
      cases hL : Lib.splitK [32] 0 m (t.drop (i + 1)) with
      | nil => exact absurd hL hne
      | cons p q =>
        rw [hL] at ih
        show t.take i ++ (32 :: p ++ joinT q) = t
        conv => rhs; rw [e32]
        rw [← ih]
        rfl
where
  idx_hit : ∀ (t : Tx) (i : Nat), Lib.index t [32] = i → t = t.take i ++ 32 :: t.drop (i + 1)
  | [], i, h => by
    have : Lib.index [] [32] = -1 := rfl
    rw [this] at h; omega
  | b :: l, i, h => by
    rw [idx_cons] at h
    by_cases hb : b = 32
    · rw [if_pos hb] at h
      obtain rfl : i = 0 := by omega
      rw [hb]; rfl
    · rw [if_neg hb] at h
      by_cases hl : Lib.index l [32] = -1
      · rw [if_pos hl] at h; omega
      · rw [if_neg hl] at h
        have hg := Lib.index_ge l [32]
        obtain ⟨j, rfl⟩ : ∃ j, i = j + 1 := ⟨i - 1, by omega⟩
        have := idx_hit l j (by omega)
        show b :: l = b :: (l.take j ++ 32 :: l.drop (j + 1))
        rw [← this]
theorem splitK_len : ∀ (m : Nat) (t : Tx), (Lib.splitK [32] 0 m t).length ≤ m + 1
  | 0, t => by simp [Lib.splitK]
  | m + 1, t => by
    unfold Lib.splitK
    split
    · simp
    · have := splitK_len m (t.drop ((Lib.index t [32]).toNat + [32].length))
      rw [List.length_cons]
      omega
/-- The parts of a line: what follows the word. -/
def ags (x : Cl) (i : Nat) : List Tx := (List.range i).map fun j => Lib.decDigits (ar x j)
theorem args_join (x : Cl) : ∀ i, argsT x i = joinT (ags x i)
  | 0 => rfl
  | i + 1 => by
    show argsT x i ++ 32 :: Lib.decDigits (ar x i) = _
    unfold ags
    rw [List.range_succ, List.map_append, joinT_app, args_join x i]
    show _ = _ ++ (32 :: Lib.decDigits (ar x i) ++ [])
    rw [List.append_nil]
    rfl
theorem sp_join : ∀ (w : Tx) (L : List Tx), (32 : UInt8) ∉ w → (∀ p ∈ L, (32 : UInt8) ∉ p) → splitSp (w ++ joinT L) = w :: L
  | w, [], h, _ => by show splitSp (w ++ []) = _; rw [List.append_nil, sp_word w h]
  | w, p :: r, h, hL => by
    show splitSp (w ++ 32 :: (p ++ joinT r)) = _
    rw [sp_app w _ h, sp_join p r (hL p (by simp)) (fun q hq => hL q (by simp [hq]))]
theorem wd_sp {k : Nat} (h : k < 23) : (32 : UInt8) ∉ wd k := fun e => by
  have := List.all_eq_true.1 (wd_low ⟨k, h⟩) 32 e
  exact absurd (of_decide_eq_true this).1 (by decide)
theorem line_split {x : Cl} (h : isC x.n = true) : splitSp (lineT x) = wd x.n.toNat :: ags x (mn x.n.toNat) := by
  obtain ⟨k, hk, h1, h2⟩ := isC_nat h
  unfold lineT
  rw [args_join, hk, Int.toNat_natCast]
  refine sp_join _ _ (wd_sp h2) ?_
  intro p hp
  simp only [ags, List.mem_map] at hp
  obtain ⟨j, -, rfl⟩ := hp
  exact dec_sp _
theorem ags_len (x : Cl) (i : Nat) : (ags x i).length = i := by simp [ags]
/-- A line says its call. -/
theorem line_inj {x y : Cl} (hx : mayC x = true) (hy : mayC y = true) (h : lineT x = lineT y) : x = y := by
  have e := congrArg splitSp h
  rw [line_split (may_isC hx), line_split (may_isC hy)] at e
  injection e with e1 e2
  obtain ⟨k, hk, h1, h2⟩ := isC_nat (may_isC hx)
  obtain ⟨j, hj, h3, h4⟩ := isC_nat (may_isC hy)
  rw [hk, hj, Int.toNat_natCast, Int.toNat_natCast] at e1 e2
  have ekj := wd_inj ⟨k, h2⟩ ⟨j, h4⟩ e1
  simp at ekj
  subst ekj
  refine may_ext hx hy (by rw [hk, hj]) ?_
  intro i hi
  rw [hk, Int.toNat_natCast] at hi
  have := congrArg (·[i]?) e2
  simp only [ags, List.getElem?_map, List.getElem?_range hi, Option.map_some, Option.some.injEq] at this
  exact dd_inj this
/-- What SplitN cuts into four of a call's line. -/
theorem line_cut {x : Cl} (h : isC x.n = true) : Lib.splitK [32] 0 (min 4 ((lineT x).length + 1) - 1) (lineT x) = wd x.n.toNat :: ags x (mn x.n.toNat) := by
  have e := line_split h
  obtain ⟨k, hk, h1, h2⟩ := isC_nat h
  have hm := mn3 h2
  have hl : (splitSp (lineT x)).length = mn k + 1 := by rw [e, hk, Int.toNat_natCast, List.length_cons, ags_len]
  have h5 := splitSp_len (lineT x)
  rw [splitK_all _ _ (by rw [hl] at h5 ⊢; omega), e]
theorem lineT_len {x : Cl} (h : isC x.n = true) (hw : Wf x) : (lineT x).length ≤ 42 := by
  obtain ⟨k, hk, h1, h2⟩ := isC_nat h
  have hm := mn3 h2
  have h4 := wd_len ⟨k, h2⟩
  have hr : ∀ i, ar x i < 4294967296 := fun i => by unfold ar; split; exact hw.a; split; exact hw.b; exact hw.c
  have ha : ∀ i, (argsT x i).length ≤ 11 * i := fun i => by
    induction i with
    | zero => simp [argsT]
    | succ i ih =>
      show (argsT x i ++ 32 :: Lib.decDigits (ar x i)).length ≤ _
      rw [List.length_append, List.length_cons]
      have := dd10 (hr i)
      omega
  have := ha (mn k)
  unfold lineT
  rw [hk, Int.toNat_natCast, List.length_append]
  simp only at h4
  omega
theorem ar_lt {x : Cl} (hw : Wf x) (i : Nat) : ar x i < 4294967296 := by unfold ar; split; exact hw.a; split; exact hw.b; exact hw.c
theorem liT_len {r w : Nat} (hr : r < 4294967296) (hw : w < 4294967296) : (liT r w).length ≤ 25 := by
  have := dd10 hr
  have := dd10 hw
  unfold liT
  simp only [List.length_append, List.length_cons, List.length_nil]
  omega
theorem callT_len {x : Cl} (h : isC x.n = true) (hw : Wf x) : (callT x).length ≤ 120 := by
  obtain ⟨k, hk, h1, h2⟩ := isC_nat h
  have hm := mn3 h2
  have ha : ∀ i, i ≤ 3 → (lisT x i).length ≤ 25 * i := fun i => by
    induction i with
    | zero => simp [lisT]
    | succ i ih =>
      intro h3
      show (lisT x i ++ liT (i + 1) (ar x i)).length ≤ _
      rw [List.length_append]
      have := liT_len (r := i + 1) (by omega) (ar_lt hw i)
      have := ih (by omega)
      omega
  have h5 := ha (mn k) hm
  have h6 := liT_len (r := 0) (w := k) (by omega) (by omega)
  unfold callT
  rw [hk, Int.toNat_natCast]
  simp only [List.length_append]
  have : sysT.length = 4 := rfl
  omega
theorem progT_len : ∀ (l : List Cl), (∀ x ∈ l, isC x.n = true ∧ Wf x) → (progT l).length ≤ 120 * l.length
  | [], _ => by simp [progT]
  | x :: r, h => by
    have h1 := h x (by simp)
    have h2 := callT_len h1.1 h1.2
    have h3 := progT_len r (fun y hy => h y (by simp [hy]))
    show (callT x ++ progT r).length ≤ _
    rw [List.length_append, List.length_cons]
    omega
end Go.Proofs.YtlddjjkbnhhfaaaDoor.Cla
