/-
  Plain words of layer 3: the instructions' names and how far their fields go, which instructions may be, their words, lines, and how a line is read.
-/
import Derived.Lib.ItoaNum
import Derived.Lib.ItoaMem
namespace Go.Proofs.YtlddjjkbnhhfaaaDoor.IsaM
open Go
set_option linter.unusedVariables false

abbrev Tx := List UInt8

def nmT : List Tx := [[110,111,112],[108,105],[108,117,105],[109,111,118],[97,100,100],[115,117,98],[109,117,108],[97,110,100],[111,114],[120,111,114],[115,104,108],[115,104,114],[97,100,100,105],[115,108,116],[115,101,113],[108,119],[115,119],[108,98],[115,98],[106,109,112],[106,122],[106,110,122],[106,97,108],[106,114],[115,121,115],[122,115,101,116],[122,103,101,116],[122,97,100,100],[122,109,117,108],[122,99,111,110,106]]
def sigT : List (Int × Int × Int) := [(0,0,0),(7,0,32767),(7,0,32767),(7,7,0),(7,7,0),(7,7,0),(7,7,0),(7,7,0),(7,7,0),(7,7,0),(7,7,0),(7,7,0),(7,0,32767),(7,7,0),(7,7,0),(7,7,32767),(7,7,32767),(7,7,32767),(7,7,32767),(0,0,32767),(7,0,32767),(7,0,32767),(7,0,32767),(7,0,0),(0,0,0),(1,6,0),(1,6,0),(1,1,0),(1,1,0),(1,0,0)]
def nm (k : Nat) : Tx := nmT.getD k []
def mA (k : Nat) : Int := (sigT.getD k (0,0,0)).1
def mB (k : Nat) : Int := (sigT.getD k (0,0,0)).2.1
def mI (k : Nat) : Int := (sigT.getD k (0,0,0)).2.2
def isJ (k : Nat) : Bool := k == 19 || k == 20 || k == 21 || k == 22
def lo (m : Int) : Int := if m = 0 then 0 else -32768

/-- The word's number among the names. -/
def findFrom (t : Tx) : Nat → List Tx → Option Nat
  | _, [] => none
  | k, n :: r => if n = t then some k else findFrom t (k + 1) r
def opOf (t : Tx) : Option Nat := findFrom t 0 nmT

structure Fits (k : Nat) (a b i : Int) : Prop where
  k30 : k < 30
  a0 : 0 ≤ a
  a1 : a ≤ mA k
  b0 : 0 ≤ b
  b1 : b ≤ mB k
  i0 : lo (mI k) ≤ i
  i1 : i ≤ mI k
instance (k : Nat) (a b i : Int) : Decidable (Fits k a b i) :=
  decidable_of_iff (k < 30 ∧ 0 ≤ a ∧ a ≤ mA k ∧ 0 ≤ b ∧ b ≤ mB k ∧ lo (mI k) ≤ i ∧ i ≤ mI k) ⟨fun ⟨h1, h2, h3, h4, h5, h6, h7⟩ => ⟨h1, h2, h3, h4, h5, h6, h7⟩, fun ⟨h1, h2, h3, h4, h5, h6, h7⟩ => ⟨h1, h2, h3, h4, h5, h6, h7⟩⟩
/-- An instruction may be. -/
def May (op a b i : Int) : Prop := 0 ≤ op ∧ Fits op.toNat a b i
instance (op a b i : Int) : Decidable (May op a b i) := inferInstanceAs (Decidable (_ ∧ _))
def mayB (op a b i : Int) : Bool := decide (May op a b i)

theorem sig_fin : ∀ k : Fin 30, (mA k = 0 ∨ mA k = 1 ∨ mA k = 7) ∧ (mB k = 0 ∨ mB k = 1 ∨ mB k = 6 ∨ mB k = 7) ∧ (mI k = 0 ∨ mI k = 32767) := by decide +kernel
theorem mA_cases {k : Nat} (h : k < 30) : mA k = 0 ∨ mA k = 1 ∨ mA k = 7 := (sig_fin ⟨k, h⟩).1
theorem mB_cases {k : Nat} (h : k < 30) : mB k = 0 ∨ mB k = 1 ∨ mB k = 6 ∨ mB k = 7 := (sig_fin ⟨k, h⟩).2.1
theorem mI_cases {k : Nat} (h : k < 30) : mI k = 0 ∨ mI k = 32767 := (sig_fin ⟨k, h⟩).2.2
theorem Fits.bd {k : Nat} {a b i : Int} (h : Fits k a b i) : k < 30 ∧ 0 ≤ a ∧ a ≤ 7 ∧ 0 ≤ b ∧ b ≤ 7 ∧ -32768 ≤ i ∧ i ≤ 32767 := by
  have h1 := mA_cases h.k30
  have h2 := mB_cases h.k30
  have h3 := mI_cases h.k30
  have h4 := h.i0
  have := h.a1; have := h.b1; have := h.i1
  refine ⟨h.k30, h.a0, by omega, h.b0, by omega, ?_, by omega⟩
  unfold lo at h4
  split at h4 <;> omega

/-- The word of an instruction. -/
def enc (op a b i : Int) : Int := op * 16777216 + a * 1048576 + b * 65536 + (if i < 0 then i + 65536 else i)
def dOp (w : Int) : Int := w / 16777216
def dA (w : Int) : Int := w / 1048576 % 16
def dB (w : Int) : Int := w / 65536 % 16
def dI (w : Int) : Int := if w % 65536 > 32767 then w % 65536 - 65536 else w % 65536
theorem enc_bd {op a b i : Int} (h : May op a b i) : 0 ≤ enc op a b i ∧ enc op a b i < 4294967296 := by
  obtain ⟨h0, h⟩ := h
  have := h.bd
  unfold enc
  split <;> omega
theorem dec_enc {op a b i : Int} (h : May op a b i) : dOp (enc op a b i) = op ∧ dA (enc op a b i) = a ∧ dB (enc op a b i) = b ∧ dI (enc op a b i) = i := by
  obtain ⟨h0, h⟩ := h
  have := h.bd
  unfold enc dOp dA dB dI
  split <;> refine ⟨by omega, by omega, by omega, ?_⟩ <;> split <;> omega
theorem enc_dec {w : Int} (h0 : 0 ≤ w) (h1 : w < 4294967296) : enc (dOp w) (dA w) (dB w) (dI w) = w := by
  unfold enc dOp dA dB dI
  split <;> split <;> omega

/-- The line of an instruction. -/
def fld (m v : Int) : Tx := if m = 0 then [] else 32 :: Lib.itoa v
def line (k : Nat) (a b i : Int) : Tx := nm k ++ fld (mA k) a ++ fld (mB k) b ++ fld (mI k) i

/-- A text's parts between blanks. -/
def splitSp : Tx → List Tx
  | [] => [[]]
  | c :: r => if c = 32 then [] :: splitSp r else match splitSp r with
    | [] => [[c]]
    | p :: q => (c :: p) :: q
theorem splitSp_ne (s : Tx) : splitSp s ≠ [] := by
  cases s with
  | nil => simp [splitSp]
  | cons c r => unfold splitSp; split; · simp
                split <;> simp
def isDg (c : UInt8) : Bool := decide (48 ≤ c.toNat) && decide (c.toNat ≤ 57)
def isLet (c : UInt8) : Bool := decide (97 ≤ c.toNat) && decide (c.toNat ≤ 122)
/-- A label's name. -/
def isNm (t : Tx) : Bool := match t with
  | [] => false
  | c :: r => isLet c && r.all (fun d => isLet d || isDg d) && decide (t.length ≤ 16)
def val (t : Tx) : Nat := t.foldl (fun n c => 10 * n + (c.toNat - 48)) 0
/-- The word that digits say. -/
def natOf (t : Tx) : Option Nat :=
  if t = [] ∨ 10 < t.length ∨ (t.head? = some 48 ∧ t ≠ [48]) ∨ t.all isDg = false then none
  else if val t ≤ 4294967295 then some (val t) else none
/-- The number that a field's text says. -/
def whole (t : Tx) : Option Int :=
  match t with
  | 45 :: r => match natOf r with
    | none => none
    | some n => if n = 0 ∨ 32768 < n then none else some (-(n : Int))
  | _ => match natOf t with
    | none => none
    | some n => if 32768 < n then none else some (n : Int)
/-- One field: what it is, the label, what is left. -/
def eat (m : Int) (j : Bool) (st : List Tx) : Option (Int × Tx × List Tx) :=
  if m = 0 then some (0, [], st) else match st with
  | [] => none
  | t :: r => if j && isNm t then some (0, t, r) else match whole t with
    | none => none
    | some v => some (v, [], r)
def eats (k : Nat) (st : List Tx) : Option ((Int × Int × Int) × Tx) :=
  match eat (mA k) false st with
  | none => none
  | some (a, _, s1) => match eat (mB k) false s1 with
    | none => none
    | some (b, _, s2) => match eat (mI k) (isJ k) s2 with
      | none => none
      | some (i, l, s3) => if s3 = [] ∧ Fits k a b i then some ((a, b, i), l) else none
def parseL (L : List Tx) : Option ((Nat × Int × Int × Int) × Tx) :=
  match L with
  | [] => none
  | h :: st => match opOf h with
    | none => none
    | some k => match eats k st with
      | none => none
      | some ((a, b, i), l) => some ((k, a, b, i), l)
def parse (s : Tx) : Option ((Nat × Int × Int × Int) × Tx) := parseL (splitSp s)
end Go.Proofs.YtlddjjkbnhhfaaaDoor.IsaM
