/-
  Plain words of layer 3: the instructions' names and how far their fields go, which instructions may be, their words, lines, and how a line is read.
-/
import Derived.Lib.ItoaNum
import Derived.Lib.ItoaMem
import Derived.Test.YtgnpbedhpkmkfaaDoorKit
import Derived.Lib.LaidU8T
import Derived.MakeChecks
import Derived.Stop.LaidErr
import Derived.WalkSmall
namespace Go.Proofs.YtgnpbedhpkmkfaaDoor.IsaM
open Go
set_option linter.unusedVariables false

abbrev Tx := List UInt8

def nmT : List Tx := [[110,111,112],[108,105],[108,117,105],[109,111,118],[97,100,100],[115,117,98],[109,117,108],[97,110,100],[111,114],[120,111,114],[115,104,108],[115,104,114],[97,100,100,105],[115,108,116],[115,101,113],[108,119],[115,119],[108,98],[115,98],[106,109,112],[106,122],[106,110,122],[106,97,108],[106,114],[115,121,115],[122,115,101,116],[122,103,101,116],[122,97,100,100],[122,109,117,108],[122,99,111,110,106]]
def sigT : List (Int × Int × Int) := [(0,0,0),(7,0,32767),(7,0,32767),(7,7,0),(7,7,0),(7,7,0),(7,7,0),(7,7,0),(7,7,0),(7,7,0),(7,7,0),(7,7,0),(7,0,32767),(7,7,0),(7,7,0),(7,7,32767),(7,7,32767),(7,7,32767),(7,7,32767),(0,0,32767),(7,0,32767),(7,0,32767),(7,0,32767),(7,0,0),(0,0,0),(1,6,0),(1,6,0),(1,1,0),(1,1,0),(1,0,0)]
def nm (k : Nat) : Tx := nmT.getD k []
def mA (k : Nat) : Int := (sigT.getD k (0,0,0)).1
def mB (k : Nat) : Int := (sigT.getD k (0,0,0)).2.1
def mI (k : Nat) : Int := (sigT.getD k (0,0,0)).2.2
def isJ (k : Nat) : Bool := k == 19 || k == 20 || k == 21 || k == 22
def lo (m : Int) : Int := if m = 0 then 0 else -32768

/-- The word's number among the names. -/
def findFrom (t : Tx) : Nat → List Tx → Option Nat
  | _, [] => none
  | k, n :: r => if n = t then some k else findFrom t (k + 1) r
def opOf (t : Tx) : Option Nat := findFrom t 0 nmT

structure Fits (k : Nat) (a b i : Int) : Prop where
  k30 : k < 30
  a0 : 0 ≤ a
  a1 : a ≤ mA k
  b0 : 0 ≤ b
  b1 : b ≤ mB k
  i0 : lo (mI k) ≤ i
  i1 : i ≤ mI k
instance (k : Nat) (a b i : Int) : Decidable (Fits k a b i) :=
  decidable_of_iff (k < 30 ∧ 0 ≤ a ∧ a ≤ mA k ∧ 0 ≤ b ∧ b ≤ mB k ∧ lo (mI k) ≤ i ∧ i ≤ mI k) ⟨fun ⟨h1, h2, h3, h4, h5, h6, h7⟩ => ⟨h1, h2, h3, h4, h5, h6, h7⟩, fun ⟨h1, h2, h3, h4, h5, h6, h7⟩ => ⟨h1, h2, h3, h4, h5, h6, h7⟩⟩
/-- An instruction may be. -/
def May (op a b i : Int) : Prop := 0 ≤ op ∧ Fits op.toNat a b i
instance (op a b i : Int) : Decidable (May op a b i) := inferInstanceAs (Decidable (_ ∧ _))
def mayB (op a b i : Int) : Bool := decide (May op a b i)

theorem sig_fin : ∀ k : Fin 30, (mA k = 0 ∨ mA k = 1 ∨ mA k = 7) ∧ (mB k = 0 ∨ mB k = 1 ∨ mB k = 6 ∨ mB k = 7) ∧ (mI k = 0 ∨ mI k = 32767) := by decide +kernel
theorem mA_cases {k : Nat} (h : k < 30) : mA k = 0 ∨ mA k = 1 ∨ mA k = 7 := (sig_fin ⟨k, h⟩).1
theorem mB_cases {k : Nat} (h : k < 30) : mB k = 0 ∨ mB k = 1 ∨ mB k = 6 ∨ mB k = 7 := (sig_fin ⟨k, h⟩).2.1
theorem mI_cases {k : Nat} (h : k < 30) : mI k = 0 ∨ mI k = 32767 := (sig_fin ⟨k, h⟩).2.2
theorem Fits.bd {k : Nat} {a b i : Int} (h : Fits k a b i) : k < 30 ∧ 0 ≤ a ∧ a ≤ 7 ∧ 0 ≤ b ∧ b ≤ 7 ∧ -32768 ≤ i ∧ i ≤ 32767 := by
  have h1 := mA_cases h.k30
  have h2 := mB_cases h.k30
  have h3 := mI_cases h.k30
  have h4 := h.i0
  have := h.a1; have := h.b1; have := h.i1
  refine ⟨h.k30, h.a0, by omega, h.b0, by omega, ?_, by omega⟩
  unfold lo at h4
  split at h4 <;> omega

/-- The word of an instruction. -/
def enc (op a b i : Int) : Int := op * 16777216 + a * 1048576 + b * 65536 + (if i < 0 then i + 65536 else i)
def dOp (w : Int) : Int := w / 16777216
def dA (w : Int) : Int := w / 1048576 % 16
def dB (w : Int) : Int := w / 65536 % 16
def dI (w : Int) : Int := if w % 65536 > 32767 then w % 65536 - 65536 else w % 65536
theorem enc_bd {op a b i : Int} (h : May op a b i) : 0 ≤ enc op a b i ∧ enc op a b i < 4294967296 := by
  obtain ⟨h0, h⟩ := h
  have := h.bd
  unfold enc
  split <;> omega
theorem dec_enc {op a b i : Int} (h : May op a b i) : dOp (enc op a b i) = op ∧ dA (enc op a b i) = a ∧ dB (enc op a b i) = b ∧ dI (enc op a b i) = i := by
  obtain ⟨h0, h⟩ := h
  have := h.bd
  unfold enc dOp dA dB dI
  split <;> refine ⟨by omega, by omega, by omega, ?_⟩ <;> split <;> omega
theorem enc_dec {w : Int} (h0 : 0 ≤ w) (h1 : w < 4294967296) : enc (dOp w) (dA w) (dB w) (dI w) = w := by
  unfold enc dOp dA dB dI
  split <;> split <;> omega

/-- The line of an instruction. -/
def fld (m v : Int) : Tx := if m = 0 then [] else 32 :: Lib.itoa v
def line (k : Nat) (a b i : Int) : Tx := nm k ++ fld (mA k) a ++ fld (mB k) b ++ fld (mI k) i

/-- A text's parts between blanks. -/
def splitSp : Tx → List Tx
  | [] => [[]]
  | c :: r => if c = 32 then [] :: splitSp r else match splitSp r with
    | [] => [[c]]
    | p :: q => (c :: p) :: q
theorem splitSp_ne (s : Tx) : splitSp s ≠ [] := by
  cases s with
  | nil => simp [splitSp]
  | cons c r => unfold splitSp; split; · simp
                split <;> simp
def isDg (c : UInt8) : Bool := decide (48 ≤ c.toNat) && decide (c.toNat ≤ 57)
def isLet (c : UInt8) : Bool := decide (97 ≤ c.toNat) && decide (c.toNat ≤ 122)
/-- A label's name. -/
def isNm (t : Tx) : Bool := match t with
  | [] => false
  | c :: r => isLet c && r.all (fun d => isLet d || isDg d) && decide (t.length ≤ 16)
def val (t : Tx) : Nat := t.foldl (fun n c => 10 * n + (c.toNat - 48)) 0
/-- The word that digits say. -/
def natOf (t : Tx) : Option Nat :=
  if t = [] ∨ 10 < t.length ∨ (t.head? = some 48 ∧ t ≠ [48]) ∨ t.all isDg = false then none
  else if val t ≤ 4294967295 then some (val t) else none
/-- The number that a field's text says. -/
def whole (t : Tx) : Option Int :=
  match t with
  | 45 :: r => match natOf r with
    | none => none
    | some n => if n = 0 ∨ 32768 < n then none else some (-(n : Int))
  | _ => match natOf t with
    | none => none
    | some n => if 32768 < n then none else some (n : Int)
/-- One field: what it is, the label, what is left. -/
def eat (m : Int) (j : Bool) (st : List Tx) : Option (Int × Tx × List Tx) :=
  if m = 0 then some (0, [], st) else match st with
  | [] => none
  | t :: r => if j && isNm t then some (0, t, r) else match whole t with
    | none => none
    | some v => some (v, [], r)
def eats (k : Nat) (st : List Tx) : Option ((Int × Int × Int) × Tx) :=
  match eat (mA k) false st with
  | none => none
  | some (a, _, s1) => match eat (mB k) false s1 with
    | none => none
    | some (b, _, s2) => match eat (mI k) (isJ k) s2 with
      | none => none
      | some (i, l, s3) => if s3 = [] ∧ Fits k a b i then some ((a, b, i), l) else none
def parseL (L : List Tx) : Option ((Nat × Int × Int × Int) × Tx) :=
  match L with
  | [] => none
  | h :: st => match opOf h with
    | none => none
    | some k => match eats k st with
      | none => none
      | some ((a, b, i), l) => some ((k, a, b, i), l)
def parse (s : Tx) : Option ((Nat × Int × Int × Int) × Tx) := parseL (splitSp s)
end Go.Proofs.YtgnpbedhpkmkfaaDoor.IsaM

/-
  From the row's listed variables to the table of instructions, the powers of ten, and the library's size: cell for cell; they stay whatever new is made.
-/
namespace Go.Proofs.YtgnpbedhpkmkfaaDoor.IsaT
open Go Go.RowKit Go.Shelf Kit IsaM
set_option linter.unusedVariables false

def rowVs (k : Nat) : List Value := [.string ⟨(nm k).toArray⟩, .int .i64 (mA k), .int .i64 (mB k), .int .i64 (mI k)]
def rowsL : List Value := (List.range 30).flatMap rowVs
def rowsC : Array Value := rowsL.toArray
def rowD (k : Nat) : DataW Unit := .agg [.lit (.string (nm k)), .agg [.lit (.int .i64 (mA k)), .lit (.int .i64 (mB k)), .lit (.int .i64 (mI k))]]

theorem gRows : Tryd.prog.globalNamed "carryall/isa.rows" = some 0 := by kernel_rfl
theorem gPow : Tryd.prog.globalNamed "internal/strconv.uint64pow10" = some 1 := by kernel_rfl
theorem rows_data : (Rows.laid_carryall_isa_rows : DataW Unit) = .agg ((List.range 30).map rowD) := by kernel_rfl

structure Tabs (w : World) : Prop where
  rows : ∃ t fr, w.heap[(0 : Nat)]? = some (.cells rowsC t fr)
def Pow (w : World) : Prop := Lib.TabIs Tryd.prog w "internal/strconv.uint64pow10" .u64 Lib.pow10Tab

theorem var_lt {w : World} {n : String} {g : Nat} {cs : Array Value} {v : Value} (hg : Tryd.prog.globalNamed n = some g) (h : w.var? Tryd.prog n = some cs) (h0 : cs[0]? = some v) : g < w.heap.size := by
  have hc := World.var?_cell hg h 0
  rw [h0] at hc
  exact World.block_lt_of_cell? _ _ hc
theorem Tabs.lt {w : World} (h : Tabs w) : (0 : Nat) < w.heap.size := by
  obtain ⟨t, fr, h⟩ := h.rows
  exact (Array.getElem?_eq_some_iff.1 h).1
theorem Tabs.below {w w' : World} (h : Tabs w) (hb : Below w.heap.size w w') : Tabs w' := by
  have hl := h.lt
  obtain ⟨t, fr, h⟩ := h.rows
  exact ⟨t, fr, (hb.block _ hl).trans h⟩
theorem Pow.below {w w' : World} (h : Pow w) (hb : Below w.heap.size w w') : Pow w' := by
  unfold Pow at h ⊢
  exact var?_below hb gPow (var_lt (v := .int .u64 1) gPow h (by kernel_rfl)) h
theorem Tabs.drewN {w : World} (h : Tabs w) (n : Nat) : Tabs (w.drewN n) := h.below ((Below.refl _ w).trans ⟨rfl, rfl, rfl, Nat.le_refl _, fun _ _ => rfl⟩)
theorem rows_at : ∀ k : Fin 30, rowsC[4 * k.val]? = some (.string ⟨(nm k.val).toArray⟩) ∧ rowsC[4 * k.val + 1]? = some (.int .i64 (mA k.val)) ∧ rowsC[4 * k.val + 2]? = some (.int .i64 (mB k.val)) ∧ rowsC[4 * k.val + 3]? = some (.int .i64 (mI k.val))
  | ⟨k, hk⟩ => by
    have e : ∀ (n k j : Nat), k < n → j < 4 → ((List.range n).flatMap rowVs)[4 * k + j]? = (rowVs k)[j]? := by
      intro n
      induction n with
      | zero => intro k j h; omega
      | succ n ih =>
        intro k j h hj
        have hl : ∀ m, ((List.range m).flatMap rowVs).length = 4 * m := fun m => by
          induction m with
          | zero => rfl
          | succ m ih => rw [List.range_succ, List.flatMap_append, List.length_append, ih]; simp [rowVs]; try omega
        rw [List.range_succ, List.flatMap_append]
        by_cases hn : k < n
        · rw [List.getElem?_append_left (by rw [hl]; omega)]
          exact ih k j hn hj
        · obtain rfl : k = n := by omega
          rw [List.getElem?_append_right (by rw [hl]; omega), hl]
          simp
    have e0 := e 30 k 0 hk (by omega)
    have e1 := e 30 k 1 hk (by omega)
    have e2 := e 30 k 2 hk (by omega)
    have e3 := e 30 k 3 hk (by omega)
    unfold rowsC rowsL
    simp only [List.getElem?_toArray]
    exact ⟨e0, e1, e2, e3⟩
theorem Tabs.cells {w : World} (h : Tabs w) (k : Nat) (hk : k < 30) :
    w.cell? ⟨0, k * 4, none⟩ = some (.string ⟨(nm k).toArray⟩) ∧ w.cell? ⟨0, k * 4 + 1, none⟩ = some (.int .i64 (mA k)) ∧ w.cell? ⟨0, k * 4 + 2, none⟩ = some (.int .i64 (mB k)) ∧ w.cell? ⟨0, k * 4 + 3, none⟩ = some (.int .i64 (mI k)) := by
  obtain ⟨t, fr, h⟩ := h.rows
  have hr := rows_at ⟨k, hk⟩
  have hc : ∀ j, w.cell? ⟨0, j, none⟩ = rowsC[j]? := fun j => by simp [World.cell?, h]
  rw [hc, hc, hc, hc, Nat.mul_comm k 4]
  exact hr

theorem c62 : Tryd.prog.cellsOf 99 = 3 := by kernel_rfl
theorem c65 : Tryd.prog.cellsOf 101 = 4 := by kernel_rfl
theorem c66 : Tryd.prog.cellsOf 102 = 120 := by kernel_rfl
theorem c3 : Tryd.prog.cellsOf 3 = 1 := by kernel_rfl
theorem c9 : Tryd.prog.cellsOf 9 = 1 := by kernel_rfl

theorem fields_of {w : World} {n : Nat} {cs : List Value} {a b c : Int} {p : List MemPlace} (h : DataW.trod (fun _ => ()) Tryd.prog w 0 (fun _ => true) false n 99 cs = some (.agg [.lit (.int .i64 a), .lit (.int .i64 b), .lit (.int .i64 c)], p)) :
    cs = [.int .i64 a, .int .i64 b, .int .i64 c] :=
  Lib.cells_of_tab (zs := [a, b, c]) (k := .i64) Tryd.underlying99 Tryd.underlying3 c3 c62 h

theorem row_of {L : List Value} {a b c d : Value} (h : L.length = 4) (h0 : (L.drop 0).take 1 = [a]) (h1 : (L.drop 1).take 3 = [b, c, d]) : L = [a, b, c, d] := by
  match L, h with
  | [y0, y1, y2, y3], _ => simp_all

theorem tabs_of {w : World} (hR : Lib.VarReads Tryd.prog w "carryall/isa.rows" (Rows.laid_carryall_isa_rows : DataW Unit)) : Tabs w := by
  refine ⟨?_⟩
  rw [rows_data] at hR
  obtain ⟨g, t, cs, fuel, p, hg, hty, hvar, hd⟩ := hR
  obtain rfl := Option.some.inj (gRows.symm.trans hg)
  obtain rfl : 102 = t := Option.some.inj ((show (Tryd.prog.globals[(0 : Nat)]?).map (·.type) = some 102 by kernel_rfl).symm.trans hty)
  have hcs : cs = rowsC := by
    have hlen : cs.toList.length = 120 := by
      cases fuel with
      | zero => simp [DataW.trod] at hd
      | succ fuel =>
        simp only [DataW.trod, Tryd.underlying102, c65, c66] at hd
        split at hd
        · assumption
        · cases hd
    have hk : ∀ k, k < 30 → (cs.toList.drop (4 * k)).take 4 = rowVs k := fun k hk => by
      obtain ⟨fuel', d, q, hdi, he⟩ := Lib.array_elem Tryd.underlying102 hd k hk
      simp only [List.getElem?_map, List.getElem?_range hk, Option.map_some, Option.some.injEq] at hdi
      subst hdi
      rw [c65, Nat.mul_comm] at he
      generalize hL4 : (cs.toList.drop (4 * k)).take 4 = L at he ⊢
      obtain ⟨xs, n, rfl, hx, hl, hxl, hall⟩ := DataW.trod_struct Tryd.underlying101 he
      have h0 : DataW.trod (fun _ => ()) Tryd.prog w 0 (fun _ => true) false n 9 ((L.drop 0).take (Tryd.prog.cellsOf 9)) = xs[0]? := hall 0 _ rfl
      have h1 : DataW.trod (fun _ => ()) Tryd.prog w 0 (fun _ => true) false n 99 ((L.drop 1).take (Tryd.prog.cellsOf 99)) = xs[1]? := hall 1 _ rfl
      have hxs : xs.map (·.1) = [.lit (.string (nm k)), .agg [.lit (.int .i64 (mA k)), .lit (.int .i64 (mB k)), .lit (.int .i64 (mI k))]] := by
        have := congrArg Prod.fst hx
        simpa [rowD] using this.symm
      match xs, hxs with
      | [x0, x1], hxs =>
        simp only [List.map_cons, List.map_nil, List.cons.injEq, and_true] at hxs
        obtain ⟨hx0, hx1⟩ := hxs
        simp only [List.getElem?_cons_zero, List.getElem?_cons_succ] at h0 h1
        obtain ⟨a0, b0⟩ := x0
        obtain ⟨a1, b1⟩ := x1
        subst hx0
        subst hx1
        rw [c9] at h0
        rw [c62] at h1
        obtain ⟨s, hs, hs2, _⟩ := DataW.trod_string Tryd.underlying9 h0
        have h2 := fields_of h1
        rw [c65] at hl
        have hs3 : s = ⟨(nm k).toArray⟩ := by
          have : nm k = s.data.toList := by
            have := congrArg Prod.fst hs2
            simpa using this
          rw [this]
        rw [hs3] at hs
        exact row_of hl hs h2
    apply Array.ext_getElem?
    intro j
    by_cases hj : j < 120
    · have hr := rows_at ⟨j / 4, by omega⟩
      have h1 := hk (j / 4) (by omega)
      have h2 := congrArg (·[j % 4]?) h1
      simp only [List.getElem?_take, List.getElem?_drop] at h2
      rw [if_pos (by omega), show 4 * (j / 4) + j % 4 = j by omega] at h2
      rw [← Array.getElem?_toList, h2]
      have hm : j % 4 = 0 ∨ j % 4 = 1 ∨ j % 4 = 2 ∨ j % 4 = 3 := by omega
      rcases hm with e | e | e | e <;> rw [e]
      · rw [show j = 4 * (j / 4) by omega]; simpa [rowVs, show 4 * (j / 4) / 4 = j / 4 by omega] using hr.1.symm
      · rw [show j = 4 * (j / 4) + 1 by omega]; simpa [rowVs, show (4 * (j / 4) + 1) / 4 = j / 4 by omega] using hr.2.1.symm
      · rw [show j = 4 * (j / 4) + 2 by omega]; simpa [rowVs, show (4 * (j / 4) + 2) / 4 = j / 4 by omega] using hr.2.2.1.symm
      · rw [show j = 4 * (j / 4) + 3 by omega]; simpa [rowVs, show (4 * (j / 4) + 3) / 4 = j / 4 by omega] using hr.2.2.2.symm
    · rw [Array.getElem?_eq_none (by rw [← Array.length_toList]; omega), Array.getElem?_eq_none (by show 120 ≤ j; omega)]
  subst hcs
  unfold World.var? at hvar
  rw [gRows] at hvar
  simp only [Option.bind_some] at hvar
  split at hvar
  · rename_i cs t fr hh
    obtain rfl := Option.some.inj hvar
    exact ⟨t, fr, hh⟩
  · cases hvar
theorem tabs_steps {w : World} (h : laidMetH Tryd.prog Rows.coreStepsRow.laid w) : Tabs w := by
  rw [MakeChecks.laidMetH_plain _ _ _ (by kernel_rfl)] at h
  have hL : laidMet Tryd.prog [("carryall/isa.rows", Rows.laid_carryall_isa_rows)] w := h
  exact tabs_of (Lib.laidMet.reads hL (by simp))
theorem tabs_names {w : World} (h : laidMetH Tryd.prog Rows.coreNamesRow.laid w) : Tabs w := by
  rw [MakeChecks.laidMetH_plain _ _ _ (by kernel_rfl)] at h
  have hL : laidMet Tryd.prog [("unicode/utf8.acceptRanges", Rows.laid_unicode_utf8_acceptRanges), ("carryall/isa.rows", Rows.laid_carryall_isa_rows), ("unicode/utf8.first", Rows.laid_unicode_utf8_first)] w := h
  exact tabs_of (Lib.laidMet.reads hL (by simp))
theorem tabs_sums {w : World} (h : laidMetH Tryd.prog Rows.coreSumsRow.laid w) : Tabs w ∧ Pow w := by
  rw [MakeChecks.laidMetH_plain _ _ _ (by kernel_rfl)] at h
  have hL : laidMet Tryd.prog [("math/bits.deBruijn32tab", Rows.laid_math_bits_deBruijn32tab), ("math/bits.deBruijn64tab", Rows.laid_math_bits_deBruijn64tab), ("internal/strconv.uint64pow10", Rows.laid_internal_strconv_uint64pow10), ("unicode/utf8.acceptRanges", Rows.laid_unicode_utf8_acceptRanges), ("carryall/isa.rows", Rows.laid_carryall_isa_rows), ("unicode/utf8.first", Rows.laid_unicode_utf8_first)] w := h
  have e1 : (Rows.laid_internal_strconv_uint64pow10 : DataW Unit) = Lib.tabData .u64 Lib.pow10Tab := by kernel_rfl
  have hP := hL.tail.tail
  rw [e1] at hP
  exact ⟨tabs_of (Lib.laidMet.reads hL (by simp)), Lib.tabIs_of_head gPow (t := 167) (e := 45) (by kernel_rfl) Tryd.underlying167 Tryd.underlying45 (by kernel_rfl) (by kernel_rfl) hP⟩
end Go.Proofs.YtgnpbedhpkmkfaaDoor.IsaT
