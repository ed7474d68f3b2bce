/-
  A process' signals in memory: loaded, stored and held against others as a whole; what a call answers.
-/
import Derived.Test.YtlhhgapimhpgnaaSga
import Derived.Laws.Rows
import Derived.DeepKeys
namespace Go.Proofs.Ytlhhgapimhpgnaa.Sgb
open Go Go.RowKit Kit Bk Sga
set_option linter.unusedVariables false

/-- Signals lie at a block. -/
def V (w : World) (b : Nat) (s : Sg) : Prop := Blk w b (cs s) 25
abbrev sp (b : Nat) : Value := .pointer (some ⟨b, 0, none⟩)
/-- The zero's cells. -/
abbrev zcs : Array Value := #[.int .u32 0, .int .u32 0, .int .u32 0, .int .u32 0, .int .u32 0, .int .u32 0, .int .u32 0, .int .u32 0, .int .u32 0, .int .u32 0, .int .u32 0, .int .u32 0, .int .u32 0, .int .u32 0, .int .u32 0, .int .u32 0, .int .u32 0, .int .u32 0, .bool false]
def z0 : Sg := ⟨0, 0, fun _ => 0, false⟩
theorem z0_ok : z0.Ok := ⟨by decide, by decide, fun _ => Nat.zero_lt_succ _, fun _ _ => rfl⟩
theorem zcs_cs : zcs = cs z0 := rfl
def ldS (p : Value) : Sem Value := Instr.loadAt 25 p
theorem lds_wrap (p : Value) : Instr.loadAt 25 p = ldS p := rfl
def stS (p v : Value) : Sem Unit := Instr.storeAt 25 p v
theorem sts_wrap (p v : Value) : Instr.storeAt 25 p v = stS p v := rfl
theorem infoS : (Try.prog.info? 25).map (·.size) = some 19 := by kernel_rfl
theorem run_ldB {w : World} {g : Nat} {D : Array Value} {T : TypeId} (h : Blk w g D T) (hs : D.size = 19) : (ldS (sp g)).run Try.prog w = .ok (.agg D) w := by
  have := run_loadAt_mid (P := Try.prog) w g 0 25 D.toList _ (fun j v hj => by
    rw [Nat.zero_add, h.cell, ← hj, Array.getElem?_toList]) Try.underlying25 rfl (by rw [infoS, Array.length_toList, hs])
  rw [Array.toArray_toList] at this
  exact this
theorem run_stB {w : World} {g : Nat} {D E : Array Value} {T : TypeId} (h : Blk w g D T) (hs : D.size = 19) (he : E.size = 19) (h1 : E.all (·.oneCell') = true) :
    (stS (sp g) (.agg E)).run Try.prog w = .ok () (w.setCells g 0 E.toList) := by
  unfold stS
  exact run_storeAt_mid _ _ 0 _ E (h.there _ _ (by omega)) (by rw [infoS, he]) h1
theorem Blk.setAll {w : World} {b : Nat} {T : TypeId} {cs ds : Array Value} (h : Blk w b cs T) (hs : ds.size = cs.size) : Blk (w.setCells b 0 ds.toList) b ds T := by
  obtain ⟨es, h1, h2, h3, h4⟩ := h.sets ds.toList 0
  have : es = ds := by
    apply Array.ext_getElem?
    intro j
    by_cases hj : j < ds.size
    · have := h4 j (by simpa using hj) (by omega)
      rw [Nat.zero_add] at this
      rw [this, Array.getElem?_toList]
    · rw [Array.getElem?_eq_none (by omega), Array.getElem?_eq_none (by omega)]
  rw [← this]
  exact this ▸ h1
theorem size_sets (g : Nat) : ∀ (vs : List Value) (o : Nat) (w : World), (w.setCells g o vs).heap.size = w.heap.size
  | [], _, _ => rfl
  | v :: r, o, w => (size_sets g r (o + 1) _).trans (by simp [World.setCell])
theorem V.lt {w : World} {b : Nat} {s : Sg} (h : V w b s) : b < w.heap.size := Blk.lt h
theorem V.below {w w' : World} {b : Nat} {s : Sg} (h : V w b s) (hb : Below w.heap.size w w') : V w' b s := Blk.below h hb
theorem V.low {w w' : World} {b n : Nat} {s : Sg} (h : V w b s) (hb : Below n w w') (hn : b < n) : V w' b s := (hb.block b hn).trans h
theorem V.kept {S : Nat → Prop} {w w' : World} {b : Nat} {s : Sg} (h : V w b s) (hk : Kp S w w') (hS : ¬ S b) : V w' b s := Blk.kept h hk hS
theorem V.new (w : World) (s : Sg) : V (w.alloc (.cells (cs s) 25)) w.heap.size s := Blk.new w _ _
theorem V.zero (w : World) : V (w.alloc (.cells zcs 25)) w.heap.size z0 := Blk.new w _ _
theorem V.ld {w : World} {b : Nat} {s : Sg} (h : V w b s) : (ldS (sp b)).run Try.prog w = .ok (cv s) w := run_ldB h rfl
/-- Stored as a whole. -/
theorem V.st {w : World} {b : Nat} {s : Sg} (h : V w b s) (t : Sg) : ∃ w', (stS (sp b) (cv t)).run Try.prog w = .ok () w' ∧ V w' b t ∧ Kp (fun j => j = b) w w' ∧ w'.heap.size = w.heap.size :=
  ⟨_, run_stB h rfl rfl (cs_one t), Blk.setAll h rfl, Kp.sets (S := fun j => j = b) b rfl _ _ _, size_sets _ _ _ _⟩
/-- A new one, made and stored. -/
theorem V.made (w : World) (t : Sg) : ∃ w', (stS (sp w.heap.size) (cv t)).run Try.prog (w.alloc (.cells zcs 25)) = .ok () w' ∧ V w' w.heap.size t ∧ Below w.heap.size w w' ∧ w'.heap.size = w.heap.size + 1 := by
  obtain ⟨w', h1, h2, h3, h4⟩ := (V.zero w).st t
  exact ⟨w', h1, h2, ((Kp.alloc (fun j => j = w.heap.size) w _).trans h3 (fun j e => .inl e)).below (Nat.le_refl _) (fun j e => by omega), by rw [h4, World.size_alloc]⟩
theorem V.p0 {w : World} {b : Nat} {s : Sg} (h : V w b s) : w.cell? ⟨b, 0, none⟩ = some (uv s.p) := (Blk.cell h 0).trans (cs_p s)
theorem V.m1 {w : World} {b : Nat} {s : Sg} (h : V w b s) : w.cell? ⟨b, 1, none⟩ = some (uv s.m) := (Blk.cell h 1).trans (cs_m s)
theorem V.h2 {w : World} {b : Nat} {s : Sg} (h : V w b s) {k : Nat} (hk : k < 16) : w.cell? ⟨b, 2 + k, none⟩ = some (uv (s.h k)) := (Blk.cell h (2 + k)).trans (cs_h s hk)
theorem V.b18 {w : World} {b : Nat} {s : Sg} (h : V w b s) : w.cell? ⟨b, 18, none⟩ = some (.bool s.b) := (Blk.cell h 18).trans (cs_b s)
theorem V.free {w : World} {b : Nat} {s : Sg} (h : V w b s) (k : Nat) : w.frozen? ⟨b, k, none⟩ = false := Blk.free h k
theorem V.setp {w : World} {b : Nat} {s : Sg} (h : V w b s) (x : Nat) : V (w.setCell ⟨b, 0, none⟩ (uv x)) b (setP s x) := by
  have := Blk.set h 0 (uv x)
  rw [cs_setP] at this
  exact this
theorem V.setm {w : World} {b : Nat} {s : Sg} (h : V w b s) (x : Nat) : V (w.setCell ⟨b, 1, none⟩ (uv x)) b (setM s x) := by
  have := Blk.set h 1 (uv x)
  rw [cs_setM] at this
  exact this
theorem V.seth {w : World} {b : Nat} {s : Sg} (h : V w b s) {k : Nat} (hk : k < 16) (x : Nat) : V (w.setCell ⟨b, 2 + k, none⟩ (uv x)) b (setH s k x) := by
  have := Blk.set h (2 + k) (uv x)
  rw [cs_setH s x hk] at this
  exact this
theorem V.setb {w : World} {b : Nat} {s : Sg} (h : V w b s) (x : Bool) : V (w.setCell ⟨b, 18, none⟩ (.bool x)) b (setB s x) := by
  have := Blk.set h 18 (.bool x)
  rw [cs_setB] at this
  exact this

/-- Signals held against others. -/
def lits (s : Sg) : List Lit := [.int .u32 s.p, .int .u32 s.m, .int .u32 (s.h 0), .int .u32 (s.h 1), .int .u32 (s.h 2), .int .u32 (s.h 3), .int .u32 (s.h 4), .int .u32 (s.h 5), .int .u32 (s.h 6), .int .u32 (s.h 7), .int .u32 (s.h 8), .int .u32 (s.h 9), .int .u32 (s.h 10), .int .u32 (s.h 11), .int .u32 (s.h 12), .int .u32 (s.h 13), .int .u32 (s.h 14), .int .u32 (s.h 15), .bool s.b]
theorem lits_inj {s t : Sg} (hs : s.Ok) (ht : t.Ok) (h : lits s = lits t) : s = t := by
  simp only [lits, List.cons.injEq, Lit.int.injEq, Lit.bool.injEq, true_and, and_true, Int.natCast_inj] at h
  obtain ⟨a, b, c0, c1, c2, c3, c4, c5, c6, c7, c8, c9, c10, c11, c12, c13, c14, c15, d⟩ := h
  refine sg_ext hs ht a b (fun j hj => ?_) d
  rcases lt16 hj with rfl | rfl | rfl | rfl | rfl | rfl | rfl | rfl | rfl | rfl | rfl | rfl | rfl | rfl | rfl | rfl <;> assumption
theorem lit_u32 {x : Nat} (h : x < 4294967296) : (Lit.int .u32 (x : Int)).wf = true := by
  simp [Lit.wf, IntKind.min, IntKind.max, IntKind.signed, IntKind.bits]
  omega
theorem key_lits (s : Sg) (hs : s.Ok) : Try.prog.keyLits 3 25 (cs s).toList = some (lits s) := by
  have hc : Try.prog.cellsOf 25 = 19 := by kernel_rfl
  have hc1 : Try.prog.cellsOf 22 = 1 := by kernel_rfl
  have hc2 : Try.prog.cellsOf 23 = 16 := by kernel_rfl
  have hc3 : Try.prog.cellsOf 4 = 1 := by kernel_rfl
  have hi : ∀ n x, x < 4294967296 → Try.prog.keyLits (n + 1) 22 [uv x] = some [.int .u32 (x : Int)] := fun n x hx => by
    rw [Program.keyLits.eq_def]
    simp only [Try.underlying22]
    simp [lit_u32 hx]
  have hb : ∀ n b, Try.prog.keyLits (n + 1) 4 [.bool b] = some [.bool b] := fun n b => by
    rw [Program.keyLits.eq_def]
    simp only [Try.underlying4]
  have ha : Try.prog.keyLits 2 23 [uv (s.h 0), uv (s.h 1), uv (s.h 2), uv (s.h 3), uv (s.h 4), uv (s.h 5), uv (s.h 6), uv (s.h 7), uv (s.h 8), uv (s.h 9), uv (s.h 10), uv (s.h 11), uv (s.h 12), uv (s.h 13), uv (s.h 14), uv (s.h 15)] = some [.int .u32 (s.h 0), .int .u32 (s.h 1), .int .u32 (s.h 2), .int .u32 (s.h 3), .int .u32 (s.h 4), .int .u32 (s.h 5), .int .u32 (s.h 6), .int .u32 (s.h 7), .int .u32 (s.h 8), .int .u32 (s.h 9), .int .u32 (s.h 10), .int .u32 (s.h 11), .int .u32 (s.h 12), .int .u32 (s.h 13), .int .u32 (s.h 14), .int .u32 (s.h 15)] := by
    rw [Program.keyLits.eq_def]
    simp only [Try.underlying23]
    rw [if_pos (by rw [hc2]; rfl)]
    simp [hc1, List.range, List.range.loop, hi, hs.h]
  rw [Program.keyLits.eq_def]
  simp only [Try.underlying25]
  rw [if_pos ⟨by rw [hc]; rfl, by kernel_rfl⟩]
  simp [cs, hc1, hc2, hc3, hi, hs.p, hs.m, ha, hb, lits]
def nums (s : Sg) : List Nat × Bool := ([s.p, s.m, s.h 0, s.h 1, s.h 2, s.h 3, s.h 4, s.h 5, s.h 6, s.h 7, s.h 8, s.h 9, s.h 10, s.h 11, s.h 12, s.h 13, s.h 14, s.h 15], s.b)
theorem nums_iff {s t : Sg} : nums s = nums t ↔ lits s = lits t := by
  simp only [nums, lits, Prod.mk.injEq, List.cons.injEq, Lit.int.injEq, Lit.bool.injEq, true_and, and_true, Int.natCast_inj]
  constructor
  · rintro ⟨⟨a, b, c0, c1, c2, c3, c4, c5, c6, c7, c8, c9, c10, c11, c12, c13, c14, c15⟩, d⟩
    exact ⟨a, b, c0, c1, c2, c3, c4, c5, c6, c7, c8, c9, c10, c11, c12, c13, c14, c15, d⟩
  · rintro ⟨a, b, c0, c1, c2, c3, c4, c5, c6, c7, c8, c9, c10, c11, c12, c13, c14, c15, d⟩
    exact ⟨⟨a, b, c0, c1, c2, c3, c4, c5, c6, c7, c8, c9, c10, c11, c12, c13, c14, c15⟩, d⟩
def eqS (s t : Sg) : Bool := decide (nums s = nums t)
theorem eqS_self (s : Sg) : eqS s s = true := decide_eq_true rfl
theorem eqS_iff {s t : Sg} (hs : s.Ok) (ht : t.Ok) : eqS s t = true ↔ s = t := ⟨fun h => lits_inj hs ht (nums_iff.1 (of_decide_eq_true h)), fun e => by rw [e]; exact eqS_self t⟩
theorem run_eq (s t : Sg) (hs : s.Ok) (ht : t.Ok) (w : World) : (Op.equalIn 10000 25 (cv s) (cv t)).run Try.prog w = .ok (eqS s t) w := by
  have hf : ∀ s : Sg, (cv s).formed Try.prog 25 = true := fun s => by
    unfold Value.formed
    rw [Try.underlying25]
    kernel_rfl
  obtain ⟨r, h1, h2⟩ := run_equalIn_deep (P := Try.prog) 9997 3 25 (by kernel_rfl) w 3 3 (cv s) (cv t) _ _ (hf _) (hf _) (key_lits s hs) (key_lits t ht)
  rw [h1]
  congr 1
  rw [Bool.eq_iff_iff, h2]
  unfold eqS
  rw [decide_eq_true_eq, nums_iff]
def eqV (a b : Value) : Sem Value := binOp .eql 25 a b
theorem eqv_wrap (a b : Value) : binOp .eql 25 a b = eqV a b := rfl
def neV (a b : Value) : Sem Value := binOp .neq 25 a b
theorem nev_wrap (a b : Value) : binOp .neq 25 a b = neV a b := rfl
theorem run_eqV {s t : Sg} (hs : s.Ok) (ht : t.Ok) (w : World) : (eqV (cv s) (cv t)).run Try.prog w = .ok (.bool (eqS s t)) w := by
  unfold eqV
  rw [run_eql_struct, run_eq s t hs ht]
  rfl
theorem run_neV {s t : Sg} (hs : s.Ok) (ht : t.Ok) (w : World) : (neV (cv s) (cv t)).run Try.prog w = .ok (.bool (!eqS s t)) w := by
  unfold neV
  rw [run_neq_struct, run_eq s t hs ht]
  rfl

/-- What a call answers whose variables lie in memory. -/
theorem res_s {fn : Func} {p : Tmp} (h : fn.results = #[.cell p 25]) (tmps : Array Value) (w : World) (g : Nat) (s : Sg) (hp : tmps.getD p undef = sp g) (hg : V w g s) :
    (results fn tmps).run Try.prog w = .ok (cv s) w :=
  results_cell_row h tmps w g _ _ (0, 0) _ hp hg Try.underlying25 rfl (by rw [infoS]; rfl)
theorem res_st {fn : Func} {p u : Tmp} (h : fn.results = #[.cell p 25, .tmp u]) (tmps : Array Value) (w : World) (g : Nat) (s : Sg) (v : Value) (hp : tmps.getD p undef = sp g) (hv : tmps.getD u undef = v) (hg : V w g s) :
    (results fn tmps).run Try.prog w = .ok (.tuple #[cv s, v]) w := by
  have hp' : tmps[p]?.getD undef = sp g := by simpa using hp
  have hv' : tmps[u]?.getD undef = v := by simpa using hv
  simp [results, h, hp', hv', asAddr, run_loadVar_row w g _ 25 _ (0, 0) _ hg Try.underlying25 rfl (by rw [infoS]; rfl)]
theorem res_tst {fn : Func} {p u x : Tmp} (h : fn.results = #[.tmp u, .cell p 25, .tmp x]) (tmps : Array Value) (w : World) (g : Nat) (s : Sg) (v v2 : Value) (hp : tmps.getD p undef = sp g) (hv : tmps.getD u undef = v) (hv2 : tmps.getD x undef = v2) (hg : V w g s) :
    (results fn tmps).run Try.prog w = .ok (.tuple #[v, cv s, v2]) w := by
  have hp' : tmps[p]?.getD undef = sp g := by simpa using hp
  have hv' : tmps[u]?.getD undef = v := by simpa using hv
  have hv2' : tmps[x]?.getD undef = v2 := by simpa using hv2
  simp [results, h, hp', hv', hv2', asAddr, run_loadVar_row w g _ 25 _ (0, 0) _ hg Try.underlying25 rfl (by rw [infoS]; rfl)]
theorem res_tts {fn : Func} {p u x : Tmp} (h : fn.results = #[.tmp u, .tmp x, .cell p 25]) (tmps : Array Value) (w : World) (g : Nat) (s : Sg) (v v2 : Value) (hp : tmps.getD p undef = sp g) (hv : tmps.getD u undef = v) (hv2 : tmps.getD x undef = v2) (hg : V w g s) :
    (results fn tmps).run Try.prog w = .ok (.tuple #[v, v2, cv s]) w := by
  have hp' : tmps[p]?.getD undef = sp g := by simpa using hp
  have hv' : tmps[u]?.getD undef = v := by simpa using hv
  have hv2' : tmps[x]?.getD undef = v2 := by simpa using hv2
  simp [results, h, hp', hv', hv2', asAddr, run_loadVar_row w g _ 25 _ (0, 0) _ hg Try.underlying25 rfl (by rw [infoS]; rfl)]
theorem res_sst {fn : Func} {p q x : Tmp} (h : fn.results = #[.cell p 25, .cell q 25, .tmp x]) (tmps : Array Value) (w : World) (g g' : Nat) (s s' : Sg) (v : Value) (hp : tmps.getD p undef = sp g) (hq : tmps.getD q undef = sp g') (hv : tmps.getD x undef = v) (hg : V w g s) (hg' : V w g' s') :
    (results fn tmps).run Try.prog w = .ok (.tuple #[cv s, cv s', v]) w := by
  have hp' : tmps[p]?.getD undef = sp g := by simpa using hp
  have hq' : tmps[q]?.getD undef = sp g' := by simpa using hq
  have hv' : tmps[x]?.getD undef = v := by simpa using hv
  simp [results, h, hp', hq', hv', asAddr, run_loadVar_row w g _ 25 _ (0, 0) _ hg Try.underlying25 rfl (by rw [infoS]; rfl), run_loadVar_row w g' _ 25 _ (0, 0) _ hg' Try.underlying25 rfl (by rw [infoS]; rfl)]
end Go.Proofs.Ytlhhgapimhpgnaa.Sgb
