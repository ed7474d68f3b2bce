/-
  Calls of spaces over one memory: what each leaves of all of them; their pages' texts held against each other.
-/
import Derived.Test.YtclpokkjbkbkgaaPg
import Derived.DeepKeys
namespace Go.Proofs.Ytclpokkjbkbkgaa.So
open Go Go.RowKit Go.Shelf Kit Bk
open Fm hiding Mem made_any len_any
open Fo Fr Fw Fx Fu Fq
open Tm hiding Mem
open Ts Tc Ti Sp Sa Pz To My Pv Mp Mq Dr Cl Iv Iw Ix Wr Sy Al Pg
set_option linter.unusedVariables false

variable {w w' : World} {p b n : Nat} {R : Nat → Nat} {B : Nat → Nat → Nat} {qs ts : Nat → Nat} {Ls : List Tab}

theorem okR_iff {page k : Int} : okR page k = true ↔ 0 ≤ page ∧ 1 ≤ k ∧ k ≤ 64 - page := by
  unfold okR
  simp only [Bool.and_eq_true, decide_eq_true_eq]
  omega
/-- Map, of one of them. -/
theorem sMap (h : Sy.Sys w p b n R B qs ts Ls) {i : Nat} (hi : i < Ls.length) (page k : Int) (hp : (Lit.int .i64 page).wf = true) (hk : (Lit.int .i64 k).wf = true) (wb sh : Bool) :
    Calls Try.prog 11 #[.pointer (some ⟨qs i, 0, none⟩), .int .i64 page, .int .i64 k, .bool wb, .bool sh] w fun e w' => ∃ (code : Int) (R' : Nat → Nat) (T' : Tab), e = .returned (.int .i64 code) ∧ Kp (fun j => j = b ∨ j = ts i) w w' ∧ Sy.Sys w' p b n R' B qs ts (Ls.set i T') ∧
      ((code = 0 ∧ ∃ a m : Nat, page = (a : Int) ∧ k = (m : Int) ∧ 1 ≤ m ∧ a + m ≤ 64 ∧ allI Ls[i] a m false = true ∧ m ≤ fre n R ∧ R' = (maps n ⟨R, B, Ls[i]⟩ a wb sh m).R ∧ T' = (maps n ⟨R, B, Ls[i]⟩ a wb sh m).T) ∨ (code = 22 ∧ R' = R ∧ T' = Ls[i]) ∨ (code = 12 ∧ (fre n R : Int) < k ∧ R' = R ∧ T' = Ls[i])) := by
  have hsame : ∀ w', Below w.heap.size w w' → Sy.Sys w' p b n R B qs ts (Ls.set i Ls[i]) := fun w' hb => by rw [set_get]; exact h.below hb
  have hno : (okR page k = false ∨ ∃ a m : Nat, page = (a : Int) ∧ k = (m : Int) ∧ 1 ≤ m ∧ a + m ≤ 64 ∧ allI Ls[i] a m false = false) → _ := fun hno => (map_no w (qs i) p (ts i) Ls[i] (h.sp i hi) (h.tm i hi) page k hp hk wb sh hno).mono (R' := fun e w' => ∃ (code : Int) (R' : Nat → Nat) (T' : Tab), e = .returned (.int .i64 code) ∧ Kp (fun j => j = b ∨ j = ts i) w w' ∧ Sy.Sys w' p b n R' B qs ts (Ls.set i T') ∧
      ((code = 0 ∧ ∃ a m : Nat, page = (a : Int) ∧ k = (m : Int) ∧ 1 ≤ m ∧ a + m ≤ 64 ∧ allI Ls[i] a m false = true ∧ m ≤ fre n R ∧ R' = (maps n ⟨R, B, Ls[i]⟩ a wb sh m).R ∧ T' = (maps n ⟨R, B, Ls[i]⟩ a wb sh m).T) ∨ (code = 22 ∧ R' = R ∧ T' = Ls[i]) ∨ (code = 12 ∧ (fre n R : Int) < k ∧ R' = R ∧ T' = Ls[i]))) (fun e w' ⟨he, hb⟩ => ⟨22, R, Ls[i], he, Kp.of_below hb, hsame w' hb, .inr (.inl ⟨rfl, rfl, rfl⟩)⟩)
  by_cases hok : okR page k = true
  · obtain ⟨h1, h2, h3⟩ := okR_iff.1 hok
    obtain ⟨a, rfl⟩ := Int.eq_ofNat_of_zero_le h1
    obtain ⟨m, rfl⟩ := Int.eq_ofNat_of_zero_le (show 0 ≤ k by omega)
    cases ha : allI Ls[i] a m false with
    | false => exact hno (.inr ⟨a, m, rfl, rfl, by omega, by omega, ha⟩)
    | true =>
      by_cases hf : m ≤ fre n R
      · refine (map_ok w (qs i) p (ts i) b n Ls[i] R B (h.sp i hi) h.fm (h.tm i hi) a m (by omega) (by omega) ha hf wb sh).mono ?_
        rintro e w' ⟨rfl, hF, hT, hkp⟩
        have hI := (maps_inv (s := ⟨R, B, Ls[i]⟩) h.inv hi rfl (k := a) (m := m) (by omega) (fun j hj => by
          have := allI_iff.1 ha j hj
          show Ls[i] (a + j) = none
          cases hx : Ls[i] (a + j) with
          | none => rfl
          | some x => rw [hx] at this; cases this) hf wb sh m (Nat.le_refl _)).1
        have hB : ∀ j, (maps n ⟨R, B, Ls[i]⟩ a wb sh j).B = B := fun j => by
          induction j with
          | zero => rfl
          | succ j ih => exact ih
        rw [hB m] at hF
        exact ⟨0, _, _, rfl, hkp, h.step hi hkp hF hT hI, .inl ⟨rfl, a, m, rfl, rfl, by omega, by omega, ha, hf, rfl, rfl⟩⟩
      · refine (map_full w (qs i) p (ts i) b n Ls[i] R B (h.sp i hi) h.fm (h.tm i hi) a m (by omega) (by omega) ha (by omega) wb sh).mono ?_
        rintro e w' ⟨rfl, hb⟩
        exact ⟨12, R, Ls[i], rfl, Kp.of_below hb, hsame w' hb, .inr (.inr ⟨rfl, by omega, rfl, rfl⟩)⟩
  · exact hno (.inl (by simpa using hok))
/-- Write, of one of them. -/
theorem sWrite (h : Sy.Sys w p b n R B qs ts Ls) {i : Nat} (hi : i < Ls.length) (a : Nat) (ha : a < 4294967296) (v : Value) (xs : List Nat) (hv : Src (fun j => j = b ∨ j = ts i) w v xs) (h8 : ∀ x ∈ xs, x < 256) (hl : xs.length ≤ 1000000) :
    Calls Try.prog 12 #[.pointer (some ⟨qs i, 0, none⟩), .int .u32 (a : Int), v] w fun e w' => ∃ (code : Int) (s' : St), e = .returned (.int .i64 code) ∧ Kp (fun j => j = b ∨ j = ts i) w w' ∧ Sy.Sys w' p b n s'.R s'.B qs ts (Ls.set i s'.T) ∧
      ((code = 0 ∧ mayB Ls[i] a xs.length true = true ∧ nd R Ls[i] a 0 (cn a xs.length) ≤ fre n R ∧ s' = sts n ⟨R, B, Ls[i]⟩ a xs.length xs (cn a xs.length)) ∨ ((code = 14 ∨ code = 12) ∧ s' = ⟨R, B, Ls[i]⟩)) := by
  obtain ⟨av, cap, rfl⟩ : ∃ av cap, v = .slice av xs.length cap := by obtain ⟨⟨a, c, hv, _⟩, _⟩ := hv; exact ⟨a, c, hv⟩
  have hsame : ∀ w', Below w.heap.size w w' → Sy.Sys w' p b n R B qs ts (Ls.set i Ls[i]) := fun w' hb => by rw [set_get]; exact h.below hb
  cases hM : mayB Ls[i] a xs.length true with
  | false =>
    refine (Nw.write_no w (qs i) p (ts i) Ls[i] (h.sp i hi) (h.tm i hi) a av xs.length cap hl ha hM).mono ?_
    rintro e w' ⟨rfl, hb⟩
    exact ⟨14, ⟨R, B, Ls[i]⟩, rfl, Kp.of_below hb, hsame w' hb, .inr ⟨.inl rfl, rfl⟩⟩
  | true =>
    by_cases hR : nd R Ls[i] a 0 (cn a xs.length) ≤ fre n R
    · refine (Nw.write_ok w (qs i) p (ts i) b n Ls[i] R B (h.sp i hi) h.fm (h.tm i hi) (h.inv.fit hi) a ha _ xs hv h8 hl hM hR).mono ?_
      rintro e w' ⟨rfl, hkp, hF, hT⟩
      have hI := (sts_inv (s := ⟨R, B, Ls[i]⟩) h.inv hi rfl a xs.length xs hM hR (cn a xs.length) (Nat.le_refl _)).2.1
      exact ⟨0, _, rfl, hkp, h.step hi hkp hF hT hI, .inl ⟨rfl, rfl, hR, rfl⟩⟩
    · refine (Nw.write_full w (qs i) p (ts i) b n Ls[i] R B (h.sp i hi) h.fm (h.tm i hi) (h.inv.fit hi) a av xs.length cap hl ha hM (by omega)).mono ?_
      rintro e w' ⟨rfl, hb⟩
      exact ⟨12, ⟨R, B, Ls[i]⟩, rfl, Kp.of_below hb, hsame w' hb, .inr ⟨.inr rfl, rfl⟩⟩
/-- Drop, of one of them. -/
theorem sDrop (h : Sy.Sys w p b n R B qs ts Ls) {i : Nat} (hi : i < Ls.length) :
    Calls Try.prog 19 #[.pointer (some ⟨qs i, 0, none⟩)] w fun e w' => ∃ (v : Value) (R' : Nat → Nat) (B' : Nat → Nat → Nat), e = .returned v ∧ Kp (fun j => j = b ∨ j = ts i) w w' ∧ Sy.Sys w' p b n R' B' qs ts (Ls.set i (fun _ => none)) ∧
      ∀ j (g : j < Ls.length) l y, j ≠ i → Ls[j] l = some y → B' y.f.toNat = B y.f.toNat := by
  refine (Dr.drop_is w (qs i) p (ts i) b n ⟨R, B, Ls[i]⟩ (h.sp i hi) h.fm (h.tm i hi) (ents Ls[i] 64) rfl (drOk_inv (s := ⟨R, B, Ls[i]⟩) h.inv hi rfl)).mono ?_
  rintro e w' ⟨⟨v, rfl⟩, hF, hT, hkp⟩
  obtain ⟨h1, h2, h3⟩ := dst_inv (s := ⟨R, B, Ls[i]⟩) h.inv hi rfl _ (Nat.le_refl _)
  have hn := dst_all (s := ⟨R, B, Ls[i]⟩) h.inv hi rfl
  rw [hn] at hT h1
  exact ⟨v, _, _, rfl, hkp, h.step hi hkp hF hT h1, h3⟩
/-- pages, of one of them. -/
theorem sPages (h : Sy.Sys w p b n R B qs ts Ls) {i : Nat} (hi : i < Ls.length) :
    Calls Try.prog 21 #[.pointer (some ⟨qs i, 0, none⟩)] w fun e w' => e = .returned (.agg (pgP B Ls[i] 64)) ∧ Below w.heap.size w w' :=
  pages_any w (qs i) p (ts i) b n Ls[i] R B (h.sp i hi) h.fm (h.tm i hi) (h.inv.fit hi)
/-- Two spaces' pages read alike. -/
theorem pgP_congr {B B' : Nat → Nat → Nat} {T T' : Tab} (h : ∀ j, j < 64 → pgS B T j = pgS B' T' j) : pgP B T 64 = pgP B' T' 64 := by
  unfold pgP
  congr 1
  refine List.map_congr_left fun j hj => ?_
  have hj := List.mem_range.1 hj
  rw [if_pos hj, if_pos hj, h j hj]
theorem pgS_same {B B' : Nat → Nat → Nat} {T T' : Tab} {j : Nat} (h : match T j, T' j with | some x, some y => B x.f.toNat = B' y.f.toNat | none, none => True | _, _ => False) : pgS B T j = pgS B' T' j := by
  unfold pgS
  cases hx : T j with
  | none =>
    cases hy : T' j with
    | none => rfl
    | some y => rw [hx, hy] at h; exact h.elim
  | some x =>
    cases hy : T' j with
    | none => rw [hx, hy] at h; exact h.elim
    | some y =>
      rw [hx, hy] at h
      show bstr (bts _ 64) = bstr (bts _ 64)
      rw [show B _ = B' _ from h]

/-- Pages' texts held against each other. -/
def eqP (x y : Value) : Sem Value := binOp .eql 52 x y
theorem eqp_wrap (x y : Value) : binOp .eql 52 x y = eqP x y := rfl
def neP (x y : Value) : Sem Value := binOp .neq 52 x y
theorem nep_wrap (x y : Value) : binOp .neq 52 x y = neP x y := rfl
theorem mapM_some {α β : Type} (g : α → Option β) (f : α → β) : ∀ l : List α, (∀ a ∈ l, g a = some (f a)) → l.mapM g = some (l.map f)
  | [], _ => rfl
  | a :: r, h => by
    rw [List.mapM_cons, h a (by simp), mapM_some g f r (fun x hx => h x (List.mem_cons_of_mem _ hx))]
    rfl
theorem bstr_size (l : List Nat) : (bstr l).size = l.length := by unfold bstr; rw [strOfNums_size, List.length_map]
theorem pgS_size (B : Nat → Nat → Nat) (T : Tab) (j : Nat) : (pgS B T j).size ≤ 64 := by
  unfold pgS
  split
  · rw [bstr_size, bts_len]; exact Nat.le_refl _
  · exact Nat.zero_le _
theorem pgP_lits (B : Nat → Nat → Nat) (T : Tab) : ∃ la, Try.prog.keyLits 2 52 (pgP B T 64).toList = some la := by
  have hl : (pgP B T 64).toList.length = 64 := by rw [Array.length_toList, pgP_size]
  have hc : Try.prog.cellsOf 52 = 64 := by kernel_rfl
  have hs : Try.prog.cellsOf 9 = 1 := by kernel_rfl
  have hm := mapM_some (fun i => Try.prog.keyLits 1 9 (((pgP B T 64).toList.drop (i * Try.prog.cellsOf 9)).take (Try.prog.cellsOf 9))) (fun i => [Lit.string (pgS B T i).data.toList]) (List.range 64) (fun i hi => by
    have hi := List.mem_range.1 hi
    rw [hs, Nat.mul_one]
    have hat := pgP_at B T 64 i hi
    rw [if_pos hi] at hat
    rw [List.drop_eq_getElem_cons (by rw [hl]; exact hi)]
    simp only [List.take_succ_cons, List.take_zero]
    have : (pgP B T 64).toList[i]'(by rw [hl]; exact hi) = .string (pgS B T i) := by
      have h2 : (pgP B T 64).toList[i]? = some (.string (pgS B T i)) := by rw [Array.getElem?_toList]; exact hat
      exact (List.getElem?_eq_some_iff.1 h2).2
    rw [this]
    unfold Program.keyLits
    rw [Try.underlying9]
    simp only
    rw [if_pos (by have := pgS_size B T i; unfold maxLen; omega)])
  have h2 : Try.prog.keyLits (1 + 1) 52 (pgP B T 64).toList = if (pgP B T 64).toList.length = Try.prog.cellsOf 52 then ((List.range 64).mapM fun i => Try.prog.keyLits 1 9 (((pgP B T 64).toList.drop (i * Try.prog.cellsOf 9)).take (Try.prog.cellsOf 9))).map List.flatten else none := by
    rw [Program.keyLits.eq_def]
    simp only [Try.underlying52]
  refine ⟨((List.range 64).map fun i => [Lit.string (pgS B T i).data.toList]).flatten, ?_⟩
  rw [show (2 : Nat) = 1 + 1 from rfl, h2, if_pos (by rw [hl, hc]), hm]
  rfl
theorem run_equal (B : Nat → Nat → Nat) (T : Tab) (w : World) : (Op.equalIn 10000 52 (.agg (pgP B T 64)) (.agg (pgP B T 64))).run Try.prog w = .ok true w := by
  obtain ⟨la, hla⟩ := pgP_lits B T
  have hf : (Value.agg (pgP B T 64)).formed Try.prog 52 = true := by
    unfold Value.formed
    rw [Try.underlying52]
    simp only
    rw [pgP_size]
    kernel_rfl
  obtain ⟨r, h1, h2⟩ := run_equalIn_deep (P := Try.prog) 9998 2 52 (by kernel_rfl) w 2 2 (.agg (pgP B T 64)) (.agg (pgP B T 64)) la la hf hf hla hla
  rw [h1, h2.2 rfl]
theorem run_eqP (B : Nat → Nat → Nat) (T : Tab) (w : World) : (eqP (.agg (pgP B T 64)) (.agg (pgP B T 64))).run Try.prog w = .ok (.bool true) w := by
  unfold eqP
  rw [run_eql_struct, run_equal]
  rfl
theorem run_neP (B : Nat → Nat → Nat) (T : Tab) (w : World) : (neP (.agg (pgP B T 64)) (.agg (pgP B T 64))).run Try.prog w = .ok (.bool false) w := by
  unfold neP
  rw [run_neq_struct, run_equal]
  rfl
end Go.Proofs.Ytclpokkjbkbkgaa.So
