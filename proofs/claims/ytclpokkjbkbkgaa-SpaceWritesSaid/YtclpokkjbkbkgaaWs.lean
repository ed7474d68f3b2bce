/-
  Rows of spaces' pages, one behind the other; SpaceWrites' ways out.
-/
import Derived.Test.YtclpokkjbkbkgaaTu
import Derived.Test.YtclpokkjbkbkgaaMw
import Derived.Great.BuildSlice
namespace Go.Proofs.Ytclpokkjbkbkgaa.Ws
open Go Go.RowKit Go.Shelf Kit Bk
open Fm hiding Mem made_any len_any
open Fo Fr Fw Fx Fu Fq
open Tm hiding Mem
open Ts Tc Ti Sp Sa Pz To My Pv Mp Mq Dr Cl Iv Iw Ix Wr Sy Al Pg So Oq Sn Tg Un Zf Um Qc Cn Fa Tu
set_option linter.unusedVariables false
attribute [local go_sem ↓] ldp_wrap stp_wrap eqp_wrap nep_wrap

variable {w w' : World} {p b n : Nat} {R : Nat → Nat} {B : Nat → Nat → Nat} {qs ts : Nat → Nat} {Ls : List Tab}

/-- A slice of one row of pages, behind a name that a walk does not open. -/
def bsP (ps : Array (Nat × Value)) : Sem Value := Instr.buildSlice 51 1 ps
theorem bsp_wrap (ps : Array (Nat × Value)) : Instr.buildSlice 51 1 ps = bsP ps := rfl
theorem infoW : (Try.prog.info? 52).map (fun i => (i.zero, i.size, i.bytes)) = some (some (.agg zS), 64, 1024) := by kernel_rfl
theorem run_bsP (w : World) (F : Array Value) (hF : F.size = 64) : (bsP #[(0, .agg F)]).run Try.prog w = .ok (.slice (some ⟨w.heap.size, 0, none⟩) 1 1) (w.alloc (.cells F 52)) := by
  obtain ⟨ie, hi, hz0, hz1, hz2⟩ := info_parts infoW
  have hsz : ((Array.range (1 * ie.size)).map ((Value.agg zS).cells[· % (Value.agg zS).cells.size]!)).size = 64 := by simp [hz1]
  obtain ⟨r, h1, h2, h3⟩ := Great.fill_dense (s := 64) (by decide) [.agg F] 0 ((Array.range (1 * ie.size)).map ((Value.agg zS).cells[· % (Value.agg zS).cells.size]!)) (fun v hv => by
    rw [List.mem_singleton] at hv
    rw [hv]
    exact hF) (by rw [hsz]; exact Nat.le_refl _)
  have hr : r = F := by
    apply Array.ext_getElem?
    intro k
    by_cases hk : k < 64
    · rw [h3 k, if_pos ⟨by omega, by simpa using hk⟩, show k / 64 - 0 = 0 by omega, show k % 64 = k by omega]
      rfl
    · rw [Array.getElem?_eq_none (by rw [h2, hsz]; omega), Array.getElem?_eq_none (by rw [hF]; omega)]
  rw [hr] at h1
  refine run_buildSlice w 51 52 1 #[(0, .agg F)] F ie (.agg zS) Try.underlying51 hi hz0 (by rw [hz1]; decide) (by rw [hz1]; decide) ?_
  rw [hz1] at h1 ⊢
  exact h1

/-- All of some spaces' pages. -/
def wl (B : Nat → Nat → Nat) : List Tab → List Value
  | [] => []
  | T :: r => (pgP B T 64).toList ++ wl B r
theorem wl_app (B : Nat → Nat → Nat) (T : Tab) : ∀ l, wl B (l ++ [T]) = wl B l ++ (pgP B T 64).toList
  | [] => by show (pgP B T 64).toList ++ [] = _; rw [List.append_nil]; rfl
  | U :: r => by show (pgP B U 64).toList ++ wl B (r ++ [T]) = _; rw [wl_app B T r, ← List.append_assoc]; rfl
theorem wl_at (B : Nat → Nat → Nat) : ∀ (l : List Tab) (i k : Nat) (h : i < l.length), k < 64 → (wl B l)[i * 64 + k]? = some (.string (pgS B l[i] k))
  | [], i, k, h, _ => by simp at h
  | T :: r, 0, k, h, hk => by
    show ((pgP B T 64).toList ++ wl B r)[0 * 64 + k]? = _
    have hl : (pgP B T 64).toList.length = 64 := by rw [Array.length_toList, pgP_size]
    rw [List.getElem?_append_left (by omega), Nat.zero_mul, Nat.zero_add, Array.getElem?_toList, pgP_at B T 64 k hk, if_pos hk]
    rfl
  | T :: r, i + 1, k, h, hk => by
    have ih := wl_at B r i k (by simpa using h) hk
    show ((pgP B T 64).toList ++ wl B r)[(i + 1) * 64 + k]? = _
    have hl : (pgP B T 64).toList.length = 64 := by rw [Array.length_toList, pgP_size]
    rw [List.getElem?_append_right (by omega), hl, show (i + 1) * 64 + k - 64 = i * 64 + k by omega, ih]
    rfl
theorem wl_take (B : Nat → Nat → Nat) (Ls : List Tab) (i : Nat) (h : i < Ls.length) : wl B (Ls.take i) ++ (pgP B Ls[i] 64).toList = wl B (Ls.take (i + 1)) := by
  rw [List.take_succ_eq_append_getElem h, wl_app]
/-- One more space's pages behind the row. -/
theorem wAppend {N i : Nat} {v : Value} (h : w.ownsRow N 52 64 v i (wl B (Ls.take i))) (hi : i < Ls.length) (h8 : i ≤ 8) (hN : N ≤ w.heap.size) (F : Array Value) (hF : pgP B Ls[i] 64 = F) :
    ∃ v' w2, (Tl.appO #[51, 51] 51 #[v, .slice (some ⟨w.heap.size, 0, none⟩) 1 1]).run Try.prog (w.alloc (.cells F 52)) = .ok v' w2 ∧ w2.ownsRow N 52 64 v' (i + 1) (wl B (Ls.take (i + 1))) ∧ Below N w w2 := by
  obtain ⟨ie, hie, hz0, hz1, hz2⟩ := info_parts infoW
  have hFs : F.size = 64 := by rw [← hF]; exact pgP_size _ _ _
  have hF1 : F.all (·.oneCell') = true := by rw [← hF]; exact pgP_one _ _ _
  have hba : Below w.heap.size w (w.alloc (.cells F 52)) := (Below.refl _ _).alloc (Nat.le_refl _) _
  have ha := Fa.own_below h hba
  obtain ⟨v', w2, hrun, hown', hgrow, -⟩ := run_append_own (P := Try.prog) (w := w.alloc (.cells F 52)) N 51 51 52 ie (.agg zS) 64 1024 Try.underlying51 hie hz0 hz1 hz2 (by show zS.size = 64; simp [zS]) (by decide) v i (wl B (Ls.take i)) ha ⟨w.heap.size, 0, none⟩ 1 1 F.toList (by rw [Array.length_toList, hFs])
    (fun j u hj => by
      rw [Addr.add_mid, Nat.zero_add, (Blk.new w F 52).cell, ← Array.getElem?_toList]
      exact hj) (by
        intro u hu
        have := Array.all_eq_true'.1 hF1 u (by simpa using hu)
        exact this) (by unfold maxLen; omega) (by omega) (by simp; omega)
  have hkg := Kp.of_grown hgrow
  rw [← hF, wl_take B Ls i hi] at hown'
  exact ⟨v', w2, hrun, hown', (hba.mono hN).trans (hkg.below (by simp; omega) (fun j hj => (own_block ha j hj).1))⟩

/-- Frame and Page, of one of them. -/
theorem sFrame (h : Sy.Sys w p b n R B qs ts Ls) {i : Nat} (hi : i < Ls.length) {q : Nat} (hq : q < 64) :
    Calls Try.prog 10 #[.pointer (some ⟨qs i, 0, none⟩), .int .u32 ((q : Int) * 64)] w fun e w' => e = .returned (.tuple #[.int .i64 (frk (Ls[i] q)), .bool (frs (Ls[i] q))]) ∧ Below w.heap.size w w' := by
  have := frame_any w (qs i) p (ts i) Ls[i] (h.sp i hi) (h.tm i hi) (q * 64) (by omega)
  rw [show ((q * 64 : Nat) : Int) = (q : Int) * 64 by omega] at this
  refine this.mono ?_
  rintro e w' ⟨hb, rfl⟩
  refine ⟨?_, hb⟩
  rw [show q * 64 / 64 = q by omega, atI_nat hq]
theorem sPage (h : Sy.Sys w p b n R B qs ts Ls) {i : Nat} (hi : i < Ls.length) (q : Nat) :
    Calls Try.prog 22 #[.pointer (some ⟨qs i, 0, none⟩), .int .i64 (q : Int)] w fun e w' => ∃ (av : Option Addr) (ln cap : Nat), e = .returned (.slice av ln cap) ∧ Below w.heap.size w w' ∧ (convert 26 9 (.slice av ln cap)).run Try.prog w' = .ok (.string (pgS B Ls[i] q)) w' := by
  cases hx : Ls[i] q with
  | none =>
    refine (Nw.page_none w (qs i) p (ts i) Ls[i] (h.sp i hi) (h.tm i hi) q hx).mono ?_
    rintro e w' ⟨hb, rfl⟩
    refine ⟨_, _, _, rfl, hb, ?_⟩
    rw [pgS_none hx]
    exact slc_string (l := []) ⟨none, 0, rfl, Nat.le_refl _, Nat.zero_le _, .inl rfl⟩
  | some x =>
    obtain ⟨f, e1, e2, e3⟩ := (h.inv.fit hi).rng q x hx
    refine (Nw.page_some w (qs i) p (ts i) b n Ls[i] R B (h.sp i hi) h.fm (h.tm i hi) q x hx f e1 e2 e3).mono ?_
    rintro e w' ⟨hb, r, rfl, ho⟩
    rw [u8f_bts] at ho
    have hs := own_slc ho
    obtain ⟨av, cap, rfl, _⟩ := id hs
    refine ⟨_, _, _, rfl, hb, ?_⟩
    rw [pgS_some hx, show x.f.toNat = f by omega]
    exact slc_string hs
theorem stored (w8 : World) (F : Array Value) (h : F.size = 64 ∧ F.all (·.oneCell') = true) : ∃ W9, (stP (.pointer (some ⟨w8.heap.size, 0, none⟩)) (.agg F)).run Try.prog (w8.alloc (.cells zS 52)) = .ok () W9 ∧ Blk W9 w8.heap.size F 52 ∧ Below w8.heap.size w8 W9 := by
  have hzs : zS.size = 64 := by simp [zS]
  have hBA : Below w8.heap.size w8 (w8.alloc (.cells zS 52)) := (Below.refl _ _).alloc (Nat.le_refl _) _
  exact ⟨_, run_stP (w8.alloc (.cells zS 52)) w8.heap.size zS F _ (Blk.new _ _ _) hzs h.1 h.2, Tc.Blk.setAll (Blk.new w8 zS 52) (ds := F) (by rw [h.1, hzs]), hBA.trans ((Kp.sets (S := fun j => j = w8.heap.size) w8.heap.size rfl F.toList 0 (w8.alloc (.cells zS 52))).below hBA.size (fun j hj => by rw [hj]; exact Nat.le_refl _))⟩
theorem bel_drewN {B : Nat} {a w : World} (h : Below B a w) (n : Nat) : Below B a (w.drewN n) := ⟨h.os, h.tape, h.output, h.size, h.block⟩
/-- A row as a block. -/
theorem own_cells {N L size : Nat} {v : Value} {xs : List Value} {T : TypeId} (h : w.ownsRow N T size v L xs) (hL : 1 ≤ L) : ∃ g cap, v = .slice (some ⟨g, 0, none⟩) L cap ∧ L ≤ cap ∧ cap ≤ maxLen ∧ g < w.heap.size ∧ ∃ cs, Blk w g cs T ∧ ∀ i, i < L * size → cs[i]? = xs[i]? := by
  obtain ⟨hl, ⟨h1, h2⟩ | ⟨g, cap, cur, rfl, hg, hb, hc, hm, hs, he⟩⟩ := h
  · omega
  · have hb' : Blk w g cur T := hb
    refine ⟨g, cap, rfl, hc, hm, hb'.lt, cur, hb', fun i hi => ?_⟩
    have := congrArg (fun l => l[i]?) he
    simp only [List.getElem?_take, Array.getElem?_toList] at this
    rw [if_pos hi] at this
    exact this

set_option maxRecDepth 100000 in
set_option maxHeartbeats 2000000 in
theorem writes_out (vl : Value) (l : List Opr) (many who : Int) (a : Nat) (vb : Value) (xs : List Nat) (w : World) (hl : OpsAt w vl l) (hs : Slc .u8 w vb xs) (hno : ¬ (Fine 40 l ∧ xs.length ≤ 300 ∧ 1 ≤ many ∧ many ≤ 40)) :
    Calls Try.prog 4 #[.int .i64 many, vl, .int .i64 who, .int .u32 (a : Int), vb] w fun e w' => e = .returned (.bool true) ∧ Below w.heap.size w w' := by
  have HN := Lib.hid (new_some many)
  obtain ⟨av, cap, rfl, hs1, hs2, -⟩ := hs
  obtain ⟨m, hm⟩ : ∃ m, xs.length = m := ⟨_, rfl⟩
  rw [hm] at hs1 hno ⊢
  clear hm
  by_cases hfl : Fine 40 l
  case neg =>
    have HGl : Hid (∀ W, Below w.heap.size w W → Calls Try.prog 18 #[vl, .int .i64 40] W fun e w' => e = .returned (.int .i64 1) ∧ W = w') := Lib.hid (fun W hb => great_any vl l W 40 (by decide) (OpsAt.below hl hb) hfl)
    clear hno hfl
    go_enter Try.func4, Try.ntmps4
    go_wp2_with (first | (go_at_call 13; (with_reducible refine (alive_any _).mono ?_); rintro e w1 ⟨rfl, hb⟩; have HB := Lib.hid hb; clear hb) | (go_at_call 17; (with_reducible refine (HN.out _).mono ?_); rintro e w2 ⟨pv, c, rfl, hb⟩; have HB2 := Lib.hid (HB.out.trans (hb.mono HB.out.size)); clear hb) | (go_at_call 18; (with_reducible refine (HGl.out _ HB2.out).mono ?_); rintro e w3 ⟨rfl, rfl⟩))
    go_ret
    exact ⟨rfl, HB2.out⟩
  have HGl : Hid (∀ W, Below w.heap.size w W → Calls Try.prog 18 #[vl, .int .i64 40] W fun e w' => e = .returned (.int .i64 0) ∧ W = w') := Lib.hid (fun W hb => great_fine vl l W 40 (by decide) (OpsAt.below hl hb) hfl)
  by_cases hmm : m ≤ 300
  case neg =>
    have d : decide ((300 : Int) < (m : Int)) = true := decide_eq_true (by omega)
    clear hno hfl hmm
    go_enter Try.func4, Try.ntmps4
    go_wp2_with (first | (go_at_call 13; (with_reducible refine (alive_any _).mono ?_); rintro e w1 ⟨rfl, hb⟩; have HB := Lib.hid hb; clear hb) | (go_at_call 17; (with_reducible refine (HN.out _).mono ?_); rintro e w2 ⟨pv, c, rfl, hb⟩; have HB2 := Lib.hid (HB.out.trans (hb.mono HB.out.size)); clear hb) | (go_at_call 18; (with_reducible refine (HGl.out _ HB2.out).mono ?_); rintro e w3 ⟨rfl, rfl⟩))
    go_ret
    exact ⟨rfl, HB2.out⟩
  have dm : decide ((300 : Int) < (m : Int)) = false := decide_eq_false (by omega)
  by_cases h40 : 40 < many
  case pos =>
    have d : decide ((40 : Int) < many) = true := decide_eq_true h40
    clear hno hfl h40 hmm
    go_enter Try.func4, Try.ntmps4
    go_wp2_with (first | (go_at_call 13; (with_reducible refine (alive_any _).mono ?_); rintro e w1 ⟨rfl, hb⟩; have HB := Lib.hid hb; clear hb) | (go_at_call 17; (with_reducible refine (HN.out _).mono ?_); rintro e w2 ⟨pv, c, rfl, hb⟩; have HB2 := Lib.hid (HB.out.trans (hb.mono HB.out.size)); clear hb) | (go_at_call 18; (with_reducible refine (HGl.out _ HB2.out).mono ?_); rintro e w3 ⟨rfl, rfl⟩))
    go_ret
    exact ⟨rfl, HB2.out⟩
  case neg =>
    have d : decide ((40 : Int) < many) = false := decide_eq_false h40
    have HN2 : Hid (∀ W, _) := Lib.hid (fun W => new_arg W many (fun h => hno ⟨hfl, hmm, h.1, by omega⟩))
    clear hno hfl h40 HN hmm
    go_enter Try.func4, Try.ntmps4
    go_wp2_with (first | (go_at_call 13; (with_reducible refine (alive_any _).mono ?_); rintro e w1 ⟨rfl, hb⟩; have HB2 := Lib.hid hb; clear hb) | (go_at_call 17; (with_reducible refine (HN2.out _).mono ?_); rintro e w2 ⟨rfl, rfl⟩) | (go_at_call 18; (with_reducible refine (HGl.out _ HB2.out).mono ?_); rintro e w3 ⟨rfl, rfl⟩))
    go_ret
    exact ⟨rfl, HB2.out⟩
end Go.Proofs.Ytclpokkjbkbkgaa.Ws
