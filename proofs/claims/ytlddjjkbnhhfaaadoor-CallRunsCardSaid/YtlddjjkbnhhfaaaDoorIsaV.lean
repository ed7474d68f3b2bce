/-
  Assemble of package isa.
-/
import Derived.Test.YtlddjjkbnhhfaaaDoorIsaU
import Derived.Shelf.RegionOpen
import Derived.Maps.Own
namespace Go.Proofs.YtlddjjkbnhhfaaaDoor.IsaV
open Go Go.RowKit Go.Shelf Kit IsaM IsaT IsaL IsaC IsaE IsaN IsaD IsaA IsaW IsaS IsaP IsaR IsaB IsaF IsaG IsaH IsaI IsaJ IsaK IsaQ IsaU
set_option linter.unusedVariables false

attribute [local go_sem] Oper.semAt_some

theorem cut_nl (s : ByteArray) (w : World) (hs : s.size ≤ 9223372036854775807) (h : s.data.toList.getLast? = some 10) :
    Calls Tryd.prog 45 #[.string s, .string ⟨#[10]⟩] w fun e w' => e = .returned (.tuple #[.string (st s.data.toList.dropLast), .bool true]) ∧ w = w' :=
  (Shl.strings_CutSuffix s ⟨#[10]⟩ w hs).mono fun e w' ⟨he, hw⟩ => ⟨by
    obtain ⟨l, hl⟩ : ∃ l, s.data.toList = l ++ [10] := ⟨s.data.toList.dropLast, by
      have hne : s.data.toList ≠ [] := fun e => by rw [e] at h; cases h
      have h2 := List.dropLast_concat_getLast hne
      rw [List.getLast?_eq_some_getLast hne] at h
      rw [← Option.some.inj h]
      exact h2.symm⟩
    have e2 : (⟨#[10]⟩ : ByteArray).data.toList = [10] := rfl
    have e3 : Lib.hasSuffix (l ++ [10]) [10] = true := by unfold Lib.hasSuffix; simp [List.isSuffixOf]
    rw [he, e2, hl, e3]
    unfold Lib.trimSuffix
    rw [e3]
    simp [st], hw.symm⟩
theorem cut_nonl (s : ByteArray) (w : World) (hs : s.size ≤ 9223372036854775807) (h : s.data.toList.getLast? ≠ some 10) :
    Calls Tryd.prog 45 #[.string s, .string ⟨#[10]⟩] w fun e w' => e = .returned (.tuple #[.string s, .bool false]) ∧ w = w' :=
  (Shl.strings_CutSuffix s ⟨#[10]⟩ w hs).mono fun e w' ⟨he, hw⟩ => ⟨by
    have e2 : (⟨#[10]⟩ : ByteArray).data.toList = [10] := rfl
    have e3 : Lib.hasSuffix s.data.toList [10] = false := by
      rw [Bool.eq_false_iff]
      intro e
      unfold Lib.hasSuffix at e
      rw [List.isSuffixOf_iff_suffix] at e
      obtain ⟨t, ht⟩ := e
      apply h
      rw [← ht]
      simp
    have e4 : Lib.trimSuffix s.data.toList [10] = s.data.toList := by unfold Lib.trimSuffix; rw [e3]; rfl
    rw [he, e2, e3, e4], hw.symm⟩

/-- What Assemble answers. -/
def AsmR (s : Tx) (w : World) (e : Ending) (W' : World) : Prop :=
  Below w.heap.size w W' ∧ (∀ n, asm s = .inl n → e = .returned (.tuple #[.slice none 0 0, .int .i64 (n : Int), .int .i64 31]) ∧ 0 < n) ∧
    (∀ ws, asm s = .inr ws → ∃ r, e = .returned (.tuple #[r, .int .i64 0, .int .i64 0]) ∧ W'.ownsRow w.heap.size 22 1 r ws.length (u32s ws) ∧ (∀ x ∈ ws, x < 4294967296) ∧ ws.length ≤ 512)

/-- What lies behind some of the lines. -/
structure Io (s : ByteArray) (B0 Bp Bm BL Bi : Nat) (w : World) (pre : List Nat) (p : PSt) (W : World) : Prop where
  wk : walkX (pre.map (nth s.data.toList)) p0 = .inr p
  wf : Wf pre.length p
  sth : St B0 Bp Bm p W
  ln : Boxed W BL 3 (.int .i64 0)
  it : Boxed W Bi 9 (.string s)
  bel : Below B0 w W
/-- What lies where a line went wrong. -/
structure Ie (s : ByteArray) (B0 BL : Nat) (w : World) (pre : List Nat) (m : Nat) (W : World) : Prop where
  wk : walkX (pre.map (nth s.data.toList)) p0 = .inl m
  mb : 0 < m ∧ m ≤ 1000000
  ln : Boxed W BL 3 (.int .i64 (m : Int))
  bel : Below B0 w W

theorem asm_end {n : Nat} {s : Tx} {w X : World} {a : Act} {D j : Nat} (hKd : X.heap[D]? = some (.deferred (some []))) (hbX : Below w.heap.size w X) (hLX : Boxed X w.heap.size 3 (.int .i64 (j : Int))) (hD : w.heap.size < D)
    (h2 : a.tmps[2]? = some (.slice none 0 0)) (h4 : a.tmps[4]? = some (.int .i64 31)) (h3 : a.tmps[3]? = some (.pointer (some ⟨w.heap.size, 0, none⟩))) (hj : 0 < j) (hasm : asm s = .inl j) (hdef : a.defers = [{ target := .collected D, args := #[] }]) :
    Exit.noGoto (bodyPostM Fence.wide n Tryd.prog Tryd.f29 (AsmR s w)) Exit.ret a X := by
  obtain ⟨tm, df⟩ := a
  cases hdef
  rw [Exit.noGoto_ret]
  refine ⟨by simp, .inl ⟨_, _, rfl, run_takeDeferred hKd, ?_⟩⟩
  have hb' : Below w.heap.size w (X.putObj D (.deferred none)) := hbX.trans (belowK_b (w := w) (Nat.le_refl _) X D _ _ (by omega) hKd rfl rfl)
  have hR : (X.putObj D (.deferred none)).cell? ⟨w.heap.size, 0, none⟩ = some (.int .i64 (j : Int)) := (hLX.kept (grownBy_putObj' X D _) (fun e => by cases e; omega)).cell
  refine ⟨.tuple #[.slice none 0 0, .int .i64 (j : Int), .int .i64 31], ?_, hb', (fun k e => by rw [hasm] at e; cases e; exact ⟨rfl, hj⟩), (fun vs e => by rw [hasm] at e; cases e)⟩
  simp [results, go_sem, hR, h2, h3, h4]

set_option maxRecDepth 100000 in
set_option maxHeartbeats 4000000 in
theorem asm_in (n : Nat) (hn : 6 ≤ n) (s : ByteArray) (hs : s.size ≤ 100000) (w : World) (hTb : Tabs w) (hMb : Ml w) :
    CallsIn Fence.wide n Tryd.prog 29 #[.string s] w (AsmR s.data.toList w) := by
  refine callsIn_of_wp_marks Tryd.func29 rfl trivial ?_ rfl
  simp only [Tryd.ntmps29, List.size_toArray, List.length_cons, List.length_nil, Nat.reduceAdd, Nat.reduceSub, Array.replicate_succ, Array.replicate_zero, List.push_toArray, List.append_toArray, List.nil_append, List.cons_append]
  have hmm := @run_makeMap Tryd.prog
  gi_wp2
  refine wpIn_wide.2 (wp_scope_straight ((wpIn_wide (n := n)).1 ?_))
  gi_wp2
  refine wpIn_label ?_
  clear hmm
  gi_wp2_with (first | (refine ⟨trivial, fun _ => (by omega), ?_⟩; gi_at_call 44; refine (lines_in (n - 1) _ _).mono ?_; rintro e w' ⟨rfl, rfl⟩) | fail)
  have bL := ((((Boxed.new w 3 (.int .i64 0)).alloc (.map #[] 0)).alloc (.cells #[.slice none 0 0, .map (some (w.heap.size + 1)), .slice none 0 0] 88)).alloc (.cells #[.string s] 9))
  have bI := Boxed.new (((w.alloc (.cells #[.int .i64 0] 3)).alloc (.map #[] 0)).alloc (.cells #[.slice none 0 0, .map (some (w.heap.size + 1)), .slice none 0 0] 88)) 9 (.string s)
  have hB0 := ((((Below.refl w.heap.size w).alloc (Nat.le_refl _) (.cells #[.int .i64 0] 3)).alloc (by simp) (.map #[] 0)).alloc (by simp; omega) (.cells #[.slice none 0 0, .map (some (w.heap.size + 1)), .slice none 0 0] 88)).alloc (by simp; omega) (.cells #[.string s] 9)
  have hSt : St w.heap.size (w.heap.size + 1 + 1) (w.heap.size + 1) p0 ((((w.alloc (.cells #[.int .i64 0] 3)).alloc (.map #[] 0)).alloc (.cells #[.slice none 0 0, .map (some (w.heap.size + 1)), .slice none 0 0] 88)).alloc (.cells #[.string s] 9)) := by
    have hm := World.ownsMap_made (H := Unit) (w.alloc (.cells #[.int .i64 0] 3)) Tryd.prog 9 (plainElem Tryd.prog 3)
    rw [World.size_alloc] at hm
    refine ⟨⟨by omega, by omega⟩, ⟨.slice none 0 0, .slice none 0 0, ?_, ⟨rfl, .inl ⟨rfl, rfl⟩⟩, ⟨rfl, .inl ⟨rfl, rfl⟩⟩⟩, (hm.alloc _).alloc _, by simp [p0], by simp [p0]⟩
    have hp := World.alloc_heap_new ((w.alloc (.cells #[.int .i64 0] 3)).alloc (.map #[] 0)) (.cells #[.slice none 0 0, .map (some (w.heap.size + 1)), .slice none 0 0] 88)
    rw [World.size_alloc, World.size_alloc] at hp
    exact (Below.heap_alloc _ _ _ (by simp)).trans hp
  have hsz : ((((w.alloc (.cells #[.int .i64 0] 3)).alloc (.map #[] 0)).alloc (.cells #[.slice none 0 0, .map (some (w.heap.size + 1)), .slice none 0 0] 88)).alloc (.cells #[.string s] 9)).heap.size = w.heap.size + 4 := by simp
  simp only [World.size_alloc] at bL bI
  obtain ⟨W0, hW0⟩ : ∃ W0, ((((w.alloc (.cells #[.int .i64 0] 3)).alloc (.map #[] 0)).alloc (.cells #[.slice none 0 0, .map (some (w.heap.size + 1)), .slice none 0 0] 88)).alloc (.cells #[.string s] 9)) = W0 := ⟨_, rfl⟩
  rw [hW0] at bL bI hB0 hSt hsz ⊢
  clear hW0
  refine wpIn_rangeFunc_ownH rfl (by omega) (gf := 55) (lb := #[.pointer (some ⟨w.heap.size + 1 + 1 + 1, 0, none⟩)]) rfl trivial (enters_of Tryd.func55 (by kernel_rfl) rfl)
    (lines_stops (n - 1) (by omega) (w.heap.size + 1 + 1 + 1) w.heap.size s hs W0 (by omega) bI) Kp.trans (Kp.put (by omega)) (Below.refl _ _) (fun _ => rfl)
    (fun pre W => ∃ p, Io s w.heap.size (w.heap.size + 1 + 1) (w.heap.size + 1) w.heap.size (w.heap.size + 1 + 1 + 1) w pre p W)
    (fun c pre W => c = .exit 0 ∧ ∃ m, Ie s w.heap.size w.heap.size w pre m W)
    ?own ?ownx ⟨p0, rfl, wf0, hSt, bL, bI, hB0⟩
    (fun x a' _ => a' = { tmps := #[.string s, undef, .slice none 0 0, .pointer (some ⟨w.heap.size, 0, none⟩), .int .i64 0, .pointer (some ⟨w.heap.size + 1 + 1, 0, none⟩), .int .i64 ((num x : Nat) : Int), .string (st (lineAt s.data.toList x)), undef, undef, .map (some (w.heap.size + 1)), .agg #[.slice none 0 0, .map (some (w.heap.size + 1)), .slice none 0 0], .string s, .func (.func 55) #[] #[.pointer (some ⟨w.heap.size + 1 + 1 + 1, 0, none⟩)], .int .i64 ((num x : Nat) : Int), .string (st (lineAt s.data.toList x)), undef, undef, undef, undef, undef, undef, undef, undef, undef, undef, undef, undef, undef, undef, undef, undef, undef, undef, undef, undef, undef], defers := [] })
    (fun x a' _ X Y row hs hg hr => hs)
    ?assign ?body ?done ?stop
  case own =>
    rintro pre X Y row ⟨p, h⟩ hg hr
    refine ⟨p, h.wk, h.wf, h.sth.grown hg (fun r e => ⟨?_, fun cs T hb => ?_⟩), ?_, ?_, h.bel.grown hg (by have := h.bel.size; omega) (fun k e => by have := (hr k e).1; omega)⟩
    · have := (hr r e).1; omega
    · obtain ⟨o, ho, hc⟩ := (hr r e).2
      unfold Blk at hb
      rw [hb] at ho
      cases ho
      cases hc
    · exact h.ln.kept hg (fun e => by have := (hr _ e.symm).1; omega)
    · exact h.it.kept hg (fun e => by have := (hr _ e.symm).1; omega)
  case ownx =>
    rintro c pre X Y row ⟨rfl, m, h⟩ hg hr
    exact ⟨rfl, m, h.wk, h.mb, h.ln.kept hg (fun e => by have := (hr _ e.symm).1; omega), h.bel.grown hg (by have := h.bel.size; omega) (fun k e => by have := (hr k e).1; omega)⟩
  case assign =>
    rintro l pre x W K hI hK
    dsimp only [encs]
    gi_wp2
    exact hK _ _ (KeepsFrom.refl _ _) (Kp.refl _ _ _) hI rfl
  case body =>
    rintro l pre x a' W hl ⟨rr, hr⟩ ⟨p, h⟩ rfl hlt
    clear hr rr
    dsimp only
    have hnum : num x ≤ 100001 := by unfold num; omega
    have hnum0 : 0 < num x := by unfold num; omega
    have hpl : pre.length < 100001 := by
      have h1 := rawL_len s.data.toList
      have h2 : s.data.toList.length = s.size := by simp
      omega
    have htl : (st (lineAt s.data.toList x)).size ≤ 100000 := by
      rw [st_size]
      have h1 := lineAt_le s.data.toList x
      have h2 : s.data.toList.length = s.size := by simp
      omega
    have hwk := h.wk
    have hstep : walkX ((pre ++ [x]).map (nth s.data.toList)) p0 = match stepL (num x) (lineAt s.data.toList x) p with | none => .inl (num x) | some q => .inr q := by
      rw [List.map_append, walkX_app, hwk]
      rfl
    obtain ⟨m, hm⟩ : ∃ m, num x = m := ⟨_, rfl⟩
    obtain ⟨t, ht⟩ : ∃ t, lineAt s.data.toList x = t := ⟨_, rfl⟩
    rw [hm, ht] at hstep
    rw [ht] at htl
    rw [hm] at hnum hnum0
    simp only [hm, ht]
    clear hm ht hwk
    have HS := Lib.hid hstep
    have H := Lib.hid h
    have hsW := h.bel.size
    have cL := h.ln.cell
    have hlL := h.ln.lt
    have fL := h.ln.frozen
    clear hstep h
    by_cases hend : t.getLast? = some 10
    · have HC := Lib.hid (fun wx => CallsIn.inRound l (callsIn_wide (n := n - 1 - 1 - 1).2 (cut_nl (st t) wx (by omega) (by rw [st_data]; exact hend))))
      have hd : (st (st t).data.toList.dropLast).size ≤ 100000 := by rw [st_size, List.length_dropLast, st_data]; rw [st_size] at htl; omega
      have HT := Lib.hid (fun wx (hwx : wx = W) => CallsIn.inRound l (callsIn_wide (n := n - 1 - 1 - 1).2 (take_any w w.heap.size rfl hTb hMb (w.heap.size + 1 + 1) (w.heap.size + 1) p m (by omega) (st (st t).data.toList.dropLast) wx hd (hwx ▸ H.out.sth) H.out.wf.jw (by have := H.out.wf.pn; omega) (hwx ▸ H.out.bel))))
      have hstl : stepL m t p = takeS m t.dropLast p := by unfold stepL cutL; rw [if_pos hend]; rfl
      have hdd : (st (st t).data.toList.dropLast).data.toList = t.dropLast := by rw [st_data, st_data]
      rw [hdd] at HT
      have HS2 := HS.out
      rw [hstl] at HS2
      clear HS hend hdd hd
      cases ho : takeS m t.dropLast p with
      | none =>
        rw [ho] at HT HS2
        gi_wp2_with (first | (refine ⟨trivial, fun _ => (by omega), ?_⟩; gi_at_call 45; refine (HC.out _).mono ?_; rintro e w9 ⟨rfl, rfl⟩) | (refine ⟨trivial, fun _ => (by omega), ?_⟩; gi_at_call 46; refine (HT.out _ rfl).mono ?_; rintro e w9 ⟨rfl, -, hfr⟩; have bl9 : Boxed w9 w.heap.size 3 (.int .i64 0) := hfr.cells _ _ _ (by decide) (by decide) (by decide) H.out.ln; have cL9 := bl9.cell; have fL9 := bl9.frozen) | fail)
        have hb9 := H.out.bel.trans hfr.bel
        exact ⟨⟨by rw [Deep.nblk_setCell]; exact hfr.grow, fun k o hk ho hc => (KeepsOthers.setCell _ _ _).same k o (hfr.oth k o (by omega) ho hc) hc⟩, rfl, m, HS2, ⟨hnum0, by omega⟩, bl9.set _, hb9.setCell (p := ⟨w.heap.size, 0, none⟩) (Nat.le_refl _) _⟩
      | some q =>
        rw [ho] at HT HS2
        have hq := stepL_wf (hstl.trans ho) H.out.wf (by omega) hnum0
        gi_wp2_with (first | (refine ⟨trivial, fun _ => (by omega), ?_⟩; gi_at_call 45; refine (HC.out _).mono ?_; rintro e w9 ⟨rfl, rfl⟩) | (refine ⟨trivial, fun _ => (by omega), ?_⟩; gi_at_call 46; refine (HT.out _ rfl).mono ?_; rintro e w9 ⟨rfl, hst, hfr⟩) | fail)
        have hb9 := H.out.bel.trans hfr.bel
        have hbx : ∀ b v T, T ≠ 88 → T ≠ 22 → T ≠ 112 → Boxed W b T v → Boxed w9 b T v := fun b v T h1 h2 h3 hb => hfr.cells b _ T h1 h2 h3 hb
        exact ⟨⟨hfr.grow, fun k o hk ho hc => hfr.oth k o (by omega) ho hc⟩, ⟨hfr.bel, fun v hv => hbx _ _ _ (by decide) (by decide) (by decide) hv⟩, q, HS2, by rw [List.length_append]; exact hq, hst _ rfl, hbx _ _ _ (by decide) (by decide) (by decide) H.out.ln, hbx _ _ _ (by decide) (by decide) (by decide) H.out.it, hb9⟩
    · have HC := Lib.hid (fun wx => CallsIn.inRound l (callsIn_wide (n := n - 1 - 1 - 1).2 (cut_nonl (st t) wx (by omega) (by rw [st_data]; exact hend))))
      have hstl : stepL m t p = none := by unfold stepL cutL; rw [if_neg hend]; rfl
      have HS2 := HS.out
      rw [hstl] at HS2
      clear HS hend
      gi_wp2_with (first | (refine ⟨trivial, fun _ => (by omega), ?_⟩; gi_at_call 45; refine (HC.out _).mono ?_; rintro e w9 ⟨rfl, rfl⟩) | fail)
      exact ⟨(KeepsOthers.setCell _ _ _).from _, rfl, m, HS2, ⟨hnum0, by omega⟩, H.out.ln.set _, H.out.bel.setCell (p := ⟨w.heap.size, 0, none⟩) (Nat.le_refl _) _⟩
  case done =>
    rintro D ys W hD rfl ⟨p, h⟩ hK
    have hwk := h.wk
    rw [nth_all _ (by have h2 : s.data.toList.length = s.size := by simp
                      omega)] at hwk
    have hasm : asm s.data.toList = linkS p.places p.jumps p.words := by unfold asm; rw [hwk]
    have cL := h.ln.cell
    have fL := h.ln.frozen
    have H := Lib.hid h
    have HL := Lib.hid (link_any w w.heap.size rfl hTb (w.heap.size + 1 + 1) (w.heap.size + 1) p W h.sth h.wf.jo (fun t q hq => by have h1 := h.wf.po t q hq; have h2 := h.sth.le.1; omega) h.bel)
    clear h hwk
    cases hl : linkS p.places p.jumps p.words with
    | inl j =>
      rw [hl] at HL hasm
      obtain ⟨jj, hjj, hjl⟩ := linkS_line _ _ _ _ hl
      have hj0 : (0 : Int) < (j : Int) := by have := H.out.wf.jp jj hjj; omega
      gi_wp2_with (first | (refine ⟨trivial, fun _ => (by omega), ?_⟩; gi_at_call 47; refine (callsIn_wide.2 HL.out).mono ?_; rintro e w9 ⟨hlt, -, hfr⟩; obtain rfl := hlt _ rfl; have bl9 : Boxed w9 w.heap.size 3 (.int .i64 0) := hfr.cells _ _ _ (by decide) (by decide) (by decide) H.out.ln; have cL9 := bl9.cell; have fL9 := bl9.frozen) | fail)
      gi_region
      gi_wp2
      obtain ⟨X, hX⟩ : ∃ X, ((w9.setCell ⟨w.heap.size, 0, none⟩ (.int .i64 (j : Int))).setCell ⟨w.heap.size, 0, none⟩ (.int .i64 (j : Int))).drew = X := ⟨_, rfl⟩
      have hKd : X.heap[D]? = some (.deferred (some [])) := by
        rw [← hX]
        exact (KeepsOthers.setCell _ _ _).same _ _ ((KeepsOthers.setCell _ _ _).same _ _ (hfr.oth D _ (by omega) hK rfl) rfl) rfl
      have hbX : Below w.heap.size w X := by
        rw [← hX]
        exact (((H.out.bel.trans hfr.bel).setCell (p := ⟨w.heap.size, 0, none⟩) (Nat.le_refl _) _).setCell (p := ⟨w.heap.size, 0, none⟩) (Nat.le_refl _) _).drew
      have hLX : Boxed X w.heap.size 3 (.int .i64 (j : Int)) := by
        rw [← hX]
        exact (bl9.set _).set _
      rw [hX]
      exact asm_end hKd hbX hLX (by omega) (by rfl) (by rfl) (by rfl) (by omega) hasm (by rfl)
    | inr ws =>
      rw [hl] at HL hasm
      gi_wp2_with (first | (refine ⟨trivial, fun _ => (by omega), ?_⟩; gi_at_call 47; refine (callsIn_wide.2 HL.out).mono ?_; rintro e w9 ⟨-, hlt, hfr⟩; obtain ⟨rfl, hst⟩ := hlt _ rfl; obtain ⟨v1, v3, hbp, h1, h3⟩ := hst.hold; have cP : w9.cell? ⟨w.heap.size + 1 + 1, 0, none⟩ = some v1 := hbp.cell 0; have bl9 : Boxed w9 w.heap.size 3 (.int .i64 0) := hfr.cells _ _ _ (by decide) (by decide) (by decide) H.out.ln; have cL9 := bl9.cell; have fL9 := bl9.frozen) | fail)
      obtain ⟨X, hX⟩ : ∃ X, ((w9.setCell ⟨w.heap.size, 0, none⟩ (.int .i64 0)).setCell ⟨w.heap.size, 0, none⟩ (.int .i64 0)) = X := ⟨_, rfl⟩
      have hKd : X.heap[D]? = some (.deferred (some [])) := by
        rw [← hX]
        exact (KeepsOthers.setCell _ _ _).same _ _ ((KeepsOthers.setCell _ _ _).same _ _ (hfr.oth D _ (by omega) hK rfl) rfl) rfl
      have hbX : Below w.heap.size w X := by
        rw [← hX]
        exact ((H.out.bel.trans hfr.bel).setCell (p := ⟨w.heap.size, 0, none⟩) (Nat.le_refl _) _).setCell (p := ⟨w.heap.size, 0, none⟩) (Nat.le_refl _) _
      have hLX : Boxed X w.heap.size 3 (.int .i64 0) := by
        rw [← hX]
        exact (bl9.set _).set _
      have hRX : X.ownsRow w.heap.size 22 1 v1 ws.length (u32s ws) := by
        rw [← hX]
        have hs1 : (w9.setCell ⟨w.heap.size, 0, none⟩ (.int .i64 0)).ownsRow w.heap.size 22 1 v1 ws.length (u32s ws) := row_set h1 bl9 (by decide) 0 _
        exact row_set hs1 (bl9.set _) (by decide) 0 _
      rw [hX]
      rw [Exit.noGoto_ret]
      refine ⟨by simp, .inl ⟨_, _, rfl, run_takeDeferred hKd, ?_⟩⟩
      have hb' : Below w.heap.size w (X.putObj D (.deferred none)) := hbX.trans (belowK_b (w := w) (Nat.le_refl _) X D _ _ (by omega) hKd rfl rfl)
      have hR : (X.putObj D (.deferred none)).cell? ⟨w.heap.size, 0, none⟩ = some (.int .i64 0) := (hLX.kept (grownBy_putObj' X D _) (fun e => by cases e; omega)).cell
      have hrow' := ownsRow_putObj hRX (.deferred none) hKd rfl
      have hle := hst.le
      have hu := hst.u32
      refine ⟨.tuple #[v1, .int .i64 0, .int .i64 0], ?_, hb', (fun j e => by rw [hasm] at e; cases e), (fun vs e => by rw [hasm] at e; cases e; exact ⟨v1, rfl, hrow', hu, hle.1⟩)⟩
      simp [results, go_sem, hR]
  case stop =>
    rintro D c pre W hD ⟨k, hk, rfl⟩ ⟨rfl, m, h⟩ hK
    have cL := h.ln.cell
    have fL := h.ln.frozen
    have H := Lib.hid h
    have hm0 : (0 : Int) < (m : Int) := by have := h.mb; omega
    have hm1 : (m : Int) ≠ 0 := by omega
    clear h
    gi_wp2
    gi_region
    gi_wp2
    obtain ⟨X, hX⟩ : ∃ X, (W.setCell ⟨w.heap.size, 0, none⟩ (.int .i64 (m : Int))).drew = X := ⟨_, rfl⟩
    have hKd : X.heap[D]? = some (.deferred (some [])) := by
      rw [← hX]
      exact (KeepsOthers.setCell _ _ _).same _ _ hK rfl
    have hbX : Below w.heap.size w X := by
      rw [← hX]
      exact (H.out.bel.setCell (p := ⟨w.heap.size, 0, none⟩) (Nat.le_refl _) _).drew
    have hLX : Boxed X w.heap.size 3 (.int .i64 (m : Int)) := by
      rw [← hX]
      exact H.out.ln.set _
    have hasm : asm s.data.toList = .inl m := by
      have hwk := H.out.wk
      have hall := nth_all s.data.toList (by have h2 : s.data.toList.length = s.size := by simp
                                             omega)
      unfold asm
      rw [← hall]
      obtain ⟨N, hN⟩ : ∃ N, (rawL s.data.toList).length = N := ⟨_, rfl⟩
      rw [hN] at hk ⊢
      have e : List.range N = List.range k ++ (List.range N).drop k := by
        rw [show List.range k = (List.range N).take k from by rw [List.take_range, Nat.min_eq_left hk], List.take_append_drop]
      rw [e, List.map_append, walkX_app, hwk]
    rw [hX]
    exact asm_end hKd hbX hLX (by omega) (by rfl) (by rfl) (by rfl) (by omega) hasm (by rfl)
/-- Assemble of any text. -/
theorem asm_any (s : ByteArray) (hs : s.size ≤ 100000) (w : World) (hTb : Tabs w) (hMb : Ml w) :
    Calls Tryd.prog 29 #[.string s] w (AsmR s.data.toList w) := (callsIn_wide (n := 6)).1 (asm_in 6 (Nat.le_refl _) s hs w hTb hMb)
#print axioms asm_any
end Go.Proofs.YtlddjjkbnhhfaaaDoor.IsaV
