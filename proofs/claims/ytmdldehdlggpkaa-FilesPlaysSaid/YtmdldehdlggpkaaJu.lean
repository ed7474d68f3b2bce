/-
  Used, Free, Copy of open files; open files that nobody made.
-/
import Derived.Test.YtmdldehdlggpkaaJo
import Derived.Laws.MakeOwn
namespace Go.Proofs.Ytmdldehdlggpkaa.Ju
open Go Go.RowKit Go.Shelf Kit Bk Jp Jm Ji Jo
set_option linter.unusedVariables false

attribute [local go_sem] Oper.semAt_some
def appO (ts : Array TypeId) (t : TypeId) (args : Array Value) : Sem Value := Builtin.append_ ts t args
theorem app_wrap (ts : Array TypeId) (t : TypeId) (args : Array Value) : Builtin.append_ ts t args = appO ts t args := rfl
attribute [local go_sem ↓] app_wrap

theorem info3 : (Try.prog.info? 3).map (fun i => (i.zero, i.size, i.bytes)) = some (some (.int .i64 0), 1, 8) := by kernel_rfl

set_option maxRecDepth 100000 in
set_option maxHeartbeats 2000000 in
theorem seq_in (n : Nat) (hn : 3 ≤ n) (Bb : Nat) (a : Option Addr) (R : Nat → Nat) (w : World) (hM : Ats w.heap.size w (.pointer a) R) (hBb : Boxed w Bb 31 (.pointer a)) :
    CallsIn Fence.wide n Try.prog 51 #[.slice none 0 0, .func (.func 52) #[] #[.pointer (some ⟨Bb, 0, none⟩)]] w fun e w' => Below w.heap.size w w' ∧ ∃ r, e = .returned r ∧ w'.ownsRow w.heap.size 3 1 r (usd R 64).length (ints (usd R 64)) := by
  obtain ⟨i0, hi, hz0, hz1, hz2⟩ := info_parts info3
  refine callsIn_of_wp_marks Try.func51 rfl trivial ?_ rfl
  simp only [Try.ntmps51, List.size_toArray, List.length_cons, List.length_nil, Nat.reduceAdd, Nat.reduceSub, Array.replicate_succ, Array.replicate_zero, List.push_toArray, List.append_toArray, List.nil_append, List.cons_append]
  gi_wp2
  have hBlt := hBb.lt
  have bS := Boxed.new w 38 (.slice none 0 0)
  have bP := hBb.alloc (.cells #[.slice none 0 0] 38)
  have hB0 := (Below.refl w.heap.size w).alloc (Nat.le_refl _) (.cells #[.slice none 0 0] 38)
  have hsz : (w.alloc (.cells #[.slice none 0 0] 38)).heap.size = w.heap.size + 1 := by simp
  have hrow0 := World.ownsRow_nil (w.alloc (.cells #[.slice none 0 0] 38)) w.heap.size 3 1
  obtain ⟨W0, hW0⟩ : ∃ W0, w.alloc (.cells #[.slice none 0 0] 38) = W0 := ⟨_, rfl⟩
  rw [hW0] at bS bP hB0 hsz hrow0 ⊢
  clear hW0
  have hM0 := hM.low hB0
  refine wpIn_rangeFunc_ownH rfl (by omega) (gf := 52) (lb := #[.pointer (some ⟨Bb, 0, none⟩)]) rfl trivial (enters_of Try.func52 (by kernel_rfl) rfl)
    (open_stops (n - 1) (by omega) Bb w.heap.size a R W0 (by omega) hM0 bP) Kq.trans (Kq.put (by omega)) (Below.refl _ _) (fun _ => rfl)
    (fun pre W => ((∃ v, Boxed W w.heap.size 38 v ∧ W.ownsRow w.heap.size 3 1 v pre.length (ints pre) ∧ True) ∧ Boxed W Bb 31 (.pointer a)) ∧ Below w.heap.size w W)
    (fun c pre W => False)
    (OwnFrom.and (OwnFrom.and (Own.from (holdsRow_own w.heap.size w.heap.size 38 3 1 (fun (pre : List Nat) => pre.length) (fun (pre : List Nat) => ints pre) (fun _ _ => True)) _) (Own.from (boxed_own _ _ _) _)) (ownFrom_below (Nat.le_refl _) (by omega)))
    (fun c => ownFrom_pure _ _)
    ⟨⟨⟨_, bS, hrow0, trivial⟩, bP⟩, hB0⟩
    (fun x a' W => a' = { tmps := #[.slice none 0 0, .func (.func 52) #[] #[.pointer (some ⟨Bb, 0, none⟩)], .pointer (some ⟨w.heap.size, 0, none⟩), undef, .slice none 0 0, .int .i64 (x : Int), .func (.func 52) #[] #[.pointer (some ⟨Bb, 0, none⟩)], .int .i64 (x : Int), undef, undef, undef, undef, undef], defers := [] })
    (fun x a' => ownFrom_pure _ (fun _ : Unit => _))
    ?assign ?body ?done ?stop
  case assign =>
    rintro l pre x W K hI hK
    dsimp only [encs]
    gi_wp2
    exact hK _ _ ((KeepsOthers.refl _).from _) (Kq.refl _ _ _) hI (by simp)
  case body =>
    rintro l pre x a' W hl ⟨rr, hr⟩ ⟨⟨⟨v, hv, hrow, -⟩, hP⟩, hB⟩ rfl hlt
    have cL := hv.cell
    have hsW := hB.size
    have hcl : ∀ o, (W.alloc o).cell? ⟨w.heap.size, 0, none⟩ = some v := fun o => (hv.alloc o).cell
    obtain ⟨v', w2, hrun, hown', hgrow, -⟩ := run_append_own (P := Try.prog) (w := W.alloc (.cells #[.int .i64 (x : Int)] 3)) w.heap.size 38 38 3 i0 (.int .i64 0) 1 8 Try.underlying38 hi hz0 hz1 hz2 rfl (by decide) v pre.length (ints pre) (hrow.alloc _) ⟨W.heap.size, 0, none⟩ 1 1 [.int .i64 (x : Int)] rfl
      (by intro j u hj; have hj0 : j = 0 := (by cases j with | zero => rfl | succ j => simp at hj); subst hj0; simp at hj; subst hj; simp [Addr.add]) (by simp [Value.oneCell']) (by unfold maxLen; omega) (by omega) (by simp; omega)
    obtain ⟨g', cap', rfl⟩ := ownsRow_succ hown'
    have hrun' : (appO #[38, 38] 38 #[v, .slice (some ⟨W.heap.size, 0, none⟩) 1 1]).run Try.prog (W.alloc (.cells #[.int .i64 (x : Int)] 3)) = .ok (.slice (some ⟨g', 0, none⟩) (pre.length + 1) cap') w2 := hrun
    clear hrun
    have hkeep : ∀ (C : Nat) (t : TypeId) (u : Value), t ≠ 3 → C ≠ w.heap.size → Boxed W C t u → Boxed (w2.setCell ⟨w.heap.size, 0, none⟩ (.slice (some ⟨g', 0, none⟩) (pre.length + 1) cap')) C t u := fun C t u ht hne h =>
      Boxed.other (Boxed.kept (h.alloc _) hgrow (h.not_row ht hrow)) hne _
    obtain ⟨hv1, hv2, hr2, hk2, hb2⟩ := hv.appended (by decide) hrow hsW (Nat.le_refl _) hown' hgrow
    have hc1 := hv1.cell
    have hf1 := hv1.frozen
    have HV := Lib.hid (And.intro hv2 (And.intro hr2 (And.intro hk2 hb2)))
    clear hv2 hr2 hk2 hb2 hown' hgrow
    gi_wp2
    exact ⟨HV.out.2.2.1.from _, ⟨HV.out.2.2.2, fun u hu => hkeep _ _ u (by decide) (by omega) hu⟩, ⟨⟨_, HV.out.1, by simpa [ints] using HV.out.2.1, trivial⟩, hkeep _ _ _ (by decide) (by omega) hP⟩, hB.trans HV.out.2.2.2⟩
  case done =>
    rintro D ys W hD rfl ⟨⟨⟨v, hv, hrow, -⟩, hP⟩, hB⟩ hK
    have cL := hv.cell
    have HR := Lib.hid hrow
    clear hrow
    gi_wp2
    refine ⟨by simp, .inl ⟨_, _, rfl, run_takeDeferred hK, ?_⟩⟩
    refine ⟨v, ?_, hB.trans (belowK_b (w := w) (Nat.le_refl _) W D _ _ (by omega) hK rfl rfl), _, rfl, ownsRow_putObj HR.out (.deferred none) hK rfl⟩
    simp [results, go_sem]
  case stop =>
    rintro D c pre W hD hm hF hK
    exact hF.elim
theorem collect_in (n : Nat) (hn : 4 ≤ n) (Bb : Nat) (a : Option Addr) (R : Nat → Nat) (w : World) (hM : Ats w.heap.size w (.pointer a) R) (hBb : Boxed w Bb 31 (.pointer a)) :
    CallsIn Fence.wide n Try.prog 43 #[.func (.func 52) #[] #[.pointer (some ⟨Bb, 0, none⟩)]] w fun e w' => Below w.heap.size w w' ∧ ∃ r, e = .returned r ∧ w'.ownsRow w.heap.size 3 1 r (usd R 64).length (ints (usd R 64)) := by
  have HS := Lib.hid (seq_in (n - 1) (by omega) Bb a R w hM hBb)
  refine callsIn_of_wp Try.func43 rfl trivial ?_ rfl
  simp only [Try.ntmps43, List.size_toArray, List.length_cons, List.length_nil, Nat.reduceAdd, Nat.reduceSub, Array.replicate_succ, Array.replicate_zero, List.push_toArray, List.append_toArray, List.nil_append, List.cons_append]
  clear hM hBb
  gi_wp2_with (first | (refine ⟨trivial, fun _ => (by omega), ?_⟩; gi_at_call 51; refine HS.out.mono ?_; rintro e w' ⟨hb, r, rfl, ho⟩))
  go_ret
  exact ⟨hb, _, rfl, ho⟩
theorem used_in (n : Nat) (hn : 5 ≤ n) (a : Option Addr) (R : Nat → Nat) (w : World) (hM : Ats w.heap.size w (.pointer a) R) :
    CallsIn Fence.wide n Try.prog 13 #[.pointer a] w fun e w' => Below w.heap.size w w' ∧ ∃ r, e = .returned r ∧ w'.ownsRow w.heap.size 3 1 r (usd R 64).length (ints (usd R 64)) := by
  have hb0 : Below w.heap.size w (w.alloc (.cells #[.pointer a] 31)) := (Below.refl _ _).alloc (Nat.le_refl _) _
  have hM2 : Ats (w.alloc (.cells #[.pointer a] 31)).heap.size (w.alloc (.cells #[.pointer a] 31)) (.pointer a) R := fun W hW k hk => hM W (hb0.trans (hW.mono hb0.size)) k hk
  have HC := Lib.hid (collect_in (n - 1) (by omega) w.heap.size a R (w.alloc (.cells #[.pointer a] 31)) hM2 (Boxed.new _ _ _))
  have HB := Lib.hid hb0
  refine callsIn_of_wp Try.func13 rfl trivial ?_ rfl
  simp only [Try.ntmps13, List.size_toArray, List.length_cons, List.length_nil, Nat.reduceAdd, Nat.reduceSub, Array.replicate_succ, Array.replicate_zero, List.push_toArray, List.append_toArray, List.nil_append, List.cons_append]
  clear hM hM2 hb0
  gi_wp2_with (first | (refine ⟨trivial, fun _ => (by omega), ?_⟩; gi_at_call 44; refine (open_in (n - 1) a _).mono ?_; rintro e w' ⟨rfl, rfl⟩) | (refine ⟨trivial, fun _ => (by omega), ?_⟩; gi_at_call 43; refine HC.out.mono ?_; rintro e w' ⟨hb, r, rfl, ho⟩))
  go_ret
  exact ⟨HB.out.trans (hb.mono (by simp)), _, rfl, own_base ho (by simp)⟩
theorem used_ats (a : Option Addr) (R : Nat → Nat) (w : World) (hM : Ats w.heap.size w (.pointer a) R) :
    Calls Try.prog 13 #[.pointer a] w fun e w' => Below w.heap.size w w' ∧ ∃ r, e = .returned r ∧ w'.ownsRow w.heap.size 3 1 r (usd R 64).length (ints (usd R 64)) := (callsIn_wide (n := 5)).1 (used_in 5 (Nat.le_refl _) a R w hM)
theorem used_any (w : World) (f : Nat) (S : Sf) (h : Fl w f S) :
    Calls Try.prog 13 #[.pointer (some ⟨f, 0, none⟩)] w fun e w' => Below w.heap.size w w' ∧ ∃ r, e = .returned r ∧ w'.ownsRow w.heap.size 3 1 r (usd S.R 64).length (ints (usd S.R 64)) := used_ats _ _ w (ats_fl h h.lt)
theorem used_nil (w : World) :
    Calls Try.prog 13 #[.pointer none] w fun e w' => Below w.heap.size w w' ∧ ∃ r, e = .returned r ∧ w'.ownsRow w.heap.size 3 1 r 0 [] := by
  have := used_ats none (fun _ => 0) w (ats_nil _ _)
  rw [usd_none (fun _ _ => rfl)] at this
  exact this
theorem row_form {w : World} {base : Nat} {e : TypeId} {size : Nat} {v : Value} {n : Nat} {xs : List Value} (h : w.ownsRow base e size v n xs) : ∃ ad cap, v = .slice ad n cap := by
  rcases h.2 with ⟨h1, h2⟩ | ⟨g, cap, cur, h1, _⟩
  · subst h2; exact ⟨none, 0, h1⟩
  · exact ⟨_, _, h1⟩
theorem free_any (w : World) (f : Nat) (S : Sf) (h : Fl w f S) :
    Calls Try.prog 18 #[.pointer (some ⟨f, 0, none⟩)] w fun e w' => e = .returned (.int .i64 (64 - ((usd S.R 64).length : Int))) ∧ Below w.heap.size w w' := by
  have HU := Lib.hid (used_any w f S h)
  have hl := usd_len S.R 64
  obtain ⟨L, hL⟩ : ∃ L, (usd S.R 64).length = L := ⟨_, rfl⟩
  rw [hL] at hl HU ⊢
  have hli : (L : Int) ≤ 64 := by omega
  clear h hL hl
  go_enter Try.func18, Try.ntmps18
  go_wp2_with (go_at_call 13; (with_reducible refine HU.out.mono ?_); rintro e w1 ⟨hb, r, rfl, hr⟩; obtain ⟨ad, cap, rfl⟩ := row_form hr; clear hr; replace hb := Lib.hid hb)
  go_ret
  exact ⟨rfl, hb.out⟩
theorem free_nil (w : World) :
    Calls Try.prog 18 #[.pointer none] w fun e w' => e = .returned (.int .i64 0) ∧ w = w' := by
  go_enter Try.func18, Try.ntmps18
  go_wp2
  go_ret
  exact ⟨rfl, rfl⟩

/-- Open files without any, as a value. -/
def zF : Array Value := madeCells #[.int .i64 0, .bool false, .int .i64 0] 192
theorem infoT : (Try.prog.info? 61).map (fun i => (i.zero, i.size)) = some (some (.agg zF), 192) := by kernel_rfl
theorem zF_size : zF.size = 192 := size_madeCells _ _
theorem zF_at (k : Nat) (hk : k < 64) : zF[k * 3]? = some (.int .i64 0) ∧ zF[k * 3 + 1]? = some (.bool false) ∧ zF[k * 3 + 2]? = some (.int .i64 0) := by
  have h : ∀ r, r < 3 → zF[k * 3 + r]? = (#[Value.int .i64 0, .bool false, .int .i64 0] : Array Value)[r]? := fun r hr => by
    have hs : k * 3 + r < 192 := by omega
    have hmod : (k * 3 + r) % 3 = r := by omega
    unfold zF
    simp only [madeCells, Array.getElem?_map, Array.getElem?_range, hs, if_true, Option.map_some]
    rw [show (#[Value.int .i64 0, .bool false, .int .i64 0] : Array Value).size = 3 from rfl, hmod, getElem!_def]
    have : r < (#[Value.int .i64 0, .bool false, .int .i64 0] : Array Value).size := hr
    rw [Array.getElem?_eq_getElem this]
  exact ⟨h 0 (by omega), h 1 (by omega), h 2 (by omega)⟩
theorem Fl.zero (w : World) : Fl (w.alloc (.cells zF 61)) w.heap.size S0 := ⟨zF, Blk.new _ _ _, zF_size, zF_at⟩
def ldT (p : Value) : Sem Value := Instr.loadAt 61 p
theorem ldt_wrap (p : Value) : Instr.loadAt 61 p = ldT p := rfl
def stT (p v : Value) : Sem Unit := Instr.storeAt 61 p v
theorem stt_wrap (p v : Value) : Instr.storeAt 61 p v = stT p v := rfl
attribute [local go_sem ↓] ldt_wrap stt_wrap
theorem run_zeroT (w : World) : (zeroValue 61).run Try.prog w = .ok (.agg zF) w := by
  have h := infoT
  cases hi : Try.prog.info? 61 with
  | none => rw [hi] at h; cases h
  | some i =>
    rw [hi] at h
    simp at h
    simp [zeroValue, typeInfo, hi, h.1]
theorem fl_one {cs : Array Value} (hs : cs.size = 192) {S : Sf} (h : ∀ k, k < 64 → cs[k * 3]? = some (.int .i64 (S.P k)) ∧ cs[k * 3 + 1]? = some (.bool (S.V k)) ∧ cs[k * 3 + 2]? = some (.int .i64 (S.R k : Int))) : cs.all (·.oneCell') = true := by
  rw [Array.all_eq_true]
  intro j hj
  have hk : j / 3 < 64 := by omega
  obtain ⟨e0, e1, e2⟩ := h (j / 3) hk
  have hc : j = j / 3 * 3 ∨ j = j / 3 * 3 + 1 ∨ j = j / 3 * 3 + 2 := by omega
  have hg : ∀ v, cs[j]? = some v → cs[j] = v := fun v hv => by
    rw [Array.getElem?_eq_getElem hj] at hv
    exact Option.some.inj hv
  rcases hc with h | h | h
  · rw [hg _ (by rw [h]; exact e0)]; rfl
  · rw [hg _ (by rw [h]; exact e1)]; rfl
  · rw [hg _ (by rw [h]; exact e2)]; rfl
theorem Blk.setAll {w : World} {b : Nat} {T : TypeId} {cs ds : Array Value} (h : Blk w b cs T) (hs : ds.size = cs.size) : Blk (w.setCells b 0 ds.toList) b ds T := by
  obtain ⟨es, h1, h2, h3, h4⟩ := h.sets ds.toList 0
  have : es = ds := by
    apply Array.ext_getElem?
    intro j
    by_cases hj : j < ds.size
    · have := h4 j (by simpa using hj) (by omega)
      rw [Nat.zero_add] at this
      rw [this, Array.getElem?_toList]
    · rw [Array.getElem?_eq_none (by omega), Array.getElem?_eq_none (by omega)]
  rw [← this]
  exact this ▸ h1
theorem copy_nil (w : World) :
    Calls Try.prog 31 #[.pointer none] w fun e w' => e = .returned (.pointer none) ∧ w = w' := by
  go_enter Try.func31, Try.ntmps31
  go_wp2
  go_ret
  exact ⟨rfl, rfl⟩
theorem copy_any (w : World) (f : Nat) (S : Sf) (h : Fl w f S) :
    Calls Try.prog 31 #[.pointer (some ⟨f, 0, none⟩)] w fun e w' => e = .returned (.pointer (some ⟨w.heap.size, 0, none⟩)) ∧ Below w.heap.size w w' ∧ Fl w' w.heap.size S := by
  obtain ⟨cs, h1, h2, h3⟩ := h
  have hone := fl_one h2 h3
  have hsize : (Try.prog.info? 61).map (fun i => i.size) = some 192 := by
    have h := infoT
    cases hi : Try.prog.info? 61 with
    | none => rw [hi] at h; cases h
    | some i => rw [hi] at h; simp at h; simp [h.2]
  have hld : (ldT (.pointer (some ⟨f, 0, none⟩))).run Try.prog w = .ok (.agg cs) w := by
    have := run_loadAt_mid (P := Try.prog) w f 0 61 cs.toList _ (fun j v hj => by
      rw [Nat.zero_add, h1.cell, ← hj, Array.getElem?_toList]) Try.underlying61 rfl (by
      rw [hsize, Array.length_toList, h2])
    rw [Array.toArray_toList] at this
    exact this
  have hst : (stT (.pointer (some ⟨w.heap.size, 0, none⟩)) (.agg cs)).run Try.prog (w.alloc (.cells zF 61)) = .ok () ((w.alloc (.cells zF 61)).setCells w.heap.size 0 cs.toList) := by
    unfold stT
    refine run_storeAt_mid _ _ 0 _ cs ((Blk.new w zF 61).there _ _ (by rw [zF_size]; omega)) ?_ hone
    rw [hsize, h2]
  have hB : Below w.heap.size w ((w.alloc (.cells zF 61)).setCells w.heap.size 0 cs.toList) := ((Below.refl _ _).alloc (Nat.le_refl _) _).trans ((Kp.sets (S := fun j => j = w.heap.size) w.heap.size rfl cs.toList 0 _).below (by simp) (fun j e => by omega))
  have hMm : Fl ((w.alloc (.cells zF 61)).setCells w.heap.size 0 cs.toList) w.heap.size S := ⟨cs, Blk.setAll (Blk.new w zF 61) (by rw [h2, zF_size]), h2, h3⟩
  have hz := run_zeroT
  generalize (w.alloc (.cells zF 61)).setCells w.heap.size 0 cs.toList = W2 at *
  generalize zF = Z at *
  have HB := Lib.hid hB
  have HM := Lib.hid hMm
  clear h1 h2 h3 hone hB hMm hsize
  go_enter Try.func31, Try.ntmps31
  go_wp2
  go_ret
  exact ⟨rfl, HB.out, HM.out⟩
end Go.Proofs.Ytmdldehdlggpkaa.Ju
