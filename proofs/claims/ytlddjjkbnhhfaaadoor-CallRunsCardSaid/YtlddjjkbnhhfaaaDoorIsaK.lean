/-
  link: the jumps' Imm.
-/
import Derived.Test.YtlddjjkbnhhfaaaDoorIsaJ
namespace Go.Proofs.YtlddjjkbnhhfaaaDoor.IsaK
open Go Go.RowKit Kit IsaM IsaT IsaL IsaC IsaE IsaN IsaD IsaA IsaW IsaS IsaP IsaR IsaB IsaF IsaG IsaH IsaI IsaJ
set_option linter.unusedVariables false

def immOf (q pl : Nat) : Int := (q : Int) - ((pl : Int) + 1)
/-- What the jumps make of the words: the first line that goes wrong, or words. -/
def linkS (pl : List (Tx × Nat)) : List Jmp → List Nat → Nat ⊕ List Nat
  | [], ws => .inr ws
  | j :: r, ws => match place j.label pl with
    | none => .inl j.line
    | some q => if May j.k j.a j.b (immOf q j.place) then linkS pl r (ws.set j.place (encN j.k j.a j.b (immOf q j.place))) else .inl j.line
def setW (p : PSt) (ws : List Nat) : PSt := { p with words := ws }

theorem row_at {w : World} {base : Nat} {e : TypeId} {ad : Option Addr} {n cap : Nat} {xs : List Value} {size : Nat} (h : w.ownsRow base e size (.slice ad n cap) n xs) (hn : 0 < n) :
    ∃ g cur, ad = some ⟨g, 0, none⟩ ∧ base ≤ g ∧ n ≤ cap ∧ cap ≤ maxLen ∧ Blk w g cur e ∧ cur.size = cap * size ∧ (∀ j, j < n * size → w.cell? ⟨g, j, none⟩ = xs[j]?) := by
  rcases h.2 with ⟨h1, h2⟩ | ⟨g, cap', cur, h1, hg, hh, hc, hm, hz, ht⟩
  · omega
  · cases h1
    exact ⟨g, cur, rfl, hg, hc, hm, hh, hz, fun j hj => World.ownsRow.cellAt h j hj⟩
theorem row_put {w : World} {base : Nat} {e : TypeId} {g n cap : Nat} {xs : List Value} (h : w.ownsRow base e 1 (.slice (some ⟨g, 0, none⟩) n cap) n xs) (i : Nat) (hi : i < n) (v : Value) :
    (w.setCell ⟨g, i, none⟩ v).ownsRow base e 1 (.slice (some ⟨g, 0, none⟩) n cap) n (xs.set i v) := by
  rcases h.2 with ⟨h1, h2⟩ | ⟨g', cap', cur, h1, hg, hh, hc, hm, hz, ht⟩
  · cases h1
  · cases h1
    refine ⟨by rw [List.length_set]; exact h.1, .inr ⟨g, cap, cur.setIfInBounds i v, rfl, hg, (show Blk w g cur e from hh).set i v, hc, hm, by rw [Array.size_setIfInBounds]; exact hz, ?_⟩⟩
    rw [Array.toList_setIfInBounds, List.take_set, ht]
theorem jcells_at (l : List Jmp) (c q : Nat) (hc : c < l.length) (hq : q < 7) : (jcells l)[c * 7 + q]? = (jcell l[c])[q]? := by
  induction l generalizing c with
  | nil => simp at hc
  | cons j r ih =>
    have e : jcells (j :: r) = jcell j ++ jcells r := rfl
    have hj : (jcell j).length = 7 := rfl
    rw [e]
    cases c with
    | zero => rw [List.getElem?_append_left (by rw [hj]; omega)]; simp
    | succ c =>
      rw [List.getElem?_append_right (by rw [hj]; omega), hj, show (c + 1) * 7 + q - 7 = c * 7 + q by omega]
      exact ih c (by simpa using hc)

/-- Behind a word's store. -/
theorem st_put {B0 Bp Bm : Nat} {p : PSt} {w : World} (h : St B0 Bp Bm p w) {g cap : Nat} {v3 : Value} (hb : Blk w Bp #[.slice (some ⟨g, 0, none⟩) p.words.length cap, .map (some Bm), v3] 88) (h1 : w.ownsRow B0 22 1 (.slice (some ⟨g, 0, none⟩) p.words.length cap) p.words.length (u32s p.words)) (h3 : w.ownsRow B0 112 7 v3 p.jumps.length (jcells p.jumps))
    (i X : Nat) (hi : i < p.words.length) (hX : X < 4294967296) :
    St B0 Bp Bm (setW p (p.words.set i X)) (w.setCell ⟨g, i, none⟩ (.int .u32 (X : Int))) ∧ Fr B0 Bm w (w.setCell ⟨g, i, none⟩ (.int .u32 (X : Int))) := by
  obtain ⟨g', cur, hg', hlo, _, _, hk, _, _⟩ := row_at h1 (by omega)
  cases hg'
  have hne : ∀ b cs T, Blk w b cs T → T ≠ 22 → b ≠ g := fun b cs T hb hT e => by
    unfold Blk at hb hk
    rw [e, hk] at hb
    cases hb
    exact hT rfl
  have hmg : Bm ≠ g := fun e => by
    obtain ⟨es, ck, hm, _⟩ := h.map
    unfold Blk at hk
    rw [e, hk] at hm
    cases hm
  refine ⟨⟨h.lo, ⟨.slice (some ⟨g, 0, none⟩) p.words.length cap, v3, hb.other _ _ _ (hne _ _ _ hb (by decide)), ?_, row_set h3 hk (by decide) i _⟩, h.map.setCell hmg _, ?_, ?_⟩, Fr.set hk hlo (.inr (.inl rfl)) i _⟩
  · have := row_put h1 i hi (.int .u32 (X : Int))
    show (w.setCell _ _).ownsRow B0 22 1 _ (p.words.set i X).length (u32s (p.words.set i X))
    rw [List.length_set]
    have e : u32s (p.words.set i X) = (u32s p.words).set i (.int .u32 (X : Int)) := by unfold u32s; rw [List.map_set]
    rw [e]
    exact this
  · have := h.le
    exact ⟨by show (p.words.set i X).length ≤ _; rw [List.length_set]; exact this.1, this.2⟩
  · intro y hy
    rcases List.mem_or_eq_of_mem_set hy with hy | hy
    · exact h.u32 y hy
    · rw [hy]; exact hX
/-- What link answers, and leaves. -/
def LinkR (B0 Bp Bm : Nat) (p : PSt) (o : Nat ⊕ List Nat) (w : World) (e : Ending) (w' : World) : Prop :=
  (∀ l, o = .inl l → e = .returned (.int .i64 (l : Int))) ∧ (∀ ws, o = .inr ws → e = .returned (.int .i64 0) ∧ St B0 Bp Bm (setW p ws) w') ∧ Fr B0 Bm w w'
theorem linkN {B0 Bp Bm : Nat} {p : PSt} {l : Nat} {w w' : World} {e : Ending} (h : e = .returned (.int .i64 (l : Int))) (hf : Fr B0 Bm w w') : LinkR B0 Bp Bm p (.inl l) w e w' := ⟨(fun _ e => by cases e; exact h), (fun _ e => by cases e), hf⟩
theorem linkY {B0 Bp Bm : Nat} {p : PSt} {ws : List Nat} {w w' : World} {e : Ending} (h : e = .returned (.int .i64 0)) (hs : St B0 Bp Bm (setW p ws) w') (hf : Fr B0 Bm w w') : LinkR B0 Bp Bm p (.inr ws) w e w' := ⟨(fun _ e => by cases e), (fun _ e => by cases e; exact ⟨h, hs⟩), hf⟩

/-- A jump that may stand among words. -/
structure JOk (p : PSt) (j : Jmp) : Prop where
  pl : j.place < p.words.length
  ln : j.line ≤ 1000000000
  lb : j.label.length ≤ 100000

theorem encode_ne (k : Nat) (a b i : Int) (h : ¬ May k a b i) (w : World) (hT : Tabs w) :
    Calls Tryd.prog 63 #[.agg #[.int .i64 (k : Int), .int .i64 a, .int .i64 b, .int .i64 i]] w fun e w' => e = .returned (.tuple #[.int .u32 0, .int .i64 30]) ∧ Below w.heap.size w w' := encode_no k a b i h w hT

set_option maxRecDepth 100000 in
set_option maxHeartbeats 8000000 in
theorem link_any (wb : World) (B0 : Nat) (hB0 : wb.heap.size = B0) (hTb : Tabs wb) (Bp Bm : Nat) (p : PSt) (w : World) (h : St B0 Bp Bm p w) (hok : ∀ j ∈ p.jumps, JOk p j) (hpl : ∀ t q, place t p.places = some q → q ≤ 1000000) (hbs : Below wb.heap.size wb w) :
    Calls Tryd.prog 47 #[.pointer (some ⟨Bp, 0, none⟩)] w (LinkR B0 Bp Bm p (linkS p.places p.jumps p.words) w) := by
  have H := Lib.hid h
  have HOK := Lib.hid hok
  have HPL := Lib.hid hpl
  have HBS := Lib.hid hbs
  have HT := Lib.hid hTb
  have hle := h.le
  obtain ⟨v1, v3, hb, h1, h3⟩ := h.hold
  obtain ⟨ad3, cap3, rfl⟩ := row_form h3
  have c2 := hb.cell 2
  have H3 := Lib.hid h3
  obtain ⟨o, hO⟩ : ∃ o, linkS p.places p.jumps p.words = o := ⟨_, rfl⟩
  rw [hO]
  have HO := Lib.hid hO
  have hcap : p.jumps.length ≤ 1000 := hle.2.1
  clear h hok hpl hbs hTb hb h1 h3 hO
  go_enter Tryd.func47, Tryd.ntmps47
  go_wp2_with fail
  go_loopw [14] (fun t wr => ∃ (c : Nat) (ws : List Nat), c ≤ p.jumps.length ∧ t = .int .i64 (c : Int) ∧ Hid (St B0 Bp Bm (setW p ws) wr ∧ Fr B0 Bm w wr ∧ wr.ownsRow B0 112 7 (.slice ad3 p.jumps.length cap3) p.jumps.length (jcells p.jumps) ∧ ws.length = p.words.length ∧ linkS p.places (p.jumps.drop c) ws = o)) (fun t _ => p.jumps.length - (intOf t).toNat)
  case atStart => exact ⟨0, p.words, by omega, rfl, Lib.hid ⟨H.out, Fr.refl _ _ _, H3.out, rfl, HO.out⟩⟩
  case round =>
    obtain ⟨c, ws, hc, rfl, HX⟩ := hrel
    by_cases hlt : c < p.jumps.length
    · obtain ⟨hSt, hFr, hrow, hlen, hlink⟩ := HX.out
      have HSt := Lib.hid hSt
      have HFr := Lib.hid hFr
      have HRow := Lib.hid hrow
      have HLen := Lib.hid hlen
      obtain ⟨g3, cur, rfl, hlo3, hcc, hmx, hk3, hz3, hcell⟩ := row_at hrow (by omega)
      obtain ⟨j, hj⟩ : ∃ j, p.jumps[c] = j := ⟨_, rfl⟩
      have hjok : JOk p j := HOK.out j (by rw [← hj]; exact List.getElem_mem _)
      have hx : ∀ q, q < 7 → wr.cell? ⟨g3, c * 7 + q, none⟩ = (jcell j)[q]? := fun q hq => by
        rw [hcell (c * 7 + q) (by omega), jcells_at _ _ _ hlt hq, hj]
      have x0 : wr.cell? ⟨g3, c * 7, none⟩ = some (.int .i64 (j.line : Int)) := hx 0 (by omega)
      have x1 : wr.cell? ⟨g3, c * 7 + 1, none⟩ = some (.int .i64 (j.place : Int)) := hx 1 (by omega)
      have x2 : wr.cell? ⟨g3, c * 7 + 2, none⟩ = some (.int .i64 (j.k : Int)) := hx 2 (by omega)
      have x3 : wr.cell? ⟨g3, c * 7 + 3, none⟩ = some (.int .i64 j.a) := hx 3 (by omega)
      have x4 : wr.cell? ⟨g3, c * 7 + 4, none⟩ = some (.int .i64 j.b) := hx 4 (by omega)
      have x5 : wr.cell? ⟨g3, c * 7 + 5, none⟩ = some (.int .i64 j.i) := hx 5 (by omega)
      have x6 : wr.cell? ⟨g3, c * 7 + 6, none⟩ = some (.string (st j.label)) := hx 6 (by omega)
      have hdrop : p.jumps.drop c = j :: p.jumps.drop (c + 1) := by rw [List.drop_eq_getElem_cons hlt, hj]
      rw [hdrop] at hlink
      have hBw : Below wb.heap.size wb wr := HBS.out.trans (by rw [hB0]; exact hFr.bel)
      obtain ⟨v1', v3', hb', h1', h3'⟩ := hSt.hold
      have hlt3 := hk3.lt
      have hltp := hb'.lt
      clear hx hcell hj hdrop hSt hFr hrow hcc hmx hk3 hz3 hlo3
      go_upto_region 4 with fail
      obtain ⟨Wa, hWa⟩ : ∃ Wa, wr.alloc (.cells #[.int .i64 (j.line : Int), .int .i64 (j.place : Int), .int .i64 (j.k : Int), .int .i64 j.a, .int .i64 j.b, .int .i64 j.i, .string (st j.label)] 112) = Wa := ⟨_, rfl⟩
      have hbA : Below wr.heap.size wr Wa := by rw [← hWa]; exact (Below.refl _ _).alloc (Nat.le_refl _) _
      have KJ : Blk Wa wr.heap.size #[.int .i64 (j.line : Int), .int .i64 (j.place : Int), .int .i64 (j.k : Int), .int .i64 j.a, .int .i64 j.b, .int .i64 j.i, .string (st j.label)] 112 := by rw [← hWa]; exact Blk.new _ _ _
      rw [hWa]
      clear hWa x0 x1 x2 x3 x4 x5 x6
      have hbB := hb'.below hbA
      have d1 := hbB.cell 1
      have y6 := KJ.cell 6
      have hlk : ∀ n, (Instr.lookup 85 (.map (some Bm)) (.string (st j.label)) true).run Tryd.prog (Wa.drewN n) = .ok (.tuple #[.int .i64 (((place j.label p.places).getD 0 : Nat) : Int), .bool (place j.label p.places).isSome]) (Wa.drewN n) := fun n => look_run (p := setW p ws) (HSt.out.below (hbA.trans ((drew_below _ _ _).mono hbA.size))) j.label hjok.lb
      obtain ⟨Q, hQ⟩ : ∃ Q, (place j.label p.places).getD 0 = Q := ⟨_, rfl⟩
      obtain ⟨S, hS⟩ : ∃ S, (place j.label p.places).isSome = S := ⟨_, rfl⟩
      have hQle : (Q : Int) ≤ 1000000 := by
        rw [← hQ]
        cases hz : place j.label p.places with
        | none => simp
        | some q => have := HPL.out _ _ hz; simp; omega
      have hPle : (j.place : Int) ≤ 512 := by have := hjok.pl; omega
      rw [hQ, hS] at hlk
      have HQ := Lib.hid hQ
      have HSm := Lib.hid hS
      have HL := Lib.hid hlink
      clear hQ hS hlink
      go_quiet (fail)
      have hbQ : Below wr.heap.size wr (Wa.drewN nq) := hbA.trans ((drew_below _ _ _).mono hbA.size)
      have KQ := KJ.below (drew_below Wa.heap.size Wa nq)
      generalize Wa.drewN nq = Wq at hbQ KQ ⊢
      clear hlk hbB d1 y6 KJ hbA
      have hbS : Below wr.heap.size wr (Wq.setCell ⟨wr.heap.size, 5, none⟩ (.int .i64 ((Q : Int) - ((j.place : Int) + 1)))) := hbQ.setCell (Nat.le_refl _) _
      have KS := KQ.set 5 (.int .i64 ((Q : Int) - ((j.place : Int) + 1)))
      have c5 := KQ.cell 5
      have f5 := KQ.free 5
      have c1 := KQ.cell 1
      have z2 := KS.cell 2
      have z3 := KS.cell 3
      have z4 := KS.cell 4
      have z5 := KS.cell 5
      have hTS : Below wb.heap.size wb (Wq.setCell ⟨wr.heap.size, 5, none⟩ (.int .i64 ((Q : Int) - ((j.place : Int) + 1)))) := hBw.trans (hbS.mono hBw.size)
      by_cases hm : May j.k j.a j.b ((Q : Int) - ((j.place : Int) + 1))
      · have HE := Lib.hid (encode_n j.k j.a j.b _ hm _ (HT.out.below hTS))
        cases S with
        | false =>
          have HON : Hid (o = .inl j.line) := Lib.hid (by
            have h1 := HL.out
            unfold linkS at h1
            cases hz : place j.label p.places with
            | none => rw [hz] at h1; exact h1.symm
            | some q => have := HSm.out; rw [hz] at this; cases this)
          go_wp2_with (go_at_call 63; ((with_reducible refine HE.out.mono ?_); rintro e w7 ⟨rfl, hb7⟩; have K7 := KS.below hb7; have a0 := K7.cell 0))
          go_ret
          rw [HON.out]
          exact linkN rfl (HFr.out.trans (Fr.below (hbS.trans (hb7.mono hbS.size)) HSt.out.hs))
        | true =>
          have HN2 : Hid (linkS p.places (p.jumps.drop (c + 1)) (ws.set j.place (encN j.k j.a j.b ((Q : Int) - ((j.place : Int) + 1)))) = o) := Lib.hid (by
            have h1 := HL.out
            unfold linkS at h1
            cases hz : place j.label p.places with
            | none => have := HSm.out; rw [hz] at this; cases this
            | some q =>
              have hq := HQ.out
              rw [hz] at h1 hq
              simp at hq
              subst hq
              have h2 : (if May j.k j.a j.b (immOf q j.place) then linkS p.places (p.jumps.drop (c + 1)) (ws.set j.place (encN j.k j.a j.b (immOf q j.place))) else .inl j.line) = o := h1
              rw [if_pos (show May j.k j.a j.b (immOf q j.place) from hm)] at h2
              exact h2)
          have hXl := encN_lt hm
          generalize encN j.k j.a j.b ((Q : Int) - ((j.place : Int) + 1)) = X at *
          go_upto_region 9 with (go_at_call 63; ((with_reducible refine HE.out.mono ?_); rintro e w7 ⟨rfl, hb7⟩))
          have hb70 : Below wr.heap.size wr w7 := hbS.trans (hb7.mono hbS.size)
          have K7 := KS.below hb7
          clear z2 z3 z4 z5 c5 f5 c1 HE hTS hbS KS hb7
          have a1 := K7.cell 1
          have S7 := HSt.out.below hb70
          obtain ⟨v1, v3, hb, h1, h3⟩ := S7.hold
          obtain ⟨ad, cp, rfl⟩ := row_form h1
          have hpl2 : j.place < (setW p ws).words.length := by show j.place < ws.length; rw [HLen.out]; exact hjok.pl
          obtain ⟨g, cur1, rfl, hg, hgc, hgm, hgk, hgz, hgcell⟩ := row_at h1 (by omega)
          have b0 := hb.cell 0
          go_still_tail 8, (by kernel_rfl)
          have hBd : Below w7.heap.size w7 w7.drew := (Below.refl _ w7).drew
          change wpList _ _ _ _ _ w7.drew
          generalize w7.drew = w8 at hBd ⊢
          have hb80 : Below wr.heap.size wr w8 := hb70.trans (hBd.mono hb70.size)
          have S8 := S7.below hBd
          have B8 := hb.below hBd
          have R1 : w8.ownsRow B0 22 1 (.slice (some ⟨g, 0, none⟩) (setW p ws).words.length cp) (setW p ws).words.length (u32s (setW p ws).words) := h1.kept (grown_below hBd) (.inr (by intro e; cases e))
          have R3 : w8.ownsRow B0 112 7 v3 (setW p ws).jumps.length (jcells (setW p ws).jumps) := h3.kept (grown_below hBd) (by cases v3.ownBlock <;> simp)
          have G8 := hgk.below hBd
          have J8 := K7.below hBd
          have e0 := B8.cell 0
          have e1 := J8.cell 1
          have e2 : w8.cell? ⟨g, j.place, none⟩ = some (.int .u32 ((ws[j.place]?.getD 0 : Nat) : Int)) := by
            have := World.ownsRow.cellAt R1 j.place (by omega)
            rw [this]
            show (u32s ws)[j.place]? = _
            have hp3 : j.place < ws.length := hpl2
            simp [u32s, List.getElem?_eq_getElem hp3]
          have e3 := G8.free j.place
          have Y := Lib.hid (st_put S8 B8 R1 R3 j.place X hpl2 hXl)
          have hp4 : (j.place : Int) < ((setW p ws).words.length : Int) := by omega
          have RJ : w8.ownsRow B0 112 7 (.slice (some ⟨g3, 0, none⟩) p.jumps.length cap3) p.jumps.length (jcells p.jumps) := HRow.out.kept (grown_below hb80) (.inr (by intro e; cases e))
          have RJ2 := Lib.hid (row_set RJ G8 (by decide) j.place (.int .u32 (X : Int)))
          clear R1 R3 B8 S8 h1 h3 hb S7 hgk hgcell RJ
          go_wp2
          go_roundw
          case rel => exact ⟨c + 1, ws.set j.place X, by omega, by go_num, Lib.hid ⟨Y.out.1, HFr.out.trans ((Fr.below hb80 HSt.out.hs).trans Y.out.2), RJ2.out, by rw [List.length_set]; exact HLen.out, HN2.out⟩⟩
          case measure => simp [intOf]; omega
      · have HE := Lib.hid (encode_ne j.k j.a j.b _ hm _ (HT.out.below hTS))
        have HON : Hid (o = .inl j.line) := Lib.hid (by
          have h1 := HL.out
          unfold linkS at h1
          cases hz : place j.label p.places with
          | none => rw [hz] at h1; exact h1.symm
          | some q =>
            have hq := HQ.out
            rw [hz] at h1 hq
            simp at hq
            subst hq
            have h2 : (if May j.k j.a j.b (immOf q j.place) then linkS p.places (p.jumps.drop (c + 1)) (ws.set j.place (encN j.k j.a j.b (immOf q j.place))) else .inl j.line) = o := h1
            rw [if_neg (show ¬ May j.k j.a j.b (immOf q j.place) from hm)] at h2
            exact h2.symm)
        cases S <;>
        · go_wp2_with (go_at_call 63; ((with_reducible refine HE.out.mono ?_); rintro e w7 ⟨rfl, hb7⟩; have K7 := KS.below hb7; have a0 := K7.cell 0))
          go_ret
          rw [HON.out]
          exact linkN rfl (HFr.out.trans (Fr.below (hbS.trans (hb7.mono hbS.size)) HSt.out.hs))
    · obtain rfl : c = p.jumps.length := by omega
      have hY := HX.out
      have HON : Hid (o = .inr ws) := Lib.hid (by rw [← hY.2.2.2.2, List.drop_length]; rfl)
      clear hY
      go_wp2_with fail
      go_ret
      rw [HON.out]
      exact linkY rfl HX.out.1 HX.out.2.1
end Go.Proofs.YtlddjjkbnhhfaaaDoor.IsaK
