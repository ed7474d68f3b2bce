/-
  label: a name more, if it may be.
-/
import Derived.Test.YtlddjjkbnhhfaaaDoorIsaF
namespace Go.Proofs.YtlddjjkbnhhfaaaDoor.IsaG
open Go Go.RowKit Kit IsaM IsaT IsaL IsaC IsaE IsaN IsaD IsaA IsaW IsaS IsaP IsaR IsaB IsaF
open Go.Maps (Keyed)
set_option linter.unusedVariables false

theorem zeroE (w : World) : (zeroValue 3).run Tryd.prog w = .ok (.int .i64 0) w := by kernel_rfl
theorem keyT (t : Tx) (h : t.length ≤ 100000) : keyOf Tryd.prog 9 (.string (st t)) = some (.string t) :=
  WideMaps.keyOf_string_mk Tryd.underlying9 (s := st t) (by rw [st_size]; unfold maxLen; omega)
theorem look_run {B0 Bp Bm : Nat} {p : PSt} {w : World} (h : St B0 Bp Bm p w) (t : Tx) (ht : t.length ≤ 100000) :
    (Instr.lookup 85 (.map (some Bm)) (.string (st t)) true).run Tryd.prog w = .ok (.tuple #[.int .i64 (((place t p.places).getD 0 : Nat) : Int), .bool (place t p.places).isSome]) w := by
  obtain ⟨v, ps, h1, h2⟩ := h.map.look_ok (Maps.string_keyed Tryd.underlying9) Tryd.underlying85 (zeroE w) (zd := .lit (.int .i64 0)) (zp := []) (plainElem_int Tryd.underlying3 (by decide)) (keyT t ht)
  obtain ⟨c, rfl, hc, hwc⟩ := plainElem_int_inv Tryd.underlying3 h2
  simp only [Prod.mk.injEq] at hc
  rw [at_mapD] at hc
  have := hc.1
  simp at this
  rw [h1, has_mapD, ← this]

theorem label_old (B0 Bp Bm : Nat) (p : PSt) (t : Tx) (ht : t.length ≤ 100000) (w : World) (h : St B0 Bp Bm p w) (hp : (place t p.places).isSome = true) :
    Calls Tryd.prog 58 #[.pointer (some ⟨Bp, 0, none⟩), .string (st t)] w fun e w' => e = .returned (.bool false) ∧ w = w' := by
  have hl := look_run h t ht
  rw [hp] at hl
  obtain ⟨v1, v3, hb, h1, h3⟩ := h.hold
  have c1 := hb.cell 1
  clear h h1 h3 hb hp
  go_enter Tryd.func58, Tryd.ntmps58
  go_wp2
  go_ret
  exact ⟨rfl, rfl⟩
theorem label_bad (B0 Bp Bm : Nat) (p : PSt) (t : Tx) (ht : t.length ≤ 100000) (w : World) (h : St B0 Bp Bm p w) (hp : (place t p.places).isSome = false) (hn : isNm t = false) :
    Calls Tryd.prog 58 #[.pointer (some ⟨Bp, 0, none⟩), .string (st t)] w fun e w' => e = .returned (.bool false) ∧ Below w.heap.size w w' := by
  have hl := look_run h t ht
  rw [hp] at hl
  have hnm := fun wx => isName_any (st t) wx (by rw [st_size]; omega)
  rw [st_data, hn] at hnm
  have HN := Lib.hid hnm
  obtain ⟨v1, v3, hb, h1, h3⟩ := h.hold
  have c1 := hb.cell 1
  clear h h1 h3 hb hp hn hnm
  go_enter Tryd.func58, Tryd.ntmps58
  go_wp2_with (go_at_call 77; ((with_reducible refine (HN.out _).mono ?_); rintro e w1 ⟨rfl, hb1⟩))
  go_ret
  exact ⟨rfl, hb1⟩
theorem st_name {B0 Bp Bm : Nat} {p : PSt} {t : Tx} {w w2 w3 : World} (h : St B0 Bp Bm p w) (hb2 : Below w.heap.size w w2) (ho : w3.ownsMap Tryd.prog 9 (plainElem Tryd.prog 3) Bm (p.places.length + 1) ((mapD p.places).put (.string t) (.lit (.int .i64 (p.words.length : Int))))) (hg : w2.grownBy w3 (some Bm)) (hl : p.places.length < 1000000000) :
    St B0 Bp Bm (addP p t) w3 ∧ Fr B0 Bm w w3 := by
  have S2 := h.below hb2
  obtain ⟨es, ck, hm, _⟩ := S2.map
  obtain ⟨v1, v3, hb, h1, h3⟩ := S2.hold
  have hne : ∀ b cs T, Blk w2 b cs T → b ≠ Bm := fun b cs T hk e => by
    unfold Blk at hk
    rw [e, hm] at hk
    cases hk
  have k1 : v1.ownBlock = none ∨ v1.ownBlock ≠ some Bm := by
    cases hv : v1.ownBlock with
    | none => exact .inl rfl
    | some r =>
      obtain ⟨_, cs, hk⟩ := row_block h1 hv
      exact .inr fun e => hne r cs _ hk (by cases e; rfl)
  have k3 : v3.ownBlock = none ∨ v3.ownBlock ≠ some Bm := by
    cases hv : v3.ownBlock with
    | none => exact .inl rfl
    | some r =>
      obtain ⟨_, cs, hk⟩ := row_block h3 hv
      exact .inr fun e => hne r cs _ hk (by cases e; rfl)
  refine ⟨⟨h.lo, ⟨v1, v3, (hg.block Bp hb.lt (fun e => hne Bp _ _ hb (by cases e; rfl))).trans hb, h1.kept hg k1, h3.kept hg k3⟩, ho, ?_, h.u32⟩, ?_⟩
  · have := h.le
    exact ⟨this.1, this.2.1, by show ((t, p.words.length) :: p.places).length ≤ _; rw [List.length_cons]; omega⟩
  · exact (Fr.below hb2 h.hs).trans (Fr.grown hg (Nat.le_trans h.hs hb2.size) (fun r e => by cases e; exact ⟨h.lo.2, .inr ⟨rfl, _, hm, rfl⟩⟩))
theorem wf_i64 {n : Nat} (h : n ≤ 9223372036854775807) : (Lit.int .i64 (n : Int)).wf = true := by
  simp [Lit.wf, IntKind.min, IntKind.max, IntKind.signed, IntKind.bits]
  omega
set_option maxRecDepth 100000 in
set_option maxHeartbeats 2000000 in
theorem label_new (B0 Bp Bm : Nat) (p : PSt) (t : Tx) (ht : t.length ≤ 100000) (w : World) (h : St B0 Bp Bm p w) (hp : (place t p.places).isSome = false) (hn : isNm t = true) (hl : p.places.length < 1000000000) :
    Calls Tryd.prog 58 #[.pointer (some ⟨Bp, 0, none⟩), .string (st t)] w fun e w' => e = .returned (.bool true) ∧ St B0 Bp Bm (addP p t) w' ∧ Fr B0 Bm w w' := by
  have hlk := look_run h t ht
  rw [hp] at hlk
  have hnm := fun wx => isName_any (st t) wx (by rw [st_size]; omega)
  rw [st_data, hn] at hnm
  have HN := Lib.hid hnm
  have H := Lib.hid h
  obtain ⟨v1, v3, hb, h1, h3⟩ := h.hold
  obtain ⟨ad, cap, rfl⟩ := row_form h1
  have HB := Lib.hid hb
  have c0 := hb.cell 0
  have c1 := hb.cell 1
  clear h h1 h3 hb hp hn hnm
  go_enter Tryd.func58, Tryd.ntmps58
  go_wp2_with (go_at_call 77; ((with_reducible refine (HN.out _).mono ?_); rintro e w1 ⟨rfl, hb1⟩; have hB1 := HB.out.below hb1; have d0 := hB1.cell 0; have d1 := hB1.cell 1))
  go_still_tail 10, (by kernel_rfl)
  have hBd : Below w1.heap.size w1 w1.drew := (Below.refl _ w1).drew
  change wpList _ _ _ _ _ w1.drew
  generalize w1.drew = w2 at hBd ⊢
  have hb2 : Below w.heap.size w w2 := hb1.trans (hBd.mono hb1.size)
  have S2 := H.out.below hb2
  have hB2 := HB.out.below hb2
  have d0 := hB2.cell 0
  have d1 := hB2.cell 1
  have hle := H.out.le
  go_wp2_with (at_mapUpdate; refine wpList_mapUpdate_own _ rfl _ _ _ 85 rfl 9 3 (Maps.string_keyed Tryd.underlying9) Tryd.underlying85 _ Bm p.places.length (mapD p.places) rfl S2.map (by unfold maxLen; omega) _ _ (.string t) rfl rfl (keyT t ht) _ [] (plainElem_int Tryd.underlying3 (wf_i64 (by omega))) ?_; intro w3 hown3 hgr3)
  go_ret
  exact ⟨rfl, st_name H.out hb2 hown3 hgr3 hl⟩
end Go.Proofs.YtlddjjkbnhhfaaaDoor.IsaG
