/-
  act: a call of a ring, and what it answers.
-/
import Derived.Test.YtgenefedicdohaaRop
import Derived.Test.YtgenefedicdohaaRal
namespace Go.Proofs.Ytgenefedicdohaa.Rac
open Go Go.RowKit Go.Shelf Kit Bk Rgm Rgt Rgw Rgp Rgn Rst Ral Rop
set_option linter.unusedVariables false

/-- A ring's bytes behind a call; what the call answers. -/
def nxt (C : Nat) (o : Opr) (xs : List Nat) : List Nat := if o.kind = 0 then xs ++ o.xs.take (C - xs.length) else if o.kind = 1 then xs.drop o.n.toNat else xs
def ans (C : Nat) (o : Opr) (xs : List Nat) : ByteArray := if o.kind = 0 then bstr [min o.xs.length (C - xs.length)] else if o.kind = 1 then bstr (xs.take o.n.toNat) else if o.kind = 2 then bstr (xs.take o.n.toNat) else ⟨#[]⟩
theorem conv_one (W : World) (m : Nat) : (convert 22 9 (.slice (some ⟨W.heap.size, 0, none⟩) 1 1)).run Try.prog (W.alloc (.cells #[.int .u8 (m : Int)] 5)) = .ok (.string (bstr [m])) (W.alloc (.cells #[.int .u8 (m : Int)] 5)) :=
  slc_string (lit_slc (l := [m]) rfl rfl (show 1 ≤ maxLen by decide))

set_option maxHeartbeats 2000000 in
theorem act_any (w : World) (p C : Nat) (xs : List Nat) (o : Opr) (bv : Value) (h : Rg w p C xs) (hs : Src w p bv o.xs) :
    Calls Try.prog 24 #[.pointer (some ⟨p, 0, none⟩), .agg #[.int .i64 o.kind, bv, .int .i64 o.n]] w fun e w' => e = .returned (.string (ans C o xs)) ∧ Kp (fun j => j = p) w w' ∧ Rg w' p C (nxt C o xs) := by
  obtain ⟨kind, ys, n⟩ := o
  dsimp only at hs ⊢
  have hplt := h.lt
  obtain ⟨wb, hwb⟩ : ∃ wb, w.alloc (.cells #[.int .i64 kind, bv, .int .i64 n] 33) = wb := ⟨_, rfl⟩
  have hb : Below w.heap.size w wb := by rw [← hwb]; exact (Below.refl _ _).alloc (Nat.le_refl _) _
  have hx : Blk wb w.heap.size #[.int .i64 kind, bv, .int .i64 n] 33 := by rw [← hwb]; exact Blk.new _ _ _
  have hr := h.below hb
  have hs2 : Src wb p bv ys := hs.kept (S := fun _ => False) (.of_below hb) (fun j _ e => e.elim)
  have x0 := hx.cell 0
  have x1 := hx.cell 1
  have x2 := hx.cell 2
  have HB := Lib.hid hb
  have hC64 := h.cap_le
  by_cases k0 : kind = 0
  · subst k0
    have hw := write_any wb p C xs bv ys hr hs2
    have e1 : nxt C ⟨0, ys, n⟩ xs = xs ++ ys.take (C - xs.length) := rfl
    have e2 : ans C ⟨0, ys, n⟩ xs = bstr [min ys.length (C - xs.length)] := rfl
    rw [e1, e2]
    have hm : min ys.length (C - xs.length) ≤ 64 := by omega
    generalize min ys.length (C - xs.length) = m at *
    have hm2 : (m : Int) ≤ 64 := by omega
    have HW := Lib.hid hw
    have hc := fun W => conv_one W m
    clear h hs hb hx hr hs2 hw e1 e2 hm hC64
    go_enter Try.func24, Try.ntmps24
    go_wp2_with (go_at_call 11; (with_reducible refine HW.out.mono ?_); rintro e w1 ⟨rfl, hk, hr⟩)
    have ba := (Below.refl w1.heap.size w1).alloc (Nat.le_refl _) (.cells #[.int .u8 (m : Int)] 5)
    go_ret
    exact ⟨rfl, ((Kp.of_below (S := fun j => j = p) HB.out).trans hk (fun j h => .inl h)).trans (.of_below (S := fun _ => False) ba) (fun j h => h.elim), hr.below ba⟩
  · have d0 : (kind == 0) = false := by simp [k0]
    by_cases k1 : kind = 1
    · subst k1
      have hw := read_any wb p C xs n hr
      have e1 : nxt C ⟨1, ys, n⟩ xs = xs.drop n.toNat := rfl
      have e2 : ans C ⟨1, ys, n⟩ xs = bstr (xs.take n.toNat) := rfl
      rw [e1, e2]
      have HW := Lib.hid hw
      clear h hs hb hx hr hs2 hw e1 e2 hC64 k0
      go_enter Try.func24, Try.ntmps24
      go_wp2_with (go_at_call 13; (with_reducible refine HW.out.mono ?_); rintro e w1 ⟨hk, hr, r, rfl, ho⟩; have cv := slc_string (own_slc ho); replace ho := Lib.hid ho)
      go_ret
      exact ⟨rfl, (Kp.of_below (S := fun j => j = p) HB.out).trans hk (fun j h => .inl h), hr⟩
    · have d1 : (kind == 1) = false := by simp [k1]
      have e1 : nxt C ⟨kind, ys, n⟩ xs = xs := by unfold nxt; rw [if_neg k0, if_neg k1]
      by_cases k2 : kind = 2
      · subst k2
        have hw := peek_any _ xs n wb (tells_ring hr)
        have e2 : ans C ⟨2, ys, n⟩ xs = bstr (xs.take n.toNat) := rfl
        rw [e1, e2]
        have HW := Lib.hid hw
        have HR := Lib.hid hr
        clear h hs hb hx hr hs2 hw e1 e2 hC64 k0 k1
        go_enter Try.func24, Try.ntmps24
        go_wp2_with (go_at_call 15; (with_reducible refine HW.out.mono ?_); rintro e w1 ⟨hk, r, rfl, ho⟩; have cv := slc_string (own_slc ho); replace ho := Lib.hid ho)
        go_ret
        exact ⟨rfl, (Kp.of_below (S := fun j => j = p) HB.out).trans (.of_below (S := fun _ => False) hk) (fun j h => h.elim), HR.out.below hk⟩
      · have d2 : (kind == 2) = false := by simp [k2]
        have e2 : ans C ⟨kind, ys, n⟩ xs = ⟨#[]⟩ := by unfold ans; rw [if_neg k0, if_neg k1, if_neg k2]
        rw [e1, e2]
        have HR := Lib.hid hr
        clear h hs hb hx hr hs2 e1 e2 hC64 k0 k1 k2
        go_enter Try.func24, Try.ntmps24
        go_wp2
        go_ret
        exact ⟨rfl, .of_below HB.out, HR.out⟩
end Go.Proofs.Ytgenefedicdohaa.Rac
