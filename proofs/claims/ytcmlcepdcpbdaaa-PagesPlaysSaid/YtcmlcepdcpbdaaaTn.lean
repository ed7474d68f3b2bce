/-
  Clean of a table of pages; rows that are read.
-/
import Derived.Test.YtcmlcepdcpbdaaaTh
import Derived.Test.YtcmlcepdcpbdaaaTd
namespace Go.Proofs.Ytcmlcepdcpbdaaa.Tn
open Go Go.RowKit Go.Shelf Kit Bk Tm Ts Tc Ti Tl Th Td
set_option linter.unusedVariables false

/-- A slice that reads as xs: n elements of that size, in a block of the type T, or none. -/
def Rd (w : World) (T : TypeId) (v : Value) (size n : Nat) (xs : List Value) : Prop :=
  xs.length = n * size ∧ ∃ ad cap, v = .slice ad n cap ∧ n ≤ cap ∧ cap ≤ maxLen ∧ (n = 0 ∨ ∃ g cur, ad = some ⟨g, 0, none⟩ ∧ Blk w g cur T ∧ ∀ j, j < n * size → cur[j]? = xs[j]?)
theorem Rd.of_own {w : World} {base : Nat} {T : TypeId} {size : Nat} {v : Value} {n : Nat} {xs : List Value} (h : w.ownsRow base T size v n xs) : Rd w T v size n xs := by
  obtain ⟨hl, ⟨h1, h2⟩ | ⟨g, cap, cur, rfl, hg, hb, hc, hm, hs, he⟩⟩ := h
  · subst h2
    exact ⟨hl, none, 0, h1, Nat.le_refl _, Nat.zero_le _, .inl rfl⟩
  · refine ⟨hl, _, cap, rfl, hc, hm, .inr ⟨g, cur, rfl, hb, fun j hj => ?_⟩⟩
    have := congrArg (fun l => l[j]?) he
    simp only [List.getElem?_take, hj, if_true, Array.getElem?_toList] at this
    exact this
theorem Rd.kept {S : Nat → Prop} {w w' : World} {T : TypeId} {v : Value} {size n : Nat} {xs : List Value} (h : Rd w T v size n xs) (hk : Kp S w w') (hS : ∀ g cs, Blk w g cs T → ¬ S g) : Rd w' T v size n xs := by
  obtain ⟨hl, ad, cap, h1, h2, h3, h4 | ⟨g, cur, h4, h5, h6⟩⟩ := h
  · exact ⟨hl, ad, cap, h1, h2, h3, .inl h4⟩
  · exact ⟨hl, ad, cap, h1, h2, h3, .inr ⟨g, cur, h4, h5.kept hk (hS g cur h5), h6⟩⟩
theorem Rd.below {w w' : World} {T : TypeId} {v : Value} {size n : Nat} {xs : List Value} (h : Rd w T v size n xs) (hb : Below w.heap.size w w') : Rd w' T v size n xs := h.kept (S := fun _ => False) (.of_below hb) (fun _ _ _ e => e)
/-- A step of a table's own leaves rows. -/
theorem Rd.beside {w w' : World} {T : TypeId} {v : Value} {size n : Nat} {xs : List Value} {p : Nat} {Tb : Nat → Option En} (h : Rd w T v size n xs) (hM : Mem w p Tb) (hk : Kp (fun j => j = p) w w') (hT : T ≠ 31) : Rd w' T v size n xs := by
  obtain ⟨⟨cs, h1, _⟩, _⟩ := hM
  exact h.kept hk (fun g ds hg => hg.ne h1 hT)
theorem Rd.nil (w : World) (T : TypeId) (size : Nat) : Rd w T (.slice none 0 0) size 0 [] := ⟨by simp, none, 0, rfl, Nat.le_refl _, Nat.zero_le _, .inl rfl⟩

theorem und_z0 : und z0 = z0 := rfl
theorem und_d (x : Option En) : ((x.map und).getD z0) = und (x.getD z0) := by cases x <;> rfl
theorem und_same {e : En} (h : e.d = false) : und e = e := by obtain ⟨f, w, s, c, d⟩ := e; simp only at h; subst h; rfl
/-- A page's entry made clean. -/
theorem Mem.clean {w : World} {p : Nat} {T : Nat → Option En} (h : Mem w p T) (k : Nat) (hk : k < 64) : Mem (w.setCell ⟨p, k * 6 + 1 + 4, none⟩ (.bool false)) p (up T k ((T k).map und)) := by
  obtain ⟨⟨cs, h1, h2, h3⟩, h4⟩ := h
  refine ⟨⟨_, h1.set _ _, by simpa using h2, fun j hj => ?_⟩, fun j hj => ?_⟩
  · obtain ⟨e0, e1, e2, e3, e4, e5⟩ := h3 j hj
    by_cases e : j = k
    · subst e
      rw [up_same]
      unfold Slot
      rw [und_d]
      refine ⟨?_, ?_, ?_, ?_, ?_, ?_⟩
      · rw [Array.getElem?_setIfInBounds, if_neg (by omega), e0, Option.isSome_map]
      · rw [Array.getElem?_setIfInBounds, if_neg (by omega), e1]; rfl
      · rw [Array.getElem?_setIfInBounds, if_neg (by omega), e2]; rfl
      · rw [Array.getElem?_setIfInBounds, if_neg (by omega), e3]; rfl
      · rw [Array.getElem?_setIfInBounds, if_neg (by omega), e4]; rfl
      · rw [Array.getElem?_setIfInBounds, if_pos rfl, if_pos (by omega)]; rfl
    · rw [up_other _ _ _ _ e]
      refine ⟨?_, ?_, ?_, ?_, ?_, ?_⟩
      · rw [Array.getElem?_setIfInBounds, if_neg (by omega), e0]
      · rw [Array.getElem?_setIfInBounds, if_neg (by omega), e1]
      · rw [Array.getElem?_setIfInBounds, if_neg (by omega), e2]
      · rw [Array.getElem?_setIfInBounds, if_neg (by omega), e3]
      · rw [Array.getElem?_setIfInBounds, if_neg (by omega), e4]
      · rw [Array.getElem?_setIfInBounds, if_neg (by omega), e5]
  · rw [up_other _ _ _ _ (by omega)]
    exact h4 j hj
/-- Those of D made clean. -/
def clD (D : List Nat) (T : Nat → Option En) : Nat → Option En := fun j => if j ∈ D then (T j).map und else T j
theorem clD_nil (T : Nat → Option En) : clD [] T = T := by funext j; simp [clD]
theorem clD_app (D : List Nat) (k : Nat) (T : Nat → Option En) : clD (D ++ [k]) T = up (clD D T) k ((clD D T k).map und) := by
  funext j
  unfold up clD
  by_cases e : j = k
  · subst e
    rw [if_pos (by simp), if_pos rfl]
    split
    · cases T j <;> rfl
    · rfl
  · rw [if_neg e]
    by_cases h : j ∈ D
    · rw [if_pos (by simp [h]), if_pos h]
    · rw [if_neg (by simp [h, e]), if_neg h]
/-- The dirty pages. -/
def dty (T : Nat → Option En) : List Nat := pgs (fun x => x.d) (ents T 64)
theorem dty_mem {T : Nat → Option En} {k : Nat} : k ∈ dty T ↔ k < 64 ∧ ∃ e, T k = some e ∧ e.d = true := by
  simp only [dty, pgs, List.mem_map, List.mem_filter]
  constructor
  · rintro ⟨⟨a, e⟩, ⟨h1, h2⟩, rfl⟩
    have := ents_mem.1 h1
    exact ⟨this.1, e, this.2, h2⟩
  · rintro ⟨h1, e, h2, h3⟩
    exact ⟨(k, e), ⟨ents_mem.2 ⟨h1, h2⟩, h3⟩, rfl⟩
theorem clD_all {T : Nat → Option En} (ht : ∀ k, 64 ≤ k → T k = none) : clD (dty T) T = cln T := by
  funext j
  unfold clD cln
  split
  · rfl
  · rename_i h
    rw [dty_mem] at h
    cases hx : T j with
    | none => rfl
    | some e =>
      have hj : j < 64 := by
        rcases Nat.lt_or_ge j 64 with hj | hj
        · exact hj
        · rw [ht j hj] at hx; cases hx
      cases hd : e.d with
      | false => rw [Option.map_some, und_same hd]
      | true => exact absurd ⟨hj, e, hx, hd⟩ h
theorem dty_len (T : Nat → Option En) : (dty T).length ≤ 64 := Nat.le_trans (pgs_len _ _) (ents_len _ _)

set_option maxHeartbeats 2000000 in
theorem clean_any (w : World) (p : Nat) (T : Nat → Option En) (hM : Mem w p T) :
    Calls Try.prog 14 #[.pointer (some ⟨p, 0, none⟩)] w fun e w' => e = .returned (.int .i64 ((dty T).length : Int)) ∧ Kp (fun j => j = p) w w' ∧ Mem w' p (cln T) := by
  obtain ⟨n, hn⟩ : ∃ n, (dty T).length = n := ⟨_, rfl⟩
  have hd0 := dirty_any w (some ⟨p, 0, none⟩) T (gets_mem hM hM.lt)
  rw [show pgs (fun x => x.d) (ents T 64) = dty T from rfl, hn] at hd0
  have HD := Lib.hid hd0
  have HM := Lib.hid hM
  have hL := dty_len T
  have HT := Lib.hid (clD_all hM.top)
  have HX : Hid (∀ k ∈ dty T, k < 64) := Lib.hid (fun k h => (dty_mem.1 h).1)
  rw [hn] at hL ⊢
  have HN := Lib.hid hn
  clear hM hd0 hn
  go_enter Try.func14, Try.ntmps14
  go_wp2_with (first | (go_at_call 27; (with_reducible refine HD.out.mono ?_); rintro e w1 ⟨hb, r, rfl, ho⟩; replace ho : Rd w1 3 r 1 n (ints (dty T)) := Rd.of_own ho; have HO := Lib.hid ho; obtain ⟨hl, ad, cap, rfl, hc, hm, hr⟩ := ho; have HB := Lib.hid hb; clear hb hl hr))
  have hm' : (n : Int) ≤ 9223372036854775807 := by omega
  clear hc hm
  go_loopw [10] (fun i wr => ∃ k : Nat, k ≤ n ∧ i = .int .i64 (k : Int) ∧ Kp (fun j => j = p) w1 wr ∧ Mem wr p (clD ((dty T).take k) T)) (fun i _ => n - (intOf i).toNat)
  case atStart => exact ⟨0, Nat.zero_le _, rfl, Kp.refl _ _, by rw [List.take_zero, clD_nil]; exact HM.out.below HB.out⟩
  case round =>
    obtain ⟨k, hk, rfl, hkp, hMr⟩ := hrel
    by_cases hlt : k < n
    · have hlt2 : k < (dty T).length := by rw [HN.out]; exact hlt
      have hR := Rd.beside HO.out (HM.out.below HB.out) hkp (by decide)
      obtain ⟨-, ad', cap', he, hc, hm, h0 | ⟨g, cur, rfl, hg, hcur⟩⟩ := hR
      · omega
      · cases he
        have c0 := (hg.cell k).trans (hcur k (by omega))
        have hx := HX.out _ (List.getElem_mem hlt2)
        have ht : (dty T).take (k + 1) = (dty T).take k ++ [(dty T)[k]] := by rw [List.take_add_one, List.getElem?_eq_getElem hlt2]; rfl
        have hcl := Mem.clean hMr _ hx
        rw [← clD_app, ← ht] at hcl
        have HCL := Lib.hid hcl
        have hi : (ints (dty T))[k]? = some (.int .i64 ((dty T)[k] : Int)) := by simp [ints, hlt2]
        rw [hi] at c0
        generalize (dty T)[k] = q at *
        have HS := Lib.hid (slot_in wr p q hx)
        obtain ⟨⟨cs, h1, h2, h3⟩, -⟩ := hMr
        have c1 := (h1.cell (q * 6 + 1 + 4)).trans (h3 q hx).2.2.2.2.2
        have f1 := h1.free (q * 6 + 1 + 4)
        obtain ⟨b, hb⟩ : ∃ b, ((clD (List.take k (dty T)) T q).getD z0).d = b := ⟨_, rfl⟩
        rw [hb] at c1
        have hlti : (k : Int) < (n : Int) := by omega
        clear hg hcur hcl ht hi h1 h2 h3 hx hb hlt2
        go_wp2_with (first | (go_at_call 31; (with_reducible refine HS.out.mono ?_); rintro e w2 ⟨rfl, rfl⟩))
        go_roundw
        case rel => exact ⟨k + 1, by omega, by go_num, hkp.trans (Kp.set (S := fun j => j = p) _ p _ _ rfl) (fun _ e => .inl e), HCL.out⟩
        case measure => simp [intOf]; omega
    · obtain rfl : k = n := by omega
      have hall : Mem wr p (cln T) := by
        rw [← HT.out, ← List.take_length (l := dty T), HN.out]
        exact hMr
      have HA := Lib.hid hall
      have HK := Lib.hid ((Kp.of_below HB.out).trans hkp (fun _ e => .inl e))
      clear hall hMr hkp
      go_wp2
      go_ret
      exact ⟨rfl, HK.out, HA.out⟩
theorem clean_nil (w : World) :
    Calls Try.prog 14 #[.pointer none] w fun e w' => e = .returned (.int .i64 0) ∧ Below w.heap.size w w' := by
  have hd := dirty_any w none (fun _ => none) (gets_nil _ _)
  rw [show pgs (fun x => x.d) (ents (fun _ => none) 64) = [] from rfl] at hd
  have HD := Lib.hid hd
  clear hd
  go_enter Try.func14, Try.ntmps14
  go_wp2_with (first | (go_at_call 27; (with_reducible refine HD.out.mono ?_); rintro e w1 ⟨hb, r, rfl, ho⟩; obtain ⟨hl, ad, cap, rfl, hc, hm, hr⟩ := Rd.of_own ho; have HB := Lib.hid hb; clear hb hl hr ho hc hm))
  go_loopw [10] (fun i wr => i = .int .i64 0 ∧ wr = w1) (fun i _ => 0)
  case atStart => exact ⟨rfl, rfl⟩
  case round =>
    obtain ⟨rfl, rfl⟩ := hrel
    go_wp2
    go_ret
    exact ⟨rfl, HB.out⟩
end Go.Proofs.Ytcmlcepdcpbdaaa.Tn
