/-
  Of and Copy of a ring.
-/
import Derived.Test.YtfpdbcjnhgddoaaRgp
import Derived.Deep.MidRow
namespace Go.Proofs.Ytfpdbcjnhgddoaa.Rgn
open Go Go.RowKit Go.Shelf Kit Bk Rgm Rgt Rgw Rgp
set_option linter.unusedVariables false

/-- A ring without bytes, of capacity C, as its cells. -/
def rz (C : Int) : Array Value := (Array.replicate 64 (Value.int .u8 0)) ++ #[.int .i64 0, .int .i64 0, .int .i64 C]
def bldO (t : TypeId) (ps : Array (Nat × Value)) : Sem Value := Instr.build t ps
theorem bld_wrap (t : TypeId) (ps : Array (Nat × Value)) : Instr.build t ps = bldO t ps := rfl
theorem run_bld (C : Int) (w : World) : (bldO 83 #[(3, .int .i64 C)]).run Try.prog w = .ok (.agg (rz C)) w := by kernel_rfl
theorem infoR : (Try.prog.info? 83).map (fun i => (i.zero, i.size, i.bytes)) = some (some (.agg (rz 0)), 67, 88) := by kernel_rfl
theorem rz_size (C : Int) : (rz C).size = 67 := rfl
theorem rz_lay (C : Nat) (hC : C ≤ 64) : Lay (rz (C : Int)) 0 C [] := by
  refine ⟨rfl, fun j hj => ⟨0, ?_⟩, rfl, rfl, rfl, by omega, hC, Nat.zero_le _, fun i hi => by simp at hi⟩
  unfold rz
  rw [Array.getElem?_append_left (by simpa using hj), Array.getElem?_replicate, if_pos hj]
theorem Lay.one {cs : Array Value} {f C : Nat} {xs : List Nat} (h : Lay cs f C xs) : cs.all (·.oneCell') = true := by
  rw [Array.all_eq_true]
  intro j hj
  have hg : ∀ v, cs[j]? = some v → cs[j] = v := fun v hv => by
    rw [Array.getElem?_eq_getElem hj] at hv
    exact Option.some.inj hv
  have hs := h.size
  by_cases h1 : j < 64
  · obtain ⟨x, hx⟩ := h.byte j h1
    rw [hg _ hx]; rfl
  · have hc : j = 64 ∨ j = 65 ∨ j = 66 := by omega
    rcases hc with e | e | e
    · rw [hg _ (by rw [e]; exact h.c64)]; rfl
    · rw [hg _ (by rw [e]; exact h.c65)]; rfl
    · rw [hg _ (by rw [e]; exact h.c66)]; rfl
attribute [local go_sem ↓] bld_wrap

theorem of_bad (w : World) (c : Int) (a : Option Addr) (L cap : Nat) (h : ¬ (1 ≤ c ∧ c ≤ 64 ∧ (L : Int) ≤ c)) :
    Calls Try.prog 31 #[.int .i64 c, .slice a L cap] w fun e w' => e = .returned (.tuple #[.pointer none, .int .i64 80]) ∧ w = w' := by
  by_cases h0 : c < 1
  · have d0 : decide (c < 1) = true := decide_eq_true h0
    clear h h0
    go_enter Try.func31, Try.ntmps31
    go_wp2
    go_ret2
    exact ⟨rfl, rfl⟩
  · have d0 : decide (c < 1) = false := decide_eq_false h0
    by_cases h1 : 64 < c
    · have d1 : decide (64 < c) = true := decide_eq_true h1
      clear h h0 h1
      go_enter Try.func31, Try.ntmps31
      go_wp2
      go_ret2
      exact ⟨rfl, rfl⟩
    · have d1 : decide (64 < c) = false := decide_eq_false h1
      have d2 : decide (c < (L : Int)) = true := decide_eq_true (by omega)
      clear h h0 h1
      go_enter Try.func31, Try.ntmps31
      go_wp2
      go_ret2
      exact ⟨rfl, rfl⟩
set_option maxHeartbeats 1000000 in
theorem of_ok (w : World) (C : Nat) (v : Value) (ys : List Nat) (hs : Slc .u8 w v ys) (hC : 1 ≤ C ∧ C ≤ 64) (hy : ys.length ≤ C) :
    Calls Try.prog 31 #[.int .i64 (C : Int), v] w fun e w' => e = .returned (.tuple #[.pointer (some ⟨w.heap.size, 0, none⟩), .int .i64 0]) ∧ Below w.heap.size w w' ∧ Rg w' w.heap.size C ys := by
  have hb := run_bld (C : Int)
  have hR : Rg (w.alloc (.cells (rz (C : Int)) 83)) w.heap.size C [] := ⟨_, 0, Blk.new _ _ _, rz_lay C hC.2⟩
  have hB : Below w.heap.size w (w.alloc (.cells (rz (C : Int)) 83)) := (Below.refl _ _).alloc (Nat.le_refl _) _
  have hS : Src (w.alloc (.cells (rz (C : Int)) 83)) w.heap.size v ys := Src.kept (Src.of_slc hs (Nat.le_refl _)) (Kp.alloc (fun _ => False) _ _) (fun j _ h => h.elim)
  have hw := write_any _ _ _ _ _ _ hR hS
  rw [List.nil_append, List.length_nil, Nat.sub_zero, List.take_of_length_le hy] at hw
  obtain ⟨a, cap, rfl, -⟩ := hs
  have d0 : decide ((C : Int) < 1) = false := decide_eq_false (by omega)
  have d1 : decide (64 < (C : Int)) = false := decide_eq_false (by omega)
  have d2 : decide ((C : Int) < (ys.length : Int)) = false := decide_eq_false (by omega)
  have d3 : decide (C < ys.length) = false := decide_eq_false (by omega)
  have HW := Lib.hid hw
  have HB := Lib.hid hB
  clear hw hB hS hR hC hy
  generalize rz (C : Int) = Z at *
  go_enter Try.func31, Try.ntmps31
  go_wp2_with (go_at_call 37; (with_reducible refine HW.out.mono ?_); rintro e w1 ⟨rfl, hk, hr⟩)
  go_ret2
  exact ⟨rfl, HB.out.trans (hk.below HB.out.size (fun j e => by omega)), hr⟩
theorem slc_none (w : World) : Slc .u8 w (.slice none 0 0) [] := ⟨none, 0, rfl, Nat.le_refl _, Nat.zero_le _, .inl rfl⟩
def ldR (p : Value) : Sem Value := Instr.loadAt 83 p
theorem ldr_wrap (p : Value) : Instr.loadAt 83 p = ldR p := rfl
def stR (p v : Value) : Sem Unit := Instr.storeAt 83 p v
theorem str_wrap (p v : Value) : Instr.storeAt 83 p v = stR p v := rfl
attribute [local go_sem ↓] ldr_wrap str_wrap
theorem run_zeroR (w : World) : (zeroValue 83).run Try.prog w = .ok (.agg (rz 0)) w := by
  obtain ⟨i, hi, hz, _⟩ := info_parts infoR
  simp [zeroValue, typeInfo, hi, hz]
theorem Blk.setAll {w : World} {b : Nat} {T : TypeId} {cs ds : Array Value} (h : Blk w b cs T) (hs : ds.size = cs.size) : Blk (w.setCells b 0 ds.toList) b ds T := by
  obtain ⟨es, h1, h2, h3, h4⟩ := h.sets ds.toList 0
  have : es = ds := by
    apply Array.ext_getElem?
    intro j
    by_cases hj : j < ds.size
    · have := h4 j (by simpa using hj) (by omega)
      rw [Nat.zero_add] at this
      rw [this, Array.getElem?_toList]
    · rw [Array.getElem?_eq_none (by omega), Array.getElem?_eq_none (by omega)]
  rw [← this]
  exact this ▸ h1
theorem copy_nil (w : World) :
    Calls Try.prog 44 #[.pointer none] w fun e w' => e = .returned (.pointer none) ∧ w = w' := by
  go_enter Try.func44, Try.ntmps44
  go_wp2_with (go_at_call 47; (with_reducible refine (cap_nil _).mono ?_); rintro e w1 ⟨rfl, rfl⟩)
  go_ret
  exact ⟨rfl, rfl⟩
theorem copy_any (w : World) (p C : Nat) (xs : List Nat) (h : Rg w p C xs) (hC1 : 1 ≤ C) :
    Calls Try.prog 44 #[.pointer (some ⟨p, 0, none⟩)] w fun e w' => e = .returned (.pointer (some ⟨w.heap.size, 0, none⟩)) ∧ Below w.heap.size w w' ∧ Rg w' w.heap.size C xs := by
  have HC := Lib.hid (cap_any w p C xs h)
  obtain ⟨cs, f, h1, hl⟩ := h
  have hone := Lay.one hl
  have h2 := hl.size
  have hld : (ldR (.pointer (some ⟨p, 0, none⟩))).run Try.prog w = .ok (.agg cs) w := by
    have := run_loadAt_mid (P := Try.prog) w p 0 83 cs.toList _ (fun j v hj => by
      rw [Nat.zero_add, h1.cell, ← hj, Array.getElem?_toList]) Try.underlying83 rfl (by
      obtain ⟨i, hi, _, hz, _⟩ := info_parts infoR
      rw [hi, Option.map_some, hz, Array.length_toList, h2])
    rw [Array.toArray_toList] at this
    exact this
  have hst : (stR (.pointer (some ⟨w.heap.size, 0, none⟩)) (.agg cs)).run Try.prog (w.alloc (.cells (rz 0) 83)) = .ok () ((w.alloc (.cells (rz 0) 83)).setCells w.heap.size 0 cs.toList) := by
    unfold stR
    refine run_storeAt_mid _ _ 0 _ cs ((Blk.new w (rz 0) 83).there _ _ (by rw [rz_size]; omega)) ?_ hone
    obtain ⟨i, hi, _, hz, _⟩ := info_parts infoR
    rw [hi, Option.map_some, hz, h2]
  have hB : Below w.heap.size w ((w.alloc (.cells (rz 0) 83)).setCells w.heap.size 0 cs.toList) := ((Below.refl _ _).alloc (Nat.le_refl _) _).trans ((Kp.sets (S := fun j => j = w.heap.size) w.heap.size rfl cs.toList 0 _).below (by simp) (fun j e => by omega))
  have hMm : Rg ((w.alloc (.cells (rz 0) 83)).setCells w.heap.size 0 cs.toList) w.heap.size C xs := ⟨cs, f, Blk.setAll (Blk.new w (rz 0) 83) (by rw [h2, rz_size]), hl⟩
  have hz := run_zeroR
  have e0 : ((C : Int) == 0) = false := by simp; omega
  generalize (w.alloc (.cells (rz 0) 83)).setCells w.heap.size 0 cs.toList = W2 at *
  generalize rz 0 = Z at *
  have HB := Lib.hid hB
  have HM := Lib.hid hMm
  clear h1 h2 hl hone hB hMm hC1
  go_enter Try.func44, Try.ntmps44
  go_wp2_with (go_at_call 47; (with_reducible refine HC.out.mono ?_); rintro e w1 ⟨rfl, rfl⟩)
  go_ret
  exact ⟨rfl, HB.out, HM.out⟩
end Go.Proofs.Ytfpdbcjnhgddoaa.Rgn
