/-
  Write of a ring.
-/
import Derived.Test.YtfpdbcjnhgddoaaRgm
import Derived.Deep.RegionHeld
namespace Go.Proofs.Ytfpdbcjnhgddoaa.Rgw
open Go Go.RowKit Kit Bk Rgm
set_option linter.unusedVariables false

/-- Bytes that are handed in: they read as ys, and lie beside the ring. -/
def Src (w : World) (p : Nat) (v : Value) (ys : List Nat) : Prop :=
  ∃ a cap, v = .slice a ys.length cap ∧ ys.length ≤ cap ∧ cap ≤ maxLen ∧ (ys = [] ∨ ∃ b off, a = some ⟨b, off, none⟩ ∧ b ≠ p ∧ b < w.heap.size ∧ ∀ i, i < ys.length → w.cell? ⟨b, off + i, none⟩ = some (.int .u8 ((ys[i]?.getD 0 : Nat) : Int)))
theorem Src.of_slc {w : World} {p : Nat} {v : Value} {ys : List Nat} (h : Slc .u8 w v ys) (hp : w.heap.size ≤ p) : Src w p v ys := by
  obtain ⟨a, cap, h1, h2, h3, h4⟩ := h
  refine ⟨a, cap, h1, h2, h3, h4.imp id ?_⟩
  rintro ⟨b, off, e, hlt, hc⟩
  exact ⟨b, off, e, by omega, hlt, hc⟩
theorem Src.kept {S : Nat → Prop} {w w' : World} {p : Nat} {v : Value} {ys : List Nat} (h : Src w p v ys) (hk : Kp S w w') (hS : ∀ j, j < w.heap.size → S j → j = p) : Src w' p v ys := by
  obtain ⟨a, cap, h1, h2, h3, h4⟩ := h
  refine ⟨a, cap, h1, h2, h3, h4.imp id ?_⟩
  rintro ⟨b, off, e, hne, hlt, hc⟩
  refine ⟨b, off, e, hne, Nat.lt_of_lt_of_le hlt hk.size, fun i hi => ?_⟩
  have := hk.block b hlt (fun e => hne (hS b hlt e))
  rw [← hc i hi]
  simp [World.cell?, this]
theorem Src.nil (w : World) (p : Nat) (a : Option Addr) (cap : Nat) (h : cap ≤ maxLen) : Src w p (.slice a 0 cap) [] := ⟨a, cap, rfl, Nat.zero_le _, h, .inl rfl⟩

theorem Lay.put {cs : Array Value} {f C : Nat} {xs : List Nat} (h : Lay cs f C xs) (x : Nat) (hlt : xs.length < C) :
    Lay ((cs.setIfInBounds ((f + xs.length) % 64) (.int .u8 (x : Int))).setIfInBounds 65 (.int .i64 ((xs.length : Int) + 1))) f C (xs ++ [x]) := by
  have hs := h.size
  have hj : (f + xs.length) % 64 < 64 := Nat.mod_lt _ (by omega)
  refine ⟨by simp [hs], fun j hj2 => ?_, ?_, ?_, ?_, h.hf, h.hC, by simp; omega, fun i hi => ?_⟩
  · rw [Array.getElem?_setIfInBounds, if_neg (by omega), Array.getElem?_setIfInBounds]
    split
    · rw [if_pos (by omega)]; exact ⟨_, rfl⟩
    · exact h.byte j hj2
  · rw [Array.getElem?_setIfInBounds, if_neg (by omega), Array.getElem?_setIfInBounds, if_neg (by omega)]; exact h.c64
  · rw [Array.getElem?_setIfInBounds, if_pos rfl, if_pos (by simp [hs])]; simp
  · rw [Array.getElem?_setIfInBounds, if_neg (by omega), Array.getElem?_setIfInBounds, if_neg (by omega)]; exact h.c66
  · rw [Array.getElem?_setIfInBounds, if_neg (by omega), Array.getElem?_setIfInBounds]
    have hlt2 := h.hC
    have hf := h.hf
    simp at hi
    by_cases e : i = xs.length
    · subst e
      rw [if_pos rfl, if_pos (by omega)]
      simp
    · rw [if_neg (by omega), h.at_ i (by omega), List.getElem?_append_left (by omega)]

/-- The lesser of two numbers, behind a name that a walk does not open. -/
def minO (ts : Array TypeId) (ty : TypeId) (vs : Array Value) : Sem Value := Builtin.min_ ts ty vs
theorem min_wrap (ts : Array TypeId) (ty : TypeId) (vs : Array Value) : Builtin.min_ ts ty vs = minO ts ty vs := rfl
theorem run_min (w : World) (a b n : Int) (h : min a b = n) : (minO #[3, 3] 3 #[.int .i64 a, .int .i64 b]).run Try.prog w = .ok (.int .i64 n) w := by
  unfold minO
  by_cases hab : b < a
  · obtain rfl : b = n := by omega
    have d : decide (b < a) = true := decide_eq_true hab
    go_simp
  · obtain rfl : a = n := by omega
    have d : decide (b < a) = false := decide_eq_false hab
    go_simp
attribute [local go_sem ↓] min_wrap

set_option maxHeartbeats 1000000 in
theorem write_any (w : World) (p C : Nat) (xs : List Nat) (v : Value) (ys : List Nat) (h : Rg w p C xs) (hv : Src w p v ys) :
    Calls Try.prog 37 #[.pointer (some ⟨p, 0, none⟩), v] w fun e w' => e = .returned (.int .i64 ((min ys.length (C - xs.length) : Nat) : Int)) ∧ Kp (fun j => j = p) w w' ∧ Rg w' p C (xs ++ ys.take (C - xs.length)) := by
  have HR := Lib.hid (room_any w p C xs h)
  obtain ⟨hC, hxC⟩ := h.cap_le
  obtain ⟨cs, f, h1, h2⟩ := h
  obtain ⟨a, cap, rfl, hc1, hc2, hread⟩ := hv
  unfold maxLen at hc2
  obtain ⟨R, hR⟩ : ∃ R, C - xs.length = R := ⟨_, rfl⟩
  rw [hR] at HR ⊢
  obtain ⟨n, hn⟩ : ∃ n, min ys.length R = n := ⟨_, rfl⟩
  rw [hn]
  have hncap : (n : Int) ≤ (cap : Int) := by omega
  have hm := fun wx => run_min wx (ys.length : Int) (R : Int) (n : Int) (by omega)
  have hnL : n ≤ ys.length := by omega
  have hnR : xs.length + n ≤ C := by omega
  have ht : ys.take R = ys.take n := by
    rcases Nat.lt_or_ge R ys.length with h | h
    · rw [show n = R by omega]
    · rw [List.take_of_length_le h, List.take_of_length_le (by omega)]
  rw [ht]
  have hn64 : (n : Int) ≤ 64 := by omega
  have HF := Lib.hid (And.intro h1 (And.intro h2 (And.intro hnL hnR)))
  have HD := Lib.hid hread
  clear hc1 hn hR hread ht h1 h2 hnL hnR hC hxC
  go_enter Try.func37, Try.ntmps37
  go_wp2_with (first | (go_at_call 49; (with_reducible refine HR.out.mono ?_); rintro e w1 ⟨rfl, rfl⟩))
  go_loopw [17] (fun i wr => ∃ k : Nat, k ≤ n ∧ i = .int .i64 (k : Int) ∧ Kp (fun j => j = p) w wr ∧ ∃ cs, Blk wr p cs 83 ∧ Lay cs f C (xs ++ ys.take k)) (fun i _ => n - (intOf i).toNat)
  case atStart => exact ⟨0, Nat.zero_le _, rfl, Kp.refl _ _, cs, HF.out.1, by simpa using HF.out.2.1⟩
  case round =>
    obtain ⟨k, hk, rfl, hKp, cs', hb, hl⟩ := hrel
    by_cases hlt : k < n
    · rcases HD.out with h0 | ⟨g, off, rfl, hg, hgl, hcell⟩
      · exfalso
        have := HF.out.2.2.1
        rw [h0] at this
        simp at this
        omega
      · have hlti : (k : Int) < (n : Int) := by omega
        have hlen : (xs ++ ys.take k).length = xs.length + k := by
          have := HF.out.2.2.1
          simp; omega
        have hcx : wr.cell? ⟨g, off + k, none⟩ = some (.int .u8 ((ys[k]?.getD 0 : Nat) : Int)) := by
          have := hKp.block g hgl hg
          rw [← hcell k (by have := HF.out.2.2.1; omega)]
          simp [World.cell?, this]
        have HLn := Lib.hid hlen
        obtain ⟨m, hm2⟩ : ∃ m, (xs ++ ys.take k).length = m := ⟨_, rfl⟩
        have hmC : m < C := by have := HF.out.2.2.2; omega
        have hC64 := hl.hC
        have hp := place_at wr.drew p cs' f m hb hl.c64 hl.hf (by omega)
        obtain ⟨j, hj⟩ : ∃ j, (f + m) % 64 = j := ⟨_, rfl⟩
        have hj64 : j < 64 := by rw [← hj]; exact Nat.mod_lt _ (by omega)
        rw [hj] at hp
        obtain ⟨y, hy⟩ := hl.byte j hj64
        have c65 := (hb.cell 65).trans hl.c65
        rw [hm2] at c65
        have cj := (hb.cell j).trans hy
        have fj := hb.free j
        have hjI : (j : Int) < 64 := by omega
        have hput := Lay.put hl (ys[k]?.getD 0) (by rw [hm2]; exact hmC)
        rw [hm2, hj] at hput
        have hts : xs ++ ys.take k ++ [ys[k]?.getD 0] = xs ++ ys.take (k + 1) := by
          have h1 : k < ys.length := by have := HF.out.2.2.1; omega
          rw [List.take_succ_eq_append_getElem h1, List.append_assoc, List.getElem?_eq_getElem h1]
          rfl
        rw [hts] at hput
        generalize ys[k]?.getD 0 = x at *
        have HP := Lib.hid hp
        have hb2 := hb.set j (.int .u8 (x : Int))
        have c65' : (wr.setCell ⟨p, j, none⟩ (.int .u8 (x : Int))).cell? ⟨p, 65, none⟩ = some (.int .i64 (m : Int)) := by
          rw [hb2.cell 65, Array.getElem?_setIfInBounds, if_neg (by omega), ← hb.cell 65]
          exact c65
        have f65' := hb2.free 65
        have HB : Hid (Kp (fun j => j = p) w ((wr.setCell ⟨p, j, none⟩ (.int .u8 (x : Int))).setCell ⟨p, 65, none⟩ (.int .i64 ((m : Int) + 1))).drew ∧ Blk ((wr.setCell ⟨p, j, none⟩ (.int .u8 (x : Int))).setCell ⟨p, 65, none⟩ (.int .i64 ((m : Int) + 1))).drew p _ 83 ∧ _) := Lib.hid (And.intro (((hKp.trans (Kp.set (S := fun j => j = p) _ p j _ rfl) (fun _ h => .inl h)).trans (Kp.set (S := fun j => j = p) _ p 65 _ rfl) (fun _ h => .inl h)).drew) (And.intro (hb2.set 65 (.int .i64 ((m : Int) + 1))) hput))
        have hmI : (m : Int) < 64 := by omega
        clear hp hlen hKp hb hl hput hj hy hj64 hm2 hmC hC64 hts hcell hb2
        go_wp2
        go_region_with (go_at_call 50; (with_reducible refine HP.out.mono ?_); rintro e w1 ⟨rfl, rfl⟩)
        go_wp2
        go_roundw
        case rel => exact ⟨k + 1, by omega, by go_num, HB.out.1, _, HB.out.2.1, HB.out.2.2⟩
        case measure => simp [intOf]; omega
    · obtain rfl : k = n := by omega
      clear hm
      have HE := Lib.hid (And.intro hKp (And.intro hb hl))
      clear hKp hb hl
      go_wp2
      go_ret
      exact ⟨rfl, HE.out.1, _, f, HE.out.2.1, HE.out.2.2⟩
theorem write_nil (w : World) (a : Option Addr) (L cap : Nat) (hc : L ≤ cap) (hm : cap ≤ maxLen) :
    Calls Try.prog 37 #[.pointer none, .slice a L cap] w fun e w' => e = .returned (.int .i64 0) ∧ w = w' := by
  unfold maxLen at hm
  have hm := fun wx => run_min wx (L : Int) 0 0 (by omega)
  go_enter Try.func37, Try.ntmps37
  go_wp2_with (first | (go_at_call 49; (with_reducible refine (room_nil _).mono ?_); rintro e w1 ⟨rfl, rfl⟩))
  go_loopw [17] (fun i wr => i = .int .i64 0 ∧ wr = w) (fun _ _ => 0)
  case atStart => exact ⟨rfl, rfl⟩
  case round =>
    obtain ⟨rfl, rfl⟩ := hrel
    clear hm
    go_wp2
    go_ret
    exact ⟨rfl, rfl⟩
end Go.Proofs.Ytfpdbcjnhgddoaa.Rgw
