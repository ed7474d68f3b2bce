/-
  Encode and Decode.
-/
import Derived.Test.YtlddjjkbnhhfaaaDoorIsaC
import Derived.Test.YtlddjjkbnhhfaaaDoorNums
import Derived.IntWalk
namespace Go.Proofs.YtlddjjkbnhhfaaaDoor.IsaE
open Go Go.RowKit Kit Nums IsaM IsaT IsaL IsaC
set_option linter.unusedVariables false

theorem or_mul (p f y : Nat) (h : y < 2 ^ f) : (p * 2 ^ f) ||| y = p * 2 ^ f + y := by
  rw [Nat.mul_comm, Nat.two_pow_add_eq_or_of_lt h]
theorem u16_wrap {i : Int} (h : -32768 ≤ i ∧ i ≤ 32767) : IntKind.u16.wrap i = if i < 0 then i + 65536 else i := by
  have e : IntKind.u16.wrap i = i % 65536 := by simp [IntKind.wrap, IntKind.bits, IntKind.signed]
  rw [e]
  split <;> omega
theorem enc_bits {op a b i : Int} (h : May op a b i) :
    bits .or .u32 (bits .or .u32 (bits .or .u32 (op % 4294967296 * 16777216 % 4294967296) (a % 4294967296 * 1048576 % 4294967296)) (b % 4294967296 * 65536 % 4294967296)) (IntKind.u16.wrap i % 4294967296) = enc op a b i := by
  obtain ⟨h0, h⟩ := h
  obtain ⟨k30, a0, a7, b0, b7, i0, i1⟩ := h.bd
  rw [u16_wrap ⟨i0, i1⟩]
  unfold enc
  obtain ⟨o, rfl⟩ := Int.eq_ofNat_of_zero_le h0
  obtain ⟨x, rfl⟩ := Int.eq_ofNat_of_zero_le a0
  obtain ⟨y, rfl⟩ := Int.eq_ofNat_of_zero_le b0
  obtain ⟨z, hz, hz2⟩ : ∃ z : Nat, (if i < 0 then i + 65536 else i) = (z : Int) ∧ z < 65536 := ⟨(if i < 0 then i + 65536 else i).toNat, by split <;> omega, by split <;> omega⟩
  rw [hz]
  have e1 : (o : Int) % 4294967296 * 16777216 % 4294967296 = ((o * 2 ^ 24 : Nat) : Int) := by simp at k30; omega
  have e2 : (x : Int) % 4294967296 * 1048576 % 4294967296 = ((x * 2 ^ 20 : Nat) : Int) := by omega
  have e3 : (y : Int) % 4294967296 * 65536 % 4294967296 = ((y * 2 ^ 16 : Nat) : Int) := by omega
  have e4 : (z : Int) % 4294967296 = (z : Int) := by omega
  have k30' : o < 30 := by simpa using k30
  rw [e1, e2, e3, e4, u32_or_nat _ _ (by omega) (by omega), or_mul o 24 _ (by omega), show o * 2 ^ 24 + x * 2 ^ 20 = (o * 2 ^ 4 + x) * 2 ^ 20 by omega, u32_or_nat _ _ (by omega) (by omega), or_mul _ 20 _ (by omega),
    show (o * 2 ^ 4 + x) * 2 ^ 20 + y * 2 ^ 16 = (o * 2 ^ 8 + x * 2 ^ 4 + y) * 2 ^ 16 by omega, u32_or_nat _ _ (by omega) (by omega), or_mul _ 16 _ (by omega)]
  omega
theorem ret_uv {x y z : Int} (h : x = y) : Ending.returned (.tuple #[.int .u32 x, .int .i64 z]) = .returned (.tuple #[.int .u32 y, .int .i64 z]) := by rw [h]
theorem encode_yes (op a b i : Int) (h : May op a b i) (w : World) (hT : Tabs w) :
    Calls Tryd.prog 63 #[insV op a b i] w fun e w' => e = .returned (.tuple #[.int .u32 (enc op a b i), .int .i64 0]) ∧ Below w.heap.size w w' := by
  have hck := fun wx hx => check_any op a b i wx hx
  have hm : mayB op a b i = true := decide_eq_true h
  rw [hm] at hck
  have e0 : errOf true = 0 := rfl
  rw [e0] at hck
  unfold insV at hck ⊢
  have HC := Lib.hid hck
  have HT := Lib.hid hT
  clear hck hm e0
  go_enter Tryd.func63, Tryd.ntmps63
  go_wp2_with (go_at_call 48; refine (HC.out _ (HT.out.below ((Below.refl _ _).alloc (Nat.le_refl _) _))).mono ?_; rintro e w1 ⟨rfl, hb⟩; obtain ⟨hc, hf⟩ := bcell hb; have hz : w.heap.size < w1.heap.size := (by have := hb.size; simp at this; omega))
  go_ret2
  exact ⟨ret_uv (enc_bits h), ((Below.refl _ _).alloc (Nat.le_refl _) _).trans (hb.mono (by simp))⟩
theorem encode_no (op a b i : Int) (h : ¬ May op a b i) (w : World) (hT : Tabs w) :
    Calls Tryd.prog 63 #[insV op a b i] w fun e w' => e = .returned (.tuple #[.int .u32 0, .int .i64 30]) ∧ Below w.heap.size w w' := by
  have hck := fun wx hx => check_any op a b i wx hx
  have hm : mayB op a b i = false := decide_eq_false h
  rw [hm] at hck
  have e0 : errOf false = 30 := rfl
  rw [e0] at hck
  unfold insV at hck ⊢
  have HC := Lib.hid hck
  have HT := Lib.hid hT
  clear hck hm e0 h
  go_enter Tryd.func63, Tryd.ntmps63
  go_wp2_with (go_at_call 48; refine (HC.out _ (HT.out.below ((Below.refl _ _).alloc (Nat.le_refl _) _))).mono ?_; rintro e w1 ⟨rfl, hb⟩; obtain ⟨hc, hf⟩ := bcell hb; have hz : w.heap.size < w1.heap.size := (by have := hb.size; simp at this; omega))
  go_ret2
  exact ⟨rfl, ((Below.refl _ _).alloc (Nat.le_refl _) _).trans (hb.mono (by simp))⟩

theorem i16_wrap (n : Nat) : wrap64 (IntKind.i16.wrap (n : Int)) = dI n := by
  have h1 : IntKind.i16.wrap (n : Int) = dI n := by
    have e : IntKind.i16.wrap (n : Int) = if 32768 ≤ (n : Int) % 65536 then (n : Int) % 65536 - 65536 else (n : Int) % 65536 := by simp [IntKind.wrap, IntKind.bits, IntKind.signed]
    rw [e]
    unfold dI
    split <;> split <;> omega
  rw [h1]
  exact IntWalk.wrap64_in _ (by unfold dI; split <;> omega)
theorem and15 (x : Nat) (h : x < 4294967296) : wrap64 (bits .and .u32 (x : Int) 15) = (x : Int) % 16 := by
  have e : bits .and .u32 (x : Int) ((15 : Nat) : Int) = ((x &&& 15 : Nat) : Int) := u32_and_nat x 15 h (by omega)
  have e2 : x &&& 15 = x % 16 := Nat.and_two_pow_sub_one_eq_mod x 4
  have e3 : bits .and .u32 (x : Int) 15 = ((x % 16 : Nat) : Int) := by rw [← e2]; exact e
  rw [e3, IntWalk.wrap64_in _ (by omega)]
  omega
theorem off_ne (b i j : Nat) (h : i ≠ j) : (⟨b, i, none⟩ : Addr) ≠ ⟨b, j, none⟩ := fun e => h (by cases e; rfl)
theorem set4 (w : World) (b : Nat) (y0 y1 y2 y3 x0 x1 x2 x3 : Value) (h0 : w.cell? ⟨b, 0, none⟩ = some y0) (h1 : w.cell? ⟨b, 1, none⟩ = some y1) (h2 : w.cell? ⟨b, 2, none⟩ = some y2) (h3 : w.cell? ⟨b, 3, none⟩ = some y3) :
    (w.setCell ⟨b, 0, none⟩ x0).cell? ⟨b, 0, none⟩ = some x0 ∧ ((w.setCell ⟨b, 0, none⟩ x0).setCell ⟨b, 1, none⟩ x1).cell? ⟨b, 1, none⟩ = some x1 ∧
    (((w.setCell ⟨b, 0, none⟩ x0).setCell ⟨b, 1, none⟩ x1).setCell ⟨b, 2, none⟩ x2).cell? ⟨b, 2, none⟩ = some x2 ∧ ((((w.setCell ⟨b, 0, none⟩ x0).setCell ⟨b, 1, none⟩ x1).setCell ⟨b, 2, none⟩ x2).setCell ⟨b, 3, none⟩ x3).cell? ⟨b, 3, none⟩ = some x3 := by
  have o := fun (w : World) (i j : Nat) (v : Value) (h : i ≠ j) => World.cell?_setCell_other w ⟨b, i, none⟩ ⟨b, j, none⟩ v (off_ne b i j h)
  refine ⟨World.cell?_setCell_same _ _ _ h0, World.cell?_setCell_same _ _ _ ((o _ 0 1 _ (by decide)).trans h1), World.cell?_setCell_same _ _ _ ((o _ 1 2 _ (by decide)).trans ((o _ 0 2 _ (by decide)).trans h2)), World.cell?_setCell_same _ _ _ ((o _ 2 3 _ (by decide)).trans ((o _ 1 3 _ (by decide)).trans ((o _ 0 3 _ (by decide)).trans h3)))⟩
theorem args_eq (n : Nat) (hn : n < 4294967296) : (Value.agg #[.int .i64 ((n : Int) / 16777216), .int .i64 (wrap64 (bits .and .u32 ((n : Int) / 1048576) 15)), .int .i64 (wrap64 (bits .and .u32 ((n : Int) / 65536) 15)), .int .i64 (wrap64 (IntKind.i16.wrap (n : Int)))]) = insV (dOp n) (dA n) (dB n) (dI n) := by
  have e1 := and15 (n / 1048576) (by omega)
  have e2 := and15 (n / 65536) (by omega)
  rw [i16_wrap]
  unfold insV dOp dA dB
  rw [show ((n : Int) / 1048576) = ((n / 1048576 : Nat) : Int) by omega, show ((n : Int) / 65536) = ((n / 65536 : Nat) : Int) by omega, e1, e2]

/-- What Decode answers. -/
def decV (n : Nat) : Value := if mayB (dOp n) (dA n) (dB n) (dI n) then .tuple #[insV (dOp n) (dA n) (dB n) (dI n), .int .i64 0] else .tuple #[insV 0 0 0 0, .int .i64 30]
set_option maxHeartbeats 1000000 in
theorem decode_any (n : Nat) (hn : n < 4294967296) (w : World) (hT : Tabs w) :
    Calls Tryd.prog 30 #[.int .u32 (n : Int)] w fun e w' => e = .returned (decV n) ∧ Below w.heap.size w w' := by
  have HA := Lib.hid (args_eq n hn)
  have hck : ∀ wx, Tabs wx → Calls Tryd.prog 48 #[.agg #[.int .i64 ((n : Int) / 16777216), .int .i64 (wrap64 (bits .and .u32 ((n : Int) / 1048576) 15)), .int .i64 (wrap64 (bits .and .u32 ((n : Int) / 65536) 15)), .int .i64 (wrap64 (IntKind.i16.wrap (n : Int)))]] wx fun e w' => e = .returned (.int .i64 (errOf (mayB (dOp n) (dA n) (dB n) (dI n)))) ∧ Below wx.heap.size wx w' := fun wx hx => by
    rw [args_eq n hn]
    exact check_any _ _ _ _ wx hx
  have HT := Lib.hid hT
  clear hT
  unfold decV
  cases hm : mayB (dOp n) (dA n) (dB n) (dI n) with
  | true =>
    rw [hm] at hck
    rw [show errOf true = 0 from rfl] at hck
    have HC := Lib.hid hck
    clear hck hm
    go_enter Tryd.func30, Tryd.ntmps30
    go_wp2_with (go_at_call 48; refine (HC.out _ (HT.out.below (((Below.refl _ _).alloc (Nat.le_refl _) _).alloc (by simp) _))).mono ?_; rintro e w1 ⟨rfl, hb⟩; obtain ⟨hc, hf⟩ := bcell hb; have hz : w.heap.size + 1 < w1.heap.size := (by have := hb.size; simp at this; omega))
    obtain ⟨g0, g1, g2, g3⟩ := set4 w1 w.heap.size (.int .i64 0) (.int .i64 0) (.int .i64 0) (.int .i64 0) (.int .i64 ((n : Int) / 16777216)) (.int .i64 (wrap64 (bits .and .u32 ((n : Int) / 1048576) 15))) (.int .i64 (wrap64 (bits .and .u32 ((n : Int) / 65536) 15))) (.int .i64 (wrap64 (IntKind.i16.wrap (n : Int)))) ((hc _ _ (by simp <;> omega)).trans (by simp)) ((hc _ _ (by simp <;> omega)).trans (by simp)) ((hc _ _ (by simp <;> omega)).trans (by simp)) ((hc _ _ (by simp <;> omega)).trans (by simp))
    exact bodyPost_ret (v := .tuple #[.agg #[.int .i64 ((n : Int) / 16777216), .int .i64 (wrap64 (bits .and .u32 ((n : Int) / 1048576) 15)), .int .i64 (wrap64 (bits .and .u32 ((n : Int) / 65536) 15)), .int .i64 (wrap64 (IntKind.i16.wrap (n : Int)))], .int .i64 0]) (by simp [results, Tryd.results30, go_sem, g0, g1, g2, g3]) rfl ⟨by rw [HA.out], ((((((((Below.refl _ _).alloc (Nat.le_refl _) _).alloc (by simp) _).trans (hb.mono (by simp; omega))).setCell (Nat.le_refl _) _).setCell (Nat.le_refl _) _).setCell (Nat.le_refl _) _).setCell (Nat.le_refl _) _)⟩
  | false =>
    rw [hm] at hck
    rw [show errOf false = 30 from rfl] at hck
    have HC := Lib.hid hck
    clear hck hm
    go_enter Tryd.func30, Tryd.ntmps30
    go_wp2_with (go_at_call 48; refine (HC.out _ (HT.out.below (((Below.refl _ _).alloc (Nat.le_refl _) _).alloc (by simp) _))).mono ?_; rintro e w1 ⟨rfl, hb⟩; obtain ⟨hc, hf⟩ := bcell hb; have hz : w.heap.size + 1 < w1.heap.size := (by have := hb.size; simp at this; omega))
    obtain ⟨g0, g1, g2, g3⟩ := set4 w1 w.heap.size (.int .i64 0) (.int .i64 0) (.int .i64 0) (.int .i64 0) (.int .i64 0) (.int .i64 0) (.int .i64 0) (.int .i64 0) ((hc _ _ (by simp <;> omega)).trans (by simp)) ((hc _ _ (by simp <;> omega)).trans (by simp)) ((hc _ _ (by simp <;> omega)).trans (by simp)) ((hc _ _ (by simp <;> omega)).trans (by simp))
    exact bodyPost_ret (v := .tuple #[insV 0 0 0 0, .int .i64 30]) (by simp [results, Tryd.results30, go_sem, g0, g1, g2, g3, insV]) rfl ⟨rfl, ((((((((Below.refl _ _).alloc (Nat.le_refl _) _).alloc (by simp) _).trans (hb.mono (by simp; omega))).setCell (Nat.le_refl _) _).setCell (Nat.le_refl _) _).setCell (Nat.le_refl _) _).setCell (Nat.le_refl _) _)⟩
end Go.Proofs.YtlddjjkbnhhfaaaDoor.IsaE
