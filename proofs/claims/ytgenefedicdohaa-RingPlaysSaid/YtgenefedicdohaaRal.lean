/-
  alive: the chapter's first examples.
-/
import Derived.Test.YtgenefedicdohaaRst
namespace Go.Proofs.Ytgenefedicdohaa.Ral
open Go Go.RowKit Go.Shelf Kit Bk Rgm Rgt Rgw Rgp Rgn Rst
set_option linter.unusedVariables false

theorem write_lit {w : World} {p C : Nat} {xs ys zs : List Nat} {v : Value} {n : Int} (h : Rg w p C xs) (hv : Src w p v ys) (hn : ((min ys.length (C - xs.length) : Nat) : Int) = n) (hz : xs ++ ys.take (C - xs.length) = zs) :
    Calls Try.prog 11 #[.pointer (some ⟨p, 0, none⟩), v] w fun e w' => e = .returned (.int .i64 n) ∧ Kp (fun j => j = p) w w' ∧ Rg w' p C zs := by
  subst hn hz
  exact write_any w p C xs v ys h hv
theorem read_lit {w : World} {p C : Nat} {xs ys zs : List Nat} {N : Int} {n : Nat} (h : Rg w p C xs) (hy : xs.take N.toNat = ys) (hz : xs.drop N.toNat = zs) (hn : ys.length = n) :
    Calls Try.prog 13 #[.pointer (some ⟨p, 0, none⟩), .int .i64 N] w fun e w' => Kp (fun j => j = p) w w' ∧ Rg w' p C zs ∧ ∃ r, e = .returned r ∧ w'.ownsRow w.heap.size 5 1 r n (u8s ys) := by
  subst hn hy hz
  exact read_any w p C xs N h
theorem all_lit {w : World} {a : Option Addr} {xs : List Nat} {n : Nat} (hM : Tells w.heap.size w a xs) (hn : xs.length = n) :
    Calls Try.prog 18 #[.pointer a] w fun e w' => Below w.heap.size w w' ∧ ∃ r, e = .returned r ∧ w'.ownsRow w.heap.size 5 1 r n (u8s xs) := by
  subst hn
  exact all_any a xs w hM
theorem peek_lit {w : World} {a : Option Addr} {xs ys : List Nat} {N : Int} {n : Nat} (hM : Tells w.heap.size w a xs) (hy : xs.take N.toNat = ys) (hn : ys.length = n) :
    Calls Try.prog 15 #[.pointer a, .int .i64 N] w fun e w' => Below w.heap.size w w' ∧ ∃ r, e = .returned r ∧ w'.ownsRow w.heap.size 5 1 r n (u8s ys) := by
  subst hn hy
  exact peek_any a xs N w hM
theorem room_lit {w : World} {p C : Nat} {xs : List Nat} {n : Int} (h : Rg w p C xs) (hn : ((C - xs.length : Nat) : Int) = n) : Calls Try.prog 20 #[.pointer (some ⟨p, 0, none⟩)] w fun e w' => e = .returned (.int .i64 n) ∧ w = w' := by
  subst hn
  exact room_any w p C xs h
theorem s_ab : bstr [97, 98] = ⟨#[97, 98]⟩ := rfl
theorem s_cdef : bstr [99, 100, 101, 102] = ⟨#[99, 100, 101, 102]⟩ := rfl
theorem s_abc : bstr [97, 98, 99] = ⟨#[97, 98, 99]⟩ := rfl
set_option maxHeartbeats 2000000 in
theorem alive_any (w : World) :
    Calls Try.prog 23 #[] w fun e w' => e = .returned (.bool true) ∧ Below w.heap.size w w' := by
  have kc := fun (w : World) (C : Array Value) (n c : Nat) => Lib.run_convert_bytes_const (P := Try.prog) w 22 5 C n c Try.underlying22 Try.underlying5
  have HN := Lib.hid (new_lit w 4 4 rfl ⟨by omega, by omega⟩)
  go_enter Try.func23, Try.ntmps23
  go_wp2_with (go_at_call 22; (with_reducible refine HN.out.mono ?_); rintro e w1 ⟨rfl, hb, hr⟩; refine Hid.out ?_)
  refine Lib.hid ?_
  have ba := (Below.refl w1.heap.size w1).alloc (Nat.le_refl _) (.cells #[.int .u8 97, .int .u8 98, .int .u8 99] 5 (3, 4))
  have hr2 := hr.below ba
  have hw := write_lit (ys := [97, 98, 99]) (zs := [97, 98, 99]) (n := 3) hr2 (lit_src (n := 3) (l := [97, 98, 99]) hr.lt rfl rfl (by decide)) rfl rfl
  have HW := Lib.hid hw
  have HB := Lib.hid (hb.trans (ba.mono hb.size))
  clear hb hr ba hr2 hw HN
  go_wp2_with (go_at_call 11; (with_reducible refine HW.out.mono ?_); rintro e w2 ⟨rfl, hk, hr⟩; refine Hid.out ?_)
  refine Lib.hid ?_
  replace HB := Lib.hid (HB.out.trans (hk.below HB.out.size (fun j e => by omega)))
  have HSz2 : Hid (w.heap.size < w2.heap.size) := Lib.hid hr.lt
  have HR := Lib.hid (read_lit (ys := [97, 98]) (zs := [99]) (n := 2) (N := 2) hr rfl rfl rfl)
  clear hk hr HW
  go_wp2_with (go_at_call 13; (with_reducible refine HR.out.mono ?_); rintro e w3 ⟨hk, hr, r, rfl, ho⟩; refine Hid.out ?_)
  refine Lib.hid ?_
  obtain ⟨ad, cap, rfl⟩ := row_form ho
  replace HB := Lib.hid (HB.out.trans (hk.below HB.out.size (fun j e => by omega)))
  have ba := (Below.refl w3.heap.size w3).alloc (Nat.le_refl _) (.cells #[.int .u8 100, .int .u8 101, .int .u8 102, .int .u8 103] 5 (4, 5))
  have hr2 := hr.below ba
  have hw := write_lit (ys := [100, 101, 102, 103]) (zs := [99, 100, 101, 102]) (n := 3) hr2 (lit_src (n := 4) (l := [100, 101, 102, 103]) hr.lt rfl rfl (by decide)) rfl rfl
  have HW := Lib.hid hw
  have HO := Lib.hid (own_below ho ba)
  have HSz : Hid (w.heap.size < w2.heap.size) := HSz2
  replace HB := Lib.hid (HB.out.trans (ba.mono HB.out.size))
  clear hk hr ho ba hr2 hw HR
  go_wp2_with (go_at_call 11; (with_reducible refine HW.out.mono ?_); rintro e w4 ⟨rfl, hk, hr⟩; refine Hid.out ?_)
  refine Lib.hid ?_
  have ho := own_kp HO.out hk (fun j e => by have := HSz.out; omega)
  have s1 := slc_string (own_slc ho)
  rw [s_ab] at s1
  replace HB := Lib.hid (HB.out.trans (hk.below HB.out.size (fun j e => by omega)))
  have HA := Lib.hid (all_lit (n := 4) (tells_ring hr) rfl)
  have HRm : Hid (∀ W, Below w4.heap.size w4 W → _) := Lib.hid (fun W hb => room_lit (n := 0) (hr.below hb) rfl)
  clear hk hr HW ho
  go_wp2_with (first | (go_at_call 18; (with_reducible refine HA.out.mono ?_); rintro e w5 ⟨hb5, r, rfl, ho⟩; have s2 := slc_string (own_slc ho); rw [s_cdef] at s2; obtain ⟨ad5, cap5, rfl⟩ := row_form ho; replace ho := Lib.hid ho) | (go_at_call 20; (with_reducible refine (HRm.out _ hb5).mono ?_); rintro e w6 ⟨rfl, rfl⟩))
  go_ret
  exact ⟨rfl, HB.out.trans (hb5.mono HB.out.size)⟩
end Go.Proofs.Ytgenefedicdohaa.Ral
