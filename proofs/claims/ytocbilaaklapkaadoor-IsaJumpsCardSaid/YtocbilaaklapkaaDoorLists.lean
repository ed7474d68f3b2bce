/-
  IsaLists: what List tells, Assemble makes the same words of, and labels make no difference.
-/
import Derived.Test.YtocbilaaklapkaaDoorPlainL
import Derived.Test.YtocbilaaklapkaaDoorSame3
namespace Go.Proofs.YtocbilaaklapkaaDoor.Lists
open Go Go.RowKit Go.Shelf Kit IsaM IsaT IsaL IsaC IsaE IsaN IsaP IsaB IsaK IsaU IsaV IsaX Told PlainL Same3
set_option linter.unusedVariables false

theorem own_slc {w : World} {base : Nat} {r : Value} {ws : List Nat} (h : w.ownsRow base 24 1 r ws.length (u32s ws)) : Slc .u32 w r ws := by
  by_cases hn : 0 < ws.length
  · obtain ⟨g, cap, rfl, _, h1, h2, ⟨cur, hb⟩, hc⟩ := row_cells h hn
    refine ⟨_, cap, rfl, h1, h2, .inr ⟨g, 0, rfl, hb.lt, fun i hi => ?_⟩⟩
    rw [Nat.zero_add, hc i (ws[i]) (List.getElem?_eq_getElem hi), List.getElem?_eq_getElem hi]
    rfl
  · obtain rfl : ws = [] := List.length_eq_zero_iff.1 (by omega)
    rcases h.2 with ⟨rfl, _⟩ | ⟨g, cap, cur, rfl, _, _, h1, h2, _⟩
    · exact ⟨none, 0, rfl, Nat.le_refl _, Nat.zero_le _, .inl rfl⟩
    · exact ⟨_, cap, rfl, h1, h2, .inl rfl⟩
theorem size_nat {l : List Nat} (hb : ∀ x ∈ l, x < 4294967296) (hl : l.length ≤ 512) : (st (listT l)).size ≤ 36864 := by
  rw [st_size]
  have := listT_len l hb
  omega

set_option maxRecDepth 100000 in
set_option maxHeartbeats 4000000 in
theorem lists_in (v : Value) (xs : List Nat) (w : World) (hx : Slc .u32 w v xs) (hb : ∀ x ∈ xs, x < 4294967296) (hn : xs.length ≤ 512) (hT : Tabs w) (hM : Ml w) :
    Calls Tryd.prog 7 #[v] w fun e w' => e = .returned (.bool true) ∧ Below w.heap.size w w' := by
  have HX := Lib.hid hx
  obtain ⟨a, cap, rfl, hcap, hmax, hread⟩ := hx
  have hnb : ((xs.length : Nat) : Int) ≤ 512 := by omega
  have HB := Lib.hid hb
  have HT := Lib.hid hT
  have HMl := Lib.hid hM
  have HA := Lib.hid alive_any
  have HLi := Lib.hid (fun wx hx ht => list_any (.slice a xs.length cap) xs wx hx hb (by omega) ht)
  have hs1 := size_nat hb hn
  have HS1 : Hid (∀ wx, Tabs wx → Ml wx → Calls Tryd.prog 22 #[.string (st (listT xs))] wx fun e W' => Below wx.heap.size wx W' ∧ ∃ r, e = .returned (.tuple #[r, .int .i64 0, .int .i64 0]) ∧ Slc .u32 W' r xs) :=
    Lib.hid (fun wx h1 h2 => (asm_yes _ (by omega) xs (by rw [st_data]; exact asm_list xs hb hn) wx h1 h2).mono fun e W' ⟨hb, r, he, hr, _, _⟩ => ⟨hb, r, he, own_slc hr⟩)
  have HS2 : Hid (∀ wx, Tabs wx → Ml wx → Calls Tryd.prog 22 #[.string ((⟨#[102, 105, 114, 115, 116, 58, 10]⟩ : ByteArray) ++ st (listT xs) ++ ⟨#[108, 97, 115, 116, 58, 10]⟩)] wx fun e W' => Below wx.heap.size wx W' ∧ ∃ r, e = .returned (.tuple #[r, .int .i64 0, .int .i64 0]) ∧ Slc .u32 W' r xs) :=
    Lib.hid (fun wx h1 h2 => by
      have e : (⟨#[102, 105, 114, 115, 116, 58, 10]⟩ : ByteArray) ++ st (listT xs) ++ ⟨#[108, 97, 115, 116, 58, 10]⟩ = st (firstT ++ listT xs ++ lastT) := by
        show st firstT ++ st (listT xs) ++ st lastT = _
        rw [st_app, st_app]
      rw [e]
      have hsz : (st (firstT ++ listT xs ++ lastT)).size ≤ 100000 := by
        rw [st_size] at hs1 ⊢
        simp [firstT, lastT]
        omega
      exact (asm_yes _ hsz xs (by rw [st_data]; exact asm_labels xs hb hn) wx h1 h2).mono fun e W' ⟨hb, r, he, hr, _, _⟩ => ⟨hb, r, he, own_slc hr⟩)
  have B0 := Below.refl w.heap.size w
  clear hb hT hM hread
  go_enter Tryd.func7, Tryd.ntmps7
  go_wp2_with (first | (go_at_call 28; ((with_reducible refine (HA.out _ HT.out HMl.out).mono ?_); rintro e w1 ⟨rfl, hb1⟩; refine Hid.out ?_)))
  refine Lib.hid ?_
  have X1 := HX.out.below hb1
  go_wp2_with (first | (go_at_call 26; ((with_reducible refine (HLi.out _ X1 (HT.out.below hb1)).mono ?_); rintro e w2 ⟨rfl, hb2⟩; refine Hid.out ?_)))
  refine Lib.hid ?_
  have D2 := hb1.trans (hb2.mono hb1.size)
  go_wp2_with (first | (go_at_call 22; ((with_reducible refine (HS1.out _ (HT.out.below D2) (HMl.out.below D2)).mono ?_); rintro e w3 ⟨hb3, r, rfl, hr⟩; refine Hid.out ?_)))
  refine Lib.hid ?_
  have D3 := D2.trans (hb3.mono D2.size)
  have HR := Lib.hid hr
  clear hr
  go_wp2_with (first | (go_at_call 22; ((with_reducible refine (HS2.out _ (HT.out.below D3) (HMl.out.below D3)).mono ?_); rintro e w4 ⟨hb4, r2, rfl, hr2⟩; refine Hid.out ?_)))
  refine Lib.hid ?_
  have D4 := D3.trans (hb4.mono D3.size)
  have R1 := Lib.hid (HR.out.below hb4)
  have R2 := Lib.hid hr2
  have X4 := Lib.hid (HX.out.below D4)
  clear hr2 X1
  go_wp2_with (first | (go_at_call 25; ((with_reducible refine (same_any _ _ xs _ R1.out X4.out).mono ?_); rintro e w5 ⟨rfl, k5, rfl⟩; refine Hid.out ?_)))
  refine Lib.hid ?_
  have b5 : Below w4.heap.size w4 (w4.drewN k5) := drew_below _ _ _
  go_wp2_with (first | (go_at_call 25; ((with_reducible refine (same_any _ _ xs _ (R2.out.below b5) (X4.out.below b5)).mono ?_); rintro e w6 ⟨rfl, k6, rfl⟩; refine Hid.out ?_)))
  refine Lib.hid ?_
  go_wp2
  go_ret
  exact ⟨rfl, D4.trans (drew_below _ _ _)⟩

set_option maxHeartbeats 1000000 in
theorem lists_long (v : Value) (xs : List Nat) (w : World) (hx : Slc .u32 w v xs) (hn : ¬ xs.length ≤ 512) (hT : Tabs w) (hM : Ml w) :
    Calls Tryd.prog 7 #[v] w fun e w' => e = .returned (.bool true) ∧ Below w.heap.size w w' := by
  obtain ⟨a, cap, rfl, hcap, hmax, hread⟩ := hx
  have HA := Lib.hid alive_any
  have hnb : (512 : Int) < ((xs.length : Nat) : Int) := by omega
  clear hread
  go_enter Tryd.func7, Tryd.ntmps7
  go_wp2_with (first | (go_at_call 28; ((with_reducible refine (HA.out _ hT hM).mono ?_); rintro e w1 ⟨rfl, hb1⟩)))
  go_ret
  exact ⟨rfl, hb1⟩
end Go.Proofs.YtocbilaaklapkaaDoor.Lists
namespace Go.Proofs.YtocbilaaklapkaaDoor.Walk
set_option linter.unusedVariables false
open Go Go.RowKit Kit IsaT IsaP
theorem isaLists (a : Option Addr) (len cap : Nat) (zs : List Int) (w : World) (h : IsRow .u32 w a len cap zs) (hT : Tabs w) (hM : Ml w) :
    Calls Tryd.prog 7 #[.slice a len cap] w fun e w' => e = .returned (.bool true) ∧ Below w.heap.size w w' := by
  obtain ⟨xs, hl, hs, hw⟩ := h.slc nn_u32
  subst hl
  have hb : ∀ x ∈ xs, x < 4294967296 := fun x hx => by
    obtain ⟨n, hn, hlt⟩ := u32_nat (hw x hx)
    omega
  by_cases hn : xs.length ≤ 512
  · exact Lists.lists_in _ xs w hs hb hn hT hM
  · exact Lists.lists_long _ xs w hs hn hT hM
#print axioms isaLists
end Go.Proofs.YtocbilaaklapkaaDoor.Walk
