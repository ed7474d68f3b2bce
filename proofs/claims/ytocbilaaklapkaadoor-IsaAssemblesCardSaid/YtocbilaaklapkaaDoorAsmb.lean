/-
  IsaAssembles: the walk, and the statement for any text and words.
-/
import Derived.Test.YtocbilaaklapkaaDoorRas
namespace Go.Proofs.YtocbilaaklapkaaDoor.Asmb
open Go Go.RowKit Go.Shelf Kit IsaM IsaT IsaL IsaC IsaE IsaN IsaP IsaB IsaK IsaU IsaV IsaX Told Rp Rfi Ras Bytes3
set_option linter.unusedVariables false

theorem same_any (va vb : Value) (xs : List Nat) (w : World) (ha : Slc .u32 w va xs) (hb : Slc .u32 w vb xs) :
    Calls Tryd.prog 25 #[va, vb] w fun e w' => e = .returned (.bool true) ∧ ∃ k, w' = w.drewN k := by
  obtain ⟨a, capa, rfl, hcapa, hmaxa, hra⟩ := ha
  obtain ⟨b, capb, rfl, hcapb, hmaxb, hrb⟩ := hb
  unfold maxLen at hmaxa hmaxb
  go_enter Tryd.func25, Tryd.ntmps25
  go_wp2
  go_loopw [5] (fun i wr => ∃ k : Nat, k ≤ xs.length ∧ i = .int .i64 k ∧ ∃ d, wr = w.drewN d) (fun i _ => xs.length - (intOf i).toNat)
  case atStart => exact ⟨0, Nat.zero_le _, rfl, 0, rfl⟩
  case round =>
    obtain ⟨k, hk, rfl, d, hd⟩ := hrel
    by_cases hlt : k < xs.length
    · rcases hra with h0 | ⟨ba, oa, rfl, hla, hca⟩
      · subst h0; simp at hlt
      · rcases hrb with h0 | ⟨bb, ob, rfl, hlb, hcb⟩
        · subst h0; simp at hlt
        · have ca : wr.cell? ⟨ba, oa + k, none⟩ = some (.int .u32 ((xs[k]?.getD 0 : Nat) : Int)) := by rw [hd]; exact hca k hlt
          have cb : wr.cell? ⟨bb, ob + k, none⟩ = some (.int .u32 ((xs[k]?.getD 0 : Nat) : Int)) := by rw [hd]; exact hcb k hlt
          obtain ⟨x, hx⟩ : ∃ x, xs[k]?.getD 0 = x := ⟨_, rfl⟩
          rw [hx] at ca cb
          clear hca hcb hx
          have HD := Lib.hid hd
          clear hd
          go_wp2
          go_region
          go_wp2
          go_roundw
          case rel => exact ⟨k + 1, by omega, by go_num, d + 1, by rw [HD.out]; rfl⟩
          case measure => simp [intOf]; omega
    · obtain rfl : k = xs.length := by omega
      clear hra hrb
      go_wp2
      go_ret
      exact ⟨rfl, d, rfl⟩
theorem own_slc {w : World} {base : Nat} {r : Value} {ws : List Nat} (h : w.ownsRow base 24 1 r ws.length (u32s ws)) : Slc .u32 w r ws := by
  by_cases hn : 0 < ws.length
  · obtain ⟨g, cap, rfl, _, h1, h2, ⟨cur, hb⟩, hc⟩ := row_cells h hn
    refine ⟨_, cap, rfl, h1, h2, .inr ⟨g, 0, rfl, hb.lt, fun i hi => ?_⟩⟩
    rw [Nat.zero_add, hc i (ws[i]) (List.getElem?_eq_getElem hi), List.getElem?_eq_getElem hi]
    rfl
  · obtain rfl : ws = [] := List.length_eq_zero_iff.1 (by omega)
    rcases h.2 with ⟨rfl, _⟩ | ⟨g, cap, cur, rfl, _, _, h1, h2, _⟩
    · exact ⟨none, 0, rfl, Nat.le_refl _, Nat.zero_le _, .inl rfl⟩
    · exact ⟨_, cap, rfl, h1, h2, .inl rfl⟩
theorem slc_nil (w : World) : Slc .u32 w (.slice none 0 0) [] := ⟨none, 0, rfl, Nat.le_refl _, Nat.zero_le _, .inl rfl⟩
theorem allB_at (l : List Nat) (c q : Nat) (hc : c < l.length) (hq : q < 4) : (allB l)[4 * c + q]? = (bs l[c])[q]? := by
  induction l generalizing c with
  | nil => simp at hc
  | cons j r ih =>
    have e : allB (j :: r) = bs j ++ allB r := rfl
    have hj : (bs j).length = 4 := rfl
    rw [e]
    cases c with
    | zero => rw [List.getElem?_append_left (by rw [hj]; omega)]; simp
    | succ c =>
      rw [List.getElem?_append_right (by rw [hj]; omega), hj, show 4 * (c + 1) + q - 4 = 4 * c + q by omega]
      exact ih c (by simpa using hc)
/-- Both assemblers answer so. -/
abbrev AsU (f : Nat) (s : ByteArray) (ws : List Nat) (N E : Int) : Prop := ∀ wx, Tabs wx → Ml wx → Calls Tryd.prog f #[.string s] wx fun e W' => Below wx.heap.size wx W' ∧ ∃ r, e = .returned (.tuple #[r, .int .i64 N, .int .i64 E]) ∧ Slc .u32 W' r ws
theorem both (s : ByteArray) (hs : s.size ≤ 100000) : ∃ ws N E, AsU 22 s ws N E ∧ AsU 23 s ws N E := by
  have hl : s.data.toList.length ≤ 100000 := by simpa using hs
  have hra := rasm_asm s.data.toList hl
  cases ha : asm s.data.toList with
  | inl n =>
    rw [ha] at hra
    refine ⟨[], (n : Int), 31, fun wx h1 h2 => ?_, fun wx h1 h2 => ?_⟩
    · exact (asm_no s hs n ha wx h1 h2).mono fun e W' ⟨hb, he⟩ => ⟨hb, _, he, slc_nil _⟩
    · exact (rasm_any s hs wx).mono fun e W' h => ⟨h.1, _, h.2.1 n hra, slc_nil _⟩
  | inr ws =>
    rw [ha] at hra
    refine ⟨ws, 0, 0, fun wx h1 h2 => ?_, fun wx h1 h2 => ?_⟩
    · exact (asm_yes s hs ws ha wx h1 h2).mono fun e W' ⟨hb, r, he, hr, _, _⟩ => ⟨hb, r, he, own_slc hr⟩
    · exact (rasm_any s hs wx).mono fun e W' h => by
        obtain ⟨r, he, hr⟩ := h.2.2 ws hra
        exact ⟨h.1, r, he, own_slc hr⟩
theorem quad (x : Nat) (h : x < 4294967296) : ∃ z0 z1 z2 z3 : Nat, bs x = [z0, z1, z2, z3] ∧ z0 < 256 ∧ z1 < 256 ∧ z2 < 256 ∧ z3 < 256 ∧ z0 + z1 * 256 + z2 * 65536 + z3 * 16777216 = x := by
  refine ⟨b0 x, b1 x, b2 x, b3 x, rfl, ?_⟩
  unfold b0 b1 b2 b3
  omega

set_option maxRecDepth 100000 in
set_option maxHeartbeats 8000000 in
theorem asmb_in (s : ByteArray) (hs : s.size ≤ 3000) (v : Value) (xs : List Nat) (w : World) (hx : Slc .u32 w v xs) (hb : ∀ x ∈ xs, x < 4294967296) (hn : xs.length ≤ 600) (hT : Tabs w) (hM : Ml w) :
    Calls Tryd.prog 4 #[.string s, v] w fun e w' => e = .returned (.bool true) ∧ Below w.heap.size w w' := by
  have HX := Lib.hid hx
  obtain ⟨a, cap, rfl, hcap, hmax, hread⟩ := hx
  have hnb : ((xs.length : Nat) : Int) ≤ 600 := by omega
  have hsb : (s.size : Int) ≤ 3000 := by omega
  obtain ⟨ws, N, E, hA, hR⟩ := both s (by omega)
  have HA := Lib.hid hA
  have HR := Lib.hid hR
  have HB := Lib.hid hb
  have HT := Lib.hid hT
  have HMl := Lib.hid hM
  obtain ⟨L, hL⟩ : ∃ L, st (listT xs) = L := ⟨_, rfl⟩
  have hli := fun wx hx ht => list_any (.slice a xs.length cap) xs wx hx hb (by omega) ht
  have hrl := fun wx hx => rlist_any (.slice a xs.length cap) xs wx hx hb (by omega)
  rw [hL] at hli hrl
  have HLi := Lib.hid hli
  have HRl := Lib.hid hrl
  have HBy := Lib.hid (fun wx hx => bytes_any (.slice a xs.length cap) xs wx hx hb (by omega))
  clear hb hT hM hA hR hli hrl hread hL
  go_enter Tryd.func4, Tryd.ntmps4
  go_wp2_with (first | (go_at_call 22; ((with_reducible refine (HA.out _ HT.out HMl.out).mono ?_); rintro e w1 ⟨hb1, r1, rfl, hr1⟩; refine Hid.out ?_)))
  refine Lib.hid ?_
  have HR1 := Lib.hid hr1
  clear hr1
  go_wp2_with (first | (go_at_call 23; ((with_reducible refine (HR.out _ (HT.out.below hb1) (HMl.out.below hb1)).mono ?_); rintro e w2 ⟨hb2, r2, rfl, hr2⟩; refine Hid.out ?_)))
  refine Lib.hid ?_
  have HR2 := Lib.hid hr2
  have D2 := hb1.trans (hb2.mono hb1.size)
  have X2 := HX.out.below D2
  clear hr2
  go_wp2_with (first | (go_at_call 24; ((with_reducible refine (HBy.out _ X2).mono ?_); rintro e w3 ⟨g, capB, rfl, hown, hb3⟩; refine Hid.out ?_)))
  refine Lib.hid ?_
  have D3 := D2.trans (hb3.mono D2.size)
  have R1 := Lib.hid (HR1.out.below (hb2.trans (hb3.mono hb2.size)))
  have R2 := Lib.hid (HR2.out.below hb3)
  have HOw := Lib.hid hown
  clear X2 hown
  go_wp2_with (first | (go_at_call 25; ((with_reducible refine (same_any _ _ ws _ R1.out R2.out).mono ?_); rintro e w5 ⟨rfl, k5, rfl⟩; refine Hid.out ?_)))
  refine Lib.hid ?_
  have b5 : Below w3.heap.size w3 (w3.drewN k5) := drew_below _ _ _
  have D5 := D3.trans (b5.mono D3.size)
  have X5 := HX.out.below D5
  go_wp2_with (first | (go_at_call 26; ((with_reducible refine (HLi.out _ X5 (HT.out.below D5)).mono ?_); rintro e w6 ⟨rfl, hb6⟩; refine Hid.out ?_)))
  refine Lib.hid ?_
  have D6 := D5.trans (hb6.mono D5.size)
  have X6 := HX.out.below D6
  clear X5
  go_wp2_with (first | (go_at_call 27; ((with_reducible refine (HRl.out _ X6).mono ?_); rintro e w7 ⟨rfl, hb7⟩; refine Hid.out ?_)))
  refine Lib.hid ?_
  have D7 := D6.trans (hb7.mono D6.size)
  have X7 := HX.out.below D7
  have ow7 := own_below (own_below (own_below HOw.out b5) hb6) hb7
  have HOw7 := Lib.hid ow7
  have HX7 := Lib.hid X7
  clear X6 X7 ow7
  have hqn : ∀ z : Int, (z == z) = true := fun z => by simp
  have hcapB : 4 * xs.length ≤ capB ∨ xs.length = 0 := by
    rcases HOw7.out.2 with ⟨h1, h2⟩ | ⟨g', c', cur, hv, _, _, h3, h4, _⟩
    · exact .inr (by omega)
    · cases hv; exact .inl h3
  have hcapB2 : capB ≤ maxLen ∨ xs.length = 0 := by
    rcases HOw7.out.2 with ⟨h1, h2⟩ | ⟨g', c', cur, hv, _, _, h3, h4, _⟩
    · exact .inr (by omega)
    · cases hv; exact .inl h4
  unfold maxLen at hcapB2
  go_wp2_with fail
  go_loopw [12] (fun i wr => ∃ (k : Nat), k ≤ xs.length ∧ i = .int .i64 (k : Int) ∧ Hid (Below w7.heap.size w7 wr)) (fun i _ => xs.length + 1 - (intOf i).toNat)
  case atStart => exact ⟨0, by omega, rfl, Lib.hid (Below.refl _ _)⟩
  case round =>
    obtain ⟨k, hk, rfl, HD⟩ := hrel
    have hbr : Below w7.heap.size w7 wr := HD.out
    by_cases hlt : k < xs.length
    · have ho := own_below HOw7.out hbr
      obtain ⟨g', cur, hg', hgB, hcc, hmx, hgk, hgz, hcell⟩ := row_at ho (by omega)
      cases hg'
      obtain ⟨x, hxk⟩ : ∃ x, xs[k] = x := ⟨_, rfl⟩
      have hx32 : x < 4294967296 := HB.out x (by rw [← hxk]; exact List.getElem_mem _)
      obtain ⟨z0, z1, z2, z3, hbs, l0, l1, l2, l3, hsum⟩ := quad x hx32
      have hcl : ∀ q, q < 4 → wr.cell? ⟨g, 4 * k + q, none⟩ = ([z0, z1, z2, z3][q]?).map (fun z : Nat => Value.int .u8 (z : Int)) := fun q hq => by
        rw [hcell (4 * k + q) (by omega)]
        unfold u8s
        rw [List.getElem?_map, allB_at xs k q hlt hq, hxk, hbs]
      have c0 : wr.cell? ⟨g, 4 * k, none⟩ = some (.int .u8 (z0 : Int)) := hcl 0 (by omega)
      have c1 : wr.cell? ⟨g, 4 * k + 1, none⟩ = some (.int .u8 (z1 : Int)) := hcl 1 (by omega)
      have c2 : wr.cell? ⟨g, 4 * k + 2, none⟩ = some (.int .u8 (z2 : Int)) := hcl 2 (by omega)
      have c3 : wr.cell? ⟨g, 4 * k + 3, none⟩ = some (.int .u8 (z3 : Int)) := hcl 3 (by omega)
      obtain ⟨a', cap', hv, -, -, hrd⟩ := HX7.out.below hbr
      cases hv
      rcases hrd with h0 | ⟨b, off, rfl, hblt, hcells⟩
      · subst h0; simp at hlt
      · have cl : wr.cell? ⟨b, off + k, none⟩ = some (.int .u32 (x : Int)) := by
          rw [hcells k hlt, List.getElem?_eq_getElem hlt, hxk]
          rfl
        have hsI : (z0 : Int) + (z1 : Int) * 256 + (z2 : Int) * 65536 + (z3 : Int) * 16777216 = (x : Int) := by omega
        have hltI : (k : Int) < (xs.length : Int) := by omega
        clear hcl hcell hgk hgz cur ho hbs hcells hsum
        go_wp2_with fail
        go_quiet (fail)
        go_wp2
        exact ⟨⟨k + 1, by omega, by go_num, Lib.hid (HD.out.trans (drew_below _ _ _))⟩, by simp [intOf]; omega⟩
    · obtain rfl : k = xs.length := by omega
      have HB8 := Lib.hid (D7.trans (hbr.mono D7.size))
      go_wp2
      go_ret
      exact ⟨rfl, HB8.out⟩

set_option maxHeartbeats 1000000 in
theorem asmb_long (s : ByteArray) (v : Value) (xs : List Nat) (w : World) (hx : Slc .u32 w v xs) (hn : ¬ (s.size ≤ 3000 ∧ xs.length ≤ 600)) :
    Calls Tryd.prog 4 #[.string s, v] w fun e w' => e = .returned (.bool true) ∧ Below w.heap.size w w' := by
  obtain ⟨a, cap, rfl, hcap, hmax, hread⟩ := hx
  clear hread
  by_cases h1 : (3000 : Int) < (s.size : Int)
  · go_enter Tryd.func4, Tryd.ntmps4
    go_wp2
    go_ret
    exact ⟨rfl, Below.refl _ _⟩
  · have h2 : (600 : Int) < ((xs.length : Nat) : Int) := by omega
    go_enter Tryd.func4, Tryd.ntmps4
    go_wp2
    go_ret
    exact ⟨rfl, Below.refl _ _⟩
end Go.Proofs.YtocbilaaklapkaaDoor.Asmb
namespace Go.Proofs.YtocbilaaklapkaaDoor.Walk
set_option linter.unusedVariables false
open Go Go.RowKit Kit IsaT IsaP
theorem isaAssembles (s : ByteArray) (a : Option Addr) (len cap : Nat) (zs : List Int) (w : World) (w0 : s.size ≤ maxLen) (h : IsRow .u32 w a len cap zs) (hT : Tabs w) (hM : Ml w) :
    Calls Tryd.prog 4 #[.string s, .slice a len cap] w fun e w' => e = .returned (.bool true) ∧ Below w.heap.size w w' := by
  obtain ⟨xs, hl, hs, hw⟩ := h.slc nn_u32
  subst hl
  have hb : ∀ x ∈ xs, x < 4294967296 := fun x hx => by
    obtain ⟨n, hn, hlt⟩ := u32_nat (hw x hx)
    omega
  by_cases hn : s.size ≤ 3000 ∧ xs.length ≤ 600
  · exact Asmb.asmb_in s hn.1 _ xs w hs hb hn.2 hT hM
  · exact Asmb.asmb_long s _ xs w hs hn
#print axioms isaAssembles
end Go.Proofs.YtocbilaaklapkaaDoor.Walk
