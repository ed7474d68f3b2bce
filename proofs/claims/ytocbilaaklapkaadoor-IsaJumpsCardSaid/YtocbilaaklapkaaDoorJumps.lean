/-
  IsaJumps: a jump to a label goes as many words as lie between.
-/
import Derived.Test.YtocbilaaklapkaaDoorLists
namespace Go.Proofs.YtocbilaaklapkaaDoor.Jumps
open Go Go.RowKit Go.Shelf Kit IsaM IsaT IsaL IsaC IsaE IsaN IsaP IsaB IsaI IsaK IsaU IsaV IsaX Told PlainL Lists
set_option linter.unusedVariables false

theorem decV_n {k : Nat} {a b i : Int} (h : May k a b i) : decV (encN k a b i) = .tuple #[.agg #[.int .i64 (k : Int), .int .i64 a, .int .i64 b, .int .i64 i], .int .i64 0] := by
  have hc : ((encN k a b i : Nat) : Int) = enc k a b i := encN_cast h
  obtain ⟨d1, d2, d3, d4⟩ := dec_enc h
  unfold decV
  rw [hc, d1, d2, d3, d4, if_pos (show mayB (k : Int) a b i = true from decide_eq_true h)]
  rfl
theorem may_jal {n : Nat} (h : n ≤ 200) : May (22 : Nat) 3 0 (-(n : Int) - 1) := by
  refine ⟨by decide, ⟨by decide, by decide, by decide, by decide, by decide, ?_, ?_⟩⟩
  · show lo 32767 ≤ _; unfold lo; simp; omega
  · show _ ≤ (32767 : Int); omega
theorem may_jmp {n : Nat} (h : n ≤ 200) : May (19 : Nat) 0 0 (n : Int) := by
  refine ⟨by decide, ⟨by decide, by decide, by decide, by decide, by decide, ?_, ?_⟩⟩
  · show lo 32767 ≤ _; unfold lo; simp
  · show _ ≤ (32767 : Int); omega

set_option maxRecDepth 100000 in
set_option maxHeartbeats 4000000 in
theorem jumps_in (va vb : Value) (xs ys : List Nat) (w : World) (hx : Slc .u32 w va xs) (hy : Slc .u32 w vb ys) (hb : ∀ x ∈ xs, x < 4294967296) (hb2 : ∀ x ∈ ys, x < 4294967296) (hn : xs.length ≤ 200) (hn2 : ys.length ≤ 200) (hT : Tabs w) (hM : Ml w) :
    Calls Tryd.prog 8 #[va, vb] w fun e w' => e = .returned (.bool true) ∧ Below w.heap.size w w' := by
  have HX := Lib.hid hx
  have HY := Lib.hid hy
  obtain ⟨aa, capa, rfl, hcapa, hmaxa, hreada⟩ := hx
  obtain ⟨ab, capb, rfl, hcapb, hmaxb, hreadb⟩ := hy
  have hna : ((xs.length : Nat) : Int) ≤ 200 := by omega
  have hnb : ((ys.length : Nat) : Int) ≤ 200 := by omega
  have HT := Lib.hid hT
  have HMl := Lib.hid hM
  have HA := Lib.hid alive_any
  have HLx := Lib.hid (fun wx hx ht => list_any (.slice aa xs.length capa) xs wx hx hb (by omega) ht)
  have HLy := Lib.hid (fun wx hx ht => list_any (.slice ab ys.length capb) ys wx hx hb2 (by omega) ht)
  have hs1 := size_nat hb (by omega)
  have hs2 := size_nat hb2 (by omega)
  obtain ⟨ws, hasm, hwl, hw1, hw2⟩ := asm_jumps xs ys hb hb2 hn hn2
  obtain ⟨J1, hJ1⟩ : ∃ J1, encN 22 3 0 (-(xs.length : Int) - 1) = J1 := ⟨_, rfl⟩
  obtain ⟨J2, hJ2⟩ : ∃ J2, encN 19 0 0 (ys.length : Int) = J2 := ⟨_, rfl⟩
  have hd1 := decV_n (may_jal hn)
  have hd2 := decV_n (may_jmp hn2)
  have hl1 := encN_lt (may_jal hn)
  have hl2 := encN_lt (may_jmp hn2)
  rw [hJ1] at hd1 hl1 hw1
  rw [hJ2] at hd2 hl2 hw2
  have HD1 : Hid (∀ wx, Tabs wx → Calls Tryd.prog 14 #[.int .u32 (J1 : Int)] wx fun e w' => e = .returned (.tuple #[.agg #[.int .i64 22, .int .i64 3, .int .i64 0, .int .i64 (-(xs.length : Int) - 1)], .int .i64 0]) ∧ Below wx.heap.size wx w') := Lib.hid (fun wx h => dec_at J1 J1 _ hl1 rfl hd1 wx h)
  have HD2 : Hid (∀ wx, Tabs wx → Calls Tryd.prog 14 #[.int .u32 (J2 : Int)] wx fun e w' => e = .returned (.tuple #[.agg #[.int .i64 19, .int .i64 0, .int .i64 0, .int .i64 (ys.length : Int)], .int .i64 0]) ∧ Below wx.heap.size wx w') := Lib.hid (fun wx h => dec_at J2 J2 _ hl2 rfl hd2 wx h)
  clear hd1 hd2 hl1 hl2 hJ1 hJ2
  have HS : Hid (∀ wx, Tabs wx → Ml wx → Calls Tryd.prog 22 #[.string ((⟨#[120, 58, 10]⟩ : ByteArray) ++ st (listT xs) ++ ⟨#[106, 97, 108, 32, 51, 32, 120, 10, 106, 109, 112, 32, 121, 10]⟩ ++ st (listT ys) ++ ⟨#[121, 58, 10]⟩)] wx fun e W' => Below wx.heap.size wx W' ∧ ∃ g cap, e = .returned (.tuple #[.slice (some ⟨g, 0, none⟩) (xs.length + ys.length + 2) cap, .int .i64 0, .int .i64 0]) ∧ xs.length + ys.length + 2 ≤ cap ∧ cap ≤ maxLen ∧ g < W'.heap.size ∧ W'.cell? ⟨g, xs.length, none⟩ = some (.int .u32 (J1 : Int)) ∧ W'.cell? ⟨g, xs.length + 1, none⟩ = some (.int .u32 (J2 : Int))) :=
    Lib.hid (fun wx h1 h2 => by
      have e : (⟨#[120, 58, 10]⟩ : ByteArray) ++ st (listT xs) ++ ⟨#[106, 97, 108, 32, 51, 32, 120, 10, 106, 109, 112, 32, 121, 10]⟩ ++ st (listT ys) ++ ⟨#[121, 58, 10]⟩ = st (xT ++ listT xs ++ jjT ++ listT ys ++ yT) := by
        show st xT ++ st (listT xs) ++ st jjT ++ st (listT ys) ++ st yT = _
        rw [st_app, st_app, st_app, st_app]
      rw [e]
      have hsz : (st (xT ++ listT xs ++ jjT ++ listT ys ++ yT)).size ≤ 100000 := by
        rw [st_size] at hs1 hs2 ⊢
        simp [xT, jjT, yT]
        omega
      exact (asm_yes _ hsz ws (by rw [st_data]; exact hasm) wx h1 h2).mono fun e W' ⟨hb, r, he, hr, _, _⟩ => by
        obtain ⟨g, cap, rfl, _, k1, k2, ⟨cur, kb⟩, hc⟩ := row_cells hr (by omega)
        rw [hwl] at he k1
        exact ⟨hb, g, cap, he, k1, k2, kb.lt, hc _ _ hw1, hc _ _ hw2⟩)
  clear hb hb2 hT hM hreada hreadb hw1 hw2 hwl hasm
  go_enter Tryd.func8, Tryd.ntmps8
  go_wp2_with (first | (go_at_call 28; ((with_reducible refine (HA.out _ HT.out HMl.out).mono ?_); rintro e w1 ⟨rfl, hb1⟩; refine Hid.out ?_)))
  refine Lib.hid ?_
  have X1 := HX.out.below hb1
  go_wp2_with (first | (go_at_call 26; ((with_reducible refine (HLx.out _ X1 (HT.out.below hb1)).mono ?_); rintro e w2 ⟨rfl, hb2⟩; refine Hid.out ?_)))
  refine Lib.hid ?_
  have D2 := hb1.trans (hb2.mono hb1.size)
  have Y2 := HY.out.below D2
  go_wp2_with (first | (go_at_call 26; ((with_reducible refine (HLy.out _ Y2 (HT.out.below D2)).mono ?_); rintro e w3 ⟨rfl, hb3⟩; refine Hid.out ?_)))
  refine Lib.hid ?_
  have D3 := D2.trans (hb3.mono D2.size)
  go_wp2_with (first | (go_at_call 22; ((with_reducible refine (HS.out _ (HT.out.below D3) (HMl.out.below D3)).mono ?_); rintro e w4 ⟨hb4, g, cap, rfl, hcap, hmax, hg, hc1, hc2⟩; refine Hid.out ?_)))
  refine Lib.hid ?_
  have D4 := D3.trans (hb4.mono D3.size)
  unfold maxLen at hmax
  clear X1 Y2
  go_wp2_with (first | (go_at_call 14; ((with_reducible refine (HD1.out _ (HT.out.below D4)).mono ?_); rintro e w5 ⟨rfl, hb5⟩; refine Hid.out ?_)))
  refine Lib.hid ?_
  have D5 := D4.trans (hb5.mono D4.size)
  have K5 := Blk.new w5 #[.int .i64 22, .int .i64 3, .int .i64 0, .int .i64 (-(xs.length : Int) - 1)] 23
  have D6 := D5.alloc D5.size (.cells #[.int .i64 22, .int .i64 3, .int .i64 0, .int .i64 (-(xs.length : Int) - 1)] 23)
  have hc2' := (hb5.cell (p := ⟨g, xs.length + 1, none⟩) hg).trans hc2
  have hg5 : g < w5.heap.size := Nat.lt_of_lt_of_le hg hb5.size
  go_wp2_with (first | (go_at_call 14; ((with_reducible refine (HD2.out _ (HT.out.below D6)).mono ?_); rintro e w6 ⟨rfl, hb6⟩; refine Hid.out ?_)))
  refine Lib.hid ?_
  have D7 := D6.trans (hb6.mono D6.size)
  have K6 := K5.below hb6
  have K7 := K6.below ((Below.refl _ w6).alloc (Nat.le_refl _) (.cells #[.int .i64 19, .int .i64 0, .int .i64 0, .int .i64 (ys.length : Int)] 23))
  have q0 := K7.cell 0
  have q1 := K7.cell 1
  have q2 := K7.cell 2
  have q3 := K7.cell 3
  have q4 := K7.lt
  have q5 := K6.lt
  have r0 := K6.cell 0
  have r1 := K6.cell 1
  have r2 := K6.cell 2
  have r3 := K6.cell 3
  go_wp2
  go_ret
  exact ⟨rfl, D7.alloc D7.size _⟩

set_option maxHeartbeats 1000000 in
theorem jumps_long (va vb : Value) (xs ys : List Nat) (w : World) (hx : Slc .u32 w va xs) (hy : Slc .u32 w vb ys) (hn : ¬ (xs.length ≤ 200 ∧ ys.length ≤ 200)) (hT : Tabs w) (hM : Ml w) :
    Calls Tryd.prog 8 #[va, vb] w fun e w' => e = .returned (.bool true) ∧ Below w.heap.size w w' := by
  obtain ⟨aa, capa, rfl, hcapa, hmaxa, hreada⟩ := hx
  obtain ⟨ab, capb, rfl, hcapb, hmaxb, hreadb⟩ := hy
  have HA := Lib.hid alive_any
  clear hreada hreadb
  by_cases h1 : (200 : Int) < ((xs.length : Nat) : Int)
  · go_enter Tryd.func8, Tryd.ntmps8
    go_wp2_with (first | (go_at_call 28; ((with_reducible refine (HA.out _ hT hM).mono ?_); rintro e w1 ⟨rfl, hb1⟩)))
    go_ret
    exact ⟨rfl, hb1⟩
  · have h2 : (200 : Int) < ((ys.length : Nat) : Int) := by omega
    go_enter Tryd.func8, Tryd.ntmps8
    go_wp2_with (first | (go_at_call 28; ((with_reducible refine (HA.out _ hT hM).mono ?_); rintro e w1 ⟨rfl, hb1⟩)))
    go_ret
    exact ⟨rfl, hb1⟩
end Go.Proofs.YtocbilaaklapkaaDoor.Jumps
namespace Go.Proofs.YtocbilaaklapkaaDoor.Walk
set_option linter.unusedVariables false
open Go Go.RowKit Kit IsaT IsaP
theorem isaJumps (a : Option Addr) (len cap : Nat) (zs : List Int) (a' : Option Addr) (len' cap' : Nat) (zs' : List Int) (w : World) (h : IsRow .u32 w a len cap zs) (h' : IsRow .u32 w a' len' cap' zs') (hT : Tabs w) (hM : Ml w) :
    Calls Tryd.prog 8 #[.slice a len cap, .slice a' len' cap'] w fun e w' => e = .returned (.bool true) ∧ Below w.heap.size w w' := by
  obtain ⟨xs, hl, hs, hw⟩ := h.slc nn_u32
  obtain ⟨ys, hl', hs', hw'⟩ := h'.slc nn_u32
  subst hl hl'
  have hb : ∀ x ∈ xs, x < 4294967296 := fun x hx => by
    obtain ⟨n, hn, hlt⟩ := u32_nat (hw x hx)
    omega
  have hb' : ∀ x ∈ ys, x < 4294967296 := fun x hx => by
    obtain ⟨n, hn, hlt⟩ := u32_nat (hw' x hx)
    omega
  by_cases hn : xs.length ≤ 200 ∧ ys.length ≤ 200
  · exact Jumps.jumps_in _ _ xs ys w hs hs' hb hb' hn.1 hn.2 hT hM
  · exact Jumps.jumps_long _ _ xs ys w hs hs' hn hT hM
#print axioms isaJumps
end Go.Proofs.YtocbilaaklapkaaDoor.Walk
