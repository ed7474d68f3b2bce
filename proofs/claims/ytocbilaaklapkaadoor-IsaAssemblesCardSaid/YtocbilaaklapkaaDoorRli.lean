/-
  The document's Line.
-/
import Derived.Test.YtocbilaaklapkaaDoorRc
import Derived.Test.YtocbilaaklapkaaDoorRdig3
namespace Go.Proofs.YtocbilaaklapkaaDoor.Rli
open Go Go.RowKit Go.Shelf Kit IsaM IsaT IsaL IsaC IsaE IsaN IsaP Ra Rb0 Rb Rdig3
set_option linter.unusedVariables false

/-- What an instruction names, told. -/
def tell (a b i : Int) : Tx → Tx
  | [] => []
  | c :: r => 32 :: Lib.itoa (if c = 97 then a else if c = 98 then b else i) ++ tell a b i r
theorem tell_snoc (a b i : Int) (c : UInt8) : ∀ (l : Tx), tell a b i (l ++ [c]) = tell a b i l ++ 32 :: Lib.itoa (if c = 97 then a else if c = 98 then b else i)
  | [] => by simp [tell]
  | d :: r => by
    show 32 :: Lib.itoa _ ++ tell a b i (r ++ [c]) = (32 :: Lib.itoa _ ++ tell a b i r) ++ _
    rw [tell_snoc a b i c r]
    simp
theorem tell_line (k : Nat) (a b i : Int) : nm k ++ tell a b i (nms k) = line k a b i := by
  unfold line fld nms
  by_cases hA : mA k = 0 <;> by_cases hB : mB k = 0 <;> by_cases hI : mI k = 0 <;> simp [hA, hB, hI, tell]
theorem tell_len (a b i : Int) (h : (-1000000000000 ≤ a ∧ a ≤ 1000000000000) ∧ (-1000000000000 ≤ b ∧ b ≤ 1000000000000) ∧ (-1000000000000 ≤ i ∧ i ≤ 1000000000000)) : ∀ (l : Tx), (tell a b i l).length ≤ 22 * l.length
  | [] => by simp [tell]
  | c :: r => by
    have h1 := tell_len a b i h r
    have h2 : (Lib.itoa (if c = 97 then a else if c = 98 then b else i)).length ≤ 21 := by
      refine Lib.itoa_length_le _ ?_ ?_ <;> split <;> (try split) <;> omega
    show (32 :: Lib.itoa _ ++ tell a b i r).length ≤ _
    rw [List.length_append, List.length_cons, List.length_cons]
    omega
theorem nms_mem (k : Nat) : ∀ c ∈ nms k, c = 97 ∨ c = 98 ∨ c = 105 := by
  intro c hc
  unfold nms at hc
  simp only [List.mem_append] at hc
  rcases hc with hc | hc | hc
  · split at hc
    · simp at hc
    · rw [List.mem_singleton] at hc; exact .inl hc
  · split at hc
    · simp at hc
    · rw [List.mem_singleton] at hc; exact .inr (.inl hc)
  · split at hc
    · simp at hc
    · rw [List.mem_singleton] at hc; exact .inr (.inr hc)
theorem nms_len (k : Nat) : (nms k).length ≤ 3 := by unfold nms; split <;> split <;> split <;> simp
theorem tell_next (a b i : Int) {l : Tx} {j : Nat} {x : UInt8} (h : j < l.length) (hx : l[j] = x) : tell a b i (l.take (j + 1)) = tell a b i (l.take j) ++ 32 :: Lib.itoa (if x = 97 then a else if x = 98 then b else i) := by
  rw [List.take_succ_eq_append_getElem h, tell_snoc, ← hx]
theorem st_at {l : Tx} {j : Nat} (h : j < l.length) (hs : j < (st l).size) : (st l)[j]'hs = l[j] := by
  show (st l).data[j]'_ = l[j]
  simp [st]
  rfl
theorem str_add3 (a b : Tx) : Value.string (st a ++ ⟨#[32]⟩ ++ st b) = Value.string (st (a ++ 32 :: b)) := by
  show Value.string (st a ++ st [32] ++ st b) = _
  rw [st_app, st_app]
  simp
theorem nm_len : ∀ k : Fin 30, (nm k.val).length ≤ 5 := by decide +kernel

set_option maxRecDepth 100000 in
set_option maxHeartbeats 4000000 in
theorem rline_yes (k : Nat) (a b i : Int) (h : May k a b i) (w : World) :
    Calls Tryd.prog 17 #[.agg #[.int .i64 (k : Int), .int .i64 a, .int .i64 b, .int .i64 i]] w fun e w' => e = .returned (.tuple #[.string (st (line k a b i)), .int .i64 0]) ∧ Below w.heap.size w w' := by
  have hm : mayB k a b i = true := decide_eq_true h
  have HM : Hid (∀ wx, Calls Tryd.prog 10 #[.agg #[.int .i64 (k : Int), .int .i64 a, .int .i64 b, .int .i64 i]] wx fun e w' => e = .returned (.bool true) ∧ Below wx.heap.size wx w') := Lib.hid (fun wx => by have := rmay_any k a b i wx; rwa [hm] at this)
  have hf := h.2
  have hF : Fits k a b i := by simpa using hf
  obtain ⟨k30, a0, a7, b0, b7, i0, i1⟩ := hF.bd
  have HN := Lib.hid (fun wx => rname_yes k k30 wx)
  have HNs := Lib.hid (fun wx => names_in k k30 wx)
  have HDa := Lib.hid (fun wx => digits_any a (by omega) (by omega) wx)
  have HDb := Lib.hid (fun wx => digits_any b (by omega) (by omega) wx)
  have HDi := Lib.hid (fun wx => digits_any i (by omega) (by omega) wx)
  have HL := Lib.hid (tell_line k a b i)
  have htl := Lib.hid (tell_len a b i ⟨⟨by omega, by omega⟩, ⟨by omega, by omega⟩, ⟨by omega, by omega⟩⟩)
  have hnl := nms_len k
  have hnm := nm_len ⟨k, k30⟩
  simp only at hnm
  have HMem := Lib.hid (nms_mem k)
  have hia := itoa_size (n := a) ⟨by omega, by omega⟩
  have hib := itoa_size (n := b) ⟨by omega, by omega⟩
  have hii := itoa_size (n := i) ⟨by omega, by omega⟩
  have B0 := (Below.refl w.heap.size w).alloc (Nat.le_refl _) (.cells #[.int .i64 (k : Int), .int .i64 a, .int .i64 b, .int .i64 i] 23)
  have KX0 := Blk.new w #[.int .i64 (k : Int), .int .i64 a, .int .i64 b, .int .i64 i] 23
  obtain ⟨N, hN⟩ : ∃ N, nms k = N := ⟨_, rfl⟩
  rw [hN] at HNs HL HMem hnl
  have hsz : (st N).size = N.length := st_size N
  clear hm h hf hF hN a0 a7 b0 b7 i0 i1
  go_enter Tryd.func17, Tryd.ntmps17
  go_wp2_with (first | (go_at_call 10; ((with_reducible refine (HM.out _).mono ?_); rintro e w1 ⟨rfl, hb1⟩; refine Hid.out ?_)))
  refine Lib.hid ?_
  have D1 := B0.trans (hb1.mono B0.size)
  have KX1 := KX0.below hb1
  have x0 := KX1.cell 0
  go_wp2_with (first | (go_at_call 21; ((with_reducible refine (HN.out _).mono ?_); rintro e w2 ⟨rfl, hb2⟩; refine Hid.out ?_)))
  refine Lib.hid ?_
  have D2 := D1.trans (hb2.mono D1.size)
  have KX2 := KX1.below hb2
  clear x0
  have x0 := KX2.cell 0
  go_wp2_with (first | (go_at_call 29; ((with_reducible refine (HNs.out _).mono ?_); rintro e w3 ⟨rfl, rfl⟩)))
  clear x0 B0 D1 KX1 KX0
  go_loopw [5, 7] (fun s x wr => ∃ j : Nat, j ≤ N.length ∧ x = .int .i64 (j : Int) ∧ s = .string (st (nm k ++ tell a b i (N.take j))) ∧ Hid (Below w2.heap.size w2 wr)) (fun _ x _ => N.length - (intOf x).toNat)
  case atStart => exact ⟨0, by omega, rfl, by simp [tell]; rfl, Lib.hid (Below.refl _ _)⟩
  case round =>
    obtain ⟨j, hj, rfl, rfl, HB⟩ := hrel
    have K3 := KX2.below HB.out
    have hbl := Lib.hid (D2.trans (HB.out.mono D2.size))
    by_cases hlt : j < N.length
    · have hlt2 : j < (st N).size := by omega
      obtain ⟨x, hx⟩ : ∃ x : UInt8, (st N)[j]'hlt2 = x := ⟨_, rfl⟩
      have hxN : N[j] = x := by rw [← hx, st_at hlt hlt2]
      have HX := Lib.hid hxN
      have HNx := Lib.hid (tell_next a b i hlt hxN)
      have hsS : (st (nm k ++ tell a b i (N.take j))).size ≤ 100 := by
        rw [st_size, List.length_append]
        have := htl.out (N.take j)
        rw [List.length_take] at this
        omega
      obtain ⟨S, hS⟩ : ∃ S, nm k ++ tell a b i (N.take j) = S := ⟨_, rfl⟩
      rw [hS] at hsS ⊢
      have HS := Lib.hid hS
      have hmem := HMem.out x (by rw [← hxN]; exact List.getElem_mem _)
      clear hxN hS
      have hxb : x.toNat < 256 := x.toNat_lt
      rcases hmem with hc | hc | hc
      · have g1 : ((x.toNat : Int) == 97) = true := by rw [hc]; rfl
        have HNy : Hid (nm k ++ tell a b i (N.take (j + 1)) = S ++ 32 :: Lib.itoa a) := Lib.hid (by
          have hh := HNx.out
          rw [hc, if_pos rfl] at hh
          rw [hh, ← List.append_assoc, HS.out])
        have y := K3.cell 1
        clear hc
        go_wp2_with (first | (go_at_call 36; ((with_reducible refine (HDa.out _).mono ?_); rintro e w4 ⟨rfl, hb4⟩; refine Hid.out ?_)))
        refine Lib.hid ?_
        go_wp2
        go_roundw
        case rel => exact ⟨j + 1, by omega, by go_num, by rw [HNy.out]; exact str_add3 S (Lib.itoa a), Lib.hid (HB.out.trans (hb4.mono HB.out.size))⟩
        case measure => simp [intOf]; omega
      · have g1 : ((x.toNat : Int) == 97) = false := by rw [hc]; rfl
        have g2 : ((x.toNat : Int) == 98) = true := by rw [hc]; rfl
        have HNy : Hid (nm k ++ tell a b i (N.take (j + 1)) = S ++ 32 :: Lib.itoa b) := Lib.hid (by
          have hh := HNx.out
          rw [hc, if_neg (by decide), if_pos rfl] at hh
          rw [hh, ← List.append_assoc, HS.out])
        have y := K3.cell 2
        clear hc
        go_wp2_with (first | (go_at_call 36; ((with_reducible refine (HDb.out _).mono ?_); rintro e w4 ⟨rfl, hb4⟩; refine Hid.out ?_)))
        refine Lib.hid ?_
        go_wp2
        go_roundw
        case rel => exact ⟨j + 1, by omega, by go_num, by rw [HNy.out]; exact str_add3 S (Lib.itoa b), Lib.hid (HB.out.trans (hb4.mono HB.out.size))⟩
        case measure => simp [intOf]; omega
      · have g1 : ((x.toNat : Int) == 97) = false := by rw [hc]; rfl
        have g2 : ((x.toNat : Int) == 98) = false := by rw [hc]; rfl
        have HNy : Hid (nm k ++ tell a b i (N.take (j + 1)) = S ++ 32 :: Lib.itoa i) := Lib.hid (by
          have hh := HNx.out
          rw [hc, if_neg (by decide), if_neg (by decide)] at hh
          rw [hh, ← List.append_assoc, HS.out])
        have y := K3.cell 3
        clear hc
        go_wp2_with (first | (go_at_call 36; ((with_reducible refine (HDi.out _).mono ?_); rintro e w4 ⟨rfl, hb4⟩; refine Hid.out ?_)))
        refine Lib.hid ?_
        go_wp2
        go_roundw
        case rel => exact ⟨j + 1, by omega, by go_num, by rw [HNy.out]; exact str_add3 S (Lib.itoa i), Lib.hid (HB.out.trans (hb4.mono HB.out.size))⟩
        case measure => simp [intOf]; omega
    · obtain rfl : j = N.length := by omega
      have HL2 : Hid (nm k ++ tell a b i (N.take N.length) = line k a b i) := Lib.hid (by rw [List.take_length]; exact HL.out)
      go_wp2
      go_ret2
      exact ⟨by rw [← HL2.out]; rfl, hbl.out⟩
theorem rline_no (op a b i : Int) (h : ¬ May op a b i) (w : World) :
    Calls Tryd.prog 17 #[.agg #[.int .i64 op, .int .i64 a, .int .i64 b, .int .i64 i]] w fun e w' => e = .returned (.tuple #[.string ⟨#[]⟩, .int .i64 30]) ∧ Below w.heap.size w w' := by
  have hm : mayB op a b i = false := decide_eq_false h
  have HM : Hid (∀ wx, Calls Tryd.prog 10 #[.agg #[.int .i64 op, .int .i64 a, .int .i64 b, .int .i64 i]] wx fun e w' => e = .returned (.bool false) ∧ Below wx.heap.size wx w') := Lib.hid (fun wx => by have := rmay_any op a b i wx; rwa [hm] at this)
  have B0 := (Below.refl w.heap.size w).alloc (Nat.le_refl _) (.cells #[.int .i64 op, .int .i64 a, .int .i64 b, .int .i64 i] 23)
  clear hm h
  go_enter Tryd.func17, Tryd.ntmps17
  go_wp2_with (first | (go_at_call 10; ((with_reducible refine (HM.out _).mono ?_); rintro e w1 ⟨rfl, hb1⟩; refine Hid.out ?_)))
  refine Lib.hid ?_
  go_wp2
  go_ret2
  exact ⟨rfl, B0.trans (hb1.mono B0.size)⟩
end Go.Proofs.YtocbilaaklapkaaDoor.Rli
