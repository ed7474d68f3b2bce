/-
  Fill (and bytes.Repeat of one byte, 64 times), total, kind, and the document's Same of texts.
-/
import Derived.Test.YtjoapeeljigjcaaDoorUsl
import Derived.Lib.MakeNoZero
namespace Go.Proofs.YtjoapeeljigjcaaDoor.Uta
open Go Go.RowKit Go.Shelf Kit Bk
open Fm hiding Mem made_any len_any
open Fo Fr Fw Fx Fu Fq
open Tm hiding Mem
open Ts Tc Ti Tl Sp Sa Pz To My Pv Mp Mq Dr Cl Iv Iw Ix Wr Sy Rd Usa Usb Usc Usd Use Usf Usg Ush Usi Usl Usm Usn
set_option linter.unusedVariables false
attribute [local go_sem ↓] cpy_wrap

variable {w w' : World} {p b n m : Nat} {qs ts : Nat → Nat} {M : Nat → Bool} {Vs : Nat → Nat → Nat}

/-- j bytes of a row copied behind themselves. -/
theorem run_dbl (w : World) (G c j k : Nat) (cur : Array Value) (T : TypeId) (hb : Blk w G cur T) (hs : 64 ≤ cur.size) (hc : ∀ i, i < j → cur[i]? = some (.int .u8 (c : Int))) (hj : j + k = 64) (hjk : j ≤ k) :
    (cpyO #[37, 37] 3 #[.slice (some ⟨G, j, none⟩) k k, .slice (some ⟨G, 0, none⟩) j 64]).run Tryd.prog w = .ok (goInt j) (w.setCells G j (u8s (List.replicate j c))) := by
  have hl : (u8s (List.replicate j c)).length = j := by simp [u8s]
  have hth := hb.there j j (by omega)
  have := run_copy_cells (P := Tryd.prog) w 37 37 3 5 G j k k ⟨G, 0, none⟩ j 64 (u8s (List.replicate j c)) Tryd.underlying37 (by kernel_rfl) (by rw [hl]; exact (Nat.min_eq_left hjk).symm)
    (fun i v hi => by
      have hil : i < j := by rw [← hl]; exact (List.getElem?_eq_some_iff.1 hi).1
      rw [u8s_at _ i (by simpa using hil)] at hi
      cases hi
      rw [Addr.add_mid, Nat.zero_add, hb.cell, hc i hil]
      simp [hil])
    (fun i hi => (hth i (by rw [← hl]; exact hi)).1) (fun i hi => (hth i (by rw [← hl]; exact hi)).2) (u8s_one _)
  rw [hl] at this
  exact this
theorem dbl_is {w : World} {G c j : Nat} {cur : Array Value} {T : TypeId} (hb : Blk w G cur T) (hs : 64 ≤ cur.size) (hc : ∀ i, i < j → cur[i]? = some (.int .u8 (c : Int))) (hj : j + j ≤ 64) :
    ∃ cur', Blk (w.setCells G j (u8s (List.replicate j c))) G cur' T ∧ cur'.size = cur.size ∧ ∀ i, i < j + j → cur'[i]? = some (.int .u8 (c : Int)) := by
  have hl : (u8s (List.replicate j c)).length = j := by simp [u8s]
  obtain ⟨ds, h1, h2, h3, h4⟩ := hb.sets (u8s (List.replicate j c)) j
  rw [hl] at h3 h4
  refine ⟨ds, h1, h2, fun i hi => ?_⟩
  rcases Nat.lt_or_ge i j with e | e
  · rw [h3 i (.inl e), hc i e]
  · obtain ⟨x, rfl⟩ : ∃ x, i = j + x := ⟨i - j, by omega⟩
    rw [h4 x (by omega) (by omega), u8s_at _ x (by simp; omega)]
    simp [show x < j by omega]

set_option maxRecDepth 100000 in
set_option maxHeartbeats 4000000 in
theorem repeat_one (w : World) (g c : Nat) (hg : Blk w g #[.int .u8 (c : Int)] 5) :
    Calls Tryd.prog 29 #[.slice (some ⟨g, 0, none⟩) 1 1, .int .i64 64] w fun e w' => ∃ r, e = .returned r ∧ Below w.heap.size w w' ∧ Wr.Src (fun j => j < w.heap.size) w' r (List.replicate 64 c) := by
  obtain ⟨cs, hrunM, hle, hmax⟩ := Lib.run_makeNoZero (P := Tryd.prog) w #[3] 37 5 Tryd.underlying37 64 (by decide)
  have hcall : (callFunc 53 #[.int .i64 64]).run Tryd.prog w = .ok (.value (.slice (some ⟨w.heap.size, 0, none⟩) 64 cs.size)) ((w.alloc (.cells cs 5)).drewN 2) := by
    rw [run_callFunc_extern Tryd.func53 (by kernel_rfl) (by kernel_rfl) (by kernel_rfl) (e := Extern.BytealgMakeNoZero.makeNoZero #[3] #[37]) (by kernel_rfl)]
    rw [show ((64 : Nat) : Int) = 64 from rfl] at hrunM
    rw [hrunM]
    rfl
  clear hrunM
  have hM : Calls Tryd.prog 52 #[.int .u64 1, .int .u64 64] w fun e w' => e = .returned (.tuple #[.int .u64 0, .int .u64 64]) ∧ w' = w := Shl.bits_Mul 1 64 (by decide) (by decide) w
  have HM := Lib.hid (hM.mono fun e w' h => (⟨h.1, h.2.symm⟩ : _ ∧ w = w'))
  clear hM
  obtain ⟨W1, hW1⟩ : ∃ W1, (w.alloc (.cells cs 5)).drewN 2 = W1 := ⟨_, rfl⟩
  rw [hW1] at hcall
  have hb1 : Below w.heap.size w W1 := by rw [← hW1]; exact below_drewN ((Below.refl _ _).alloc (Nat.le_refl _) _) 2
  have hk1 : Blk W1 w.heap.size cs 5 := by rw [← hW1]; exact Blk.new w cs _
  have hg1 := hg.below hb1
  have hcp : (cpyO #[37, 37] 3 #[.slice (some ⟨w.heap.size, 0, none⟩) 64 64, .slice (some ⟨g, 0, none⟩) 1 1]).run Tryd.prog W1 = .ok (goInt 1) (W1.setCells w.heap.size 0 [.int .u8 (c : Int)]) :=
    run_copy_cells (P := Tryd.prog) W1 37 37 3 5 w.heap.size 0 64 64 ⟨g, 0, none⟩ 1 1 [.int .u8 (c : Int)] Tryd.underlying37 (by kernel_rfl) rfl
      (fun i v hi => by
        have hi0 : i = 0 := by have := (List.getElem?_eq_some_iff.1 hi).1; simpa using this
        subst hi0
        simp at hi
        subst hi
        exact hg1.cell 0)
      (fun i hi => (hk1.there 0 1 (by omega) i (by simpa using hi)).1) (fun i hi => (hk1.there 0 1 (by omega) i (by simpa using hi)).2) (fun v hv => by simp at hv; subst hv; rfl)
  obtain ⟨ds, hd1, hd2, hd3, hd4⟩ := hk1.sets [.int .u8 (c : Int)] 0
  have hdc : ds[0]? = some (.int .u8 (c : Int)) := hd4 0 (by simp) (by omega)
  have hb2 : Below w.heap.size w (W1.setCells w.heap.size 0 [.int .u8 (c : Int)]) := hb1.setCell (Nat.le_refl _) _
  obtain ⟨W2, hW2⟩ : ∃ W2, W1.setCells w.heap.size 0 [.int .u8 (c : Int)] = W2 := ⟨_, rfl⟩
  rw [hW2] at hcp hd1 hb2
  have H2 := Lib.hid (And.intro hb2 (And.intro hd1 (And.intro (show ds.size = cs.size from hd2) hdc)))
  have HLE := Lib.hid (And.intro hle (hmax (by decide)))
  have i1 : (64 : Int) ≤ (cs.size : Int) := by omega
  clear hb1 hk1 hg1 hd1 hd2 hd3 hd4 hdc hb2 hW1 hW2 hg hle hmax
  go_enter Tryd.func29, Tryd.ntmps29
  go_wp2_with (first | (go_at_call 52; (with_reducible refine HM.out.mono ?_); rintro e w5 ⟨rfl, rfl⟩))
  go_loopw [10] (fun i wr => ∃ j : Nat, (j = 1 ∨ j = 2 ∨ j = 4 ∨ j = 8 ∨ j = 16 ∨ j = 32 ∨ j = 64) ∧ i = .int .i64 (j : Int) ∧ Below w.heap.size w wr ∧ ∃ cur, Blk wr w.heap.size cur 5 ∧ cur.size = cs.size ∧ ∀ i, i < j → cur[i]? = some (.int .u8 (c : Int))) (fun i _ => 64 - (intOf i).toNat)
  case atStart => exact ⟨1, .inl rfl, rfl, H2.out.1, ds, H2.out.2.1, H2.out.2.2.1, fun i hi => by rw [show i = 0 by omega]; exact H2.out.2.2.2⟩
  case round =>
    obtain ⟨j, hj, rfl, hB, cur, hcb, hcs, hcc⟩ := hrel
    by_cases h64 : j = 64
    · subst h64
      go_wp2
      go_ret
      exact ⟨_, rfl, hB, Slc.own8 hcb (l := List.replicate 64 c) (by simp) (by decide) (fun i hi => by
        rw [hcc i (by simpa using hi)]
        have : i < 64 := by simpa using hi
        rw [List.getElem?_replicate, if_pos this]
        rfl), .inr fun ad k cc e => by cases e; exact Nat.lt_irrefl _⟩
    · obtain ⟨k, hk⟩ : ∃ k, j + k = 64 := ⟨64 - j, by omega⟩
      have hjk : j ≤ k := by omega
      have hcp2 := run_dbl wr.drew w.heap.size c j k cur _ (hcb.below (Below.refl _ _).drew) (by have := HLE.out.1; omega) hcc hk hjk
      obtain ⟨cur', hc1, hc2, hc3⟩ := dbl_is (w := wr.drew) (hcb.below (Below.refl _ _).drew) (by have := HLE.out.1; omega) hcc (by omega)
      have hb3 : Below w.heap.size w (wr.drew.setCells w.heap.size j (u8s (List.replicate j c))) := (Kp.sets (S := fun i => i = w.heap.size) w.heap.size rfl (u8s (List.replicate j c)) j wr.drew).below (n := w.heap.size) (by exact hB.size) (fun i hi => by rw [hi]; exact Nat.le_refl _) |> (hB.drew).trans
      have H3 := Lib.hid (And.intro hb3 (And.intro hc1 (And.intro hc2 hc3)))
      have hmn : (if (64 : Int) < (j : Int) then (64 : Int) else (j : Int)) = (j : Int) := if_neg (by omega)
      obtain ⟨W3, hW3⟩ : ∃ W3, wr.drew.setCells w.heap.size j (u8s (List.replicate j c)) = W3 := ⟨_, rfl⟩
      rw [hW3] at hcp2 H3
      clear hc1 hc2 hc3 hb3 hcb hcc hB hW3
      rcases hj with rfl | rfl | rfl | rfl | rfl | rfl | rfl
      · obtain rfl : k = 63 := by omega
        have hmi : min (1 : Int) 64 = 1 := by decide
        go_wp2
        go_region
        go_wp2
        go_roundw
        case rel => exact ⟨2, by omega, rfl, H3.out.1, cur', H3.out.2.1, by rw [H3.out.2.2.1]; exact hcs, H3.out.2.2.2⟩
        case measure => simp [intOf]
      · obtain rfl : k = 62 := by omega
        have hmi : min (2 : Int) 64 = 2 := by decide
        go_wp2
        go_region
        go_wp2
        go_roundw
        case rel => exact ⟨4, by omega, rfl, H3.out.1, cur', H3.out.2.1, by rw [H3.out.2.2.1]; exact hcs, H3.out.2.2.2⟩
        case measure => simp [intOf]
      · obtain rfl : k = 60 := by omega
        have hmi : min (4 : Int) 64 = 4 := by decide
        go_wp2
        go_region
        go_wp2
        go_roundw
        case rel => exact ⟨8, by omega, rfl, H3.out.1, cur', H3.out.2.1, by rw [H3.out.2.2.1]; exact hcs, H3.out.2.2.2⟩
        case measure => simp [intOf]
      · obtain rfl : k = 56 := by omega
        have hmi : min (8 : Int) 64 = 8 := by decide
        go_wp2
        go_region
        go_wp2
        go_roundw
        case rel => exact ⟨16, by omega, rfl, H3.out.1, cur', H3.out.2.1, by rw [H3.out.2.2.1]; exact hcs, H3.out.2.2.2⟩
        case measure => simp [intOf]
      · obtain rfl : k = 48 := by omega
        have hmi : min (16 : Int) 64 = 16 := by decide
        go_wp2
        go_region
        go_wp2
        go_roundw
        case rel => exact ⟨32, by omega, rfl, H3.out.1, cur', H3.out.2.1, by rw [H3.out.2.2.1]; exact hcs, H3.out.2.2.2⟩
        case measure => simp [intOf]
      · obtain rfl : k = 32 := by omega
        have hmi : min (32 : Int) 64 = 32 := by decide
        go_wp2
        go_region
        go_wp2
        go_roundw
        case rel => exact ⟨64, by omega, rfl, H3.out.1, cur', H3.out.2.1, by rw [H3.out.2.2.1]; exact hcs, H3.out.2.2.2⟩
        case measure => simp [intOf]
      · exact absurd rfl h64

set_option maxRecDepth 100000 in
/-- Fill of a page. -/
theorem oFill (h : On w p b n qs ts M Vs m) {i : Nat} (hi : i < m) (a : Nat) (ha : a < 4294967296) (c : Nat) (hc : c < 256) :
    Calls Tryd.prog 13 #[.pointer (some ⟨qs i, 0, none⟩), .int .u32 (a : Int), .int .i64 64, .int .u8 (c : Int)] w fun e w' => ∃ (code : Int) (Vs' : Nat → Nat → Nat), e = .returned (.int .i64 code) ∧ Kp (fun j => j = b ∨ j = ts i) w w' ∧ On w' p b n qs ts M Vs' m ∧ Put M Vs Vs' n m i a (List.replicate 64 c) code := by
  have HL := Lib.hid (h.lt hi)
  have hba : Below w.heap.size w (w.alloc (.cells #[.int .u8 (c : Int)] 5)) := (Below.refl _ _).alloc (Nat.le_refl _) _
  have HR := Lib.hid (repeat_one (w.alloc (.cells #[.int .u8 (c : Int)] 5)) w.heap.size c (Blk.new w _ _))
  have H := Lib.hid (And.intro h hba)
  clear h hba
  go_enter Tryd.func13, Tryd.ntmps13
  go_wp2_with (first
    | (go_at_call 29; (with_reducible refine HR.out.mono ?_); rintro e w1 ⟨r, rfl, hb, hsrc⟩; have HB := Lib.hid (H.out.2.trans (hb.mono H.out.2.size)); have HW := Lib.hid (oWrite (H.out.1.below HB.out) hi a ha r (List.replicate 64 c) (src_low hsrc (fun j hj => by have h1 := HL.out; have h2 := H.out.2.size; rcases hj with rfl | rfl <;> omega)) (fun x hx => by rw [(List.mem_replicate.1 hx).2]; exact hc) (by simp)); clear hb hsrc)
    | (go_at_call 19; (with_reducible refine HW.out.mono ?_); rintro e w5 ⟨code, Vs', rfl, hk, hO, hp⟩; have HK := Lib.hid (And.intro ((Kp.of_below HB.out).trans hk (fun j hj => .inl hj)) (And.intro hO hp)); clear hk hO hp))
  go_ret
  exact ⟨_, _, rfl, HK.out.1, HK.out.2.1, HK.out.2.2⟩
set_option maxRecDepth 100000 in
theorem fill_arg (w : World) (sp c : Value) (a k : Int) (hk : k < 0 ∨ 4096 < k) :
    Calls Tryd.prog 13 #[sp, .int .u32 a, .int .i64 k, c] w fun e w' => e = .returned (.int .i64 22) ∧ w = w' := by
  by_cases h0 : k < 0
  · have hd1 : decide (k < 0) = true := decide_eq_true h0
    clear hk
    go_enter Tryd.func13, Tryd.ntmps13
    go_wp2
    go_ret
    exact ⟨rfl, rfl⟩
  · have hd1 : decide (k < 0) = false := decide_eq_false h0
    have hd2 : decide ((4096 : Int) < k) = true := decide_eq_true (by omega)
    clear hk
    go_enter Tryd.func13, Tryd.ntmps13
    go_wp2
    go_ret
    exact ⟨rfl, rfl⟩
/-- What some bytes are together. -/
theorem total_any (w : World) (v : Value) (xs : List Nat) (hs : Slc .u8 w v xs) (hx : ∀ x ∈ xs, x < 256) (hl : xs.length ≤ 64) :
    Calls Tryd.prog 25 #[v] w fun e w' => e = .returned (.int .i64 (xs.sum : Nat)) ∧ w = w' := by
  obtain ⟨a, cap, rfl, hc1, hc2, hr⟩ := hs
  have HX := Lib.hid (And.intro hx hl)
  obtain ⟨L, hL⟩ : ∃ L, xs.length = L := ⟨_, rfl⟩
  have hLz : (L : Int) ≤ 64 := by omega
  have hL64 : L ≤ 64 := by omega
  have HL := Lib.hid hL
  rw [hL] at hr ⊢
  have HR := Lib.hid hr
  clear hx hl hr hL hc1
  unfold maxLen at hc2
  go_enter Tryd.func25, Tryd.ntmps25
  go_wp2
  go_loopw [3, 8] (fun s i wr => ∃ k : Nat, k ≤ L ∧ i = .int .i64 (k : Int) ∧ s = .int .i64 (((xs.take k).sum : Nat) : Int) ∧ w = wr) (fun _ i _ => L - (intOf i).toNat)
  case atStart => exact ⟨0, Nat.zero_le _, rfl, rfl, rfl⟩
  case round =>
    obtain ⟨k, hk, rfl, rfl, hw⟩ := hrel
    subst hw
    by_cases hlt : k < L
    · have hkz : (k : Int) < (L : Int) := by omega
      have hkl : k < xs.length := by rw [HL.out]; exact hlt
      obtain ⟨g, o, rfl, hlt2, hcell⟩ : ∃ g o, a = some ⟨g, o, none⟩ ∧ g < w.heap.size ∧ ∀ i, i < L → w.cell? ⟨g, o + i, none⟩ = some (.int .u8 ((xs[i]?.getD 0 : Nat) : Int)) := by
        rcases HR.out with h0 | h0
        · rw [h0] at hkl
          exact absurd hkl (Nat.not_lt_zero _)
        · exact h0
      have hc := hcell k hlt
      rw [List.getElem?_eq_getElem hkl, Option.getD_some] at hc
      obtain ⟨x, hxx⟩ : ∃ x, xs[k] = x := ⟨_, rfl⟩
      rw [hxx] at hc
      have hx256 : x < 256 := by rw [← hxx]; exact HX.out.1 _ (List.getElem_mem _)
      have hsum : (xs.take (k + 1)).sum = (xs.take k).sum + x := by rw [List.take_succ_eq_append_getElem hkl, hxx, List.sum_append]; simp
      have hsb : (xs.take k).sum ≤ 256 * k := by
        have : ∀ l : List Nat, (∀ x ∈ l, x < 256) → l.sum ≤ 256 * l.length := fun l => by
          induction l with
          | nil => intro _; exact Nat.le_refl _
          | cons y r ih =>
            intro hy
            have h1 := hy y (by simp)
            have h2 := ih (fun z hz => hy z (by simp [hz]))
            rw [List.sum_cons, List.length_cons]
            omega
        have := this (xs.take k) (fun z hz => HX.out.1 z (List.mem_of_mem_take hz))
        rw [List.length_take] at this
        exact Nat.le_trans this (by omega)
      obtain ⟨S, hS⟩ : ∃ S, (xs.take k).sum = S := ⟨_, rfl⟩
      rw [hS] at hsum hsb ⊢
      have hSz : (S : Int) ≤ 20000 := by omega
      have hxz : (x : Int) < 256 := by omega
      clear hcell hS hxx
      go_wp2
      go_roundw
      case rel => exact ⟨k + 1, by omega, by go_num, by rw [hsum]; go_num, by first | trivial | rfl⟩
      case measure => simp [intOf]; omega
    · obtain rfl : k = L := by omega
      have hall : xs.take k = xs := List.take_of_length_le (by rw [HL.out]; exact Nat.le_refl _)
      rw [hall]
      go_wp2
      go_ret
      exact ⟨rfl, rfl⟩
/-- How a page may be used, of one that is Write, not Shared. -/
theorem kind_w (w : World) (f : Int) (c d : Bool) :
    Calls Tryd.prog 27 #[.agg #[.int .i64 f, .bool true, .bool false, .bool c, .bool d]] w fun e w' => e = .returned (.string ⟨#[119]⟩) ∧ Below w.heap.size w w' := by
  have hb : Below w.heap.size w (w.alloc (.cells #[.int .i64 f, .bool true, .bool false, .bool c, .bool d] 56)) := (Below.refl _ _).alloc (Nat.le_refl _) _
  have k1 := Blk.new w #[.int .i64 f, .bool true, .bool false, .bool c, .bool d] 56
  have c1 := k1.cell 1
  have c2 := k1.cell 2
  have HB := Lib.hid hb
  clear hb k1
  go_enter Tryd.func27, Tryd.ntmps27
  go_wp2
  go_ret
  exact ⟨rfl, HB.out⟩
/-- Two rows of one text, the same. -/
theorem sameS_any (w : World) (g g' cap cap' : Nat) (s : ByteArray) (h : w.cell? ⟨g, 0, none⟩ = some (.string s)) (h' : w.cell? ⟨g', 0, none⟩ = some (.string s)) :
    Calls Tryd.prog 10 #[.slice (some ⟨g, 0, none⟩) 1 cap, .slice (some ⟨g', 0, none⟩) 1 cap'] w fun e w' => e = .returned (.bool true) ∧ Below w.heap.size w w' := by
  go_enter Tryd.func10, Tryd.ntmps10
  go_wp2
  go_loopw [5] (fun i wr => ∃ k : Nat, k ≤ 1 ∧ i = .int .i64 (k : Int) ∧ Below w.heap.size w wr) (fun i _ => 1 - (intOf i).toNat)
  case atStart => exact ⟨0, by omega, rfl, Below.refl _ _⟩
  case round =>
    obtain ⟨k, hk, rfl, hB⟩ := hrel
    rcases (show k = 0 ∨ k = 1 by omega) with rfl | rfl
    · have c1 := (hB.cell (p := ⟨g, 0, none⟩) (World.block_lt_of_cell? w _ h)).trans h
      have c2 := (hB.cell (p := ⟨g', 0, none⟩) (World.block_lt_of_cell? w _ h')).trans h'
      have HB := Lib.hid hB
      clear hB h h'
      go_wp2
      go_region
      go_wp2
      go_roundw
      case rel => exact ⟨1, by omega, rfl, HB.out.drew⟩
      case measure => simp [intOf]
    · go_wp2
      go_ret
      exact ⟨rfl, hB⟩
end Go.Proofs.YtjoapeeljigjcaaDoor.Uta
