/-
  Write: refused, it changes nothing; else page by page.
-/
import Derived.Test.YtjoapeeljigjcaaDoorPv
namespace Go.Proofs.YtjoapeeljigjcaaDoor.Wr
open Go Go.RowKit Go.Shelf Kit Bk
open Fm hiding Mem made_any len_any
open Fo Fr Fw Fx Fu Fq
open Tm hiding Mem
open Ts Tc Ti Sp Sa Pz Ro To My Pv
set_option linter.unusedVariables false
attribute [local go_sem] Oper.semAt_some

/-- A slice of bytes whose cells lie in no block of S. -/
def Src (S : Nat → Prop) (w : World) (v : Value) (xs : List Nat) : Prop := Slc .u8 w v xs ∧ (xs = [] ∨ ∀ ad m c, v = .slice (some ad) m c → ¬ S ad.block)
theorem Src.kept {S S' : Nat → Prop} {w w' : World} {v : Value} {xs : List Nat} (h : Src S w v xs) (hk : Kp S' w w') (hS : ∀ j, j < w.heap.size → S' j → S j) : Src S w' v xs := by
  obtain ⟨⟨a, cap, hv, h1, h2, h3⟩, h4⟩ := h
  rcases h4 with h4 | h4
  · exact ⟨⟨a, cap, hv, h1, h2, .inl h4⟩, .inl h4⟩
  refine ⟨⟨a, cap, hv, h1, h2, ?_⟩, .inr h4⟩
  rcases h3 with h3 | ⟨b, off, ha, hlt, hc⟩
  · exact .inl h3
  · have hb : w'.heap[b]? = w.heap[b]? := hk.block b hlt (fun e => h4 ⟨b, off, none⟩ _ _ (by rw [hv, ha]) (hS b hlt e))
    exact .inr ⟨b, off, ha, Nat.lt_of_lt_of_le hlt hk.size, fun i hi => by
      have := hc i hi
      unfold World.cell? at this ⊢
      rw [hb]
      exact this⟩
theorem Src.kc {S : Nat → Prop} {B : Nat} {X Y : World} {v : Value} {xs : List Nat} (h : Src S X v xs) (hk : Kc B X Y) (hB : xs = [] ∨ ∀ ad m c, v = .slice (some ad) m c → ad.block < B) : Src S Y v xs := by
  obtain ⟨⟨a, cap, hv, h1, h2, h3⟩, h4⟩ := h
  refine ⟨⟨a, cap, hv, h1, h2, ?_⟩, h4⟩
  rcases h3 with h3 | ⟨b, off, ha, hlt, hc⟩
  · exact .inl h3
  · rcases hB with hB | hB
    · exact .inl hB
    have hb : Y.heap[b]? = X.heap[b]? := hk.block b hlt (.inl (hB ⟨b, off, none⟩ _ _ (by rw [hv, ha])))
    exact .inr ⟨b, off, ha, Nat.lt_of_lt_of_le hlt hk.size, fun i hi => by
      have := hc i hi
      unfold World.cell? at this ⊢
      rw [hb]
      exact this⟩
theorem fm_kc {B0 : Nat} {X Y : World} {p b n : Nat} {R : Nat → Nat} {B : Nat → Nat → Nat} (h : Fm.Mem X p b n R B) (hk : Kc B0 X Y) : Fm.Mem Y p b n R B := by
  obtain ⟨⟨cap, h1, h2⟩, ⟨cs, h3, h4⟩, h5, h6, h7⟩ := h
  exact ⟨⟨cap, Pz.Blk.kc h1 hk (by decide), h2⟩, ⟨cs, Pz.Blk.kc h3 hk (by decide), h4⟩, h5, h6, h7⟩
theorem tm_kc {B0 : Nat} {X Y : World} {t : Nat} {T : Nat → Option En} (h : Tm.Mem X t T) (hk : Kc B0 X Y) : Tm.Mem Y t T := by
  obtain ⟨⟨cs, h1, h2⟩, h3⟩ := h
  exact ⟨⟨cs, Pz.Blk.kc h1 hk (by decide), h2⟩, h3⟩
theorem kp_kc {S : Nat → Prop} {B : Nat} {w X Y : World} (h : Kp S w X) (hk : Kc B X Y) (hB : w.heap.size ≤ B) : Kp S w Y :=
  ⟨hk.os.trans h.os, hk.tape.trans h.tape, hk.output.trans h.output, Nat.le_trans h.size hk.size, fun k hl hn => (hk.block k (Nat.lt_of_lt_of_le hl h.size) (.inl (by omega))).trans (h.block k hl hn)⟩
theorem keeps_kp {S : Nat → Prop} {B : Nat} {w w' : World} (h : Kp S w w') (hS : ∀ j, S j → j < B) : KeepsFrom B w w' := ⟨h.size, fun k o hk h1 h2 => (h.block k (Array.getElem?_eq_some_iff.1 h1).1 (fun e => by have := hS k e; omega)).trans h1⟩

/-- A piece of it. -/
theorem Src.sub {S : Nat → Prop} {w : World} {v : Value} {xs : List Nat} (h : Src S w v xs) (lo hi : Nat) (h1 : lo < hi) (h2 : hi ≤ xs.length) :
    ∃ v', (∀ wz, (Instr.sliceAt 37 v (some (.int .i64 (lo : Int))) (some (.int .i64 (hi : Int))) none).run Tryd.prog wz = .ok v' wz) ∧ Src S w v' ((xs.drop lo).take (hi - lo)) := by
  obtain ⟨⟨a, cap, rfl, hc1, hc2, h3⟩, h4⟩ := h
  rcases h3 with rfl | ⟨b, off, rfl, hlt, hc⟩
  · simp at h2; omega
  rcases h4 with rfl | h4
  · simp at h2; omega
  have hel : Tryd.prog.elem 37 = 5 := by kernel_rfl
  have hsz : ∀ wz, (sizeOf (Tryd.prog.elem 37)).run Tryd.prog wz = .ok 1 wz := fun wz => by
    rw [hel]
    have hi : (Tryd.prog.info? 5).map (·.size) = some 1 := by kernel_rfl
    cases hq : Tryd.prog.info? 5 with
    | none => rw [hq] at hi; cases hi
    | some i => rw [hq] at hi; simp [sizeOf, typeInfo, hq]; simpa using hi
  have hlen : ((xs.drop lo).take (hi - lo)).length = hi - lo := by rw [List.length_take, List.length_drop]; omega
  refine ⟨.slice (some ⟨b, off + lo, none⟩) (hi - lo) (cap - lo), fun wz => ?_, ⟨some ⟨b, off + lo, none⟩, cap - lo, by rw [hlen], by rw [hlen]; omega, by omega, .inr ⟨b, off + lo, rfl, hlt, fun i hi' => ?_⟩⟩, .inr fun ad m c e => ?_⟩
  · rw [run_sliceAt_slice _ _ _ _ _ _ (by kernel_rfl), run_slice_lh _ _ _ _ _ (by kernel_rfl) .i64 .i64 (lo : Int) (hi : Int) (by omega) (by omega) (by omega), hsz]
    simp only [Result.andThen_ok, sliced, Int.toNat_natCast]
    rw [if_neg (by omega)]
    simp only [Option.map_some, Addr.add_mid, Nat.mul_one]
  · rw [hlen] at hi'
    rw [show off + lo + i = off + (lo + i) by omega, hc (lo + i) (by omega), List.getElem?_take, if_pos hi', List.getElem?_drop]
  · cases e
    exact h4 ⟨b, off, none⟩ _ _ rfl

set_option maxRecDepth 100000 in
set_option maxHeartbeats 2000000 in
theorem write_in (n : Nat) (hn : 6 ≤ n) (w : World) (q p t b nf : Nat) (T : Nat → Option En) (R : Nat → Nat) (B : Nat → Nat → Nat) (h : Sp w q p t) (hF : Fm.Mem w p b nf R B) (hT : Tm.Mem w t T) (hfit : Fit nf R T)
    (a : Nat) (ha : a < 4294967296) (v : Value) (xs : List Nat) (hv : Src (fun j => j = b ∨ j = t) w v xs) (h8 : ∀ x ∈ xs, x < 256) (hbt : xs.length ≤ 1000000)
    (HN : mayB T a xs.length true = true → ∀ W, Below w.heap.size w W → Calls Tryd.prog 38 #[.pointer (some ⟨q, 0, none⟩), .int .u32 (a : Int), .int .i64 (xs.length : Int)] W fun e w' => e = .returned (.int .i64 (nd R T a 0 (cn a xs.length) : Int)) ∧ Below W.heap.size W w') 
    (hM : mayB T a xs.length true = true) (hR : nd R T a 0 (cn a xs.length) ≤ fre nf R) :
    CallsIn Fence.wide n Tryd.prog 19 #[.pointer (some ⟨q, 0, none⟩), .int .u32 (a : Int), v] w fun e w' => e = .returned (.int .i64 0) ∧ Kp (fun j => j = b ∨ j = t) w w' ∧
      Fm.Mem w' p b nf (sts nf ⟨R, B, T⟩ a xs.length xs (cn a xs.length)).R (sts nf ⟨R, B, T⟩ a xs.length xs (cn a xs.length)).B ∧ Tm.Mem w' t (sts nf ⟨R, B, T⟩ a xs.length xs (cn a xs.length)).T := by
  have HMy := may_any (w := ((w.alloc (.cells #[.pointer (some ⟨q, 0, none⟩)] 22)).alloc (.cells #[v] 37))) q p t T
  obtain ⟨av, cap, rfl⟩ : ∃ av cap, v = .slice av xs.length cap := by obtain ⟨⟨a, c, hv, _⟩, _⟩ := hv; exact ⟨a, c, hv⟩
  obtain ⟨m, hm⟩ : ∃ m, xs.length = m := ⟨_, rfl⟩
  rw [hm] at HN hM hR hv ⊢
  have hb2 := ((Below.refl w.heap.size w).alloc (Nat.le_refl _) (.cells #[.pointer (some ⟨q, 0, none⟩)] 22)).alloc (by simp) (.cells #[.slice av m cap] 37)
  have b1 : Blk ((w.alloc (.cells #[.pointer (some ⟨q, 0, none⟩)] 22)).alloc (.cells #[.slice av m cap] 37)) w.heap.size #[.pointer (some ⟨q, 0, none⟩)] 22 := (Boxed.new w 22 (.pointer (some ⟨q, 0, none⟩))).alloc (.cells #[.slice av m cap] 37)
  have b2 : Blk ((w.alloc (.cells #[.pointer (some ⟨q, 0, none⟩)] 22)).alloc (.cells #[.slice av m cap] 37)) _ #[.slice av m cap] 37 := Boxed.new (w.alloc (.cells #[.pointer (some ⟨q, 0, none⟩)] 22)) 37 (.slice av m cap)
  simp only [World.size_alloc] at b2
  have hs2 : ((w.alloc (.cells #[.pointer (some ⟨q, 0, none⟩)] 22)).alloc (.cells #[.slice av m cap] 37)).heap.size = w.heap.size + 2 := by simp
  have hmy := may_any _ q p t T (Sp.below h hb2) (hT.below hb2) a m (m : Int) true (.inl rfl) (by omega) ha
  rw [hM, decide_eq_true (by omega : (0 : Int) ≤ (m : Int))] at hmy
  have HMY := Lib.hid ((callsIn_wide (n := n - 1)).2 hmy)
  clear hmy HMy
  refine callsIn_of_wp_marks Tryd.func19 rfl trivial ?_ rfl
  simp only [Tryd.ntmps19, List.size_toArray, List.length_cons, List.length_nil, Nat.reduceAdd, Nat.reduceSub, Array.replicate_succ, Array.replicate_zero, List.push_toArray, List.append_toArray, List.nil_append, List.cons_append]
  gi_wp2_with (first | (refine ⟨trivial, fun _ => (by omega), ?_⟩; gi_at_call 37; refine HMY.out.mono ?_; rintro e w3 ⟨rfl, hb3⟩))
  have hB3 : Below w.heap.size w w3 := hb2.trans (hb3.mono (by omega))
  have b13 := b1.below hb3
  have b23 := b2.below hb3
  have hs3 := hb3.size
  have HND := Lib.hid (HN hM)
  have HFR := Lib.hid (fun W (hb : Below w.heap.size w W) => free_is W p b nf R B (hF.below hb))
  have HK : Hid (∀ W, Below w3.heap.size w3 W → W.cell? ⟨w.heap.size, 0, none⟩ = some (.pointer (some ⟨q, 0, none⟩)) ∧ W.cell? ⟨w.heap.size + 1, 0, none⟩ = some (.slice av m cap) ∧ W.cell? ⟨q, 0, none⟩ = some (.pointer (some ⟨p, 0, none⟩))) := Lib.hid fun W hb => ⟨(b13.below hb).cell 0, (b23.below hb).cell 0, (Blk.below (Sp.below h hB3) hb).cell 0⟩
  have B0 : Hid (Below w3.heap.size w3 w3.drew) := Lib.hid (Below.refl _ _).drew
  have HB3 := Lib.hid hB3
  have hle : decide ((fre nf R : Int) < (nd R T a 0 (cn a m) : Int)) = false := decide_eq_false (by omega)
  clear hb3
  refine wp_only ?_
  go_region_held (fun W => W.cell? ⟨w.heap.size, 0, none⟩ = some (.pointer (some ⟨q, 0, none⟩)) ∧ W.cell? ⟨w.heap.size + 1, 0, none⟩ = some (.slice av m cap) ∧ W.cell? ⟨q, 0, none⟩ = some (.pointer (some ⟨p, 0, none⟩))) (first | exact HK.out _ C2.out | exact HK.out _ C1.out | exact HK.out _ B0.out)
    (first
      | (go_at_call 38; (with_reducible refine (HND.out _ (HB3.out.trans (B0.out.mono HB3.out.size))).mono ?_); rintro e c1 ⟨rfl, hc1⟩; have C1 := Lib.hid (B0.out.trans (hc1.mono B0.out.size)); clear hc1)
      | (go_at_call 33; (with_reducible refine (HFR.out _ (HB3.out.trans (C1.out.mono HB3.out.size))).mono ?_); rintro e c2 ⟨rfl, hc2⟩; have C2 := Lib.hid (C1.out.trans (hc2.mono C1.out.size)); clear hc2))
  have hB4 : Below w.heap.size w c2 := HB3.out.trans (C2.out.mono HB3.out.size)
  have b14 := b13.below C2.out
  have b24 := b23.below C2.out
  have hs4 : w.heap.size + 2 ≤ c2.heap.size := by have := C2.out.size; omega
  clear C1 C2 HK B0 HND HFR HB3 b13 b23 hb2 b1 b2 HMY hs2 hs3
  dsimp only [Only]
  gi_wp2_with (first | (refine ⟨trivial, fun _ => (by omega), ?_⟩; gi_at_call 39; refine (pieces_in (n - 1) _ _ _).mono ?_; rintro e w' ⟨rfl, rfl⟩))
  have d1 : Blk ((c2.alloc (.cells #[.int .u32 (a : Int)] 25)).alloc (.cells #[.int .i64 (m : Int)] 3)) c2.heap.size #[.int .u32 (a : Int)] 25 := (Boxed.new c2 25 (.int .u32 (a : Int))).alloc (.cells #[.int .i64 (m : Int)] 3)
  have d2 : Blk ((c2.alloc (.cells #[.int .u32 (a : Int)] 25)).alloc (.cells #[.int .i64 (m : Int)] 3)) _ #[.int .i64 (m : Int)] 3 := Boxed.new (c2.alloc (.cells #[.int .u32 (a : Int)] 25)) 3 (.int .i64 (m : Int))
  simp only [World.size_alloc] at d2
  have hA2 : Below c2.heap.size c2 ((c2.alloc (.cells #[.int .u32 (a : Int)] 25)).alloc (.cells #[.int .i64 (m : Int)] 3)) := ((Below.refl _ _).alloc (Nat.le_refl _) _).alloc (by simp) _
  have hs6 : ((c2.alloc (.cells #[.int .u32 (a : Int)] 25)).alloc (.cells #[.int .i64 (m : Int)] 3)).heap.size = c2.heap.size + 2 := by simp
  generalize (c2.alloc (.cells #[.int .u32 (a : Int)] 25)).alloc (.cells #[.int .i64 (m : Int)] 3) = W0 at d1 d2 hA2 hs6 ⊢
  have hBW := hB4.trans (hA2.mono hB4.size)
  have hFl := hF.lt
  have hTl := hT.lt
  have HNE : p ≠ b ∧ p ≠ t ∧ q ≠ b ∧ q ≠ t ∧ b ≠ t := by
    obtain ⟨⟨cs, ht, _⟩, _⟩ := hT
    obtain ⟨⟨cap, h1, _⟩, ⟨ds, h3, _⟩, _⟩ := hF
    exact ⟨h1.ne h3 (by decide), h1.ne ht (by decide), Blk.ne (show Blk w q _ _ from h) h3 (by decide), Blk.ne (show Blk w q _ _ from h) ht (by decide), h3.ne ht (by decide)⟩
  have hvB : xs = [] ∨ ∀ ad m' c, (.slice av m cap : Value) = .slice (some ad) m' c → ad.block < W0.heap.size := by
    obtain ⟨⟨a', c', hv', _, _, h3⟩, _⟩ := hv
    rcases h3 with h3 | ⟨sb, so, ha', hlt, _⟩
    · exact .inl h3
    · right
      intro ad m' c e
      cases hv'
      cases e
      cases ha'
      have := hBW.size
      show sb < _
      omega
  have hal0 : Along nf ⟨R, B, T⟩ T a m 0 := ⟨hfit, by simpa using hR, fun _ => rfl⟩
  have hss : ∀ j, j < cn a m → (T (a / 64 + j)).isSome = true := fun j hj => by
    have := mayB_iff.1 hM j hj
    cases hx : T (a / 64 + j) with
    | none => rw [hx] at this; cases this
    | some x => rfl
  refine pieces_loop (by omega) c2.heap.size (c2.heap.size + 1) a m (m : Int) rfl (.inl rfl) (by omega) ha d1 d2
    (fun i W => Blk W w.heap.size #[.pointer (some ⟨q, 0, none⟩)] 22 ∧ Blk W (w.heap.size + 1) #[.slice av m cap] 37 ∧ Kp (fun j => j = b ∨ j = t) w W ∧ Fm.Mem W p b nf (sts nf ⟨R, B, T⟩ a m xs i).R (sts nf ⟨R, B, T⟩ a m xs i).B ∧ Tm.Mem W t (sts nf ⟨R, B, T⟩ a m xs i).T ∧ Along nf (sts nf ⟨R, B, T⟩ a m xs i) T a m i ∧ Src (fun j => j = b ∨ j = t) W (.slice av m cap) xs)
    (fun c i W => False)
    ?hI (fun c i X Y hk hf => hf) ⟨Blk.below b14 hA2, Blk.below b24 hA2, Kp.of_below hBW, hF.below hBW, hT.below hBW, hal0, hv.kept (S' := fun _ => False) (Kp.of_below hBW) (fun _ _ e => e.elim)⟩
    (fun G i => { tmps := #[.pointer (some ⟨q, 0, none⟩), .int .u32 (a : Int), .slice av m cap, .pointer (some ⟨w.heap.size, 0, none⟩), undef, .pointer (some ⟨w.heap.size + 1, 0, none⟩), .int .i64 0, .pointer (some ⟨G, 0, none⟩), .bool false, .pointer (some ⟨q, 0, none⟩), .int .u32 (a : Int), .slice av m cap, .int .i64 (m : Int), .bool true, .bool false, .bool false, .pointer (some ⟨q, 0, none⟩), .int .u32 (a : Int), .slice av m cap, .int .i64 (m : Int), .int .i64 (nd R T a 0 (cn a m) : Int), .pointer (some ⟨q, 0, none⟩), .pointer (some ⟨q, 0, none⟩), .pointer (some ⟨q, 0, none⟩), .pointer (some ⟨p, 0, none⟩), .int .i64 (fre nf R : Int), .bool false, .int .u32 (a : Int), .slice av m cap, .int .i64 (m : Int), .func (.func 64) #[] #[.pointer (some ⟨c2.heap.size, 0, none⟩), .pointer (some ⟨c2.heap.size + 1, 0, none⟩)], .agg (pcs a m i), undef, undef, undef, undef, undef, undef, undef, undef, undef, undef, undef, undef, undef, undef, undef, undef, undef], defers := [] })
    ?assign ?body ?done (fun D c i W hD hi hf hK => hf.elim)
  case hI =>
    rintro i X Y hk ⟨h1, h2, h3, h4, h5, h6, h7⟩
    exact ⟨Pz.Blk.kc h1 hk (by decide), Pz.Blk.kc h2 hk (by decide), kp_kc h3 hk (by have := hBW.size; omega), fm_kc h4 hk, tm_kc h5 hk, h6, h7.kc hk hvB⟩
  case assign =>
    intro l i W K hK
    dsimp only [List.setIfInBounds_toArray, List.set_cons_zero, List.set_cons_succ]
    gi_wp2
    exact hK
  case body =>
    rintro l i G W hl ⟨hq0, hb0, hkp, hF', hT', hal, hsrc⟩ hlt hG0 hG
    obtain ⟨x, hx, hp, hnx⟩ := hal.next hlt hss (po a i) (seg a m xs i)
    obtain ⟨h1, h2, h3⟩ := fr_to hlt
    obtain ⟨v', hsl, hsrc'⟩ := hsrc.sub (fr a i) (to a m i) h1 (by omega)
    have HST : (sts nf ⟨R, B, T⟩ a m xs (i + 1)) = ⟨twR nf (sts nf ⟨R, B, T⟩ a m xs i).R x, up (twB nf (sts nf ⟨R, B, T⟩ a m xs i).R (sts nf ⟨R, B, T⟩ a m xs i).B x) (twF nf (sts nf ⟨R, B, T⟩ a m xs i).R x) (wr (twB nf (sts nf ⟨R, B, T⟩ a m xs i).R (sts nf ⟨R, B, T⟩ a m xs i).B x (twF nf (sts nf ⟨R, B, T⟩ a m xs i).R x)) (po a i) (seg a m xs i)), twT nf (sts nf ⟨R, B, T⟩ a m xs i).R (sts nf ⟨R, B, T⟩ a m xs i).T (a / 64 + i) x⟩ := by
      show st1 nf _ _ _ _ = _
      unfold st1
      rw [hx]
    have HNX : Hid (Along nf (sts nf ⟨R, B, T⟩ a m xs (i + 1)) T a m (i + 1)) := Lib.hid hnx
    obtain ⟨s', hs'⟩ : ∃ s', sts nf ⟨R, B, T⟩ a m xs (i + 1) = s' := ⟨_, rfl⟩
    rw [hs'] at HST HNX
    obtain ⟨s0, hs0⟩ : ∃ s0, sts nf ⟨R, B, T⟩ a m xs i = s0 := ⟨_, rfl⟩
    rw [hs0] at HST hF' hT' hx hp hal
    have hSp : Sp W q p t := Sp.kept h hkp (fun e => e.elim HNE.2.2.1 HNE.2.2.2.1)
    obtain ⟨Pg, hPg⟩ : ∃ Pg : Int, ((a / 64 + i : Nat) : Int) = Pg := ⟨_, rfl⟩
    have hdr : Below W.heap.size W W.drew := (Below.refl _ _).drew
    have htw := toWrite_is W.drew q p t b nf s0.T s0.R s0.B (Sp.below hSp hdr) (hF'.below hdr) (hT'.below hdr) hal.fit (a / 64 + i) x hx hp
    have HFT := Lib.hid (fit_tw hal.fit hx hp)
    rw [hPg] at htw
    have HTW := Lib.hid htw
    have HSEG : Hid (po a i + (seg a m xs i).length ≤ 64) := Lib.hid (by rw [seg_len hm hlt]; exact h3)
    have H8 : Hid (∀ y ∈ seg a m xs i, y < 256) := Lib.hid (fun y hy => h8 y (List.mem_of_mem_drop (List.mem_of_mem_take hy)))
    have HSRC : Hid (Src (fun j => j = b ∨ j = t) W v' (seg a m xs i)) := Lib.hid hsrc'
    have NE := Lib.hid HNE
    have hkpz := hkp.size
    have HBT : Hid (∀ j, (j = b ∨ j = t) → j < W0.heap.size) := Lib.hid (fun j hj => by have := hBW.size; omega)
    have HLT2 : Hid (b < w.heap.size ∧ t < w.heap.size) := Lib.hid ⟨hFl.2, hTl⟩
    have hq64 : q < w.heap.size := Blk.lt h
    have NE2 : Hid (¬ (c2.heap.size = b ∨ c2.heap.size = t) ∧ ¬ (c2.heap.size + 1 = b ∨ c2.heap.size + 1 = t) ∧ ∀ k cs z, W.heap[k]? = some (.cells cs 92 z) → ¬ (k = b ∨ k = t)) := Lib.hid ⟨by omega, by omega, fun k cs z hc hk => by
      rcases hk with rfl | rfl
      · obtain ⟨_, ⟨ds, h3, _⟩, _⟩ := hF'
        rw [show W.heap[k]? = _ from h3] at hc
        cases hc
      · obtain ⟨⟨ds, h3, _⟩, _⟩ := hT'
        rw [show W.heap[k]? = _ from h3] at hc
        cases hc⟩
    have HK : Hid (∀ W', Kp (fun j => j = b ∨ j = t) W W' → W'.cell? ⟨w.heap.size, 0, none⟩ = some (.pointer (some ⟨q, 0, none⟩)) ∧ W'.cell? ⟨w.heap.size + 1, 0, none⟩ = some (.slice av m cap) ∧ W'.cell? ⟨q, 0, none⟩ = some (.pointer (some ⟨p, 0, none⟩)) ∧ W'.cell? ⟨G, 0, none⟩ = some (.int .i64 Pg) ∧ W'.cell? ⟨G, 1, none⟩ = some (.int .i64 (po a i : Int)) ∧ W'.cell? ⟨G, 2, none⟩ = some (.int .i64 (fr a i : Int)) ∧ W'.cell? ⟨G, 3, none⟩ = some (.int .i64 (to a m i : Int))) := Lib.hid fun W' hk => by
      have e1 := Blk.kept hq0 hk (by omega)
      have e2 := Blk.kept hb0 hk (by omega)
      have e3 := Sp.kept hSp hk (fun e => e.elim HNE.2.2.1 HNE.2.2.2.1)
      have e4 := Blk.kept hG hk (NE2.out.2.2 G _ _ hG)
      exact ⟨e1.cell 0, e2.cell 0, Blk.cell e3 0, by rw [← hPg]; exact e4.cell 0, e4.cell 1, e4.cell 2, e4.cell 3⟩
    have KD : Hid (Kp (fun j => j = b ∨ j = t) W W.drew) := Lib.hid (Kp.refl _ _).drew
    have HFIN : Hid (∀ W', Kp (fun j => j = b ∨ j = t) W W' → Fm.Mem W' p b nf s'.R s'.B → Tm.Mem W' t s'.T → Post W0.heap.size c2.heap.size (c2.heap.size + 1) (fun i W => Blk W w.heap.size #[.pointer (some ⟨q, 0, none⟩)] 22 ∧ Blk W (w.heap.size + 1) #[.slice av m cap] 37 ∧ Kp (fun j => j = b ∨ j = t) w W ∧ Fm.Mem W p b nf (sts nf ⟨R, B, T⟩ a m xs i).R (sts nf ⟨R, B, T⟩ a m xs i).B ∧ Tm.Mem W t (sts nf ⟨R, B, T⟩ a m xs i).T ∧ Along nf (sts nf ⟨R, B, T⟩ a m xs i) T a m i ∧ Src (fun j => j = b ∨ j = t) W (.slice av m cap) xs) (fun c i W => False) i W .normal { tmps := #[], defers := [] } W') := Lib.hid (fun W' hk hF hT => by
      refine ⟨keeps_kp hk HBT.out, Kb.kept hk NE2.out.1 NE2.out.2.1 (fun k cs z hc e => NE2.out.2.2 k cs z hc e), Blk.kept hq0 hk (by omega), Blk.kept hb0 hk (by omega), hkp.trans hk (fun j hj => .inl hj), ?_, ?_, ?_, hsrc.kept hk (fun j _ hj => hj)⟩
      · rw [hs']; exact hF
      · rw [hs']; exact hT
      · rw [hs']; exact HNX.out)
    have HST2 := Lib.hid HST
    clear HST hs' hs0 hkp hq0 hb0 hF' hT' hal hsrc hx hp hnx hsrc' htw hSp hPg h1 h2 h3 hdr hG hlt
    gi_wp2
    refine round_held (fun W' => W'.cell? ⟨w.heap.size, 0, none⟩ = some (.pointer (some ⟨q, 0, none⟩)) ∧ W'.cell? ⟨w.heap.size + 1, 0, none⟩ = some (.slice av m cap) ∧ W'.cell? ⟨q, 0, none⟩ = some (.pointer (some ⟨p, 0, none⟩)) ∧ W'.cell? ⟨G, 0, none⟩ = some (.int .i64 Pg) ∧ W'.cell? ⟨G, 1, none⟩ = some (.int .i64 (po a i : Int)) ∧ W'.cell? ⟨G, 2, none⟩ = some (.int .i64 (fr a i : Int)) ∧ W'.cell? ⟨G, 3, none⟩ = some (.int .i64 (to a m i : Int))) (by kernel_rfl) (by kernel_rfl) ?_ (HK.out _ KD.out) (fun hHeld => ?_)
    · intro a' w' hh
      exact hh
    · refine wpAnyH_take (i := 0) (v := ?_) rfl (by kernel_rfl) (by kernel_rfl) (by kernel_rfl) (fun _ _ _ h => h) (Or.inl ⟨by rfl, ?_⟩) (by assumption) ?_
      rotate_left 1
      · intro wz hSw
        try dsimp only at hSw
        go_simp <;> with_reducible rfl
      try simp only [Act.put, List.setIfInBounds_toArray, List.set_cons_zero, List.set_cons_succ, List.getElem_toArray, List.getElem_cons_zero]
      refine wpAnyH_take (i := 1) (v := ?_) rfl (by kernel_rfl) (by kernel_rfl) (by kernel_rfl) (fun _ _ _ h => h) (Or.inl ⟨by rfl, ?_⟩) (by assumption) ?_
      rotate_left 1
      · intro wz hSw
        try dsimp only at hSw
        go_simp <;> with_reducible rfl
      try simp only [Act.put, List.setIfInBounds_toArray, List.set_cons_zero, List.set_cons_succ, List.getElem_toArray, List.getElem_cons_zero, List.getElem_cons_succ]
      refine wpAnyH_take (i := 2) (v := ?_) rfl (by kernel_rfl) (by kernel_rfl) (by kernel_rfl) (fun _ _ _ h => h) (Or.inl ⟨by rfl, ?_⟩) (by assumption) ?_
      rotate_left 1
      · intro wz hSw
        try dsimp only at hSw
        go_simp <;> with_reducible rfl
      try simp only [Act.put, List.setIfInBounds_toArray, List.set_cons_zero, List.set_cons_succ, List.getElem_toArray, List.getElem_cons_zero, List.getElem_cons_succ]
      refine wpAnyH_take (i := 3) (v := ?_) rfl (by kernel_rfl) (by kernel_rfl) (by kernel_rfl) (fun _ _ _ h => h) (Or.inl ⟨by rfl, ?_⟩) (by assumption) ?_
      rotate_left 1
      · intro wz hSw
        try dsimp only at hSw
        go_simp <;> with_reducible rfl
      try simp only [Act.put, List.setIfInBounds_toArray, List.set_cons_zero, List.set_cons_succ, List.getElem_toArray, List.getElem_cons_zero, List.getElem_cons_succ]
      refine wpAnyH_take (i := 4) (v := ?_) rfl (by kernel_rfl) (by kernel_rfl) (by kernel_rfl) (fun _ _ _ h => h) (Or.inl ⟨by rfl, ?_⟩) (by assumption) ?_
      rotate_left 1
      · intro wz hSw
        try dsimp only at hSw
        go_simp <;> with_reducible rfl
      try simp only [Act.put, List.setIfInBounds_toArray, List.set_cons_zero, List.set_cons_succ, List.getElem_toArray, List.getElem_cons_zero, List.getElem_cons_succ]
      refine wpAnyH_take (i := 5) (v := ?_) rfl (by kernel_rfl) (by kernel_rfl) (by kernel_rfl) (fun _ _ _ h => h) (Or.inl ⟨by rfl, ?_⟩) (by assumption) ?_
      rotate_left 1
      · intro wz hSw
        try dsimp only at hSw
        go_simp <;> with_reducible rfl
      try simp only [Act.put, List.setIfInBounds_toArray, List.set_cons_zero, List.set_cons_succ, List.getElem_toArray, List.getElem_cons_zero, List.getElem_cons_succ]
      refine wpAnyH_take (i := 6) (v := ?_) rfl (by kernel_rfl) (by kernel_rfl) (by kernel_rfl) (fun _ _ _ h => h) (Or.inl ⟨by rfl, ?_⟩) (by assumption) ?_
      rotate_left 1
      · intro wz hSw
        try dsimp only at hSw
        go_simp <;> with_reducible rfl
      try simp only [Act.put, List.setIfInBounds_toArray, List.set_cons_zero, List.set_cons_succ, List.getElem_toArray, List.getElem_cons_zero, List.getElem_cons_succ]
      refine wpAnyH_take (i := 8) (v := ?_) rfl (by kernel_rfl) (by kernel_rfl) (by kernel_rfl) (fun _ _ _ h => h) (Or.inl ⟨by rfl, ?_⟩) (by assumption) ?_
      rotate_left 1
      · intro wz hSw
        try dsimp only at hSw
        go_simp <;> with_reducible rfl
      try simp only [Act.put, List.setIfInBounds_toArray, List.set_cons_zero, List.set_cons_succ, List.getElem_toArray, List.getElem_cons_zero, List.getElem_cons_succ]
      refine wpAnyH_take (i := 9) (v := ?_) rfl (by kernel_rfl) (by kernel_rfl) (by kernel_rfl) (fun _ _ _ h => h) (Or.inl ⟨by rfl, ?_⟩) (by assumption) ?_
      rotate_left 1
      · intro wz hSw
        try dsimp only at hSw
        go_simp <;> with_reducible rfl
      try simp only [Act.put, List.setIfInBounds_toArray, List.set_cons_zero, List.set_cons_succ, List.getElem_toArray, List.getElem_cons_zero, List.getElem_cons_succ]
      refine wpAnyH_take (i := 10) (v := ?_) rfl (by kernel_rfl) (by kernel_rfl) (by kernel_rfl) (fun _ _ _ h => h) (Or.inl ⟨by rfl, ?_⟩) (by assumption) ?_
      rotate_left 1
      · intro wz hSw
        try dsimp only at hSw
        go_simp <;> with_reducible rfl
      try simp only [Act.put, List.setIfInBounds_toArray, List.set_cons_zero, List.set_cons_succ, List.getElem_toArray, List.getElem_cons_zero, List.getElem_cons_succ]
      refine wpAnyH_take (i := 11) (v := ?_) rfl (by kernel_rfl) (by kernel_rfl) (by kernel_rfl) (fun _ _ _ h => h) (Or.inl ⟨by rfl, ?_⟩) (by assumption) ?_
      rotate_left 1
      · intro wz hSw
        try dsimp only at hSw
        go_simp <;> with_reducible rfl
      try simp only [Act.put, List.setIfInBounds_toArray, List.set_cons_zero, List.set_cons_succ, List.getElem_toArray, List.getElem_cons_zero, List.getElem_cons_succ]
      refine wpAnyH_take (i := 12) (v := ?_) rfl (by kernel_rfl) (by kernel_rfl) (by kernel_rfl) (fun _ _ _ h => h) (Or.inl ⟨by rfl, ?_⟩) (by assumption) ?_
      rotate_left 1
      · intro wz hSw
        try dsimp only at hSw
        go_simp <;> with_reducible rfl
      try simp only [Act.put, List.setIfInBounds_toArray, List.set_cons_zero, List.set_cons_succ, List.getElem_toArray, List.getElem_cons_zero, List.getElem_cons_succ]
      refine wpAnyH_take (i := 13) (v := ?_) rfl (by kernel_rfl) (by kernel_rfl) (by kernel_rfl) (fun _ _ _ h => h) (Or.inl ⟨by rfl, ?_⟩) (by assumption) ?_
      rotate_left 1
      · intro wz hSw
        try dsimp only at hSw
        go_simp <;> with_reducible rfl
      try simp only [Act.put, List.setIfInBounds_toArray, List.set_cons_zero, List.set_cons_succ, List.getElem_toArray, List.getElem_cons_zero, List.getElem_cons_succ]
      refine wpAnyH_take (i := 14) (v := ?_) rfl (by kernel_rfl) (by kernel_rfl) (by kernel_rfl) (fun _ _ _ h => h) (Or.inl ⟨by rfl, ?_⟩) (by assumption) ?_
      rotate_left 1
      · intro wz hSw
        try dsimp only at hSw
        go_simp <;> with_reducible rfl
      try simp only [Act.put, List.setIfInBounds_toArray, List.set_cons_zero, List.set_cons_succ, List.getElem_toArray, List.getElem_cons_zero, List.getElem_cons_succ]
      refine wpAnyH_take (i := 15) (v := ?_) rfl (by kernel_rfl) (by kernel_rfl) (by kernel_rfl) (fun _ _ _ h => h) (Or.inl ⟨by rfl, ?_⟩) (by assumption) ?_
      rotate_left 1
      · intro wz hSw
        try dsimp only at hSw
        go_simp <;> with_reducible rfl
      try simp only [Act.put, List.setIfInBounds_toArray, List.set_cons_zero, List.set_cons_succ, List.getElem_toArray, List.getElem_cons_zero, List.getElem_cons_succ]
      refine wpAnyH_ready (rs := [7]) (by kernel_rfl) (by simp) ?_
      refine AllReadyH.cons rfl (fun K hK => ?_) ?_
      · go_simp
        go_wp2_with (first | (go_at_call 41; (with_reducible refine HTW.out.mono ?_); rintro e c1 ⟨rfl, hk1, hF1, hT1⟩; have K1 := Lib.hid (KD.out.trans hk1 (fun j hj => .inl hj)); have HF1 := Lib.hid (And.intro hF1 hT1); have HWR := Lib.hid (write_ok c1 p b nf _ _ hF1 _ HFT.out.2.1 HFT.out.2.2 (po a i) v' (seg a m xs i) (HSRC.out.kept K1.out (fun j _ hj => hj)).1 H8.out HSEG.out); clear hk1 hF1 hT1))
        refine hK.out _ _ ?_ (fun hHeld => ?_)
        · try dsimp only
          exact HK.out _ K1.out
        clear hK K
        refine wpAnyH_ready (rs := [16]) (by kernel_rfl) (by simp) ?_
        refine AllReadyH.cons rfl (fun K hK => ?_) ?_
        · go_simp
          go_wp2_with (first | (go_at_call 40; (with_reducible refine HWR.out.mono ?_); rintro e c3 ⟨rfl, hF2, hk2⟩; have K2 := Lib.hid (K1.out.trans hk2 (fun j hj => .inl (.inl hj))); have HF2 := Lib.hid (And.intro hF2 (HF1.out.2.kept hk2 (fun e => NE.out.2.2.2.2 e.symm))); clear hk2 hF2))
          refine hK.out _ _ ?_ (fun hHeld => ?_)
          · try dsimp only
            exact HK.out _ K2.out
          clear hK K
          refine wpAnyH_done (by kernel_rfl) ?_ _
          refine Hid.out (Lib.hid ?_)
          have hfin := HFIN.out c3 K2.out (by rw [HST2.out]; exact HF2.out.1) (by rw [HST2.out]; exact HF2.out.2)
          exact hfin
        exact AllReadyH.nil
      exact AllReadyH.nil
  case done =>
    rintro D W hD ⟨hq0, hb0, hkp, hF', hT', hal, hsrc⟩ hK
    have hDl := (Array.getElem?_eq_some_iff.1 hK).1
    have HO : Hid (Kp (fun j => j = b ∨ j = t) w (W.putObj D (.deferred none)) ∧ Fm.Mem (W.putObj D (.deferred none)) p b nf (sts nf ⟨R, B, T⟩ a m xs (cn a m)).R (sts nf ⟨R, B, T⟩ a m xs (cn a m)).B ∧ Tm.Mem (W.putObj D (.deferred none)) t (sts nf ⟨R, B, T⟩ a m xs (cn a m)).T) :=
      Lib.hid ⟨kp_kc hkp (Kc.putObj (B := W0.heap.size) hD hK rfl _) (by have := hBW.size; omega), fm_kc hF' (Kc.putObj (B := W0.heap.size) hD hK rfl _), tm_kc hT' (Kc.putObj (B := W0.heap.size) hD hK rfl _)⟩
    clear hq0 hb0 hkp hF' hT' hal hsrc
    gi_wp2
    refine ⟨by simp, .inl ⟨_, _, rfl, run_takeDeferred hK, ?_⟩⟩
    refine ⟨.int .i64 0, ?_, rfl, HO.out⟩
    simp [results, go_sem]
end Go.Proofs.YtjoapeeljigjcaaDoor.Wr
