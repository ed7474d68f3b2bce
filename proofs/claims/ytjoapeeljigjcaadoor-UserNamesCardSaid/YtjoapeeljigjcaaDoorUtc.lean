/-
  The space of the chapter's examples: what each call answers and leaves.
-/
import Derived.Test.YtjoapeeljigjcaaDoorUtb
import Derived.MakeChecks
import Derived.Stop.LaidErr
import Derived.WalkSmall
import Derived.Test.YtjoapeeljigjcaaDoorRows
import Derived.Test.YtjoapeeljigjcaaDoorSame
namespace Go.Proofs.YtjoapeeljigjcaaDoor.Utc
open Go Go.RowKit Go.Shelf Kit Bk
open Fm hiding Mem made_any len_any
open Fo Fr Fw Fx Fu Fq
open Tm hiding Mem
open Ts Tc Ti Tl Sp Sa Pz To My Pv Mp Mq Dr Cl Iv Iw Ix Wr Sy Rd Usa Usb Usc Usd Use Usf Usg Ush Usi Usl Usm Usn Uta Utb
open BackNums (bstr)
open Usk (TextR)
open Bytes (allB)
open Words (wd)
set_option linter.unusedVariables false

/-- The table of powers, from the row's listed variables; it stays whatever new is made. -/
theorem var_lt {w : World} {n : String} {g : Nat} {cs : Array Value} {v : Value} (hg : Tryd.prog.globalNamed n = some g) (h : w.var? Tryd.prog n = some cs) (h0 : cs[0]? = some v) : g < w.heap.size := by
  have hc := World.var?_cell hg h 0
  rw [h0] at hc
  exact World.block_lt_of_cell? _ _ hc
theorem pow_below {w w' : World} (h : Utb.Pow w) (hb : Below w.heap.size w w') : Utb.Pow w' := by
  unfold Utb.Pow at h ⊢
  exact var?_below hb gPow (var_lt (v := .int .u64 1) gPow h (by kernel_rfl)) h
theorem pow_of {w : World} {rest : List (String × DataW Unit)} (h : laidMet Tryd.prog (("internal/strconv.uint64pow10", Rows.laid_internal_strconv_uint64pow10) :: rest) w) : Utb.Pow w := by
  have e1 : (Rows.laid_internal_strconv_uint64pow10 : DataW Unit) = Lib.tabData .u64 Lib.pow10Tab := by kernel_rfl
  rw [e1] at h
  exact Lib.tabIs_of_head gPow (t := 152) (e := 140) (by kernel_rfl) Tryd.underlying152 Tryd.underlying140 (by kernel_rfl) (by kernel_rfl) h
theorem of_userNames {w : World} (h : laidMetH Tryd.prog Rows.userNamesRow.laid w) : Utb.Pow w := by
  rw [MakeChecks.laidMetH_plain _ _ _ (by kernel_rfl)] at h
  have hL : laidMet Tryd.prog [("math/bits.deBruijn32tab", Rows.laid_math_bits_deBruijn32tab), ("math/bits.deBruijn64tab", Rows.laid_math_bits_deBruijn64tab), ("internal/strconv.uint64pow10", Rows.laid_internal_strconv_uint64pow10)] w := h
  exact pow_of hL.tail.tail

/-- The space of the examples: a page, its bytes. -/
structure St (w0 w : World) (p b q t : Nat) (V : Nat → Nat) : Prop where
  bel : Below w0.heap.size w0 w
  hb : w0.heap.size ≤ b
  ht : w0.heap.size ≤ t
  on : On w p b 4 (fun _ => q) (fun _ => t) M0 (fun _ => V) 1
theorem on_zero {w : World} {p b n : Nat} {qs ts : Nat → Nat} {M : Nat → Bool} {Vs : Nat → Nat → Nat} (h : On w p b n qs ts M Vs 1) : On w p b n qs ts M (fun _ => Vs 0) 1 := by
  obtain ⟨R, B, Ls, h1, h2, h3⟩ := h
  refine ⟨R, B, Ls, h1, h2, fun j g => ?_⟩
  have : j = 0 := by omega
  subst this
  exact h3 0 g
variable {w0 w w' : World} {p b q t : Nat} {V : Nat → Nat}
theorem St.step (h : St w0 w p b q t V) (hb : Below w.heap.size w w') : St w0 w' p b q t V := ⟨h.bel.trans (hb.mono h.bel.size), h.hb, h.ht, h.on.below hb⟩
theorem St.put {a : Nat} {xs : List Nat} {code : Int} {Vs' : Nat → Nat → Nat} (h : St w0 w p b q t V) (hk : Kp (fun j => j = b ∨ j = t) w w') (hO : On w' p b 4 (fun _ => q) (fun _ => t) M0 Vs' 1) (hp : Put M0 (fun _ => V) Vs' 4 1 0 a xs code) (hfit : a + xs.length ≤ 64) :
    code = 0 ∧ St w0 w' p b q t (wrv V a xs) := by
  obtain ⟨rfl, rfl⟩ := put_yes hp (mpd_M0 hfit) M0_lt (by
    have hc : Pz.cn a xs.length ≤ 1 := by
      rcases Nat.lt_or_ge (Pz.cn a xs.length) 2 with h | h
      · omega
      · have := (cn_iff a xs.length 1).1 h
        unfold fr at this
        omega
    omega)
  have := on_zero hO
  rw [up_same] at this
  exact ⟨rfl, h.bel.trans (hk.below h.bel.size (fun j hj => by rcases hj with rfl | rfl; exact h.hb; exact h.ht)), h.hb, h.ht, this⟩
theorem St.putNo {a : Nat} {xs : List Nat} {code : Int} {Vs' : Nat → Nat → Nat} (h : St w0 w p b q t V) (hk : Kp (fun j => j = b ∨ j = t) w w') (hO : On w' p b 4 (fun _ => q) (fun _ => t) M0 Vs' 1) (hp : Put M0 (fun _ => V) Vs' 4 1 0 a xs code) (hfit : 64 < a + xs.length) (h0 : xs.length ≠ 0) :
    code = 14 ∧ St w0 w' p b q t V := by
  obtain ⟨rfl, rfl⟩ := put_no hp (not_M0 hfit h0)
  exact ⟨rfl, h.bel.trans (hk.below h.bel.size (fun j hj => by rcases hj with rfl | rfl; exact h.hb; exact h.ht)), h.hb, h.ht, hO⟩
theorem St.putText (h : St w0 w p b q t V) (a : Nat) (s : ByteArray) (hs : s.size ≤ 60) (h0 : 0 ∉ nats s) (hfit : a + s.size + 1 ≤ 64) :
    Calls Tryd.prog 5 #[.pointer (some ⟨q, 0, none⟩), .int .u32 (a : Int), .string s] w fun e w' => e = .returned (.int .i64 0) ∧ St w0 w' p b q t (wrv V a (nats s ++ [0])) :=
  (oPutText h.on (i := 0) (by decide) a (by omega) s (by omega) h0).mono fun e w' ⟨code, Vs', he, hk, hO, hp⟩ => by
    obtain ⟨rfl, h2⟩ := h.put hk hO hp (by rw [List.length_append, nats_len]; simp; omega)
    exact ⟨he, h2⟩
theorem St.putWords (h : St w0 w p b q t V) (a : Nat) (v : Value) (xs : List Nat) (hx : Slc .u32 w v xs) (hb : ∀ x ∈ xs, x < 4294967296) (hfit : a + 4 * xs.length ≤ 64) :
    Calls Tryd.prog 6 #[.pointer (some ⟨q, 0, none⟩), .int .u32 (a : Int), v] w fun e w' => e = .returned (.int .i64 0) ∧ St w0 w' p b q t (wrv V a (allB xs)) :=
  (oPut h.on (i := 0) (by decide) a (by omega) v xs hx hb (by omega)).mono fun e w' ⟨code, Vs', he, hk, hO, hp⟩ => by
    obtain ⟨rfl, h2⟩ := h.put hk hO hp (by rw [Bytes.allB_length]; omega)
    exact ⟨he, h2⟩
theorem St.fill (h : St w0 w p b q t V) (c : Nat) (hc : c < 256) :
    Calls Tryd.prog 13 #[.pointer (some ⟨q, 0, none⟩), .int .u32 0, .int .i64 64, .int .u8 (c : Int)] w fun e w' => e = .returned (.int .i64 0) ∧ St w0 w' p b q t (wrv V 0 (List.replicate 64 c)) :=
  (oFill h.on (i := 0) (by decide) 0 (by decide) c hc).mono fun e w' ⟨code, Vs', he, hk, hO, hp⟩ => by
    obtain ⟨rfl, h2⟩ := h.put hk hO hp (by simp)
    exact ⟨he, h2⟩
theorem St.fillNo (h : St w0 w p b q t V) (c : Nat) (hc : c < 256) :
    Calls Tryd.prog 13 #[.pointer (some ⟨q, 0, none⟩), .int .u32 1, .int .i64 64, .int .u8 (c : Int)] w fun e w' => e = .returned (.int .i64 14) ∧ St w0 w' p b q t V :=
  (oFill h.on (i := 0) (by decide) 1 (by decide) c hc).mono fun e w' ⟨code, Vs', he, hk, hO, hp⟩ => by
    obtain ⟨rfl, h2⟩ := h.putNo hk hO hp (by simp) (by simp)
    exact ⟨he, h2⟩
theorem St.words (h : St w0 w p b q t V) (a k : Nat) (hk : k ≤ 16) (hfit : a + 4 * k ≤ 64 ∨ k = 0) (ha : a < 4294967296) (l : List Nat) (hl : (List.range k).map (wd (rdv V a (4 * k))) = l) :
    Calls Tryd.prog 7 #[.pointer (some ⟨q, 0, none⟩), .int .u32 (a : Int), .int .i64 (k : Int)] w fun e w' => ∃ r, e = .returned (.tuple #[r, .int .i64 0]) ∧ Slc .u32 w' r l ∧ Below w.heap.size w w' := by
  have := oWords h.on (i := 0) (by decide) a k ha (by omega) (by
    rcases hfit with h | h
    · exact mpd_M0 h
    · subst h; exact mpd_zero _ _)
  rw [hl] at this
  exact this
theorem St.wordsNo (h : St w0 w p b q t V) (a k : Nat) (hk : k ≤ 16) (hk0 : k ≠ 0) (hfit : 64 < a + 4 * k) (ha : a < 4294967296) :
    Calls Tryd.prog 7 #[.pointer (some ⟨q, 0, none⟩), .int .u32 (a : Int), .int .i64 (k : Int)] w fun e w' => e = .returned (.tuple #[.slice none 0 0, .int .i64 14]) ∧ Below w.heap.size w w' :=
  oWordsNo h.on (i := 0) (by decide) a k ha (by omega) (not_M0 hfit (by omega))
theorem St.textNo (h : St w0 w p b q t V) (a k : Nat) (hk : 1 ≤ k ∧ k ≤ 4096) (ha : a < 4294967296) (h64 : 64 ≤ a) :
    Calls Tryd.prog 11 #[.pointer (some ⟨q, 0, none⟩), .int .u32 (a : Int), .int .i64 (k : Int)] w fun e w' => e = .returned (.tuple #[.string ⟨#[]⟩, .int .i64 14]) ∧ Below w.heap.size w w' :=
  (oText h.on (i := 0) (by decide) a k ha hk).mono fun e w' hT => by
    have hM : M0 (a / 64) = false := by
      cases e : M0 (a / 64) with
      | false => rfl
      | true => have := M0_lt _ e; omega
    obtain ⟨h1, h2⟩ := text_none ha hk.1 hM hT
    exact ⟨h2, h1⟩

theorem ents_one {T : Nat → Option En} {x : En} (h0 : T 0 = some x) (hn : ∀ k, 0 < k → T k = none) : ∀ N, ents T (N + 1) = [(0, x)]
  | 0 => by rw [ents_some h0, ents_zero]; rfl
  | N + 1 => by rw [ents_none (hn (N + 1) (by omega))]; exact ents_one h0 hn N
theorem St.page (h : St w0 w p b q t V) : ∃ R B T x, Spc w q p t b 4 R B T ∧ Vw B T M0 V ∧ T 0 = some x ∧ x.w = true ∧ x.s = false ∧ (∀ k, 0 < k → T k = none) ∧ ∀ i, i < 64 → B x.f.toNat i = V i := by
  obtain ⟨R, B, T, h1, h2⟩ := h.on.spc (i := 0) (by decide)
  have h3 : (T 0).isSome = true := h2.is 0
  obtain ⟨x, hx⟩ := Option.isSome_iff_exists.1 h3
  obtain ⟨a1, a2, a3⟩ := h2.of 0 x hx
  refine ⟨R, B, T, x, h1, h2, hx, a1, a2, fun k hk => ?_, fun i hi => by rw [a3 i hi]; simp⟩
  have := h2.is k
  cases e : T k with
  | none => rfl
  | some y =>
    rw [e] at this
    have := M0_lt k this.symm
    omega
theorem St.sum (h : St w0 w p b q t V) (hP : Utb.Pow w) (hs : (rdv V 0 64).sum = 199) :
    Calls Tryd.prog 8 #[.pointer (some ⟨q, 0, none⟩)] w fun e w' => ∃ g cap, e = .returned (.slice (some ⟨g, 0, none⟩) 1 cap) ∧ w'.cell? ⟨g, 0, none⟩ = some (.string line) ∧ Below w.heap.size w w' := by
  obtain ⟨R, B, T, x, h1, h2, h3, h4, h5, h6, h7⟩ := h.page
  refine sum_one w q p t b 4 R B T h1 x (ents_one h3 h6 63) h4 h5 ?_ (fun W hb => pow_below hP hb)
  have e : pgL B (T 0) = rdv V 0 64 := by
    rw [h3]
    show bts (B x.f.toNat) 64 = _
    unfold bts rdv
    exact List.map_congr_left fun i hi => by rw [h7 i (List.mem_range.1 hi), Nat.zero_add]
  rw [e]
  exact hs
/-- Two spaces whose first bytes are not the same. -/
theorem St.first {w1 : World} {p' b' q' t' : Nat} {V' : Nat → Nat} (h : St w0 w p b q t V) (h' : St w1 w p' b' q' t' V') (hne : V 0 ≠ V' 0) :
    Calls Tryd.prog 14 #[.pointer (some ⟨q, 0, none⟩), .pointer (some ⟨q', 0, none⟩)] w fun e w' => e = .returned (.int .i64 0) ∧ Below w.heap.size w w' := by
  obtain ⟨R, B, T, x, h1, h2, h3, h4, h5, h6, h7⟩ := h.page
  obtain ⟨R', B', T', x', g1, g2, g3, g4, g5, g6, g7⟩ := h'.page
  exact first_any w q p t b 4 q' p' t' b' 4 R R' B B' T T' h1 g1 0 (by decide) (fun j hj => absurd hj (Nat.not_lt_zero _)) (fun _ => by
    cases e : sm B B' (T 0) (T' 0) with
    | false => rfl
    | true =>
      exfalso
      rcases sm_iff.1 e with ⟨e1, _⟩ | ⟨y, z, e1, e2, _, _, e3⟩
      · rw [h3] at e1; cases e1
      · rw [h3] at e1
        rw [g3] at e2
        cases e1
        cases e2
        have := e3 0 (by decide)
        rw [h7 0 (by decide), g7 0 (by decide)] at this
        exact hne this)
theorem St.alike {w1 : World} {p' b' q' t' : Nat} (h : St w0 w p b q t V) (h' : St w1 w p' b' q' t' V) :
    Calls Tryd.prog 14 #[.pointer (some ⟨q, 0, none⟩), .pointer (some ⟨q', 0, none⟩)] w fun e w' => e = .returned (.int .i64 (-1)) ∧ Below w.heap.size w w' := by
  obtain ⟨R, B, T, x, h1, h2, _⟩ := h.page
  obtain ⟨R', B', T', x', g1, g2, _⟩ := h'.page
  exact first_any w q p t b 4 q' p' t' b' 4 R R' B B' T T' h1 g1 64 (Nat.le_refl _) (fun j hj => vw_alike h2 g2 (fun _ _ => rfl) j) (fun h => absurd h (by decide))
theorem some_st (w : World) : Calls Tryd.prog 4 #[] w fun e w' => ∃ p b q t, e = .returned (.pointer (some ⟨q, 0, none⟩)) ∧ St w w' p b q t (fun _ => 0) :=
  (some_any w).mono fun e w' ⟨p, b, q, t, h1, h2, h3, h4, _, _, h7⟩ => ⟨p, b, q, t, h1, h2, h3, h4, h7.on⟩

/-- Rows of literals. -/
theorem lit2 (w : World) (x y : Nat) : Slc .u32 (w.alloc (.cells #[.int .u32 (x : Int), .int .u32 (y : Int)] 25)) (.slice (some ⟨w.heap.size, 0, none⟩) 2 2) [x, y] :=
  ⟨_, 2, rfl, Nat.le_refl _, by decide, .inr ⟨w.heap.size, 0, rfl, (Blk.new w _ _).lt, fun i hi => by
    rw [Nat.zero_add, (Blk.new w _ _).cell]
    have hi2 : i < 2 := hi
    rcases (show i = 0 ∨ i = 1 by omega) with rfl | rfl <;> rfl⟩⟩
theorem lit1 (w : World) (x : Nat) : Slc .u32 (w.alloc (.cells #[.int .u32 (x : Int)] 25)) (.slice (some ⟨w.heap.size, 0, none⟩) 1 1) [x] :=
  ⟨_, 1, rfl, Nat.le_refl _, by decide, .inr ⟨w.heap.size, 0, rfl, (Blk.new w _ _).lt, fun i hi => by
    rw [Nat.zero_add, (Blk.new w _ _).cell]
    have hi2 : i < 1 := hi
    obtain rfl : i = 0 := by omega
    rfl⟩⟩
theorem same_bel (va vb : Value) (xs : List Nat) (w : World) (ha : Slc .u32 w va xs) (hb : Slc .u32 w vb xs) :
    Calls Tryd.prog 9 #[va, vb] w fun e w' => e = .returned (.bool true) ∧ Below w.heap.size w w' :=
  (Same.same_any va vb xs w ha hb).mono fun e w' ⟨h1, k, h2⟩ => ⟨h1, by rw [h2]; exact below_drewN (Below.refl _ _) k⟩
theorem info8b : (Tryd.prog.info? 5).map (fun i => (i.zero, i.size, i.bytes)) = some (some (.int .u8 0), 1, 1) := by kernel_rfl
theorem info32b : (Tryd.prog.info? 25).map (fun i => (i.zero, i.size, i.bytes)) = some (some (.int .u32 0), 1, 4) := by kernel_rfl
theorem run_mk32 (w : World) : ∃ W, (mkO 27 (.int .i64 1025) (.int .i64 1025)).run Tryd.prog w = .ok (.slice (some ⟨w.heap.size, 0, none⟩) 1025 1025) W ∧ Below w.heap.size w W := by
  obtain ⟨i0, hi, hz0, hz1, hz2⟩ := info_parts info32b
  have hr := run_make (P := Tryd.prog) w 27 25 i0 (.int .u32 0) Tryd.underlying27 hi hz0 .i64 .i64 1025 1025 (by omega) (Int.le_refl _) (by rw [hz2]; omega) (by omega)
  exact ⟨_, hr, (Below.refl _ _).alloc (Nat.le_refl _) _⟩
theorem run_mk8 (w : World) : ∃ W s, (mkO 37 (.int .i64 4096) (.int .i64 4096)).run Tryd.prog w = .ok (.slice (some ⟨w.heap.size, 0, none⟩) 4096 4096) W ∧ Below w.heap.size w W ∧ (convert 37 9 (.slice (some ⟨w.heap.size, 0, none⟩) 4096 4096)).run Tryd.prog W = .ok (.string s) W ∧ s.size = 4096 := by
  obtain ⟨i0, hi, hz0, hz1, hz2⟩ := info_parts info8b
  have hr := run_make (P := Tryd.prog) w 37 5 i0 (.int .u8 0) Tryd.underlying37 hi hz0 .i64 .i64 4096 4096 (by omega) (Int.le_refl _) (by rw [hz2]; omega) (by omega)
  rw [hz1] at hr
  have hb := Blk.new w (madeCells #[.int .u8 0] 4096) 5
  have hs : Slc .u8 (w.alloc (.cells (madeCells #[.int .u8 0] 4096) 5)) (.slice (some ⟨w.heap.size, 0, none⟩) 4096 4096) (List.replicate 4096 0) := by
    have := Slc.own8 hb (l := List.replicate 4096 0) (cap := 4096) (by rw [List.length_replicate]; exact Nat.le_refl _) (by decide) (fun j hj => by
      rw [List.length_replicate] at hj
      have h1 := toList_madeCells_one (.int .u8 0) 4096
      rw [← Array.getElem?_toList, h1, List.getElem?_replicate, if_pos hj, List.getElem?_replicate, if_pos hj]
      rfl)
    rw [List.length_replicate] at this
    exact this
  refine ⟨_, _, hr, (Below.refl _ _).alloc (Nat.le_refl _) _, BackNums.slc_string hs, ?_⟩
  rw [← nats_len, nats_bstr (fun x hx => by rw [(List.mem_replicate.1 hx).2]; decide), List.length_replicate]

/-- The page's bytes, behind each call that writes. -/
def V1 : Nat → Nat := wrv (fun _ => 0) 60 (nats ⟨#[97, 98]⟩ ++ [0])
def V2 : Nat → Nat := wrv V1 1 (allB [258, 1])
def V3 : Nat → Nat := wrv V2 0 (List.replicate 64 1)
theorem words_a : (List.range 2).map (wd (rdv V2 1 (4 * 2))) = [258, 1] := by decide +kernel
theorem words_b : (List.range 1).map (wd (rdv V2 0 (4 * 1))) = [66048] := by decide +kernel
theorem sum_a : (rdv V2 0 64).sum = 199 := by decide +kernel
theorem v3_0 : V3 0 ≠ (fun _ => 0 : Nat → Nat) 0 := by decide +kernel
end Go.Proofs.YtjoapeeljigjcaaDoor.Utc

/-
  UserNames' walk (gen_utd.py).
-/
namespace Go.Proofs.YtjoapeeljigjcaaDoor.Walk
open Go Go.RowKit Go.Shelf Kit Bk
open Usa Usb Usc Usd Use Usf Usg Ush Usi Usl Usm Usn Uta Utb Utc
set_option linter.unusedVariables false
attribute [local go_sem ↓] Fx.mk_wrap

theorem al (w : World) (o : Obj) : Below w.heap.size w (w.alloc o) := (Below.refl _ _).alloc (Nat.le_refl _) o
set_option maxRecDepth 100000 in
set_option maxHeartbeats 8000000 in
theorem userNames (w : World) (hL : laidMetH Tryd.prog Rows.userNamesRow.laid w) :
    Calls Tryd.prog 3 #[] w fun e w' => e = .returned (.bool true) ∧ Below w.heap.size w w' := by
  have HP := Lib.hid (of_userNames hL)
  clear hL
  go_enter Tryd.func3, Tryd.ntmps3
  have HC := Lib.hid (some_st w)
  go_wp2_with (first
    | (go_at_call 4; (with_reducible refine HC.out.mono ?_); rintro e w1 ⟨p, b, q, t, rfl, hs⟩; clear HC; refine Hid.out ?_)
    | fail)
  have H1 := Lib.hid hs
  clear hs
  refine Lib.hid ?_
  have HC := Lib.hid (H1.out.putText 60 ⟨#[97, 98]⟩ (by decide) (by decide) (by decide))
  rw [show ((60 : Nat) : Int) = 60 from rfl] at HC
  go_wp2_with (first
    | (go_at_call 5; (with_reducible refine HC.out.mono ?_); rintro e w2 ⟨rfl, hs⟩; clear HC; refine Hid.out ?_)
    | fail)
  have H2 : Hid (St w w2 p b q t V1) := Lib.hid hs
  clear hs
  refine Lib.hid ?_
  have HC := Lib.hid ((H2.out.step (al w2 (.cells #[.int .u32 ((258 : Nat) : Int), .int .u32 ((1 : Nat) : Int)] 25))).putWords 1 _ [258, 1] (lit2 w2 258 1) (by decide) (by decide))
  rw [show ((258 : Nat) : Int) = 258 from rfl, show ((1 : Nat) : Int) = 1 from rfl] at HC
  go_wp2_with (first
    | (go_at_call 6; (with_reducible refine HC.out.mono ?_); rintro e w3 ⟨rfl, hs⟩; clear HC; refine Hid.out ?_)
    | fail)
  have H3 : Hid (St w w3 p b q t V2) := Lib.hid hs
  clear hs
  refine Lib.hid ?_
  have HC := Lib.hid (H3.out.words 1 2 (by decide) (by decide) (by decide) _ words_a)
  rw [show ((1 : Nat) : Int) = 1 from rfl, show ((2 : Nat) : Int) = 2 from rfl] at HC
  go_wp2_with (first
    | (go_at_call 7; (with_reducible refine HC.out.mono ?_); rintro e w4 ⟨r1, rfl, hr1, hb⟩; clear HC; refine Hid.out ?_)
    | fail)
  have H4 := Lib.hid (H3.out.step hb)
  have R1 := Lib.hid hr1
  clear hr1 hb
  refine Lib.hid ?_
  have HC := Lib.hid (H4.out.words 0 1 (by decide) (by decide) (by decide) _ words_b)
  rw [show ((0 : Nat) : Int) = 0 from rfl, show ((1 : Nat) : Int) = 1 from rfl] at HC
  go_wp2_with (first
    | (go_at_call 7; (with_reducible refine HC.out.mono ?_); rintro e w5 ⟨r2, rfl, hr2, hb⟩; clear HC; refine Hid.out ?_)
    | fail)
  have H5 := Lib.hid (H4.out.step hb)
  have R1 := Lib.hid (R1.out.below hb)
  have R2 := Lib.hid hr2
  clear hr2 hb
  refine Lib.hid ?_
  have HC := Lib.hid (H5.out.sum (pow_below HP.out H5.out.bel) sum_a)
  go_wp2_with (first
    | (go_at_call 8; (with_reducible refine HC.out.mono ?_); rintro e w6 ⟨g, cap, rfl, hc, hb⟩; clear HC; refine Hid.out ?_)
    | fail)
  have H6 := Lib.hid (H5.out.step hb)
  have R1 := Lib.hid (R1.out.below hb)
  have R2 := Lib.hid (R2.out.below hb)
  have RS := Lib.hid hc
  clear hc hb
  refine Lib.hid ?_
  have HC := Lib.hid (same_bel r1 _ [258, 1] _ (R1.out.below (al w6 (.cells #[.int .u32 ((258 : Nat) : Int), .int .u32 ((1 : Nat) : Int)] 25))) (lit2 w6 258 1))
  rw [show ((258 : Nat) : Int) = 258 from rfl, show ((1 : Nat) : Int) = 1 from rfl] at HC
  go_wp2_with (first
    | (go_at_call 9; (with_reducible refine HC.out.mono ?_); rintro e w7 ⟨rfl, hb⟩; clear HC; refine Hid.out ?_)
    | fail)
  have hb := (al w6 (.cells #[.int .u32 258, .int .u32 1] 25)).trans (hb.mono (al w6 _).size)
  have H7 := Lib.hid (H6.out.step hb)
  have R2 := Lib.hid (R2.out.below hb)
  have RS := Lib.hid (kept_cell hb RS.out)
  clear hb
  refine Lib.hid ?_
  have HC := Lib.hid (same_bel r2 _ [66048] _ (R2.out.below (al w7 (.cells #[.int .u32 ((66048 : Nat) : Int)] 25))) (lit1 w7 66048))
  rw [show ((66048 : Nat) : Int) = 66048 from rfl] at HC
  go_wp2_with (first
    | (go_at_call 9; (with_reducible refine HC.out.mono ?_); rintro e w8 ⟨rfl, hb⟩; clear HC; refine Hid.out ?_)
    | fail)
  have hb := (al w7 (.cells #[.int .u32 66048] 25)).trans (hb.mono (al w7 _).size)
  have H8 := Lib.hid (H7.out.step hb)
  have RS := Lib.hid (kept_cell hb RS.out)
  clear hb
  refine Lib.hid ?_
  have HC := Lib.hid (sameS_any _ g w8.heap.size cap 1 ⟨#[48, 32, 119, 32, 49, 57, 57]⟩ (kept_cell (al w8 (.cells #[.string ⟨#[48, 32, 119, 32, 49, 57, 57]⟩] 9)) RS.out) ((Blk.new w8 _ _).cell 0))
  go_wp2_with (first
    | (go_at_call 10; (with_reducible refine HC.out.mono ?_); rintro e w9 ⟨rfl, hb⟩; clear HC; refine Hid.out ?_)
    | fail)
  have hb := (al w8 (.cells #[.string ⟨#[48, 32, 119, 32, 49, 57, 57]⟩] 9)).trans (hb.mono (al w8 _).size)
  have H9 := Lib.hid (H8.out.step hb)
  clear hb RS R1 R2
  refine Lib.hid ?_
  have HC := Lib.hid (words_arg w9 (.pointer (some ⟨q, 0, none⟩)) 0 1025 (by decide))
  go_wp2_with (first
    | (go_at_call 7; (with_reducible refine HC.out.mono ?_); rintro e wx ⟨rfl, rfl⟩; clear HC; refine Hid.out ?_)
    | fail)
  refine Lib.hid ?_
  have HC := Lib.hid (words_arg w9 (.pointer (some ⟨q, 0, none⟩)) 0 (-1) (by decide))
  go_wp2_with (first
    | (go_at_call 7; (with_reducible refine HC.out.mono ?_); rintro e wx ⟨rfl, rfl⟩; clear HC; refine Hid.out ?_)
    | fail)
  refine Lib.hid ?_
  have HC := Lib.hid (H9.out.wordsNo 61 1 (by decide) (by decide) (by decide) (by decide))
  rw [show ((61 : Nat) : Int) = 61 from rfl, show ((1 : Nat) : Int) = 1 from rfl] at HC
  go_wp2_with (first
    | (go_at_call 7; (with_reducible refine HC.out.mono ?_); rintro e w10 ⟨rfl, hb⟩; clear HC; refine Hid.out ?_)
    | fail)
  have H10 := Lib.hid (H9.out.step hb)
  clear hb
  refine Lib.hid ?_
  have HC := Lib.hid (H10.out.textNo 64 1 (by decide) (by decide) (by decide))
  rw [show ((64 : Nat) : Int) = 64 from rfl, show ((1 : Nat) : Int) = 1 from rfl] at HC
  go_wp2_with (first
    | (go_at_call 11; (with_reducible refine HC.out.mono ?_); rintro e w11 ⟨rfl, hb⟩; clear HC; refine Hid.out ?_)
    | fail)
  have H11 := Lib.hid (H10.out.step hb)
  clear hb
  refine Lib.hid ?_
  have HC := Lib.hid (text_arg w11 (.pointer (some ⟨q, 0, none⟩)) 0 0 (by decide))
  go_wp2_with (first
    | (go_at_call 11; (with_reducible refine HC.out.mono ?_); rintro e wx ⟨rfl, rfl⟩; clear HC; refine Hid.out ?_)
    | fail)
  refine Lib.hid ?_
  have HC := Lib.hid (H11.out.textNo 4294967295 5 (by decide) (by decide) (by decide))
  rw [show ((4294967295 : Nat) : Int) = 4294967295 from rfl, show ((5 : Nat) : Int) = 5 from rfl] at HC
  go_wp2_with (first
    | (go_at_call 11; (with_reducible refine HC.out.mono ?_); rintro e w12 ⟨rfl, hb⟩; clear HC; refine Hid.out ?_)
    | fail)
  have H12 := Lib.hid (H11.out.step hb)
  clear hb
  refine Lib.hid ?_
  have HC := Lib.hid (H12.out.textNo 4096 1 (by decide) (by decide) (by decide))
  rw [show ((4096 : Nat) : Int) = 4096 from rfl, show ((1 : Nat) : Int) = 1 from rfl] at HC
  go_wp2_with (first
    | (go_at_call 11; (with_reducible refine HC.out.mono ?_); rintro e w13 ⟨rfl, hb⟩; clear HC; refine Hid.out ?_)
    | fail)
  have H13 := Lib.hid (H12.out.step hb)
  clear hb
  refine Lib.hid ?_
  have HC := Lib.hid (H13.out.words 4095 0 (by decide) (by decide) (by decide) [] rfl)
  rw [show ((4095 : Nat) : Int) = 4095 from rfl, show ((0 : Nat) : Int) = 0 from rfl] at HC
  go_wp2_with (first
    | (go_at_call 7; (with_reducible refine HC.out.mono ?_); rintro e w14 ⟨r3, rfl, hr3, hb⟩; clear HC; refine Hid.out ?_)
    | fail)
  have H14 := Lib.hid (H13.out.step hb)
  obtain ⟨a3, c3, rfl, -, -, -⟩ := hr3
  rw [List.length_nil]
  clear hb
  refine Lib.hid ?_
  have HC := Lib.hid (alive_any w14)
  go_wp2_with (first
    | (go_at_call 12; (with_reducible refine HC.out.mono ?_); rintro e w15 ⟨rfl, hb⟩; clear HC; refine Hid.out ?_)
    | fail)
  have H15 := Lib.hid (H14.out.step hb)
  obtain ⟨w16, hmk, hbm⟩ := run_mk32 w15
  have H16 := Lib.hid (H15.out.step hbm)
  clear hb hbm
  refine Lib.hid ?_
  have HC := Lib.hid (put_many w16 (.pointer (some ⟨q, 0, none⟩)) 0 (some ⟨w15.heap.size, 0, none⟩) 1025 1025 (by decide) (by decide))
  go_wp2_with (first
    | (go_at_call 6; (with_reducible refine HC.out.mono ?_); rintro e wx ⟨rfl, rfl⟩; clear HC; refine Hid.out ?_)
    | fail)
  clear hmk
  refine Lib.hid ?_
  have HC := Lib.hid (text_zero w16 (.pointer (some ⟨q, 0, none⟩)) 0 ⟨#[97, 0]⟩ (by decide) (by decide))
  go_wp2_with (first
    | (go_at_call 5; (with_reducible refine HC.out.mono ?_); rintro e wx ⟨rfl, rfl⟩; clear HC; refine Hid.out ?_)
    | fail)
  obtain ⟨w17, sz, hmk, hbm, hcv, hsz⟩ := run_mk8 w16
  have H17 := Lib.hid (H16.out.step hbm)
  clear hbm
  refine Lib.hid ?_
  have HC := Lib.hid (text_long w17 (.pointer (some ⟨q, 0, none⟩)) 0 sz (by omega))
  go_wp2_with (first
    | (go_at_call 5; (with_reducible refine HC.out.mono ?_); rintro e wx ⟨rfl, rfl⟩; clear HC; refine Hid.out ?_)
    | fail)
  clear hmk hcv hsz
  refine Lib.hid ?_
  have HC := Lib.hid (fill_arg w17 (.pointer (some ⟨q, 0, none⟩)) (.int .u8 1) 0 4097 (by decide))
  go_wp2_with (first
    | (go_at_call 13; (with_reducible refine HC.out.mono ?_); rintro e wx ⟨rfl, rfl⟩; clear HC; refine Hid.out ?_)
    | fail)
  refine Lib.hid ?_
  have HC := Lib.hid (fill_arg w17 (.pointer (some ⟨q, 0, none⟩)) (.int .u8 1) 0 (-1) (by decide))
  go_wp2_with (first
    | (go_at_call 13; (with_reducible refine HC.out.mono ?_); rintro e wx ⟨rfl, rfl⟩; clear HC; refine Hid.out ?_)
    | fail)
  refine Lib.hid ?_
  have HC := Lib.hid (H17.out.fill 1 (by decide))
  rw [show ((1 : Nat) : Int) = 1 from rfl] at HC
  go_wp2_with (first
    | (go_at_call 13; (with_reducible refine HC.out.mono ?_); rintro e w18 ⟨rfl, hs⟩; clear HC; refine Hid.out ?_)
    | fail)
  have H18 : Hid (St w w18 p b q t V3) := Lib.hid hs
  clear hs
  refine Lib.hid ?_
  have HC := Lib.hid (H18.out.fillNo 1 (by decide))
  rw [show ((1 : Nat) : Int) = 1 from rfl] at HC
  go_wp2_with (first
    | (go_at_call 13; (with_reducible refine HC.out.mono ?_); rintro e w19 ⟨rfl, hs⟩; clear HC; refine Hid.out ?_)
    | fail)
  have H19 : Hid (St w w19 p b q t V3) := Lib.hid hs
  clear hs
  refine Lib.hid ?_
  have HC := Lib.hid (some_st w19)
  go_wp2_with (first
    | (go_at_call 4; (with_reducible refine HC.out.mono ?_); rintro e w20 ⟨p2, b2, q2, t2, rfl, hs⟩; clear HC; refine Hid.out ?_)
    | fail)
  have H20 := Lib.hid (H19.out.step hs.bel)
  have S2 := Lib.hid hs
  clear hs
  refine Lib.hid ?_
  have HC := Lib.hid (H20.out.first S2.out v3_0)
  go_wp2_with (first
    | (go_at_call 14; (with_reducible refine HC.out.mono ?_); rintro e w21 ⟨rfl, hb⟩; clear HC; refine Hid.out ?_)
    | fail)
  have H21 := Lib.hid (H20.out.step hb)
  clear hb S2
  refine Lib.hid ?_
  have HC := Lib.hid (some_st w21)
  go_wp2_with (first
    | (go_at_call 4; (with_reducible refine HC.out.mono ?_); rintro e w22 ⟨p3, b3, q3, t3, rfl, hs⟩; clear HC; refine Hid.out ?_)
    | fail)
  have H22 := Lib.hid (H21.out.step hs.bel)
  have S3 := Lib.hid hs
  clear hs
  refine Lib.hid ?_
  have HC := Lib.hid (some_st w22)
  go_wp2_with (first
    | (go_at_call 4; (with_reducible refine HC.out.mono ?_); rintro e w23 ⟨p4, b4, q4, t4, rfl, hs⟩; clear HC; refine Hid.out ?_)
    | fail)
  have H23 := Lib.hid (H22.out.step hs.bel)
  have S3 := Lib.hid (S3.out.step hs.bel)
  have S4 := Lib.hid hs
  clear hs
  refine Lib.hid ?_
  have HC := Lib.hid (S3.out.alike S4.out)
  go_wp2_with (first
    | (go_at_call 14; (with_reducible refine HC.out.mono ?_); rintro e w24 ⟨rfl, hb⟩; clear HC; refine Hid.out ?_)
    | fail)
  have H24 := Lib.hid (H23.out.step hb)
  clear hb S3 S4
  refine Lib.hid ?_
  go_wp2
  go_ret
  exact ⟨rfl, H24.out.bel⟩
end Go.Proofs.YtjoapeeljigjcaaDoor.Walk
