/-
  A law's spaces: pages mapped one by one; Text by what lies there; the chapter's space.
-/
import Derived.Test.YtjoapeeljigjcaaDoorUsj
namespace Go.Proofs.YtjoapeeljigjcaaDoor.Usl
open Go Go.RowKit Go.Shelf Kit Bk
open Fm hiding Mem made_any len_any
open Fo Fr Fw Fx Fu Fq
open Tm hiding Mem
open Ts Tc Ti Tl Sp Sa Pz To My Pv Mp Mq Dr Cl Iv Iw Ix Sy Rd Usa Usb Usc Usd Use Usf Usg Ush Usi
open BackNums (bstr)
open Usk (TextR good)
set_option linter.unusedVariables false

variable {w w' : World} {p b n m q t : Nat} {qs ts : Nat → Nat} {M : Nat → Bool} {Vs : Nat → Nat → Nat}

/-- A space whose pages are all Write, none Shared, and have noughts. -/
def Flat (w : World) (p b n q t : Nat) (M : Nat → Bool) : Prop :=
  ∃ R T, Sy.Sys w p b n R (fun _ _ => 0) (fun _ => q) (fun _ => t) [T] ∧ (∀ k, (T k).isSome = M k) ∧ ∀ k x, T k = some x → x.w = true ∧ x.s = false
theorem Flat.below (h : Flat w p b n q t M) (hb : Below w.heap.size w w') : Flat w' p b n q t M := by
  obtain ⟨R, T, h1, h2⟩ := h
  exact ⟨R, T, h1.below hb, h2⟩
theorem Flat.on (h : Flat w p b n q t M) : On w p b n (fun _ => q) (fun _ => t) M (fun _ _ => 0) 1 := by
  obtain ⟨R, T, h1, h2, h3⟩ := h
  refine ⟨R, _, [T], h1, rfl, fun j g => ?_⟩
  have : j = 0 := by simpa using g
  subst this
  exact ⟨h2, fun k x hx => ⟨(h3 k x hx).1, (h3 k x hx).2, fun _ _ => rfl⟩⟩
theorem fNew (w : World) (p b n : Nat) (hF : Fm.Mem w p b n (fun _ => 0) (fun _ _ => 0)) :
    Calls Tryd.prog 16 #[.pointer (some ⟨p, 0, none⟩)] w fun e w' => ∃ q t, e = .returned (.pointer (some ⟨q, 0, none⟩)) ∧ w.heap.size ≤ q ∧ w.heap.size ≤ t ∧ Below w.heap.size w w' ∧ Flat w' p b n q t (fun _ => false) := by
  refine (Nw.new_any w p).mono ?_
  rintro e w' ⟨rfl, hb, hS, hT⟩
  refine ⟨_, w.heap.size, rfl, Nat.le_succ _, Nat.le_refl _, hb, fun _ => 0, fun _ => none, ⟨hF.below hb, fun i hi => hS, fun i hi => by
    have : i = 0 := by simpa using hi
    subst this
    exact hT, fun i j hi hj hne => by simp at hi hj; omega, Inv.empty n⟩, fun _ => rfl, fun k x hx => by cases hx⟩
/-- One page more. -/
theorem fMap (h : Flat w p b n q t M) {N : Nat} (hN : ∀ k, M k = true → k < N) (hn : N < n) (k : Nat) (hk : k < 64) (hM : M k = false) :
    Calls Tryd.prog 17 #[.pointer (some ⟨q, 0, none⟩), .int .i64 (k : Int), .int .i64 1, .bool true, .bool false] w fun e w' => e = .returned (.int .i64 0) ∧ Kp (fun j => j = b ∨ j = t) w w' ∧ Flat w' p b n q t (up M k true) := by
  obtain ⟨R, T, h1, h2, h3⟩ := h
  have hx : T k = none := by
    have := h2 k
    rw [hM] at this
    cases e : T k with
    | none => rfl
    | some x => rw [e] at this; cases this
  have hall : allI T k 1 false = true := allI_iff.2 fun j hj => by
    rw [show k + j = k by omega, hx]
    rfl
  have hroom := room_of (N := N) h1.inv (fun U hU j hj => by
    have : U = T := by simpa using hU
    subst this
    exact hN j (by rw [← h2]; exact hj))
  rw [show [T].length * N = N by simp] at hroom
  refine (map_ok w q p t b n T R (fun _ _ => 0) (h1.sp 0 (by simp)) h1.fm (h1.tm 0 (by simp)) k 1 (Nat.le_refl _) (by omega) hall (by omega) true false).mono ?_
  rintro e w' ⟨rfl, hF, hT, hkp⟩
  have hI := (maps_inv (s := ⟨R, fun _ _ => 0, T⟩) h1.inv (i := 0) (by simp) rfl (k := k) (m := 1) (by omega) (fun j hj => by
    show T (k + j) = none
    rw [show k + j = k by omega]
    exact hx) (by show 1 ≤ fre n R; omega) true false 1 (Nat.le_refl _)).1
  refine ⟨rfl, hkp, _, _, h1.step (i := 0) (by simp) hkp hF hT hI, fun j => ?_, fun j x hj => ?_⟩
  · show (up T (k + 0) (some _) j).isSome = up M k true j
    rw [Nat.add_zero]
    by_cases e : j = k
    · subst e; rw [up_same, up_same]; rfl
    · rw [up_other _ _ _ _ e, up_other _ _ _ _ e]; exact h2 j
  · have hj : up T (k + 0) (some ⟨_, true, false, false, true⟩) j = some x := hj
    rw [Nat.add_zero] at hj
    by_cases e : j = k
    · subst e
      rw [up_same] at hj
      cases hj
      exact ⟨rfl, rfl⟩
    · rw [up_other _ _ _ _ e] at hj
      exact h3 j x hj

/-- What Byte answers of a space. -/
def bys (M : Nat → Bool) (V : Nat → Nat) (a x : Nat) : Nat × Bool := if M (Usj.adr a x / 64) = true then (V (Usj.adr a x), true) else (0, false)
theorem bys_yes {V : Nat → Nat} {a x : Nat} (hx : a + x < 4294967296) (h : M ((a + x) / 64) = true) : bys M V a x = (V (a + x), true) := by
  have : Usj.adr a x = a + x := Nat.mod_eq_of_lt hx
  unfold bys
  rw [this, if_pos h]
theorem bys_no {V : Nat → Nat} {a x : Nat} (hx : a + x < 4294967296) (h : M ((a + x) / 64) = false) : bys M V a x = (0, false) := by
  have : Usj.adr a x = a + x := Nat.mod_eq_of_lt hx
  unfold bys
  rw [this, if_neg (by rw [h]; decide)]
theorem onBytes (h : On w p b n qs ts M Vs m) {i : Nat} (hi : i < m) (a k : Nat) : Usj.Bytes w.heap.size w (qs i) a k (bys M (Vs i) a) := fun W hb x _ => by
  have hlt : Usj.adr a x < 4294967296 := Nat.mod_lt _ (by decide)
  unfold bys
  cases hM : M (Usj.adr a x / 64) with
  | true => exact oByte (h.below hb) hi _ hlt hM
  | false => exact oByteNo (h.below hb) hi _ hlt hM
theorem oText (h : On w p b n qs ts M Vs m) {i : Nat} (hi : i < m) (a k : Nat) (ha : a < 4294967296) (hk : 1 ≤ k ∧ k ≤ 4096) :
    Calls Tryd.prog 11 #[.pointer (some ⟨qs i, 0, none⟩), .int .u32 (a : Int), .int .i64 (k : Int)] w (TextR (bys M (Vs i) a) k w) := Usk.text_any w (qs i) a k _ hk ha (onBytes h hi a k)
/-- A text lies there. -/
structure Lies (M : Nat → Bool) (V : Nat → Nat) (a : Nat) (l : List Nat) : Prop where
  top : a + l.length < 4294967296
  is : mpd M a (l.length + 1)
  by_ : ∀ j, j < l.length → V (a + j) = l[j]?.getD 0 ∧ V (a + j) ≠ 0
  no : V (a + l.length) = 0
theorem Lies.text {V : Nat → Nat} {a k : Nat} {l : List Nat} {e : Ending} (hl : Lies M V a l) (h : TextR (bys M V a) k w e w') :
    Below w.heap.size w w' ∧ e = .returned (if l.length < k then .tuple #[.string (bstr l), .int .i64 0] else .tuple #[.string ⟨#[]⟩, .int .i64 22]) := by
  obtain ⟨hb, d, hd, hall, hend⟩ := h
  have hgood : ∀ x, x < l.length → good (bys M V a) x := fun x hx => by
    unfold good
    have := hl.top
    rw [bys_yes (by omega) (hl.is _ (by omega) (by omega))]
    exact ⟨rfl, (hl.by_ x hx).2⟩
  have hat : bys M V a l.length = (0, true) := by
    rw [bys_yes hl.top (hl.is _ (by omega) (by omega)), hl.no]
  have hdl : d ≤ l.length := by
    rcases Nat.lt_or_ge l.length d with h | h
    · have := hall _ h
      unfold good at this
      rw [hat] at this
      exact absurd rfl this.2
    · exact h
  refine ⟨hb, ?_⟩
  rcases hend with ⟨h1, rfl⟩ | ⟨h1, h2, rfl⟩ | ⟨h1, h2, h3, rfl⟩
  · rw [if_neg (by omega)]
  · exfalso
    by_cases e : d = l.length
    · rw [e, hat] at h2; cases h2
    · have := (hgood d (by omega)).1
      rw [h2] at this
      cases this
  · have e : d = l.length := by
      apply Classical.byContradiction
      intro h
      exact (hgood d (by omega)).2 h3
    subst e
    rw [if_pos h1]
    have e : (List.range l.length).map (fun x => (bys M V a x).1) = l := by
      apply List.ext_getElem
      · simp
      · intro j g1 g2
        rw [List.getElem_map, List.getElem_range]
        have := hl.top
        rw [bys_yes (by omega) (hl.is _ (by omega) (by omega))]
        show V (a + j) = l[j]
        rw [(hl.by_ j g2).1, List.getElem?_eq_getElem g2]
        rfl
    rw [e]
/-- Nothing is mapped there. -/
theorem text_none {V : Nat → Nat} {a k : Nat} {e : Ending} (ha : a < 4294967296) (hk : 1 ≤ k) (hM : M (a / 64) = false) (h : TextR (bys M V a) k w e w') :
    Below w.heap.size w w' ∧ e = .returned (.tuple #[.string ⟨#[]⟩, .int .i64 14]) := by
  obtain ⟨hb, d, hd, hall, hend⟩ := h
  have h0 : bys M V a 0 = (0, false) := bys_no (by omega) hM
  have hd0 : d = 0 := by
    apply Classical.byContradiction
    intro h
    have := (hall 0 (by omega)).1
    rw [h0] at this
    cases this
  subst hd0
  refine ⟨hb, ?_⟩
  rcases hend with ⟨h1, rfl⟩ | ⟨h1, h2, rfl⟩ | ⟨h1, h2, h3, rfl⟩
  · omega
  · rfl
  · rw [h0] at h2; cases h2
set_option maxRecDepth 100000 in
theorem text_arg (w : World) (sp : Value) (a k : Int) (hk : k < 1 ∨ 4096 < k) :
    Calls Tryd.prog 11 #[sp, .int .u32 a, .int .i64 k] w fun e w' => e = .returned (.tuple #[.string ⟨#[]⟩, .int .i64 22]) ∧ w = w' := by
  by_cases h0 : k < 1
  · have hd1 : decide (k < 1) = true := decide_eq_true h0
    clear hk
    go_enter Tryd.func11, Tryd.ntmps11
    go_wp2
    refine wp_scope_straight ?_
    go_wp2
    rw [Exit.noGoto_ret]
    go_ret2
    exact ⟨rfl, rfl⟩
  · have hd1 : decide (k < 1) = false := decide_eq_false h0
    have hd2 : decide ((4096 : Int) < k) = true := decide_eq_true (by omega)
    clear hk
    go_enter Tryd.func11, Tryd.ntmps11
    go_wp2
    refine wp_scope_straight ?_
    go_wp2
    rw [Exit.noGoto_ret]
    go_ret2
    exact ⟨rfl, rfl⟩
/-- A write of a text lets it lie there. -/
theorem lies_put {V : Nat → Nat} {a : Nat} {l : List Nat} (ha : a + l.length < 4294967296) (hM : mpd M a (l ++ [0]).length) (h0 : 0 ∉ l) : Lies M (wrv V a (l ++ [0])) a l := by
  rw [List.length_append] at hM
  refine ⟨ha, hM, fun j hj => ?_, ?_⟩
  · rw [wrv_in (by rw [List.length_append]; omega), List.getElem_append_left hj, List.getElem?_eq_getElem hj]
    exact ⟨rfl, fun e => h0 (by rw [← e]; exact List.getElem_mem _)⟩
  · rw [wrv_in (by rw [List.length_append]; simp), List.getElem_append_right (Nat.le_refl _)]
    simp
/-- From each of its places on. -/
theorem Lies.from_ {V : Nat → Nat} {a : Nat} {l : List Nat} (h : Lies M V a l) {k : Nat} (hk : k ≤ l.length) : Lies M V (a + k) (l.drop k) := by
  have h1 := h.top
  refine ⟨by rw [List.length_drop]; omega, fun x h2 h3 => h.is x (by omega) (by rw [List.length_drop] at h3; omega), fun j hj => ?_, ?_⟩
  · rw [List.length_drop] at hj
    rw [Nat.add_assoc, List.getElem?_drop]
    exact h.by_ _ (by omega)
  · rw [List.length_drop, show a + k + (l.length - k) = a + l.length by omega]
    exact h.no

set_option maxRecDepth 100000 in
theorem some_any (w : World) : Calls Tryd.prog 4 #[] w fun e w' => ∃ p b q t, e = .returned (.pointer (some ⟨q, 0, none⟩)) ∧ Below w.heap.size w w' ∧ w.heap.size ≤ b ∧ w.heap.size ≤ t ∧ w.heap.size ≤ p ∧ w.heap.size ≤ q ∧ Flat w' p b 4 q t (up (fun _ => false) 0 true) := by
  have HN := Lib.hid (new_ok w 4 (by decide))
  rw [show ((4 : Nat) : Int) = 4 from rfl] at HN
  go_enter Tryd.func4, Tryd.ntmps4
  go_wp2_with (first
    | (go_at_call 15; (with_reducible refine HN.out.mono ?_); rintro e w1 ⟨hb, p, b, rfl, hp, hbb, hF⟩; have H1 := Lib.hid (And.intro hb (And.intro hp (And.intro hbb hF))); clear hb hp hbb hF)
    | (go_at_call 16; (with_reducible refine (fNew _ p b 4 H1.out.2.2.2).mono ?_); rintro e w2 ⟨q, t, rfl, hq, ht, hb, hFl⟩; have H2 := Lib.hid (And.intro (H1.out.1.trans (hb.mono H1.out.1.size)) (And.intro hq (And.intro ht hFl))); have HM := Lib.hid (fMap H2.out.2.2.2 (N := 0) (fun k h => by cases h) (by decide) 0 (by decide) rfl); rw [show ((0 : Nat) : Int) = 0 from rfl] at HM; clear hb hq ht hFl)
    | (go_at_call 17; (with_reducible refine HM.out.mono ?_); rintro e w3 ⟨rfl, hk, hFl⟩; have H3 := Lib.hid (And.intro hk hFl); clear hk hFl))
  go_ret
  have hs1 := H1.out.1.size
  exact ⟨p, b, q, t, rfl, H2.out.1.trans (H3.out.1.below H2.out.1.size (fun j hj => by rcases hj with rfl | rfl; exact H1.out.2.2.1; exact Nat.le_trans hs1 H2.out.2.2.1)), H1.out.2.2.1, Nat.le_trans hs1 H2.out.2.2.1, H1.out.2.1, Nat.le_trans hs1 H2.out.2.1, H3.out.2⟩
end Go.Proofs.YtjoapeeljigjcaaDoor.Usl

/-
  alive: the chapter's first examples.
-/
namespace Go.Proofs.YtjoapeeljigjcaaDoor.Usm
open Go Go.RowKit Go.Shelf Kit Bk
open Usa Usb Usc Usd Use Usf Usg Ush Usi Usl
open BackNums (bstr)
open Usk (TextR good)
set_option linter.unusedVariables false

def M0 : Nat → Bool := up (fun _ => false) 0 true
theorem M0_lt (k : Nat) (h : M0 k = true) : k < 1 := by
  unfold M0 up at h
  split at h
  · omega
  · cases h
theorem mpd_M0 {a m : Nat} (h : a + m ≤ 64) : mpd M0 a m := fun x h1 h2 => by
  rw [show x / 64 = 0 by omega]
  rfl
theorem not_M0 {a m : Nat} (h : 64 < a + m) (hm : m ≠ 0) : ¬ mpd M0 a m := fun h1 => by
  have := M0_lt _ (h1 (a + m - 1) (by omega) (by omega))
  omega
theorem put_yes {M : Nat → Bool} {Vs Vs' : Nat → Nat → Nat} {n m i a N : Nat} {xs : List Nat} {code : Int} (h : Put M Vs Vs' n m i a xs code) (hM : mpd M a xs.length) (hN : ∀ k, M k = true → k < N) (hr : m * N + Pz.cn a xs.length ≤ n) : code = 0 ∧ Vs' = up Vs i (wrv (Vs i) a xs) := by
  rcases h with ⟨h1, _, h3⟩ | ⟨_, h2, _⟩ | ⟨_, _, h3, _⟩
  · exact ⟨h1, h3⟩
  · exact absurd hM h2
  · have := h3 N hN
    exact absurd hr (Nat.not_le.2 this)
theorem put_no {M : Nat → Bool} {Vs Vs' : Nat → Nat → Nat} {n m i a : Nat} {xs : List Nat} {code : Int} (h : Put M Vs Vs' n m i a xs code) (hM : ¬ mpd M a xs.length) : code = 14 ∧ Vs' = Vs := by
  rcases h with ⟨_, h2, _⟩ | ⟨h1, _, h3⟩ | ⟨_, h2, _⟩
  · exact absurd h2 hM
  · exact ⟨h1, h3⟩
  · exact absurd h2 hM
theorem ab : nats ⟨#[97, 98]⟩ = [97, 98] := rfl
theorem ab' : bstr [97, 98] = ⟨#[97, 98]⟩ := by
  rw [← ab, bstr_nats]

set_option maxRecDepth 100000 in
set_option maxHeartbeats 2000000 in
theorem alive_any (w : World) : Calls Tryd.prog 12 #[] w fun e w' => e = .returned (.bool true) ∧ Below w.heap.size w w' := by
  have HS := Lib.hid (some_any w)
  go_enter Tryd.func12, Tryd.ntmps12
  go_wp2_with (first
    | (go_at_call 4; (with_reducible refine HS.out.mono ?_); rintro e w1 ⟨p, b, q, t, rfl, hb, hbb, ht, _, _, hF⟩; have H1 := Lib.hid (And.intro hb (And.intro hbb ht)); have HO1 := Lib.hid (show On w1 p b 4 (fun _ => q) (fun _ => t) M0 (fun _ _ => 0) 1 from hF.on); have HP := Lib.hid (oPutText HO1.out (i := 0) (by decide) 60 (by decide) ⟨#[97, 98]⟩ (by decide) (by rw [ab]; decide)); rw [show ((60 : Nat) : Int) = 60 from rfl] at HP; clear hb hbb ht hF; refine Hid.out ?_)
    | fail)
  refine Lib.hid ?_
  go_wp2_with (first
    | (go_at_call 5; (with_reducible refine HP.out.mono ?_); rintro e w2 ⟨code, Vs', rfl, hk, hO, hp⟩; obtain ⟨rfl, rfl⟩ := put_yes hp (by rw [ab]; exact mpd_M0 (by decide)) M0_lt (by rw [ab]; decide); rw [ab] at hO; have HO2 := Lib.hid hO; have H2 := Lib.hid (H1.out.1.trans (hk.below H1.out.1.size (fun j hj => by rcases hj with rfl | rfl; exact H1.out.2.1; exact H1.out.2.2))); have HP2 := Lib.hid (oPutText HO2.out (i := 0) (by decide) 62 (by decide) ⟨#[97, 98]⟩ (by decide) (by rw [ab]; decide)); rw [show ((62 : Nat) : Int) = 62 from rfl] at HP2; clear hk hO hp HP; refine Hid.out ?_)
    | fail)
  refine Lib.hid ?_
  go_wp2_with (first
    | (go_at_call 5; (with_reducible refine HP2.out.mono ?_); rintro e w3 ⟨code, Vs', rfl, hk, hO, hp⟩; obtain ⟨rfl, rfl⟩ := put_no hp (by rw [ab]; exact not_M0 (by decide) (by decide)); have HO3 := Lib.hid hO; have H3 := Lib.hid (H2.out.trans (hk.below H2.out.size (fun j hj => by rcases hj with rfl | rfl; exact H1.out.2.1; exact H1.out.2.2))); have HT1 := Lib.hid (oText HO3.out (i := 0) (by decide) 60 9 (by decide) (by decide)); rw [show ((60 : Nat) : Int) = 60 from rfl, show ((9 : Nat) : Int) = 9 from rfl] at HT1; clear hk hO hp HP2; refine Hid.out ?_)
    | fail)
  refine Lib.hid ?_
  have HL : Hid (Lies M0 (up (fun _ _ => 0) 0 (wrv ((fun _ _ => 0) 0) 60 ([97, 98] ++ [0])) 0) 60 [97, 98]) := Lib.hid (by rw [up_same]; exact lies_put (by decide) (mpd_M0 (by decide)) (by decide))
  go_wp2_with (first
    | (go_at_call 11; (with_reducible refine HT1.out.mono ?_); intro e w4 hT; obtain ⟨hb4, rfl⟩ := HL.out.text hT; rw [if_pos (by decide), ab']; have H4 := Lib.hid (H3.out.trans (hb4.mono H3.out.size)); have HT2 := Lib.hid (oText (HO3.out.below hb4) (i := 0) (by decide) 60 2 (by decide) (by decide)); rw [show ((60 : Nat) : Int) = 60 from rfl, show ((2 : Nat) : Int) = 2 from rfl] at HT2; clear hT hb4 HT1; refine Hid.out ?_)
    | fail)
  refine Lib.hid ?_
  go_wp2_with (first
    | (go_at_call 11; (with_reducible refine HT2.out.mono ?_); intro e w5 hT; obtain ⟨hb5, rfl⟩ := HL.out.text hT; rw [if_neg (by decide)]; have H5 := Lib.hid (H4.out.trans (hb5.mono H4.out.size)); clear hT hb5 HT2; refine Hid.out ?_)
    | fail)
  refine Lib.hid ?_
  go_wp2
  go_ret
  exact ⟨rfl, H5.out⟩
end Go.Proofs.YtjoapeeljigjcaaDoor.Usm

/-
  mapped: a space with some of its first 16 pages.
-/
namespace Go.Proofs.YtjoapeeljigjcaaDoor.Usn
open Go Go.RowKit Go.Shelf Kit Bk
open Usa Usb Usc Usd Use Usf Usg Ush Usi Usl Usm
set_option linter.unusedVariables false

theorem u16_nat {a : Int} (h : (Lit.int .u16 a).wf = true) : ∃ n : Nat, a = (n : Int) ∧ n < 65536 := by
  have hx : 0 ≤ a ∧ a ≤ 65535 := by simpa [Lit.wf, IntKind.min, IntKind.max, IntKind.signed, IntKind.bits] using h
  exact ⟨a.toNat, by omega, by omega⟩
end Go.Proofs.YtjoapeeljigjcaaDoor.Usn
