/-
  The document's number, and its label: is a text a name?
-/
import Derived.Test.YtocbilaaklapkaaDoorRdig3
import Derived.Test.YtocbilaaklapkaaDoorRa
import Derived.Test.YtocbilaaklapkaaDoorIsaO
namespace Go.Proofs.YtocbilaaklapkaaDoor.Rd
open Go Go.RowKit Kit IsaM IsaT IsaN IsaD IsaA Rdig3 IsaO
set_option linter.unusedVariables false

/-- What number answers: v, and whether the text is v's numeral. -/
def NumR (t : Tx) (v : Int) (ok : Bool) : Prop := (ok = true → Lib.itoa v = t ∧ -9999999999 ≤ v ∧ v ≤ 9999999999 ∧ t.length ≤ 10) ∧ (∀ x, Lib.itoa x = t → t.length ≤ 10 → ok = true)
theorem len_eq (s : ByteArray) : s.data.toList.length = s.size := by simp
theorem itoa_ne (x : Int) : Lib.itoa x ≠ [] ∧ Lib.itoa x ≠ [45] := by
  by_cases hv : x < 0
  · obtain ⟨u, rfl⟩ : ∃ u : Nat, x = -(u : Int) := ⟨x.natAbs, by omega⟩
    rw [Lib.itoa_neg u (by omega)]
    exact ⟨by simp, by simp [dd_ne]⟩
  · obtain ⟨u, rfl⟩ := Int.eq_ofNat_of_zero_le (show 0 ≤ x by omega)
    rw [Lib.itoa_nonneg]
    refine ⟨dd_ne u, fun e => ?_⟩
    obtain ⟨c, r, hd, hc⟩ := dd_first u
    rw [hd] at e
    injection e with e1 e2
    subst e1
    exact absurd hc (by decide)
/-- A numeral that begins with '-' is a number's below 0. -/
theorem itoa_minus {x : Int} {r : Tx} (h : Lib.itoa x = 45 :: r) : ∃ u : Nat, x = -(u : Int) ∧ r = Lib.decDigits u := by
  by_cases hv : x < 0
  · obtain ⟨u, rfl⟩ : ∃ u : Nat, x = -(u : Int) := ⟨x.natAbs, by omega⟩
    rw [Lib.itoa_neg u (by omega)] at h
    exact ⟨u, rfl, by injection h with _ h; exact h.symm⟩
  · obtain ⟨u, rfl⟩ := Int.eq_ofNat_of_zero_le (show 0 ≤ x by omega)
    rw [Lib.itoa_nonneg] at h
    obtain ⟨c, r', hd, hc⟩ := dd_first u
    rw [hd] at h
    injection h with e1 e2
    subst e1
    exact absurd hc (by decide)
theorem itoa_plus {x : Int} {t : Tx} (h : Lib.itoa x = t) (h0 : t.head? ≠ some 45) : ∃ u : Nat, x = (u : Int) ∧ t = Lib.decDigits u := by
  by_cases hv : x < 0
  · obtain ⟨u, rfl⟩ : ∃ u : Nat, x = -(u : Int) := ⟨x.natAbs, by omega⟩
    rw [Lib.itoa_neg u (by omega)] at h
    rw [← h] at h0
    exact absurd rfl h0
  · obtain ⟨u, rfl⟩ := Int.eq_ofNat_of_zero_le (show 0 ≤ x by omega)
    rw [Lib.itoa_nonneg] at h
    exact ⟨u, rfl, h.symm⟩
theorem drop_head {s : ByteArray} (h : 0 < s.size) {c : UInt8} (hc : s[0] = c) : s.data.toList = c :: s.data.toList.drop 1 := by
  have e : s.data.toList[0]'(by have := len_eq s; omega) = c := by rw [← hc]; rfl
  have h2 := List.drop_eq_getElem_cons (l := s.data.toList) (i := 0) (by have := len_eq s; omega)
  rw [List.drop_zero, e] at h2
  exact h2
theorem head_of {s : ByteArray} (h : 0 < s.size) : s.data.toList.head? = some s[0] := by rw [drop_head h rfl]; rfl
/-- The digits behind the sign, k of them. -/
def Dk (s : ByteArray) (at' k : Nat) : Tx := (s.data.toList.drop at').take k
def Good (s : ByteArray) (at' k : Nat) : Prop := ∀ c ∈ Dk s at' k, isDg c = true
theorem dk_snoc {s : ByteArray} {at' k : Nat} (h : at' + k < s.size) : Dk s at' (k + 1) = Dk s at' k ++ [s[at' + k]] := by
  unfold Dk
  rw [List.take_succ_eq_append_getElem (by rw [List.length_drop]; have := len_eq s; omega), List.getElem_drop]
  rfl
theorem dk_val {s : ByteArray} {at' k : Nat} (h : at' + k < s.size) : val (Dk s at' (k + 1)) = 10 * val (Dk s at' k) + (s[at' + k].toNat - 48) := by rw [dk_snoc h, IsaO.val_snoc]
theorem Good.next {s : ByteArray} {at' k : Nat} (hd : Good s at' k) (h : at' + k < s.size) (hc : isDg s[at' + k] = true) : Good s at' (k + 1) := fun c hm => by
  rw [dk_snoc h] at hm
  rcases List.mem_append.1 hm with hm | hm
  · exact hd c hm
  · rw [List.mem_singleton.1 hm]; exact hc
theorem Good.val {s : ByteArray} {at' k : Nat} (hd : Good s at' k) (h : k ≤ 10) : val (Dk s at' k) ≤ 9999999999 := by
  have h1 := val_lt _ hd
  have h2 := pow10_le (k := (Dk s at' k).length) (by unfold Dk; rw [List.length_take]; omega)
  omega
theorem dk_all {s : ByteArray} {at' k : Nat} (h : at' + k = s.size) : Dk s at' k = s.data.toList.drop at' := by
  unfold Dk
  exact List.take_of_length_le (by rw [List.length_drop]; have := len_eq s; omega)
/-- A sign of which no numeral has any. -/
theorem bad0 {s : ByteArray} {k : Nat} (h : 0 + k < s.size) (h0 : s.data.toList.head? ≠ some 45) (hc : isDg s[0 + k] = false) : ∀ x, Lib.itoa x ≠ s.data.toList := fun x hx => by
  obtain ⟨u, _, hu⟩ := itoa_plus hx h0
  have h1 := dd_all u
  rw [← hu, List.all_eq_true] at h1
  have h2 := h1 (s[0 + k]) (by show s.data[0 + k] ∈ s.data.toList; simp)
  rw [hc] at h2
  cases h2
theorem bad1 {s : ByteArray} {k : Nat} (h : 1 + k < s.size) (h0 : s.data.toList.head? = some 45) (hc : isDg s[1 + k] = false) : ∀ x, Lib.itoa x ≠ s.data.toList := fun x hx => by
  have hp : 0 < s.size := by omega
  have e := drop_head hp rfl
  rw [head_of hp] at h0
  rw [Option.some.inj h0] at e
  rw [e] at hx
  obtain ⟨u, _, hu⟩ := itoa_minus hx
  have h1 := dd_all u
  rw [← hu, List.all_eq_true] at h1
  have h2 := h1 (s[1 + k]) (by
    have e2 : s[1 + k] = (s.data.toList.drop 1)[k]'(by rw [List.length_drop]; have := len_eq s; omega) := by rw [List.getElem_drop]; rfl
    rw [e2]
    exact List.getElem_mem _)
  rw [hc] at h2
  cases h2
theorem fin0 {s : ByteArray} {k : Nat} (h : 0 + k = s.size) (h0 : s.data.toList.head? ≠ some 45) (x : Int) (hx : Lib.itoa x = s.data.toList) : Lib.itoa (val (Dk s 0 k) : Int) = s.data.toList := by
  obtain ⟨u, rfl, hu⟩ := itoa_plus hx h0
  rw [dk_all h, List.drop_zero, hu, dd_val, Lib.itoa_nonneg]
theorem fin1 {s : ByteArray} {k : Nat} (h : 1 + k = s.size) (h0 : s.data.toList.head? = some 45) (x : Int) (hx : Lib.itoa x = s.data.toList) : Lib.itoa (-(val (Dk s 1 k) : Int)) = s.data.toList := by
  have hp : 0 < s.size := by omega
  have e := drop_head hp rfl
  rw [head_of hp] at h0
  rw [Option.some.inj h0] at e
  rw [e] at hx
  obtain ⟨u, rfl, hu⟩ := itoa_minus hx
  rw [dk_all h, hu, dd_val, hx, ← e]
theorem numR_no (t : Tx) (h : ∀ x, Lib.itoa x = t → t.length ≤ 10 → False) (v : Int) : NumR t v false := ⟨(fun e => by cases e), fun x hx hl => (h x hx hl).elim⟩
theorem numR_end {t : Tx} {v : Int} (hl : t.length ≤ 10) (h0 : -9999999999 ≤ v) (h1 : v ≤ 9999999999) (h : ∀ x, Lib.itoa x = t → Lib.itoa v = t) (ok : Bool) (hok : ok = decide (Lib.itoa v = t)) : NumR t v ok := by
  subst hok
  exact ⟨fun e => ⟨of_decide_eq_true e, h0, h1, hl⟩, fun x hx _ => decide_eq_true (h x hx)⟩

/-- What the walk of number ends in. -/
def NumE (s : ByteArray) (w : World) (e : Ending) (w' : World) : Prop := (∃ v ok, e = .returned (.tuple #[.int .i64 v, .bool ok]) ∧ NumR s.data.toList v ok) ∧ Below w.heap.size w w'
theorem numE_mk {s : ByteArray} {w : World} {e : Ending} {w' : World} (v : Int) (ok : Bool) (he : e = .returned (.tuple #[.int .i64 v, .bool ok])) (hn : NumR s.data.toList v ok) (hb : Below w.heap.size w w') : NumE s w e w' := ⟨⟨v, ok, he, hn⟩, hb⟩
theorem st_self (s : ByteArray) : st s.data.toList = s := by unfold st; simp
theorem cmp_st (l : Tx) (s : ByteArray) : ((st l).toList == s.toList) = decide (l = s.data.toList) := by
  rw [ByteArray.toList_eq, ByteArray.toList_eq, st_data]
  by_cases h : l = s.data.toList
  · rw [h]; simp
  · rw [decide_eq_false h]; simpa using h

set_option maxHeartbeats 2000000 in
theorem num_go0 (s : ByteArray) (w : World) (hp : 0 < s.size) (hl : s.size ≤ 10) (h45 : s.data.toList.head? ≠ some 45) :
    Calls Tryd.prog 45 #[.string s] w (NumE s w) := by
  have h0s : 0 < s.size := by omega
  have hq : ((s[0].toNat : Int) == 45) = false := by
    have hh := head_of h0s
    rw [hh] at h45

    rw [beq_eq_false_iff_ne]
    intro e
    exact h45 (by rw [show s[0] = 45 from UInt8.toNat_inj.1 (by show s[0].toNat = 45; omega)])
  have hz0 : ((s.size : Int) == 0) = false := by rw [beq_eq_false_iff_ne]; omega
  have hsz0 : decide (10 < (s.size : Int)) = false := decide_eq_false (by omega)
  have H45 := Lib.hid h45
  clear h45
  go_enter Tryd.func45, Tryd.ntmps45
  go_wp2
  go_loop [5, 6] (fun n i => ∃ k : Nat, 0 + k ≤ s.size ∧ n = .int .i64 ((val (Dk s 0 k) : Nat) : Int) ∧ i = .int .i64 ((0 : Int) + (k : Int)) ∧ Hid (Good s 0 k)) (fun _ i => (s.size + 1 - (intOf i).toNat))
  case atStart => exact ⟨0, by omega, rfl, rfl, fun c hc => by simp [Dk] at hc⟩
  case round =>
    obtain ⟨k, hle, rfl, rfl, HD⟩ := hrel
    have hV := HD.out.val (by omega)
    by_cases hlt : 0 + k < s.size
    · obtain ⟨x, hx⟩ : ∃ x : UInt8, s[0 + k]'hlt = x := ⟨_, rfl⟩
      have HX := Lib.hid hx
      try simp only [Nat.zero_add] at hx
      have hxb : x.toNat < 256 := x.toNat_lt
      by_cases h48 : x.toNat < 48
      · have HB := Lib.hid (bad0 hlt H45.out (by rw [HX.out]; unfold isDg; simp; omega))
        go_wp2
        go_ret2
        exact numE_mk 0 false rfl (numR_no _ (fun y hy _ => HB.out y hy) 0) (Below.refl _ _)
      · by_cases h57 : 57 < x.toNat
        · have HB := Lib.hid (bad0 hlt H45.out (by rw [HX.out]; unfold isDg; simp; omega))
          go_wp2
          go_ret2
          exact numE_mk 0 false rfl (numR_no _ (fun y hy _ => HB.out y hy) 0) (Below.refl _ _)
        · have HS := Lib.hid (dk_val hlt)
          have HG := Lib.hid (HD.out.next hlt (by rw [HX.out]; unfold isDg; simp; omega))
          go_wp2
          go_round
          case rel =>
            have hs := HS.out
            rw [HX.out] at hs
            exact ⟨k + 1, by omega, by rw [hs]; go_num, by go_num, HG⟩
          case measure => simp [intOf]; omega
    · have hk : 0 + k = s.size := by omega
      have HF := Lib.hid (fin0 hk H45.out)
      obtain ⟨V, hVe⟩ : ∃ V, val (Dk s 0 k) = V := ⟨_, rfl⟩
      rw [hVe] at hV HF ⊢
      have HDg := Lib.hid (fun wx => digits_any ((V : Int)) (by omega) (by omega) wx)
      clear hVe
      go_wp2_with (first | (go_at_call 36; go_loud ((with_reducible refine (HDg.out _).mono ?_); rintro e w1 ⟨rfl, hb1⟩; refine Hid.out ?_)))
      refine Lib.hid ?_
      go_wp2
      go_ret2
      exact numE_mk ((V : Int)) (decide (Lib.itoa ((V : Int)) = s.data.toList)) (by rw [← cmp_st]; rfl) (numR_end (by rw [len_eq]; exact hl) (by omega) (by omega) HF.out _ rfl) hb1
set_option maxHeartbeats 2000000 in
theorem num_go1 (s : ByteArray) (w : World) (hp : 1 < s.size) (hl : s.size ≤ 10) (h45 : s.data.toList.head? = some 45) :
    Calls Tryd.prog 45 #[.string s] w (NumE s w) := by
  have h0s : 0 < s.size := by omega
  have hq : ((s[0].toNat : Int) == 45) = true := by
    have hh := head_of h0s
    rw [hh] at h45

    rw [Option.some.inj h45]
    rfl
  have hz1 : ((s.size : Int) == 1) = false := by rw [beq_eq_false_iff_ne]; omega
  have hsz0 : decide (10 < (s.size : Int)) = false := decide_eq_false (by omega)
  have H45 := Lib.hid h45
  clear h45
  go_enter Tryd.func45, Tryd.ntmps45
  go_wp2
  go_loop [5, 6] (fun n i => ∃ k : Nat, 1 + k ≤ s.size ∧ n = .int .i64 ((val (Dk s 1 k) : Nat) : Int) ∧ i = .int .i64 ((1 : Int) + (k : Int)) ∧ Hid (Good s 1 k)) (fun _ i => (s.size + 1 - (intOf i).toNat))
  case atStart => exact ⟨0, by omega, rfl, rfl, fun c hc => by simp [Dk] at hc⟩
  case round =>
    obtain ⟨k, hle, rfl, rfl, HD⟩ := hrel
    have hV := HD.out.val (by omega)
    by_cases hlt : 1 + k < s.size
    · obtain ⟨x, hx⟩ : ∃ x : UInt8, s[1 + k]'hlt = x := ⟨_, rfl⟩
      have HX := Lib.hid hx
      try simp only [Nat.zero_add] at hx
      have hxb : x.toNat < 256 := x.toNat_lt
      by_cases h48 : x.toNat < 48
      · have HB := Lib.hid (bad1 hlt H45.out (by rw [HX.out]; unfold isDg; simp; omega))
        go_wp2
        go_ret2
        exact numE_mk 0 false rfl (numR_no _ (fun y hy _ => HB.out y hy) 0) (Below.refl _ _)
      · by_cases h57 : 57 < x.toNat
        · have HB := Lib.hid (bad1 hlt H45.out (by rw [HX.out]; unfold isDg; simp; omega))
          go_wp2
          go_ret2
          exact numE_mk 0 false rfl (numR_no _ (fun y hy _ => HB.out y hy) 0) (Below.refl _ _)
        · have HS := Lib.hid (dk_val hlt)
          have HG := Lib.hid (HD.out.next hlt (by rw [HX.out]; unfold isDg; simp; omega))
          go_wp2
          go_round
          case rel =>
            have hs := HS.out
            rw [HX.out] at hs
            exact ⟨k + 1, by omega, by rw [hs]; go_num, by go_num, HG⟩
          case measure => simp [intOf]; omega
    · have hk : 1 + k = s.size := by omega
      have HF := Lib.hid (fin1 hk H45.out)
      obtain ⟨V, hVe⟩ : ∃ V, val (Dk s 1 k) = V := ⟨_, rfl⟩
      rw [hVe] at hV HF ⊢
      have HDg := Lib.hid (fun wx => digits_any (-(V : Int)) (by omega) (by omega) wx)
      clear hVe
      go_wp2_with (first | (go_at_call 36; go_loud ((with_reducible refine (HDg.out _).mono ?_); rintro e w1 ⟨rfl, hb1⟩; refine Hid.out ?_)))
      refine Lib.hid ?_
      go_wp2
      go_ret2
      exact numE_mk (-(V : Int)) (decide (Lib.itoa (-(V : Int)) = s.data.toList)) (by rw [← cmp_st]; rfl) (numR_end (by rw [len_eq]; exact hl) (by omega) (by omega) HF.out _ rfl) hb1

set_option maxHeartbeats 1000000 in
theorem rnum_any (s : ByteArray) (hs : s.size ≤ 1000000) (w : World) :
    Calls Tryd.prog 45 #[.string s] w (NumE s w) := by
  by_cases h0 : s.size = 0
  · obtain rfl : s = ⟨#[]⟩ := by
      apply ByteArray.ext
      apply Array.ext'
      have := len_eq s
      cases h : s.data.toList with
      | nil => rfl
      | cons a b => rw [h] at this; simp at this; omega
    go_enter Tryd.func45, Tryd.ntmps45
    go_wp2
    go_ret2
    exact numE_mk 0 false rfl (numR_no _ (fun y hy _ => (itoa_ne y).1 hy) 0) (Below.refl _ _)
  · have h0s : 0 < s.size := by omega
    by_cases h45 : s.data.toList.head? = some 45
    · by_cases h1 : s.size = 1
      · obtain rfl : s = ⟨#[45]⟩ := by
          apply ByteArray.ext
          apply Array.ext'
          have := len_eq s
          cases h : s.data.toList with
          | nil => rw [h] at this; simp at this; omega
          | cons a b =>
            rw [h] at this h45
            simp at this h45
            have : b = [] := List.length_eq_zero_iff.1 (by omega)
            rw [h45, this]
        go_enter Tryd.func45, Tryd.ntmps45
        go_wp2
        go_ret2
        exact numE_mk 0 false rfl (numR_no _ (fun y hy _ => (itoa_ne y).2 hy) 0) (Below.refl _ _)
      · by_cases h10 : s.size ≤ 10
        · exact num_go1 s w (by omega) h10 h45
        · have hq : ((s[0].toNat : Int) == 45) = true := by
            have hh := head_of h0s
            rw [hh] at h45
            rw [Option.some.inj h45]
            rfl
          have hz : ((s.size : Int) == 1) = false := by rw [beq_eq_false_iff_ne]; omega
          have hsz0 : decide (10 < (s.size : Int)) = true := decide_eq_true (by omega)
          have hL : ¬ s.data.toList.length ≤ 10 := by rw [len_eq]; exact h10
          clear h45 h10
          go_enter Tryd.func45, Tryd.ntmps45
          go_wp2
          go_ret2
          exact numE_mk 0 false rfl (numR_no _ (fun y hy hl => absurd hl hL) 0) (Below.refl _ _)
    · by_cases h10 : s.size ≤ 10
      · exact num_go0 s w (by omega) h10 h45
      · have hq : ((s[0].toNat : Int) == 45) = false := by
          have hh := head_of h0s
          rw [hh] at h45
          rw [beq_eq_false_iff_ne]
          intro e
          exact h45 (by rw [show s[0] = 45 from UInt8.toNat_inj.1 (by show s[0].toNat = 45; omega)])
        have hz : ((s.size : Int) == 0) = false := by rw [beq_eq_false_iff_ne]; omega
        have hsz0 : decide (10 < (s.size : Int)) = true := decide_eq_true (by omega)
        have hL : ¬ s.data.toList.length ≤ 10 := by rw [len_eq]; exact h10
        clear h45 h10
        go_enter Tryd.func45, Tryd.ntmps45
        go_wp2
        go_ret2
        exact numE_mk 0 false rfl (numR_no _ (fun y hy hl => absurd hl hL) 0) (Below.refl _ _)
end Go.Proofs.YtocbilaaklapkaaDoor.Rd
namespace Go.Proofs.YtocbilaaklapkaaDoor.Rl
open Go Go.RowKit Kit IsaM IsaT IsaN IsaD IsaA
set_option linter.unusedVariables false

theorem len_eq (s : ByteArray) : s.data.toList.length = s.size := by simp
theorem isNm_no {s : ByteArray} {j : Nat} (h : j < s.size) (hb : isLet s[j] = false) (hd : isDg s[j] = false ∨ j = 0) : isNm s.data.toList = false := by
  rw [Bool.eq_false_iff]
  intro hn
  have h1 := ((isNm_iff _).1 hn).1 j (by rw [len_eq]; exact h) (by rw [len_eq]; exact h)
  have e : s.data.toList[j]'(by rw [len_eq]; exact h) = s[j] := rfl
  rw [e, hb] at h1
  rcases hd with hd | hd
  · rw [hd] at h1; simp at h1
  · subst hd; simp at h1
theorem isNm_len {s : ByteArray} (h : s.size = 0 ∨ 16 < s.size) : isNm s.data.toList = false := by
  rw [Bool.eq_false_iff]
  intro hn
  have h1 := ((isNm_iff _).1 hn).2
  rw [len_eq] at h1
  omega
def Up (s : ByteArray) (k : Nat) : Prop := NmTo s.data.toList k
theorem up_next {s : ByteArray} {k : Nat} (h : k < s.size) (hu : Up s k) (hc : isLet s[k] = true ∨ (isDg s[k] = true ∧ 0 < k)) : Up s (k + 1) := fun j hj hjk => by
  rcases Nat.lt_or_ge j k with h1 | h1
  · exact hu j hj h1
  · obtain rfl : j = k := by omega
    exact hc

set_option maxHeartbeats 2000000 in
theorem label_go (s : ByteArray) (w : World) (h0 : 0 < s.size) (h16 : s.size ≤ 16) (hl : isLet s[0] = true) :
    Calls Tryd.prog 43 #[.string s] w fun e w' => e = .returned (.bool (isNm s.data.toList)) ∧ w = w' := by
  obtain ⟨R, hR⟩ : ∃ R, isNm s.data.toList = R := ⟨_, rfl⟩
  rw [hR]
  have HR := Lib.hid hR
  have HL := Lib.hid hl
  have hl2 : 97 ≤ s[0].toNat ∧ s[0].toNat ≤ 122 := by unfold isLet at hl; simpa using hl
  obtain ⟨l1, l2⟩ := hl2
  have hz0 : ((s.size : Int) == 0) = false := by rw [beq_eq_false_iff_ne]; omega
  have hsz0 : decide (16 < (s.size : Int)) = false := decide_eq_false (by omega)
  clear hR hl
  go_enter Tryd.func43, Tryd.ntmps43
  go_wp2
  go_loop [3] (fun i => ∃ k : Nat, k ≤ s.size ∧ i = .int .i64 (k : Int) ∧ Hid (Up s k)) (fun i => (s.size + 1 - (intOf i).toNat))
  case atStart => exact ⟨0, by omega, rfl, fun j hj hjk => by omega⟩
  case round =>
    obtain ⟨k, hk, rfl, HD⟩ := hrel
    by_cases hlt : k < s.size
    · obtain ⟨x, hx⟩ : ∃ x : UInt8, s[k]'hlt = x := ⟨_, rfl⟩
      have HX := Lib.hid hx
      have hxb : x.toNat < 256 := x.toNat_lt
      by_cases h97 : x.toNat < 97
      · by_cases h48 : x.toNat < 48
        · have hRf : R = false := by rw [← HR.out]; exact isNm_no hlt (by rw [HX.out]; unfold isLet; simp; omega) (.inl (by rw [HX.out]; unfold isDg; simp; omega))
          subst hRf
          go_wp2
          go_ret
          exact ⟨rfl, rfl⟩
        · by_cases h57 : 57 < x.toNat
          · have hRf : R = false := by rw [← HR.out]; exact isNm_no hlt (by rw [HX.out]; unfold isLet; simp; omega) (.inl (by rw [HX.out]; unfold isDg; simp; omega))
            subst hRf
            go_wp2
            go_ret
            exact ⟨rfl, rfl⟩
          · have HN : Hid (Up s (k + 1)) := Lib.hid (up_next hlt HD.out (.inr ⟨by rw [HX.out]; unfold isDg; simp; omega, by
              rcases Nat.eq_zero_or_pos k with h | h
              · subst h
                have := HL.out
                rw [HX.out] at this
                unfold isLet at this
                simp at this
                omega
              · exact h⟩))
            go_wp2
            go_round
            case rel => exact ⟨k + 1, by omega, by go_num, HN⟩
            case measure => simp [intOf]; omega
      · by_cases h122 : 122 < x.toNat
        · have hRf : R = false := by rw [← HR.out]; exact isNm_no hlt (by rw [HX.out]; unfold isLet; simp; omega) (.inl (by rw [HX.out]; unfold isDg; simp; omega))
          subst hRf
          go_wp2
          go_ret
          exact ⟨rfl, rfl⟩
        · have HN : Hid (Up s (k + 1)) := Lib.hid (up_next hlt HD.out (.inl (by rw [HX.out]; unfold isLet; simp; omega)))
          go_wp2
          go_round
          case rel => exact ⟨k + 1, by omega, by go_num, HN⟩
          case measure => simp [intOf]; omega
    · obtain rfl : k = s.size := by omega
      have hRt : R = true := by
        rw [← HR.out, isNm_iff, len_eq]
        exact ⟨HD.out, by omega, by omega⟩
      subst hRt
      go_wp2
      go_ret
      exact ⟨rfl, rfl⟩

theorem rlabel_any (s : ByteArray) (w : World) (hs : s.size ≤ 1000000) :
    Calls Tryd.prog 43 #[.string s] w fun e w' => e = .returned (.bool (isNm s.data.toList)) ∧ w = w' := by
  by_cases h0 : s.size = 0
  · rw [isNm_len (.inl h0)]
    have hz0 : ((s.size : Int) == 0) = true := by rw [h0]; rfl
    go_enter Tryd.func43, Tryd.ntmps43
    go_wp2
    go_ret
    exact ⟨rfl, rfl⟩
  · have hz0 : ((s.size : Int) == 0) = false := by rw [beq_eq_false_iff_ne]; omega
    by_cases h16 : 16 < s.size
    · rw [isNm_len (.inr h16)]
      have hsz0 : decide (16 < (s.size : Int)) = true := decide_eq_true (by omega)
      go_enter Tryd.func43, Tryd.ntmps43
      go_wp2
      go_ret
      exact ⟨rfl, rfl⟩
    · have hp : 0 < s.size := by omega
      have hsz0 : decide (16 < (s.size : Int)) = false := decide_eq_false (by omega)
      by_cases hl : isLet s[0] = true
      · exact label_go s w hp (by omega) hl
      · rw [isNm_no hp (by simpa using hl) (.inr rfl)]
        obtain ⟨x, hx⟩ : ∃ x : UInt8, s[0]'hp = x := ⟨_, rfl⟩
        have hxb : x.toNat < 256 := x.toNat_lt
        have hl2 : x.toNat < 97 ∨ 122 < x.toNat := by
          rw [hx] at hl
          unfold isLet at hl
          simp at hl
          omega
        clear hl
        by_cases h97 : x.toNat < 97
        · go_enter Tryd.func43, Tryd.ntmps43
          go_wp2
          go_ret
          exact ⟨rfl, rfl⟩
        · have h122 : 122 < x.toNat := by omega
          go_enter Tryd.func43, Tryd.ntmps43
          go_wp2
          go_ret
          exact ⟨rfl, rfl⟩
end Go.Proofs.YtocbilaaklapkaaDoor.Rl

