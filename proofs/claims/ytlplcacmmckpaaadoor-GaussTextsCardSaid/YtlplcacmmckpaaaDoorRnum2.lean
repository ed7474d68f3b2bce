/-
  The walk of the document's number: the digits at a place of any text.
-/
import Derived.Test.YtlplcacmmckpaaaDoorRnum
import Derived.WalkSpells
namespace Go.Proofs.YtlplcacmmckpaaaDoor.Rnum
open Go Go.RowKit Kit TextG TxtNums Rdig
set_option linter.unusedVariables false

theorem len_eq (s : ByteArray) : s.data.toList.length = s.size := by simp
theorem n0 : ((0 : Nat) : Int) = 0 := rfl

set_option maxHeartbeats 4000000 in
theorem number_any (s : ByteArray) (at' : Nat) (hs : s.size ≤ 1000) (ha : at' ≤ s.size) (w : World) :
    Calls Tryd.prog 26 #[.string s, .int .i64 (at' : Int)] w fun e w' => NumR s at' e ∧ w = w' := by
  go_enter Tryd.func26, Tryd.ntmps26
  go_wp2
  go_loop [6, 7] (fun n i => ∃ k : Nat, k ≤ 7 ∧ at' + k ≤ s.size ∧ n = .int .i64 ((V (s.data.toList.drop at') k : Nat) : Int) ∧ i = .int .i64 ((at' : Int) + (k : Int)) ∧ Hid (∀ j (h : at' + j < s.data.toList.length), j < k → isD (s.data.toList[at' + j]'h))) (fun _ i => (s.size + 1 - (intOf i).toNat))
  case atStart => exact ⟨0, by omega, by omega, rfl, by simp, fun j h hj => by omega⟩
  case round =>
    obtain ⟨k, hk, hle, rfl, rfl, HD⟩ := hrel
    have hV : V (s.data.toList.drop at') k ≤ 9999999 := by
      have h1 := V_lt (l := s.data.toList.drop at') k (by rw [List.length_drop]; have := len_eq s; omega) (fun j h hj => by
        rw [List.getElem_drop]
        exact HD.out j (by rw [List.length_drop] at h; omega) hj)
      have h2 : 10 ^ k ≤ 10 ^ 7 := Nat.pow_le_pow_right (by decide) hk
      omega
    by_cases hlt : at' + k < s.size
    · obtain ⟨x, hx⟩ : ∃ x : UInt8, s[at' + k]'hlt = x := ⟨_, rfl⟩
      have hxl : s.data.toList[at' + k]'(by have := len_eq s; omega) = x := by rw [← hx]; rfl
      have hxb : x.toNat < 256 := x.toNat_lt
      have HX := Lib.hid hxl
      clear hxl
      by_cases h48 : 48 ≤ x.toNat
      · by_cases h57 : x.toNat ≤ 57
        · by_cases h7 : k < 7
          · have hS := V_succ (l := s.data.toList.drop at') (k := k) (by rw [List.length_drop]; have := len_eq s; omega)
            rw [List.getElem_drop, HX.out] at hS
            have HS := Lib.hid hS
            clear hS
            go_wp2
            go_round
            case rel =>
              refine ⟨k + 1, by omega, by omega, by rw [HS.out]; go_num, by go_num, fun j h hj => ?_⟩
              by_cases hjk : j < k
              · exact HD.out j h hjk
              · obtain rfl : j = k := by omega
                have := HX.out
                unfold isD
                rw [this]
                exact ⟨h48, h57⟩
            case measure => simp [intOf]; omega
          · obtain rfl : k = 7 := by omega
            have HE := Lib.hid (show Ends s at' 7 from ⟨HD.out, .inl rfl⟩)
            have hx7 : decide ((7 : Int) < 7) = false := by decide
            have hYes : ∀ u, At s at' u → 7 = (Lib.decDigits u).length ∧ V (s.data.toList.drop at') 7 = u := fun u ha => ends_at HE.out ha (by have := len_eq s; omega)
            have hNo7 : ∀ u, ¬ At s at' u := fun u ha => by
              have h1 := (hYes u ha).1
              have h2 := dec_len u ha.1
              omega
            have HNo := Lib.hid hNo7
            clear hYes hNo7 HE HD
            have hne : (((at' : Int) + 7) == (at' : Int)) = false := by simp; omega
            have hat : at' < s.size := by omega
            obtain ⟨y, hy⟩ : ∃ y : UInt8, s[at']'hat = y := ⟨_, rfl⟩
            have hyb : y.toNat < 256 := y.toNat_lt
            by_cases hz : y.toNat = 48
            · have hyz : ((y.toNat : Int) == 48) = true := by simp; omega
              go_wp2
              go_ret2
              exact ⟨.inl ⟨rfl, HNo.out⟩, rfl⟩
            · have hyz : ((y.toNat : Int) == 48) = false := by simp; omega
              go_wp2
              go_ret2
              exact ⟨.inr ⟨7, V (s.data.toList.drop at') 7, by omega, by omega, hV, rfl, fun u ha => absurd ha (HNo.out u)⟩, rfl⟩
        · have hNd : ¬ isD x := fun h => h57 h.2
          have HE := Lib.hid (show Ends s at' k from ⟨HD.out, .inr (.inr ⟨by have := len_eq s; omega, by rw [HX.out]; exact hNd⟩)⟩)
          have hNo : k = 0 → ∀ u, ¬ At s at' u := fun h u ha => by
            have := (ends_at HE.out ha (by have := len_eq s; omega)).1
            have := dec_len u ha.1
            omega
          have hYes : ∀ u, At s at' u → k = (Lib.decDigits u).length ∧ V (s.data.toList.drop at') k = u := fun u ha => ends_at HE.out ha (by have := len_eq s; omega)
          have HY := Lib.hid hYes
          clear hYes HE HD
          by_cases k0 : k = 0
          · have HNo := Lib.hid (hNo k0)
            clear hNo
            subst k0
            have hx0 : s[at']'(by omega) = x := hx
            rw [n0, Int.add_zero]
            go_wp2
            go_ret2
            exact ⟨.inl ⟨rfl, HNo.out⟩, rfl⟩
          · clear hNo
            have hne : (((at' : Int) + (k : Int)) == (at' : Int)) = false := by simp; omega
            have hat : at' < s.size := by omega
            by_cases k1 : 1 < k
            · obtain ⟨y, hy⟩ : ∃ y : UInt8, s[at']'hat = y := ⟨_, rfl⟩
              have hyl : s.data.toList[at']'(by have := len_eq s; omega) = y := by rw [← hy]; rfl
              have HYL := Lib.hid hyl
              have hyb : y.toNat < 256 := y.toNat_lt
              clear hyl
              by_cases hz : y.toNat = 48
              · have hN : ∀ u, ¬ At s at' u := fun u ha => by
                  obtain ⟨e1, e2⟩ := HY.out u ha
                  have h10 : 10 ≤ u := by
                    rcases Nat.lt_or_ge u 10 with h | h
                    · rw [Lib.decDigits_one h] at e1
                      simp at e1
                      omega
                    · exact h
                  obtain ⟨c, r, e3, e4⟩ := dec_head u h10
                  obtain ⟨hu, c', r', hc', e5⟩ := ha
                  have := At.get e5 0 (by have := len_eq s; omega) (by simp; omega)
                  simp only [Nat.add_zero, e3, List.cons_append, List.getElem_cons_zero] at this
                  rw [HYL.out] at this
                  rw [← this] at e4
                  exact e4 hz
                have HN := Lib.hid hN
                have hyz : ((y.toNat : Int) == 48) = true := by simp; omega
                clear hN
                go_wp2
                go_ret2
                exact ⟨.inl ⟨rfl, HN.out⟩, rfl⟩
              · have hyz : ((y.toNat : Int) == 48) = false := by simp; omega
                go_wp2
                go_ret2
                exact ⟨.inr ⟨k, V (s.data.toList.drop at') k, by omega, by omega, hV, rfl, HY.out⟩, rfl⟩
            · obtain rfl : k = 1 := by omega
              go_wp2
              go_ret2
              exact ⟨.inr ⟨1, V (s.data.toList.drop at') 1, by omega, by omega, hV, rfl, HY.out⟩, rfl⟩
      · have hNd : ¬ isD x := fun h => h48 h.1
        have HE := Lib.hid (show Ends s at' k from ⟨HD.out, .inr (.inr ⟨by have := len_eq s; omega, by rw [HX.out]; exact hNd⟩)⟩)
        have hNo : k = 0 → ∀ u, ¬ At s at' u := fun h u ha => by
          have := (ends_at HE.out ha (by have := len_eq s; omega)).1
          have := dec_len u ha.1
          omega
        have hYes : ∀ u, At s at' u → k = (Lib.decDigits u).length ∧ V (s.data.toList.drop at') k = u := fun u ha => ends_at HE.out ha (by have := len_eq s; omega)
        have HY := Lib.hid hYes
        clear hYes HE HD
        by_cases k0 : k = 0
        · have HNo := Lib.hid (hNo k0)
          clear hNo
          subst k0
          have hx0 : s[at']'(by omega) = x := hx
          rw [n0, Int.add_zero]
          go_wp2
          go_ret2
          exact ⟨.inl ⟨rfl, HNo.out⟩, rfl⟩
        · clear hNo
          have hne : (((at' : Int) + (k : Int)) == (at' : Int)) = false := by simp; omega
          have hat : at' < s.size := by omega
          by_cases k1 : 1 < k
          · obtain ⟨y, hy⟩ : ∃ y : UInt8, s[at']'hat = y := ⟨_, rfl⟩
            have hyl : s.data.toList[at']'(by have := len_eq s; omega) = y := by rw [← hy]; rfl
            have HYL := Lib.hid hyl
            have hyb : y.toNat < 256 := y.toNat_lt
            clear hyl
            by_cases hz : y.toNat = 48
            · have hN : ∀ u, ¬ At s at' u := fun u ha => by
                obtain ⟨e1, e2⟩ := HY.out u ha
                have h10 : 10 ≤ u := by
                  rcases Nat.lt_or_ge u 10 with h | h
                  · rw [Lib.decDigits_one h] at e1
                    simp at e1
                    omega
                  · exact h
                obtain ⟨c, r, e3, e4⟩ := dec_head u h10
                obtain ⟨hu, c', r', hc', e5⟩ := ha
                have := At.get e5 0 (by have := len_eq s; omega) (by simp; omega)
                simp only [Nat.add_zero, e3, List.cons_append, List.getElem_cons_zero] at this
                rw [HYL.out] at this
                rw [← this] at e4
                exact e4 hz
              have HN := Lib.hid hN
              have hyz : ((y.toNat : Int) == 48) = true := by simp; omega
              clear hN
              go_wp2
              go_ret2
              exact ⟨.inl ⟨rfl, HN.out⟩, rfl⟩
            · have hyz : ((y.toNat : Int) == 48) = false := by simp; omega
              go_wp2
              go_ret2
              exact ⟨.inr ⟨k, V (s.data.toList.drop at') k, by omega, by omega, hV, rfl, HY.out⟩, rfl⟩
          · obtain rfl : k = 1 := by omega
            go_wp2
            go_ret2
            exact ⟨.inr ⟨1, V (s.data.toList.drop at') 1, by omega, by omega, hV, rfl, HY.out⟩, rfl⟩
    · have HE := Lib.hid (show Ends s at' k from ⟨HD.out, .inr (.inl (by have := len_eq s; omega))⟩)
      have hNo : k = 0 → ∀ u, ¬ At s at' u := fun h u ha => by
        have := (ends_at HE.out ha (by have := len_eq s; omega)).1
        have := dec_len u ha.1
        omega
      have hYes : ∀ u, At s at' u → k = (Lib.decDigits u).length ∧ V (s.data.toList.drop at') k = u := fun u ha => ends_at HE.out ha (by have := len_eq s; omega)
      have HY := Lib.hid hYes
      clear hYes HE HD
      by_cases k0 : k = 0
      · have HNo := Lib.hid (hNo k0)
        clear hNo
        subst k0
        rw [n0, Int.add_zero]
        go_wp2
        go_ret2
        exact ⟨.inl ⟨rfl, HNo.out⟩, rfl⟩
      · clear hNo
        have hne : (((at' : Int) + (k : Int)) == (at' : Int)) = false := by simp; omega
        have hat : at' < s.size := by omega
        by_cases k1 : 1 < k
        · obtain ⟨y, hy⟩ : ∃ y : UInt8, s[at']'hat = y := ⟨_, rfl⟩
          have hyl : s.data.toList[at']'(by have := len_eq s; omega) = y := by rw [← hy]; rfl
          have HYL := Lib.hid hyl
          have hyb : y.toNat < 256 := y.toNat_lt
          clear hyl
          by_cases hz : y.toNat = 48
          · have hN : ∀ u, ¬ At s at' u := fun u ha => by
              obtain ⟨e1, e2⟩ := HY.out u ha
              have h10 : 10 ≤ u := by
                rcases Nat.lt_or_ge u 10 with h | h
                · rw [Lib.decDigits_one h] at e1
                  simp at e1
                  omega
                · exact h
              obtain ⟨c, r, e3, e4⟩ := dec_head u h10
              obtain ⟨hu, c', r', hc', e5⟩ := ha
              have := At.get e5 0 (by have := len_eq s; omega) (by simp; omega)
              simp only [Nat.add_zero, e3, List.cons_append, List.getElem_cons_zero] at this
              rw [HYL.out] at this
              rw [← this] at e4
              exact e4 hz
            have HN := Lib.hid hN
            have hyz : ((y.toNat : Int) == 48) = true := by simp; omega
            clear hN
            go_wp2
            go_ret2
            exact ⟨.inl ⟨rfl, HN.out⟩, rfl⟩
          · have hyz : ((y.toNat : Int) == 48) = false := by simp; omega
            go_wp2
            go_ret2
            exact ⟨.inr ⟨k, V (s.data.toList.drop at') k, by omega, by omega, hV, rfl, HY.out⟩, rfl⟩
        · obtain rfl : k = 1 := by omega
          go_wp2
          go_ret2
          exact ⟨.inr ⟨1, V (s.data.toList.drop at') 1, by omega, by omega, hV, rfl, HY.out⟩, rfl⟩

end Go.Proofs.YtlplcacmmckpaaaDoor.Rnum
