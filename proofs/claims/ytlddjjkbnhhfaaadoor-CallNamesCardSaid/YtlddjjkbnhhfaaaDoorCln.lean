/-
  number: what any text is read as.
-/
import Derived.Test.YtlddjjkbnhhfaaaDoorClg
import Derived.Lib.ParseIntB
namespace Go.Proofs.YtlddjjkbnhhfaaaDoor.Cln
open Go Go.RowKit Go.Shelf Kit IsaM Cla Clt Clf Clg
set_option linter.unusedVariables false

theorem step_digit (M acc d : Nat) (r : List UInt8) (hd : d < 10) (ha : acc * 10 + d ≤ M) (h2 : acc < 1844674407370955162) :
    Lib.parseUintM M acc (UInt8.ofNat (48 + d) :: r) = Lib.parseUintM M (acc * 10 + d) r := by
  have e : (UInt8.ofNat (48 + d)).toNat = 48 + d := by rw [UInt8.toNat_ofNat']; omega
  rw [Lib.parseUintM, e, if_pos (by omega), if_neg (by omega), show 48 + d - 48 = d from by omega, if_neg (by omega)]
theorem parse_dec (u : Nat) (hu : u ≤ 4294967295) : ∀ r, Lib.parseUintM 4294967295 0 (Lib.decDigits u ++ r) = Lib.parseUintM 4294967295 u r := by
  induction u using Nat.strongRecOn with
  | _ u ih =>
    intro r
    rw [Lib.decDigits]
    split
    · rw [List.cons_append, List.nil_append, step_digit _ 0 u r (by omega) (by omega) (by omega)]
      congr 1
      omega
    · rw [List.append_assoc, ih (u / 10) (by omega) (by omega), List.cons_append, List.nil_append, step_digit _ (u / 10) (u % 10) r (by omega) (by omega) (by omega)]
      congr 1
      omega
theorem parse_ok {u : Nat} (hu : u < 4294967296) : Lib.parseUintB 32 (Lib.decDigits u) = .ok u := by
  unfold Lib.parseUintB
  rw [if_neg (dec_ne u)]
  have h := parse_dec u (by omega) []
  rw [List.append_nil] at h
  rw [show (2 : Nat) ^ 32 - 1 = 4294967295 by decide, h]
  rfl
theorem parseM_le {M : Nat} : ∀ (l : List UInt8) (acc v : Nat), acc ≤ M → Lib.parseUintM M acc l = .ok v → v ≤ M
  | [], acc, v, h, e => by
    unfold Lib.parseUintM at e
    injection e with e
    omega
  | c :: r, acc, v, h, e => by
    unfold Lib.parseUintM at e
    split at e
    · split at e
      · cases e
      · split at e
        · cases e
        · rename_i h2
          exact parseM_le r _ v (by omega) e
    · cases e
theorem parse_le {t : List UInt8} {v : Nat} (h : Lib.parseUintB 32 t = .ok v) : v < 4294967296 := by
  unfold Lib.parseUintB at h
  split at h
  · cases h
  · have := parseM_le t 0 v (by omega) h
    rw [show (2 : Nat) ^ 32 - 1 = 4294967295 by decide] at this
    omega
theorem pu_ok (s : ByteArray) (hs : s.size ≤ 1000) (v : Nat) (h : Lib.parseUintB 32 s.data.toList = .ok v) (w : World) :
    Calls Tryd.prog 52 #[.string s, .int .i64 10, .int .i64 32] w fun e w' => e = .returned (.tuple #[.int .u64 v, .nilIface]) ∧ Below w.heap.size w w' :=
  (Shl.strconv_ParseUint_10_at32_ok s (by omega) v h w).mono fun e w' ⟨he, hw⟩ => ⟨he, by
    rcases hw with hw | hw
    · rw [hw]; exact Below.refl _ _
    · rw [hw]; exact Lib.bytesWorld_below _ _ _⟩
theorem pu_no (s : ByteArray) (hs : s.size ≤ 1000) (h : ∀ v, Lib.parseUintB 32 s.data.toList ≠ .ok v) (w : World) (hT : Ers w) :
    Calls Tryd.prog 52 #[.string s, .int .i64 10, .int .i64 32] w fun e w' => (∃ (n N : Nat), n < 4294967296 ∧ e = .returned (.tuple #[.int .u64 (n : Int), .iface 141 (.pointer (some ⟨N, 0, none⟩))])) ∧ Below w.heap.size w w' := by
  rcases hp : Lib.parseUintB 32 s.data.toList with v | _ | _
  · exact absurd hp (h v)
  · obtain ⟨tp, p, hv⟩ := hT.syn
    exact (Shl.strconv_ParseUint_10_at32_syntax_var s (by omega) hp tp p w hv).mono fun e w' ⟨N, he, _, _, hb⟩ => ⟨⟨0, N, by omega, he⟩, hb⟩
  · obtain ⟨tp, p, hv⟩ := hT.rng
    exact (Shl.strconv_ParseUint_10_at32_range_var s (by omega) hp tp p w hv).mono fun e w' ⟨N, he, _, _, hb⟩ => ⟨⟨4294967295, N, by omega, he⟩, hb⟩
/-- What number answers of a text. -/
def NumR (s : ByteArray) (e : Ending) : Prop :=
  (∃ v : Nat, v < 4294967296 ∧ Lib.decDigits v = s.data.toList ∧ e = .returned (.tuple #[.int .u32 (v : Int), .bool true])) ∨
  ((∀ v : Nat, v < 4294967296 → Lib.decDigits v ≠ s.data.toList) ∧ ∃ v : Nat, e = .returned (.tuple #[.int .u32 (v : Int), .bool false]))
set_option maxHeartbeats 2000000 in
theorem number_any (s : ByteArray) (hs : s.size ≤ 1000) (w : World) (hP : Pow w) (hT : Ers w) :
    Calls Tryd.prog 40 #[.string s] w fun e w' => NumR s e ∧ Below w.heap.size w w' := by
  by_cases hok : ∃ v, Lib.parseUintB 32 s.data.toList = .ok v
  · obtain ⟨v, hv⟩ := hok
    have hlt := parse_le hv
    have HPU := Lib.hid (pu_ok s hs v hv w)
    have HD := Lib.hid (fun wx (hb : Below w.heap.size w wx) => digits_any v hlt wx (hP.below hb))
    have hw1 : wrap64 (v : Int) = (v : Int) := IntWalk.wrap64_in _ (by omega)
    have hm : (v : Int) % 4294967296 = (v : Int) := by omega
    have HN : Hid (Lib.decDigits v ≠ s.data.toList → ∀ u : Nat, u < 4294967296 → Lib.decDigits u ≠ s.data.toList) := Lib.hid (fun hne u hu e => by
      rw [← e, parse_ok hu] at hv
      injection hv with hv
      rw [hv] at e
      exact hne e)
    have hvi : (v : Int) < 4294967296 := by omega
    clear hP hT hv
    by_cases he : Lib.decDigits v = s.data.toList
    · have HE := Lib.hid he
      have hq : ((tx (Lib.decDigits v)).toList == s.toList) = true := by rw [tx_nil, toList_eq]; simpa using he
      have HL := Lib.hid hlt
      clear he hlt
      generalize tx (Lib.decDigits v) = T at *
      go_enter Tryd.func40, Tryd.ntmps40
      go_wp2_with (first
        | (go_at_call 52; refine HPU.out.mono ?_; rintro e w1 ⟨rfl, hb1⟩)
        | (go_at_call 36; refine (HD.out _ hb1).mono ?_; rintro e w2 ⟨rfl, hb2⟩)
        | fail)
      go_ret2
      exact ⟨.inl ⟨v, HL.out, HE.out, rfl⟩, hb1.trans (hb2.mono hb1.size)⟩
    · have HE := Lib.hid (HN.out he)
      have hq : ((tx (Lib.decDigits v)).toList == s.toList) = false := by rw [tx_nil, toList_eq]; simpa using he
      clear he hlt
      generalize tx (Lib.decDigits v) = T at *
      go_enter Tryd.func40, Tryd.ntmps40
      go_wp2_with (first
        | (go_at_call 52; refine HPU.out.mono ?_; rintro e w1 ⟨rfl, hb1⟩)
        | (go_at_call 36; refine (HD.out _ hb1).mono ?_; rintro e w2 ⟨rfl, hb2⟩)
        | fail)
      go_ret2
      exact ⟨.inr ⟨HE.out, v, rfl⟩, hb1.trans (hb2.mono hb1.size)⟩
  · have HPU := Lib.hid (pu_no s hs (fun v hv => hok ⟨v, hv⟩) w hT)
    have HE : Hid (∀ u : Nat, u < 4294967296 → Lib.decDigits u ≠ s.data.toList) := Lib.hid (fun u hu e => hok ⟨u, by rw [← e]; exact parse_ok hu⟩)
    clear hok hP hT
    go_enter Tryd.func40, Tryd.ntmps40
    go_wp2_with (first
        | (go_at_call 52; refine HPU.out.mono ?_; rintro e w1 ⟨⟨n, N, hn, rfl⟩, hb1⟩; have hw1 : wrap64 (n : Int) = (n : Int) := IntWalk.wrap64_in _ (by omega); have hm : (n : Int) % 4294967296 = (n : Int) := by omega)
        | fail)
    go_ret2
    exact ⟨.inr ⟨HE.out, n, rfl⟩, hb1⟩
end Go.Proofs.YtlddjjkbnhhfaaaDoor.Cln
