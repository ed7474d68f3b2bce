/-
  Sleepers behind calls.
-/
import Derived.Test.YtpblnjphkgilfaaSln
import Derived.Deep.RegionHeld
namespace Go.Proofs.Ytpblnjphkgilfaa.Slo
open Go Go.RowKit Go.Shelf Kit Bk Sla Slb Slc Sld Sle Slf Slg Slh Sli Slj Slk Sll Sln
set_option linter.unusedVariables false

/-- Sleepers, at most N. -/
def Sta (w0 w : World) (q N : Nat) : Prop := ∃ m L, On w0 w q m L ∧ L.length ≤ N
variable {w0 w w' : World} {q N : Nat}
theorem Sta.bel (h : Sta w0 w q N) : Below w0.heap.size w0 w := by obtain ⟨m, L, h, _⟩ := h; exact h.bel
theorem Sta.below (h : Sta w0 w q N) (hb : Below w.heap.size w w') : Sta w0 w' q N := by
  obtain ⟨m, L, h1, h2⟩ := h
  exact ⟨m, L, h1.below hb, h2⟩
theorem Sta.mono {M : Nat} (h : Sta w0 w q N) (hm : N ≤ M) : Sta w0 w q M := by
  obtain ⟨m, L, h1, h2⟩ := h
  exact ⟨m, L, h1, by omega⟩
theorem Sta.add (h : Sta w0 w q N) (hN : N < 80000) (p : Int) (n : Nat) (hp : (Lit.int .i64 p).wf = true) (hn : n < 4294967296) :
    Calls Try.prog 8 #[pv q, .int .i64 p, uv n] w fun e w' => (∃ z : Int, e = .returned (.int .i64 z)) ∧ Sta w0 w' q (N + 1) := by
  obtain ⟨m, L, h1, h2⟩ := h
  refine (h1.add (by omega) p n hp hn).mono ?_
  rintro e w' ⟨rfl, m', h3, _⟩
  exact ⟨⟨_, rfl⟩, m', _, h3, by have := len_adL L p n; omega⟩
theorem Sta.tick (h : Sta w0 w q N) (hN : N < 80000) :
    Calls Try.prog 10 #[pv q] w fun e w' => (∃ z, e = .returned z) ∧ Sta w0 w' q (N + 1) := by
  obtain ⟨m, L, h1, h2⟩ := h
  refine (h1.tick (by omega)).mono ?_
  rintro e w' ⟨h3, _, u, rfl, _⟩
  exact ⟨⟨_, rfl⟩, m, _, h3, by have := len_tkL L; omega⟩
theorem Sta.drop (h : Sta w0 w q N) (p : Int) (hp : (Lit.int .i64 p).wf = true) :
    Calls Try.prog 13 #[pv q, .int .i64 p] w fun e w' => (∃ (n : Nat) (b : Bool), e = .returned (.tuple #[uv n, .bool b])) ∧ Sta w0 w' q (N + 1) := by
  obtain ⟨m, L, h1, h2⟩ := h
  refine (h1.drop p hp).mono ?_
  rintro e w' ⟨rfl, h3, _⟩
  exact ⟨⟨_, _, rfl⟩, m, _, h3, by have := len_drL L p; omega⟩

set_option maxRecDepth 100000 in
set_option maxHeartbeats 2000000 in
theorem grown_any (w : World) (va : Value) (ops : List Opr) (h : OpsAt w va ops) (hl : ops.length ≤ 200) :
    Calls Try.prog 23 #[va] w fun e w' => ∃ q, e = .returned (pv q) ∧ Sta w w' q 200 := by
  obtain ⟨a, cap, rfl, h1, h2, h3⟩ := h
  have hli : (ops.length : Int) ≤ 200 := by omega
  have H3 := Lib.hid h3
  have HS : Hid (Sta w (w.alloc (.cells #[.map none] 26)) w.heap.size 0) := Lib.hid ⟨_, [], On.new w, Nat.le_refl _⟩
  clear h3
  go_enter Try.func23, Try.ntmps23
  go_wp2
  go_loopw [9] (fun i wr => ∃ j : Nat, j ≤ ops.length ∧ i = .int .i64 (j : Int) ∧ Sta w wr w.heap.size j) (fun i _ => ops.length - (intOf i).toNat)
  case atStart => exact ⟨0, Nat.zero_le _, rfl, HS.out⟩
  case round =>
    obtain ⟨j, hj, rfl, hs⟩ := hrel
    by_cases hlt : j < ops.length
    · rcases H3.out with h0 | ⟨ba, off, rfl, hb, h4⟩
      · subst h0; simp at hlt
      · obtain ⟨hat, hok⟩ := h4 j hlt
        have HC : Hid (∀ W, Below w.heap.size w W → OpAt W ba (off + j * 3) ops[j]) := Lib.hid (fun W hB => (OpAt.below ⟨hat, hok⟩ hb hB))
        obtain ⟨⟨c0, c1, c2⟩, _⟩ := HC.out wr hs.bel
        have HOk := Lib.hid hok
        generalize ops[j] = o at *
        have hlti : (j : Int) < (ops.length : Int) := by omega
        have HSr := Lib.hid hs
        clear h4 hs hat hok
        by_cases k0 : o.kind = 0
        · have hD := Lib.hid (fun W (hb : Sta w W w.heap.size j) => hb.add (by omega) o.p o.n HOk.out.1 HOk.out.2)
          rw [k0] at c0
          clear k0
          go_wp2
          go_region_held (fun w' => w'.cell? ⟨ba, off + j * 3 + 1, none⟩ = some (.int .i64 o.p) ∧ w'.cell? ⟨ba, off + j * 3 + 2, none⟩ = some (uv o.n)) (first | exact ⟨c1, c2⟩ | (have X := HC.out _ HS2.out.bel; exact ⟨X.1.2.1, X.1.2.2⟩)) ((go_at_call 8; (with_reducible refine (hD.out _ (HSr.out.below ((Below.refl _ _).drew))).mono ?_); rintro e w2 ⟨⟨z, rfl⟩, hs2⟩; have HS2 := Lib.hid hs2; clear hs2))
          go_wp2
          go_roundw
          case rel => exact ⟨j + 1, by omega, by go_num, HS2.out⟩
          case measure => simp [intOf]; omega
        · have k0' : (o.kind == 0) = false := by simpa using k0
          clear k0
          by_cases k1 : o.kind = 1
          · have hD := Lib.hid (HSr.out.tick (by omega))
            rw [k1] at c0
            clear k0' k1
            go_wp2_with (go_at_call 10; (with_reducible refine hD.out.mono ?_); rintro e w2 ⟨⟨z, rfl⟩, hs2⟩; have HS2 := Lib.hid hs2; clear hs2)
            go_roundw
            case rel => exact ⟨j + 1, by omega, by go_num, HS2.out⟩
            case measure => simp [intOf]; omega
          · have k1' : (o.kind == 1) = false := by simpa using k1
            clear k1
            by_cases k2 : o.kind = 2
            · have hD := Lib.hid (HSr.out.drop o.p HOk.out.1)
              rw [k2] at c0
              clear k0' k1' k2
              go_wp2_with (go_at_call 13; (with_reducible refine hD.out.mono ?_); rintro e w2 ⟨⟨n, b, rfl⟩, hs2⟩; have HS2 := Lib.hid hs2; clear hs2)
              go_roundw
              case rel => exact ⟨j + 1, by omega, by go_num, HS2.out⟩
              case measure => simp [intOf]; omega
            · have k2' : (o.kind == 2) = false := by simpa using k2
              clear k2
              go_wp2
              go_roundw
              case rel => exact ⟨j + 1, by omega, by go_num, HSr.out.mono (Nat.le_succ _)⟩
              case measure => simp [intOf]; omega
    · obtain rfl : j = ops.length := by omega
      have HE := Lib.hid hs
      clear hs
      go_wp2
      go_ret
      exact ⟨_, rfl, HE.out.mono (by omega)⟩
end Go.Proofs.Ytpblnjphkgilfaa.Slo
