/-
  What a law's arguments read as: a list of calls, a key; grown: what lies behind calls.
-/
import Derived.Test.YtpfnjeicenhciaaFto
import Derived.ProofKit
import Derived.OpenShut
import Derived.Deep.Slices
import Derived.Lib.SmallJoins
import Derived.Deep.RegionHeld
namespace Go.Proofs.Ytpfnjeicenhciaa.Ftq
open Go Go.RowKit Kit Bk Fta Ftb Ftc Ftd Fte Ftf Ftg Fth Fti Ftj Ftk Ftl Ftm Ftn Fto
open Go.ChangeShapes Go.WideShapes
set_option linter.unusedVariables false

structure Opr where
  kind : Int
  q : Int
  k : Ky
  n : Int
instance : Inhabited Opr := ⟨⟨0, 0, ⟨0, 0, 0⟩, 0⟩⟩
/-- Its numbers fit. -/
def OpOk (p : Opr) : Prop := (Lit.int .i64 p.q).wf = true ∧ Fta.kwf p.k
/-- A call lies there. -/
def OpAt (w : World) (b o : Nat) (p : Opr) : Prop :=
  w.cell? ⟨b, o, none⟩ = some (.int .i64 p.kind) ∧ w.cell? ⟨b, o + 1, none⟩ = some (.int .i64 p.q) ∧ w.cell? ⟨b, o + 2, none⟩ = some (.int .i64 p.k.p) ∧ w.cell? ⟨b, o + 3, none⟩ = some (.int .i64 p.k.f) ∧ w.cell? ⟨b, o + 4, none⟩ = some (.int .i64 p.k.o) ∧ w.cell? ⟨b, o + 5, none⟩ = some (.int .i64 p.n)
def OpsAt (w : World) (v : Value) (ops : List Opr) : Prop :=
  ∃ a cap, v = .slice a ops.length cap ∧ ops.length ≤ cap ∧ cap ≤ maxLen ∧ (ops = [] ∨ ∃ b off, a = some ⟨b, off, none⟩ ∧ b < w.heap.size ∧ ∀ i (h : i < ops.length), OpAt w b (off + i * 6) ops[i] ∧ OpOk ops[i])
theorem OpAt.below {w w' : World} {b o n : Nat} {p : Opr} (h : OpAt w b o p) (hb : Below n w w') (hlt : b < n) : OpAt w' b o p := by
  obtain ⟨c0, c1, c2, c3, c4, c5⟩ := h
  exact ⟨(hb.cell (p := ⟨b, o, none⟩) hlt).trans c0, (hb.cell (p := ⟨b, o + 1, none⟩) hlt).trans c1, (hb.cell (p := ⟨b, o + 2, none⟩) hlt).trans c2, (hb.cell (p := ⟨b, o + 3, none⟩) hlt).trans c3, (hb.cell (p := ⟨b, o + 4, none⟩) hlt).trans c4, (hb.cell (p := ⟨b, o + 5, none⟩) hlt).trans c5⟩
theorem OpsAt.below {w w' : World} {v : Value} {ops : List Opr} (h : OpsAt w v ops) (hb : Below w.heap.size w w') : OpsAt w' v ops := by
  obtain ⟨a, cap, h1, h2, h3, h4⟩ := h
  refine ⟨a, cap, h1, h2, h3, h4.imp id ?_⟩
  rintro ⟨b, off, e, hlt, h5⟩
  exact ⟨b, off, e, Nat.lt_of_lt_of_le hlt hb.size, fun i hi => ⟨(h5 i hi).1.below hb hlt, (h5 i hi).2⟩⟩
section
variable {H : Type} {enc : TypeId × Value → H} {W : World}

theorem int_read {fuel : Nat} {c : Value} {y : DataW H × List MemPlace} (h : DataW.trod enc Try.prog W 0 (fun _ => true) true fuel 3 [c] = some y) : ∃ n : Int, c = .int .i64 n ∧ (Lit.int .i64 n).wf = true := by
  obtain ⟨a, e0, _, wa⟩ := DataW.trod_int Try.underlying3 h
  injection e0 with e0 _
  exact ⟨a, e0, wa⟩
theorem ci : Try.prog.cellsOf 3 = 1 := by kernel_rfl
theorem ck : Try.prog.cellsOf 31 = 3 := by kernel_rfl
theorem list3 {α : Type} {cs : List α} (h : cs.length = 3) : ∃ c0 c1 c2, cs = [c0, c1, c2] := by
  match cs, h with
  | [c0, c1, c2], _ => exact ⟨c0, c1, c2, rfl⟩
theorem list6 {α : Type} {cs : List α} (h : cs.length = 6) : ∃ c0 c1 c2 c3 c4 c5, cs = [c0, c1, c2, c3, c4, c5] := by
  match cs, h with
  | [c0, c1, c2, c3, c4, c5], _ => exact ⟨c0, c1, c2, c3, c4, c5, rfl⟩
theorem key_read {fuel : Nat} {cs : List Value} {y : DataW H × List MemPlace} (h : DataW.trod enc Try.prog W 0 (fun _ => true) true fuel 31 cs = some y) : ∃ k : Ky, cs = [.int .i64 k.p, .int .i64 k.f, .int .i64 k.o] ∧ Fta.kwf k := by
  obtain ⟨xs, n, _, _, hl, hlen, hf⟩ := DataW.trod_struct Try.underlying31 h
  rw [ck] at hl
  obtain ⟨c0, c1, c2, rfl⟩ := list3 hl
  have hx : ∀ i, i < 3 → ∃ y, xs[i]? = some y := fun i hi => ⟨_, List.getElem?_eq_getElem (by rw [hlen]; exact hi)⟩
  obtain ⟨y0, e0⟩ := hx 0 (by omega)
  obtain ⟨y1, e1⟩ := hx 1 (by omega)
  obtain ⟨y2, e2⟩ := hx 2 (by omega)
  have f0 : DataW.trod enc Try.prog W 0 (fun _ => true) true n 3 ((([c0, c1, c2] : List Value).drop 0).take (Try.prog.cellsOf 3)) = some y0 := (hf 0 _ rfl).trans e0
  have f1 : DataW.trod enc Try.prog W 0 (fun _ => true) true n 3 ((([c0, c1, c2] : List Value).drop 1).take (Try.prog.cellsOf 3)) = some y1 := (hf 1 _ rfl).trans e1
  have f2 : DataW.trod enc Try.prog W 0 (fun _ => true) true n 3 ((([c0, c1, c2] : List Value).drop 2).take (Try.prog.cellsOf 3)) = some y2 := (hf 2 _ rfl).trans e2
  simp only [ci, List.drop_zero, List.drop_succ_cons, List.take_succ_cons, List.take_zero] at f0 f1 f2
  obtain ⟨a0, rfl, w0⟩ := int_read f0
  obtain ⟨a1, rfl, w1⟩ := int_read f1
  obtain ⟨a2, rfl, w2⟩ := int_read f2
  exact ⟨⟨a0, a1, a2⟩, rfl, w0, w1, w2⟩
/-- What a call's six cells read as. -/
def OpCs (cs : List Value) (p : Opr) : Prop := cs = [.int .i64 p.kind, .int .i64 p.q, .int .i64 p.k.p, .int .i64 p.k.f, .int .i64 p.k.o, .int .i64 p.n] ∧ OpOk p
theorem cellsOp : Try.prog.cellsOf 33 = 6 := by kernel_rfl
theorem op_read {fuel : Nat} {cs : List Value} {y : DataW H × List MemPlace} (h : DataW.trod enc Try.prog W 0 (fun _ => true) true fuel 33 cs = some y) : ∃ p, OpCs cs p := by
  obtain ⟨xs, n, _, _, hl, hlen, hf⟩ := DataW.trod_struct Try.underlying33 h
  rw [cellsOp] at hl
  obtain ⟨c0, c1, c2, c3, c4, c5, rfl⟩ := list6 hl
  have hx : ∀ i, i < 4 → ∃ y, xs[i]? = some y := fun i hi => ⟨_, List.getElem?_eq_getElem (by rw [hlen]; exact hi)⟩
  obtain ⟨y0, e0⟩ := hx 0 (by omega)
  obtain ⟨y1, e1⟩ := hx 1 (by omega)
  obtain ⟨y2, e2⟩ := hx 2 (by omega)
  obtain ⟨y3, e3⟩ := hx 3 (by omega)
  have f0 : DataW.trod enc Try.prog W 0 (fun _ => true) true n 3 ((([c0, c1, c2, c3, c4, c5] : List Value).drop 0).take (Try.prog.cellsOf 3)) = some y0 := (hf 0 _ rfl).trans e0
  have f1 : DataW.trod enc Try.prog W 0 (fun _ => true) true n 3 ((([c0, c1, c2, c3, c4, c5] : List Value).drop 1).take (Try.prog.cellsOf 3)) = some y1 := (hf 1 _ rfl).trans e1
  have f2 : DataW.trod enc Try.prog W 0 (fun _ => true) true n 31 ((([c0, c1, c2, c3, c4, c5] : List Value).drop 2).take (Try.prog.cellsOf 31)) = some y2 := (hf 2 _ rfl).trans e2
  have f3 : DataW.trod enc Try.prog W 0 (fun _ => true) true n 3 ((([c0, c1, c2, c3, c4, c5] : List Value).drop 5).take (Try.prog.cellsOf 3)) = some y3 := (hf 3 _ rfl).trans e3
  simp only [ci, ck, List.drop_zero, List.drop_succ_cons, List.take_succ_cons, List.take_zero] at f0 f1 f2 f3
  obtain ⟨a0, rfl, _⟩ := int_read f0
  obtain ⟨a1, rfl, w1⟩ := int_read f1
  obtain ⟨k, e, hk⟩ := key_read f2
  obtain ⟨a3, rfl, _⟩ := int_read f3
  simp at e
  obtain ⟨rfl, rfl, rfl⟩ := e
  exact ⟨⟨a0, a1, k, a3⟩, rfl, w1, hk⟩
theorem opAt_of (b o : Nat) (cs : List Value) (p : Opr) (h : W.cells? 0 ⟨b, o, none⟩ 6 = some cs) (hp : OpCs cs p) : OpAt W b o p := by
  obtain ⟨rfl, -⟩ := hp
  have hg : ∀ i v, i < 6 → [Value.int .i64 p.kind, .int .i64 p.q, .int .i64 p.k.p, .int .i64 p.k.f, .int .i64 p.k.o, .int .i64 p.n][i]? = some v → W.cell? ⟨b, o + i, none⟩ = some v := fun i v hi hv => by
    unfold World.cells? at h
    rw [if_pos (Nat.zero_le _)] at h
    have := mapM_some_get h i i (by simp [hi])
    rw [← hv, ← this, Addr.add_mid]
  exact ⟨hg 0 _ (by omega) rfl, hg 1 _ (by omega) rfl, hg 2 _ (by omega) rfl, hg 3 _ (by omega) rfl, hg 4 _ (by omega) rfl, hg 5 _ (by omega) rfl⟩
theorem ops_read {v : Value} {d : DataW H} {ps : List MemPlace} (hv : ∃ a len cap, v = .slice a len cap) (h : DataW.Trod enc Try.prog W 0 (fun _ => true) true 22 v d ps) : ∃ ops, OpsAt W v ops := by
  obtain ⟨a, len, cap, rfl⟩ := hv
  obtain ⟨fuel, hf⟩ := h
  rcases Deep.open_slice Try.underlying22 hf with ⟨hcs, _⟩ | ⟨x, l, c, m, n, D, Pl, hcs, hb, hl, hm, hmm, _, hel⟩
  · simp [Value.cells] at hcs
    obtain ⟨rfl, rfl, rfl⟩ := hcs
    exact ⟨[], none, 0, rfl, Nat.le_refl _, Nat.zero_le _, .inl rfl⟩
  · simp [Value.cells] at hcs
    obtain ⟨rfl, rfl, rfl⟩ := hcs
    have hlm : len ≤ m := by rw [hmm]; simpa using hl
    have hel2 : ∀ i, i < len → ∃ p cs, W.cells? 0 (x.add (i * 6)) 6 = some cs ∧ OpCs cs p := fun i hi => by
      obtain ⟨cs, h1, h2⟩ := hel i (by omega)
      rw [cellsOp] at h1
      obtain ⟨p, hp⟩ := op_read h2
      exact ⟨p, cs, h1, hp⟩
    obtain ⟨f, hfx⟩ := Deep.choose_lt (α := Opr) (p := fun i p => ∃ cs, W.cells? 0 (x.add (i * 6)) 6 = some cs ∧ OpCs cs p) hel2
    refine ⟨(List.range len).map f, some x, cap, by simp, by simpa using hl, hm, ?_⟩
    by_cases h0 : len = 0
    · left; subst h0; rfl
    · right
      obtain ⟨b, off, spot⟩ := x
      obtain ⟨cs, h1, h2, _⟩ := hfx 0 (by omega)
      subst h2
      have hc0 : W.cell? ((⟨b, off, spot⟩ : Addr)) = some (.int .i64 (f 0).kind) := by
        unfold World.cells? at h1
        rw [if_pos (Nat.zero_le _)] at h1
        have := mapM_some_get h1 0 0 rfl
        simpa [Addr.add] using this
      have hspot : spot = none := by simpa using World.cell?_spot hc0
      subst hspot
      refine ⟨b, off, rfl, World.block_lt_of_cell? _ _ hc0, fun i hi => ?_⟩
      have hi' : i < len := by simpa using hi
      obtain ⟨cs, h3, h4⟩ := hfx i hi'
      rw [Addr.add_mid] at h3
      have : ((List.range len).map f)[i]'hi = f i := by simp
      rw [this]
      exact ⟨opAt_of b _ cs _ h3 h4, h4.2⟩
/-- A key as a parameter. -/
theorem key_arg {v : Value} {d : DataW H} {ps : List MemPlace} (hv : ∃ cs, v = .agg cs ∧ cs.size = Try.prog.cellsOf 31) (h : DataW.Trod enc Try.prog W 0 (fun _ => true) true 31 v d ps) :
    ∃ k : Ky, v = kv k ∧ Fta.kwf k := by
  obtain ⟨cs, rfl, _⟩ := hv
  obtain ⟨fuel, hf⟩ := h
  obtain ⟨k, hcs, r⟩ := key_read hf
  refine ⟨k, ?_, r⟩
  congr 1
  apply Array.ext'
  exact hcs
end

/-- What lies behind calls: all of it made since W0. -/
def Sta (W0 w : World) (f c : Nat) : Prop := ∃ r L, On W0 w f r L ∧ Gd c L
theorem Sta.below {W0 w w' : World} {f c : Nat} (h : Sta W0 w f c) (hb : Below w.heap.size w w') : Sta W0 w' f c := by
  obtain ⟨r, L, h1, h2⟩ := h
  exact ⟨r, L, h1.below hb, h2⟩
theorem Sta.bel {W0 w : World} {f c : Nat} (h : Sta W0 w f c) : Below W0.heap.size W0 w := by
  obtain ⟨r, L, h, _⟩ := h
  exact h.bel
theorem Sta.mono {W0 w : World} {f c d : Nat} (h : Sta W0 w f c) (hd : c ≤ d) : Sta W0 w f d := by
  obtain ⟨r, L, h1, h2⟩ := h
  exact ⟨r, L, h1, h2.mono hd⟩
theorem Sta.wait {W0 w : World} {f c : Nat} (h : Sta W0 w f c) (hc : c ≤ 80000) (q : Int) (k : Ky) (hq : (Lit.int .i64 q).wf = true) (hk : Fta.kwf k) :
    Calls Try.prog 9 #[.pointer (some ⟨f, 0, none⟩), .int .i64 q, kv k] w fun e w' => (∃ z : Int, e = .returned (.int .i64 z)) ∧ Sta W0 w' f (c + 1) := by
  obtain ⟨r, L, h1, h2⟩ := h
  refine (h1.wait (by have := h2.len; omega) q k).mono ?_
  rintro e w' ⟨rfl, -, r', h3, -⟩
  exact ⟨⟨_, rfl⟩, r', _, h3, h2.wait q k hq hk⟩
theorem Sta.wake {W0 w : World} {f c : Nat} (h : Sta W0 w f c) (hc : c ≤ 80000) (k : Ky) (n : Int) (hk : Fta.kwf k) :
    Calls Try.prog 11 #[.pointer (some ⟨f, 0, none⟩), kv k, .int .i64 n] w fun e w' => (∃ z, e = .returned z) ∧ Sta W0 w' f (c + 1) := by
  obtain ⟨r, L, h1, h2⟩ := h
  refine (h1.wake h2.kwf (by have := h2.len; omega) k hk n).mono ?_
  rintro e w' ⟨-, h3, u, rfl, -⟩
  exact ⟨⟨_, rfl⟩, r, _, h3, (h2.stay _).mono (Nat.le_succ _)⟩
theorem Sta.gone {W0 w : World} {f c : Nat} (h : Sta W0 w f c) (q : Int) :
    Calls Try.prog 14 #[.pointer (some ⟨f, 0, none⟩), .int .i64 q] w fun e w' => (∃ z : Bool, e = .returned (.bool z)) ∧ Sta W0 w' f (c + 1) := by
  obtain ⟨r, L, h1, h2⟩ := h
  refine (h1.gone q).mono ?_
  rintro e w' ⟨rfl, -, h3⟩
  exact ⟨⟨_, rfl⟩, r, _, h3, (h2.stay _).mono (Nat.le_succ _)⟩

set_option maxRecDepth 100000 in
set_option maxHeartbeats 2000000 in
theorem grown_any (w : World) (va : Value) (ops : List Opr) (h : OpsAt w va ops) (hl : ops.length ≤ 200) :
    Calls Try.prog 29 #[va] w fun e w' => ∃ f, e = .returned (.pointer (some ⟨f, 0, none⟩)) ∧ Sta w w' f 200 := by
  obtain ⟨a, cap, rfl, h1, h2, h3⟩ := h
  have hli : (ops.length : Int) ≤ 200 := by omega
  have H3 := Lib.hid h3
  have HS : Hid (Sta w (w.alloc (.cells #[.slice none 0 0] 26)) w.heap.size 0) := Lib.hid ⟨_, [], On.new w, Gd.nil 0⟩
  clear h3
  go_enter Try.func29, Try.ntmps29
  go_wp2
  go_loopw [9] (fun i wr => ∃ j : Nat, j ≤ ops.length ∧ i = .int .i64 (j : Int) ∧ Sta w wr w.heap.size j) (fun i _ => ops.length - (intOf i).toNat)
  case atStart => exact ⟨0, Nat.zero_le _, rfl, HS.out⟩
  case round =>
    obtain ⟨j, hj, rfl, hs⟩ := hrel
    by_cases hlt : j < ops.length
    · rcases H3.out with h0 | ⟨ba, off, rfl, hb, h4⟩
      · subst h0; simp at hlt
      · obtain ⟨hat, hok⟩ := h4 j hlt
        have HC : Hid (∀ W, Below w.heap.size w W → OpAt W ba (off + j * 6) ops[j]) := Lib.hid (fun W hB => hat.below hB hb)
        obtain ⟨c0, c1, c2, c3, c4, c5⟩ := HC.out wr hs.bel
        have HOk := Lib.hid hok
        generalize ops[j] = o at *
        have hlti : (j : Int) < (ops.length : Int) := by omega
        have HSr := Lib.hid hs
        clear h4 hs hat hok
        by_cases k0 : o.kind = 0
        · have hD := Lib.hid (fun W (hb : Sta w W w.heap.size j) => hb.wait (by omega) o.q o.k HOk.out.1 HOk.out.2)
          rw [k0] at c0
          clear k0
          go_wp2
          go_region_held (fun w' => w'.cell? ⟨ba, off + j * 6 + 1, none⟩ = some (.int .i64 o.q) ∧ w'.cell? ⟨ba, off + j * 6 + 2, none⟩ = some (.int .i64 o.k.p) ∧ w'.cell? ⟨ba, off + j * 6 + 3, none⟩ = some (.int .i64 o.k.f) ∧ w'.cell? ⟨ba, off + j * 6 + 4, none⟩ = some (.int .i64 o.k.o)) (first | exact ⟨c1, c2, c3, c4⟩ | (have X := HC.out _ HS2.out.bel; exact ⟨X.2.1, X.2.2.1, X.2.2.2.1, X.2.2.2.2.1⟩)) ((go_at_call 9; (with_reducible refine (hD.out _ (HSr.out.below ((Below.refl _ _).drew))).mono ?_); rintro e w2 ⟨⟨z, rfl⟩, hs2⟩; have HS2 := Lib.hid hs2; clear hs2))
          go_wp2
          go_roundw
          case rel => exact ⟨j + 1, by omega, by go_num, HS2.out⟩
          case measure => simp [intOf]; omega
        · have k0' : (o.kind == 0) = false := by simpa using k0
          clear k0
          by_cases k1 : o.kind = 1
          · have hD := Lib.hid (fun W (hb : Sta w W w.heap.size j) => hb.wake (by omega) o.k o.n HOk.out.2)
            rw [k1] at c0
            clear k0' k1
            go_wp2
            go_region_held (fun w' => w'.cell? ⟨ba, off + j * 6 + 2, none⟩ = some (.int .i64 o.k.p) ∧ w'.cell? ⟨ba, off + j * 6 + 3, none⟩ = some (.int .i64 o.k.f) ∧ w'.cell? ⟨ba, off + j * 6 + 4, none⟩ = some (.int .i64 o.k.o) ∧ w'.cell? ⟨ba, off + j * 6 + 5, none⟩ = some (.int .i64 o.n)) (first | exact ⟨c2, c3, c4, c5⟩ | (have X := HC.out _ HS2.out.bel; exact ⟨X.2.2.1, X.2.2.2.1, X.2.2.2.2.1, X.2.2.2.2.2⟩)) ((go_at_call 11; (with_reducible refine (hD.out _ (HSr.out.below ((Below.refl _ _).drew))).mono ?_); rintro e w2 ⟨⟨z, rfl⟩, hs2⟩; have HS2 := Lib.hid hs2; clear hs2))
            go_wp2
            go_roundw
            case rel => exact ⟨j + 1, by omega, by go_num, HS2.out⟩
            case measure => simp [intOf]; omega
          · have k1' : (o.kind == 1) = false := by simpa using k1
            clear k1
            by_cases k2 : o.kind = 2
            · have hD := Lib.hid (HSr.out.gone o.q)
              rw [k2] at c0
              clear k0' k1' k2
              go_wp2_with (go_at_call 14; (with_reducible refine hD.out.mono ?_); rintro e w2 ⟨⟨z, rfl⟩, hs2⟩; have HS2 := Lib.hid hs2; clear hs2)
              go_roundw
              case rel => exact ⟨j + 1, by omega, by go_num, HS2.out⟩
              case measure => simp [intOf]; omega
            · have k2' : (o.kind == 2) = false := by simpa using k2
              clear k2
              go_wp2
              go_roundw
              case rel => exact ⟨j + 1, by omega, by go_num, HSr.out.mono (Nat.le_succ _)⟩
              case measure => simp [intOf]; omega
    · obtain rfl : j = ops.length := by omega
      have HE := Lib.hid hs
      clear hs
      go_wp2
      go_ret
      exact ⟨_, rfl, HE.out.mono (by omega)⟩
end Go.Proofs.Ytpfnjeicenhciaa.Ftq
