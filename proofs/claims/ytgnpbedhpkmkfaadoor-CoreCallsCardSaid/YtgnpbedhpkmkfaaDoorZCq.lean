/-
  CoreCalls' programs: what they leave.
-/
import Derived.Test.YtgnpbedhpkmkfaaDoorZLu
namespace Go.Proofs.YtgnpbedhpkmkfaaDoor.Cq
open Go Go.RowKit Kit Bk CoM CoR CoB CoC CoW CoI CoE CoY Bytes3 IsaM IsaT IsaU IsaV Sm Ru Rw Ar Av Su
set_option linter.unusedVariables false
set_option maxRecDepth 100000
abbrev pA : ByteArray := { data := #[106, 97, 108, 32, 55, 32, 115, 117, 98, 10, 115, 121, 115, 10, 115, 117, 98, 58, 10, 106, 114, 32, 55, 10] }
theorem qA : asm pA.data.toList = .inr [376438785, 402653184, 393216000] := by kernel_rfl
theorem endA : ∃ X b', Rw.Ends z0 (allB [376438785, 402653184, 393216000]) 9 X 2 1 b' ∧ X.r 7 = 4 ∧ X.pc = 4 := by
  have h : (sq z0 (allB [376438785, 402653184, 393216000]) 3).2.1 = 1 := by kernel_rfl
  have hE := ends_trap (s := z0) (b := allB [376438785, 402653184, 393216000]) (most := 9) (k := 2) (by decide) (lt3 (by kernel_rfl) (by kernel_rfl) (by kernel_rfl)) (by rw [h]; decide)
  rw [h] at hE
  exact ⟨_, _, hE, by kernel_rfl, by kernel_rfl⟩
/-- The register k has v. -/
def zk (k : Nat) (v : Int) : St := ⟨fun j => if j = k then v else 0, fun _ => (0, 0), 0⟩
theorem zk_ok (k : Nat) (v : Int) (h : 0 ≤ v ∧ v < 4294967296) : (zk k v).Ok :=
  ⟨fun j => by unfold zk; dsimp only; split <;> omega, fun j => by unfold zk; dsimp only; split <;> omega, Int.le_refl 0, (by decide : (0 : Int) < 4294967296)⟩
def dg (k : Nat) : ByteArray := { data := #[UInt8.ofNat (48 + k)] }
abbrev tZ (k : Nat) : ByteArray := { data := #[106, 122, 32] } ++ dg k ++ { data := #[32, 52, 10] }
abbrev tN (k : Nat) : ByteArray := { data := #[106, 110, 122, 32] } ++ dg k ++ { data := #[32, 52, 10] }
def wZ (k : Nat) : Nat := 335544324 + 1048576 * k
def wN (k : Nat) : Nat := 352321540 + 1048576 * k
theorem k6 {P : Nat → Prop} {k : Nat} (hk : k < 6) (h0 : P 0) (h1 : P 1) (h2 : P 2) (h3 : P 3) (h4 : P 4) (h5 : P 5) : P k := by
  have : k = 0 ∨ k = 1 ∨ k = 2 ∨ k = 3 ∨ k = 4 ∨ k = 5 := by omega
  rcases this with rfl | rfl | rfl | rfl | rfl | rfl <;> assumption
theorem dg_row {k : Nat} (hk : k < 6) : (#[Value.string { data := #[48] }, .string { data := #[49] }, .string { data := #[50] }, .string { data := #[51] }, .string { data := #[52] }, .string { data := #[53] }] : Array Value)[k]? = some (.string (dg k)) :=
  k6 (P := fun k => (#[Value.string { data := #[48] }, .string { data := #[49] }, .string { data := #[50] }, .string { data := #[51] }, .string { data := #[52] }, .string { data := #[53] }] : Array Value)[k]? = some (.string (dg k))) hk (by kernel_rfl) (by kernel_rfl) (by kernel_rfl) (by kernel_rfl) (by kernel_rfl) (by kernel_rfl)
theorem qZ {k : Nat} (hk : k < 6) : asm (tZ k).data.toList = .inr [wZ k] :=
  k6 (P := fun k => asm (tZ k).data.toList = .inr [wZ k]) hk (by kernel_rfl) (by kernel_rfl) (by kernel_rfl) (by kernel_rfl) (by kernel_rfl) (by kernel_rfl)
theorem qN {k : Nat} (hk : k < 6) : asm (tN k).data.toList = .inr [wN k] :=
  k6 (P := fun k => asm (tN k).data.toList = .inr [wN k]) hk (by kernel_rfl) (by kernel_rfl) (by kernel_rfl) (by kernel_rfl) (by kernel_rfl) (by kernel_rfl)
theorem sZ {k : Nat} (hk : k < 6) : (tZ k).size ≤ 100000 := k6 (P := fun k => (tZ k).size ≤ 100000) hk (by decide) (by decide) (by decide) (by decide) (by decide) (by decide)
theorem sN {k : Nat} (hk : k < 6) : (tN k).size ≤ 100000 := k6 (P := fun k => (tN k).size ≤ 100000) hk (by decide) (by decide) (by decide) (by decide) (by decide) (by decide)
theorem s1 (k : Nat) : (dg k).size = 1 := rfl
theorem nxtZ (v : Int) : nxt 20 v 4 0 = if v = 0 then 20 else 4 := by
  by_cases h : v = 0
  · subst h; decide
  · rw [if_neg h]; unfold nxt jumps; simp [h]; decide
theorem nxtN (v : Int) : nxt 21 v 4 0 = if v = 0 then 4 else 20 := by
  by_cases h : v = 0
  · subst h; decide
  · rw [if_neg h]; unfold nxt jumps; simp [h]; decide
theorem stepZ {k : Nat} (hk : k < 6) (v : Int) : (stepP (zk k v) (allB [wZ k])).2.1 = 0 ∧ (stepP (zk k v) (allB [wZ k])).1.pc = if v = 0 then 20 else 4 := by
  rw [← nxtZ]
  exact k6 (P := fun k => (stepP (zk k v) (allB [wZ k])).2.1 = 0 ∧ (stepP (zk k v) (allB [wZ k])).1.pc = nxt 20 v 4 0) hk ⟨by kernel_rfl, by kernel_rfl⟩ ⟨by kernel_rfl, by kernel_rfl⟩ ⟨by kernel_rfl, by kernel_rfl⟩ ⟨by kernel_rfl, by kernel_rfl⟩ ⟨by kernel_rfl, by kernel_rfl⟩ ⟨by kernel_rfl, by kernel_rfl⟩
theorem stepN {k : Nat} (hk : k < 6) (v : Int) : (stepP (zk k v) (allB [wN k])).2.1 = 0 ∧ (stepP (zk k v) (allB [wN k])).1.pc = if v = 0 then 4 else 20 := by
  rw [← nxtN]
  exact k6 (P := fun k => (stepP (zk k v) (allB [wN k])).2.1 = 0 ∧ (stepP (zk k v) (allB [wN k])).1.pc = nxt 21 v 4 0) hk ⟨by kernel_rfl, by kernel_rfl⟩ ⟨by kernel_rfl, by kernel_rfl⟩ ⟨by kernel_rfl, by kernel_rfl⟩ ⟨by kernel_rfl, by kernel_rfl⟩ ⟨by kernel_rfl, by kernel_rfl⟩ ⟨by kernel_rfl, by kernel_rfl⟩

/-! The store and the loads. -/
abbrev pM : ByteArray := { data := #[115, 119, 32, 49, 32, 50, 32, 48, 10, 108, 119, 32, 51, 32, 50, 32, 48, 10, 108, 98, 32, 52, 32, 50, 32, 51, 10, 115, 121, 115, 10] }
abbrev wM : List Nat := [269615104, 254935040, 289538051, 402653184]
theorem qM : asm pM.data.toList = .inr wM := by kernel_rfl
def bM : CoM.Bs := allB wM ++ List.replicate 100 0
theorem bM_len : bM.length = 116 := by kernel_rfl
def zm (v ad : Int) : St := ⟨fun j => if j = 1 then v else if j = 2 then ad else 0, fun _ => (0, 0), 0⟩
theorem zm_ok (v ad : Int) (h : 0 ≤ v ∧ v < 4294967296) (g : 0 ≤ ad ∧ ad < 4294967296) : (zm v ad).Ok :=
  ⟨fun j => by unfold zm; dsimp only; split <;> (try split) <;> omega, fun j => by unfold zm; dsimp only; split <;> (try split) <;> omega, Int.le_refl 0, (by decide : (0 : Int) < 4294967296)⟩
theorem at_put4 (b : CoM.Bs) (a v : Nat) (h : a + 4 ≤ b.length) (i : Nat) : at_ (put4 b a v) i = if a ≤ i ∧ i < a + 4 then (bs v)[i - a]?.getD 0 else at_ b i := by
  rw [put4_wr b a v h, wrL_at _ _ _ (by simpa [bs] using h)]
  rfl
theorem word_put (b : CoM.Bs) (a v : Nat) (h : a + 4 ≤ b.length) (n : Nat) (hn : n + 4 ≤ a) : wordAt (put4 b a v) n = wordAt b n := by
  unfold wordAt
  rw [at_put4 b a v h, at_put4 b a v h, at_put4 b a v h, at_put4 b a v h, if_neg (by omega), if_neg (by omega), if_neg (by omega), if_neg (by omega)]
theorem word_own (b : CoM.Bs) (a v : Nat) (hv : v < 4294967296) (h : a + 4 ≤ b.length) : wordAt (put4 b a v) a = v := by
  unfold wordAt
  rw [at_put4 b a v h, at_put4 b a v h, at_put4 b a v h, at_put4 b a v h, if_pos (by omega), if_pos (by omega), if_pos (by omega), if_pos (by omega)]
  simp [bs, b0, b1, b2, b3]
  omega
theorem byte_own (b : CoM.Bs) (a v : Nat) (hv : v < 4294967296) (h : a + 4 ≤ b.length) : at_ (put4 b a v) (a + 3) = v / 16777216 := by
  rw [at_put4 b a v h, if_pos (by omega)]
  simp [bs, b3]
theorem fetch_put (b : CoM.Bs) (a v : Nat) (h : a + 4 ≤ b.length) (n : Nat) (hn : n + 4 ≤ a) : fetchP n (put4 b a v) = fetchP n b := by
  unfold fetchP fetchW
  rw [put4_len, Int.toNat_natCast, word_put b a v h n hn]
theorem x16 (s : St) (b : CoM.Bs) : execP 16 1 2 0 s b = if rch b (m32 (s.r 2 + m32 0)) 4 then (setP (setR s 1 (s.r 1)) (m32 (s.pc + 4)), 0, put4 b (m32 (s.r 2 + m32 0)).toNat (s.r 1).toNat) else (s, 2, b) := by kernel_rfl
theorem x15 (s : St) (b : CoM.Bs) : execP 15 3 2 0 s b = if rch b (m32 (s.r 2 + m32 0)) 4 then (setP (setR s 3 (wordAt b (m32 (s.r 2 + m32 0)).toNat : Int)) (m32 (s.pc + 4)), 0, b) else (s, 2, b) := by kernel_rfl
theorem x17 (s : St) (b : CoM.Bs) : execP 17 4 2 3 s b = if rch b (m32 (s.r 2 + m32 3)) 1 then (setP (setR s 4 (at_ b (m32 (s.r 2 + m32 3)).toNat : Int)) (m32 (s.pc + 4)), 0, b) else (s, 2, b) := by kernel_rfl
theorem x24 (s : St) (b : CoM.Bs) : execP 24 0 0 0 s b = (s, 1, b) := by kernel_rfl
theorem lt4' {P : Nat → Prop} (h0 : P 0) (h1 : P 1) (h2 : P 2) (h3 : P 3) : ∀ j, j < 4 → P j := lt4 h0 h1 h2 h3
theorem endM (v q : Nat) (hv : v < 4294967296) (hq : q < 20) : ∃ X b', Rw.Ends (zm v (16 + 4 * q : Nat)) bM 9 X 3 1 b' ∧ X.r 3 = v ∧ X.r 4 = (v / 16777216 : Nat) := by
  obtain ⟨d, hd⟩ : ∃ d, 16 + 4 * q = d := ⟨_, rfl⟩
  rw [hd]
  have hl : d + 4 ≤ bM.length := by rw [bM_len]; omega
  have hm0 : m32 ((d : Int) + m32 0) = d := by unfold m32; omega
  have hm3 : m32 ((d : Int) + m32 3) = ((d + 3 : Nat) : Int) := by unfold m32; omega
  have f0 : fetchP 0 bM = .inr (16, 1, 2, 0) := by kernel_rfl
  have f1 : fetchP 4 (put4 bM d v) = .inr (15, 3, 2, 0) := (fetch_put bM d v hl 4 (by omega)).trans (by kernel_rfl)
  have f2 : fetchP 8 (put4 bM d v) = .inr (17, 4, 2, 3) := (fetch_put bM d v hl 8 (by omega)).trans (by kernel_rfl)
  have f3 : fetchP 12 (put4 bM d v) = .inr (24, 0, 0, 0) := (fetch_put bM d v hl 12 (by omega)).trans (by kernel_rfl)
  have r4 : ∀ b : CoM.Bs, b.length = 116 → rch b (d : Int) 4 = true := fun b hb => by unfold rch; rw [hb]; simp; omega
  have r1 : ∀ b : CoM.Bs, b.length = 116 → rch b ((d + 3 : Nat) : Int) 1 = true := fun b hb => by unfold rch; rw [hb]; simp; omega
  have hpl : (put4 bM d v).length = 116 := by rw [put4_len, bM_len]
  obtain ⟨S1, hS1⟩ : ∃ S, setP (setR (zm v d) 1 ((zm v d).r 1)) (m32 (0 + 4)) = S := ⟨_, rfl⟩
  have p1 : S1.pc = 4 := by rw [← hS1]; rfl
  have p1r : S1.r 2 = d := by rw [← hS1]; rfl
  obtain ⟨S2, hS2⟩ : ∃ S, setP (setR S1 3 (v : Int)) (m32 (4 + 4)) = S := ⟨_, rfl⟩
  have p2 : S2.pc = 8 := by rw [← hS2]; rfl
  have p2r : S2.r 2 = d := by rw [← hS2]; exact p1r
  obtain ⟨S3, hS3⟩ : ∃ S, setP (setR S2 4 ((v / 16777216 : Nat) : Int)) (m32 (8 + 4)) = S := ⟨_, rfl⟩
  have p3 : S3.pc = 12 := by rw [← hS3]; rfl
  have e1 : sq (zm v d) bM 1 = (S1, 0, put4 bM d v) := by
    show stepP (zm v d) bM = _
    unfold stepP
    rw [show (zm v d).pc = 0 from rfl, f0]
    show execP 16 1 2 0 (zm v d) bM = _
    rw [x16, show (zm v d).r 2 = d from rfl, hm0, if_pos (r4 _ bM_len), ← hS1]
    rfl
  have e2 : sq (zm v d) bM 2 = (S2, 0, put4 bM d v) := by
    show stepP (sq (zm v d) bM 1).1 (sq (zm v d) bM 1).2.2 = _
    rw [e1]
    show stepP S1 (put4 bM d v) = _
    unfold stepP
    rw [p1, f1]
    show execP 15 3 2 0 S1 (put4 bM d v) = _
    rw [x15, p1r, hm0, if_pos (r4 _ hpl), Int.toNat_natCast, word_own bM d v hv hl, p1, ← hS2]
  have e3 : sq (zm v d) bM 3 = (S3, 0, put4 bM d v) := by
    show stepP (sq (zm v d) bM 2).1 (sq (zm v d) bM 2).2.2 = _
    rw [e2]
    show stepP S2 (put4 bM d v) = _
    unfold stepP
    rw [p2, f2]
    show execP 17 4 2 3 S2 (put4 bM d v) = _
    rw [x17, p2r, hm3, if_pos (r1 _ hpl), Int.toNat_natCast, byte_own bM d v hv hl, p2, ← hS3]
  have e4 : sq (zm v d) bM 4 = (S3, 1, put4 bM d v) := by
    show stepP (sq (zm v d) bM 3).1 (sq (zm v d) bM 3).2.2 = _
    rw [e3]
    show stepP S3 (put4 bM d v) = _
    unfold stepP
    rw [p3, f3]
    exact x24 S3 _
  have h : (sq (zm v d) bM 4).2.1 = 1 := by rw [e4]
  have hE := ends_trap (s := zm v d) (b := bM) (most := 9) (k := 3) (by decide) (lt4 rfl (by rw [e1]) (by rw [e2]) (by rw [e3])) (by rw [h]; decide)
  rw [h] at hE
  refine ⟨_, _, hE, ?_, ?_⟩
  · rw [e4, ← hS3, ← hS2]; rfl
  · rw [e4, ← hS3]; rfl
end Go.Proofs.YtgnpbedhpkmkfaaDoor.Cq
