/-
  Words of bytes: what join and Read of package word come to.
-/
import Derived.Test.YtjoapeeljigjcaaDoorBytes
import Derived.Laws.CopyOwn
import Derived.Laws.Rows
import Derived.RangeFuncRecord
namespace Go.Proofs.YtjoapeeljigjcaaDoor.Join
open Go Go.RowKit Nums Kit Leaf Bytes
set_option linter.unusedVariables false

/-- The word of four bytes, the lowest first. -/
def jn (a b c d : Nat) : Nat := a + 256 * b + 65536 * c + 16777216 * d
def q4 (a b c d : Nat) : Value := .agg #[.int .u8 (a : Int), .int .u8 (b : Int), .int .u8 (c : Int), .int .u8 (d : Int)]

theorem jn_lt {a b c d : Nat} (ha : a < 256) (hb : b < 256) (hc : c < 256) (hd : d < 256) : jn a b c d < 4294967296 := by unfold jn; omega
theorem jn_bits {a b c d : Nat} (ha : a < 256) (hb : b < 256) (hc : c < 256) (hd : d < 256) :
    bits .or .u32 (bits .or .u32 (bits .or .u32 (a : Int) ((b : Int) * 256)) ((c : Int) * 65536)) ((d : Int) * 16777216) = ((jn a b c d : Nat) : Int) := by
  rw [show (b : Int) * 256 = ((b * 256 : Nat) : Int) from by simp, show (c : Int) * 65536 = ((c * 65536 : Nat) : Int) from by simp, show (d : Int) * 16777216 = ((d * 16777216 : Nat) : Int) from by simp]
  rw [u32_or_nat _ _ (by omega) (by omega), Nat.or_comm a, nat_join 8 (b * 256) a (by omega) (by omega)]
  rw [u32_or_nat _ _ (by omega) (by omega), Nat.or_comm _ (c * 65536), nat_join 16 (c * 65536) _ (by omega) (by omega)]
  rw [u32_or_nat _ _ (by omega) (by omega), Nat.or_comm _ (d * 16777216), nat_join 24 (d * 16777216) _ (by omega) (by omega)]
  unfold jn
  congr 1
  omega

theorem join_any (a b c d : Nat) (w : World) (ha : a < 256) (hb : b < 256) (hc : c < 256) (hd : d < 256) :
    Calls Tryd.prog 46 #[.agg #[.int .u8 (a : Int), .int .u8 (b : Int), .int .u8 (c : Int), .int .u8 (d : Int)]] w fun e w' => e = .returned (.int .u32 ((jn a b c d : Nat) : Int)) ∧ w' = w.alloc (.cells #[.int .u8 (a : Int), .int .u8 (b : Int), .int .u8 (c : Int), .int .u8 (d : Int)] 96) := by
  go_enter Tryd.func46, Tryd.ntmps46
  go_wp2
  go_ret
  exact ⟨by rw [← jn_bits ha hb hc hd]; rfl, rfl⟩

theorem info1 : (Tryd.prog.info? 5).map (·.size) = some 1 := by kernel_rfl
theorem infoQ : (Tryd.prog.info? 96).map (·.size) = some 4 := by kernel_rfl

/-- The byte at place i, or nought. -/
def bt (xs : List Nat) (i : Nat) : Nat := xs[i]?.getD 0
theorem setRow_alloc (w : World) (cs ds : Array Value) (t : TypeId) : (w.alloc (.cells cs t)).setRow w.heap.size ds = w.alloc (.cells ds t) := by
  unfold World.setRow World.alloc
  congr 1
  apply Array.ext_getElem?
  intro k
  simp only [Array.getElem?_modify, Array.getElem?_push]
  by_cases hk : k = w.heap.size
  · subst hk; simp
  · rw [if_neg hk, if_neg hk, if_neg (fun e => hk e.symm)]
def quadOf (xs : List Nat) : Array Value := #[.int .u8 ((bt xs 0 : Nat) : Int), .int .u8 ((bt xs 1 : Nat) : Int), .int .u8 ((bt xs 2 : Nat) : Int), .int .u8 ((bt xs 3 : Nat) : Int)]
theorem quadOf_eq (xs : List Nat) : (([Value.int .u8 0, Value.int .u8 0, Value.int .u8 0, Value.int .u8 0] : List Value).take 0 ++ u8s (xs.take 4) ++ ([Value.int .u8 0, Value.int .u8 0, Value.int .u8 0, Value.int .u8 0] : List Value).drop (0 + (u8s (xs.take 4)).length)).toArray = quadOf xs := by
  match xs with
  | [] => rfl
  | [a] => rfl
  | [a, b] => rfl
  | [a, b, c] => rfl
  | a :: b :: c :: d :: r =>
    simp [u8s, quadOf, bt]

theorem copy_quad (W : World) (g off cap : Nat) (xs : List Nat) (hlt : g < W.heap.size) (hcell : ∀ i, i < xs.length → W.cell? ⟨g, off + i, none⟩ = some (.int .u8 ((xs[i]?.getD 0 : Nat) : Int))) :
    (Builtin.copy_ #[37, 37] 3 #[.slice (some ⟨W.heap.size, 0, none⟩) 4 4, .slice (some ⟨g, off, none⟩) xs.length cap]).run Tryd.prog (W.alloc (.cells #[.int .u8 0, .int .u8 0, .int .u8 0, .int .u8 0] 96)) =
      .ok (.int .i64 ((min xs.length 4 : Nat) : Int)) (W.alloc (.cells #[.int .u8 ((bt xs 0 : Nat) : Int), .int .u8 ((bt xs 1 : Nat) : Int), .int .u8 ((bt xs 2 : Nat) : Int), .int .u8 ((bt xs 3 : Nat) : Int)] 96)) := by
  have hg : (W.alloc (.cells #[.int .u8 0, .int .u8 0, .int .u8 0, .int .u8 0] 96)).heap[W.heap.size]? = some (.cells #[.int .u8 0, .int .u8 0, .int .u8 0, .int .u8 0] 96 (0, 0)) := World.alloc_heap_new W _
  have hlen : (u8s (xs.take 4)).length = min xs.length 4 := by simp [u8s, Nat.min_comm]
  rw [run_copy_row _ _ 37 37 3 5 W.heap.size 0 4 4 ⟨g, off, none⟩ xs.length cap _ 96 (u8s (xs.take 4)) Tryd.underlying37 info1 hg hlen ?_ ?_ (u8s_one _)]
  · rw [setRow_alloc, hlen]
    congr 3
    rw [← hlen]
    exact quadOf_eq xs
  · intro j v hj
    have hjl : j < (u8s (xs.take 4)).length := (List.getElem?_eq_some_iff.1 hj).1
    have hjx : j < xs.length := by rw [hlen] at hjl; omega
    have hadd : (⟨g, off, none⟩ : Addr).add j = ⟨g, off + j, none⟩ := by unfold Addr.add; split <;> simp_all
    rw [hadd, World.cell?_alloc_past _ _ _ hlt, hcell j hjx, ← hj]
    have h4 : j < 4 := by rw [hlen] at hjl; omega
    simp [u8s, h4, List.getElem?_eq_getElem hjx]
  · rw [hlen]
    show 0 + min xs.length 4 ≤ 4
    omega

end Go.Proofs.YtjoapeeljigjcaaDoor.Join
