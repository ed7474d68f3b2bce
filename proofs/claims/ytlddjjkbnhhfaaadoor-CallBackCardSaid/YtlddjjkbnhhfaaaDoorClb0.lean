/-
  CallBack: the walk, whatever the call and the text.
-/
import Derived.Test.YtlddjjkbnhhfaaaDoorClz1
import Derived.Test.YtlddjjkbnhhfaaaDoorClz2
import Derived.Test.YtlddjjkbnhhfaaaDoorClz3
import Derived.Test.YtlddjjkbnhhfaaaDoorClz4
namespace Go.Proofs.YtlddjjkbnhhfaaaDoor
open Go Go.RowKit Go.Shelf Kit IsaM Cla Clt Clf Bk Clh Cli Clw
set_option linter.unusedVariables false
set_option maxRecDepth 100000 in
set_option maxHeartbeats 4000000 in
theorem Walk.back_long (x : Cl) (s : ByteArray) (n m : Int) (hs : ¬ s.size ≤ 80) (w : World) (hT : Rw w) (hC : Cd w) (hP : Pow w) :
    Calls Tryd.prog 6 #[cv x, .string s, .int .i64 n, .int .i64 m] w fun e w' => e = .returned (.bool true) ∧ Below w.heap.size w w' := by
  have b1 := (Below.refl w.heap.size w).alloc (Nat.le_refl _) (.cells (ccs x) 27)
  have HAl := Lib.hid (alive_any _ (hT.below b1) (hC.below b1) (hP.below b1))
  have HB := Lib.hid b1
  have hsz : (80 : Int) < (s.size : Int) := by omega
  unfold cv at *
  unfold ccs at *
  clear b1 hT hC hP
  go_enter Tryd.func6, Tryd.ntmps6
  go_wp2_with (first
    | (go_at_call 28; (with_reducible refine HAl.out.mono ?_); rintro e w2 ⟨rfl, hb2⟩)
    | fail)
  go_ret
  exact ⟨rfl, HB.out.trans (hb2.mono HB.out.size)⟩
theorem Walk.callBack (x : Cl) (s : ByteArray) (n m : Int) (w : World) (hw : Wf x) (_ : s.size ≤ maxLen) (hn : (Lit.int .i64 n).wf = true) (_ : (Lit.int .i64 m).wf = true) (hL : Rw w ∧ Cd w ∧ Pow w ∧ Ers w) (hM : Ml w) :
    Calls Tryd.prog 6 #[cv x, .string s, .int .i64 n, .int .i64 m] w fun e w' => e = .returned (.bool true) ∧ Below w.heap.size w w' := by
  obtain ⟨hT, hC, hP, hE⟩ := hL
  by_cases hs : s.size ≤ 80
  · cases hm : mayC x with
    | true =>
      by_cases hy : ∃ y : Cl, mayC y = true ∧ Wf y ∧ lineT y = s.data.toList
      · obtain ⟨y, h1, h2, h3⟩ := hy
        exact Clz1.back x y s n m hn hs hw w hT hC hP hE hM hm h1 h2 h3
      · exact Clz2.back x zc s n m hn hs hw w hT hC hP hE hM hm (fun z h1 h2 h3 => hy ⟨z, h1, h2, h3⟩)
    | false =>
      by_cases hy : ∃ y : Cl, mayC y = true ∧ Wf y ∧ lineT y = s.data.toList
      · obtain ⟨y, h1, h2, h3⟩ := hy
        exact Clz3.back x y s n m hn hs hw w hT hC hP hE hM hm h1 h2 h3
      · exact Clz4.back x zc s n m hn hs hw w hT hC hP hE hM hm (fun z h1 h2 h3 => hy ⟨z, h1, h2, h3⟩)
  · exact Walk.back_long x s n m hs w hT hC hP
end Go.Proofs.YtlddjjkbnhhfaaaDoor
