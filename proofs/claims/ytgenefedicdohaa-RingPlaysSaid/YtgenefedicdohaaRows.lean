/-
  No cell of these rows narrows 'for every input' (looked for: loops, veiled, ifaces, maps, wideKeys, modest, calm, conditions, laid).
  DERIVED. THE GIVEN ROWS OF THIS SEAT. 5 by the template 'for every input the law returns true; each argument reads behind the call as it read before'; 0 by the template 'total and deterministic' (their statements: YtgenefedicdohaaTotals.lean).
  GIVEN WITH THE SEED: the statements are not yours to turn. If you find one false, say at which input.
  Laid BY PROGRAM, IN A SANDBOX (cutbox-rows.mjs): the forced cells as the released guide's own fill.sh prints them over the translation 5cba50e6381ae8ec… (all of the seat's roots in one cut). By AI agents, Wed Nov 11 2026. No macro, syntax, notation, axiom, sorry.
-/
import Derived.Test.YtgenefedicdohaaChecked
import GoSem.Claim
import GoSem.ClaimJoined
import GoSem.ClaimMapViews
import Derived.JoinedTies
import Derived.KernelRfl
namespace Go.Proofs.Ytgenefedicdohaa
/- THE CELL 'sum', in the pinned program and in every row, IS THE sha256 OF THE DUMP (.gsa) THAT YtgenefedicdohaaProg.lean LOADS. Nothing in Lean hashes anything: it is a label: what it is worth is what the hold of that sum in a sandbox is worth. -/
noncomputable def Try.pinned : Pinned := { name := "ytgenefedicdohaa", sum := "5cba50e6381ae8ec52bfdb9543eb99beef3205fb6eda9184ddcf6f00eea580ae", checked := Try.checked }
namespace Rows
def none {H : Type} : Left H := { results := [], args := [] }

/-- 'carryalllaw08.RingPlays': WHATEVER THE INPUT: true; the input reads as it did. -/
def ringPlaysSpec : ChangeSpec := { name := "ringPlays", fn := fun _ => fun
  | [d1, d2, d3] => { results := [.lit (.bool true)], args := [d1, d2, d3] }
  | _ => none }
def ringPlaysRow : OpenClaim := { program := "ytgenefedicdohaa", sum := "5cba50e6381ae8ec52bfdb9543eb99beef3205fb6eda9184ddcf6f00eea580ae", func := "carryall/carryalllaw08.RingPlays", spec := "ringPlays", unfollowed := true, recurses := true, apart := false }
def RingPlaysSaid : Prop := ringPlaysRow.holds Try.pinned (OpenSpec.ofChange ringPlaysSpec)

/-- ITS FALSE NEIGHBOUR: 'it returns false'. Refute it at one input. -/
def ringPlaysWrong : ChangeSpec := { name := "ringPlays", fn := fun _ => fun
  | [d1, d2, d3] => { results := [.lit (.bool false)], args := [d1, d2, d3] }
  | _ => none }
def RingPlaysWrongFalsely : Prop := ringPlaysRow.holds Try.pinned (OpenSpec.ofChange ringPlaysWrong)

/-- 'carryalllaw08.RingNames': WHATEVER THE INPUT: true; the input reads as it did. -/
def ringNamesSpec : ChangeSpec := { name := "ringNames", fn := fun _ => fun
  | [] => { results := [.lit (.bool true)], args := [] }
  | _ => none }
def ringNamesRow : OpenClaim := { program := "ytgenefedicdohaa", sum := "5cba50e6381ae8ec52bfdb9543eb99beef3205fb6eda9184ddcf6f00eea580ae", func := "carryall/carryalllaw08.RingNames", spec := "ringNames", unfollowed := true, recurses := true, apart := false }
def RingNamesSaid : Prop := ringNamesRow.holds Try.pinned (OpenSpec.ofChange ringNamesSpec)

/-- ITS FALSE NEIGHBOUR: 'it returns false'. Refute it at one input. -/
def ringNamesWrong : ChangeSpec := { name := "ringNames", fn := fun _ => fun
  | [] => { results := [.lit (.bool false)], args := [] }
  | _ => none }
def RingNamesWrongFalsely : Prop := ringNamesRow.holds Try.pinned (OpenSpec.ofChange ringNamesWrong)

/-- 'carryalllaw08.RingOrder': WHATEVER THE INPUT: true; the input reads as it did. -/
def ringOrderSpec : ChangeSpec := { name := "ringOrder", fn := fun _ => fun
  | [d1, d2, d3] => { results := [.lit (.bool true)], args := [d1, d2, d3] }
  | _ => none }
def ringOrderRow : OpenClaim := { program := "ytgenefedicdohaa", sum := "5cba50e6381ae8ec52bfdb9543eb99beef3205fb6eda9184ddcf6f00eea580ae", func := "carryall/carryalllaw08.RingOrder", spec := "ringOrder", unfollowed := true, recurses := true, apart := false }
def RingOrderSaid : Prop := ringOrderRow.holds Try.pinned (OpenSpec.ofChange ringOrderSpec)

/-- ITS FALSE NEIGHBOUR: 'it returns false'. Refute it at one input. -/
def ringOrderWrong : ChangeSpec := { name := "ringOrder", fn := fun _ => fun
  | [d1, d2, d3] => { results := [.lit (.bool false)], args := [d1, d2, d3] }
  | _ => none }
def RingOrderWrongFalsely : Prop := ringOrderRow.holds Try.pinned (OpenSpec.ofChange ringOrderWrong)

/-- 'carryalllaw08.RingPlace': WHATEVER THE INPUT: true; the input reads as it did. -/
def ringPlaceSpec : ChangeSpec := { name := "ringPlace", fn := fun _ => fun
  | [d1, d2, d3] => { results := [.lit (.bool true)], args := [d1, d2, d3] }
  | _ => none }
def ringPlaceRow : OpenClaim := { program := "ytgenefedicdohaa", sum := "5cba50e6381ae8ec52bfdb9543eb99beef3205fb6eda9184ddcf6f00eea580ae", func := "carryall/carryalllaw08.RingPlace", spec := "ringPlace", unfollowed := true, recurses := true, apart := false }
def RingPlaceSaid : Prop := ringPlaceRow.holds Try.pinned (OpenSpec.ofChange ringPlaceSpec)

/-- ITS FALSE NEIGHBOUR: 'it returns false'. Refute it at one input. -/
def ringPlaceWrong : ChangeSpec := { name := "ringPlace", fn := fun _ => fun
  | [d1, d2, d3] => { results := [.lit (.bool false)], args := [d1, d2, d3] }
  | _ => none }
def RingPlaceWrongFalsely : Prop := ringPlaceRow.holds Try.pinned (OpenSpec.ofChange ringPlaceWrong)

/-- 'carryalllaw08.RingPeeks': WHATEVER THE INPUT: true; the input reads as it did. -/
def ringPeeksSpec : ChangeSpec := { name := "ringPeeks", fn := fun _ => fun
  | [d1, d2, d3] => { results := [.lit (.bool true)], args := [d1, d2, d3] }
  | _ => none }
def ringPeeksRow : OpenClaim := { program := "ytgenefedicdohaa", sum := "5cba50e6381ae8ec52bfdb9543eb99beef3205fb6eda9184ddcf6f00eea580ae", func := "carryall/carryalllaw08.RingPeeks", spec := "ringPeeks", unfollowed := true, recurses := true, apart := false }
def RingPeeksSaid : Prop := ringPeeksRow.holds Try.pinned (OpenSpec.ofChange ringPeeksSpec)

/-- ITS FALSE NEIGHBOUR: 'it returns false'. Refute it at one input. -/
def ringPeeksWrong : ChangeSpec := { name := "ringPeeks", fn := fun _ => fun
  | [d1, d2, d3] => { results := [.lit (.bool false)], args := [d1, d2, d3] }
  | _ => none }
def RingPeeksWrongFalsely : Prop := ringPeeksRow.holds Try.pinned (OpenSpec.ofChange ringPeeksWrong)

/- THE SECOND FORM. 'bulk': how many values and letters a reading holds, each counted each time it is reached (what is shared counts as often as it is met; a slice's spare places count too). A statement '..UptoSaid' is the law's where the arguments, and the package variables that the reading takes, are together of bulk at most 1048576: NARROWER than '..Said'. Prove '..Said' where nothing that the law and all that it calls make is longer than what came in: it says more and counts as full. Else prove '..UptoSaid'. A law counts once. -/
mutual
def uptoBulk {H : Type} : DataW H → Nat
  | .lit (.string bytes) => bytes.length + 1
  | .lit _ => 1
  | .nil => 1
  | .ptr d => uptoBulk d + 1
  | .slice elems spare => uptoBulkAll elems + uptoBulkAll spare + 1
  | .agg parts => uptoBulkAll parts + 1
  | .iface _ d => uptoBulk d + 1
  | .map entries => uptoBulkEntries entries + 1
  | .held _ => 1
def uptoBulkAll {H : Type} : List (DataW H) → Nat
  | [] => 0
  | d :: r => uptoBulk d + uptoBulkAll r
def uptoBulkEntries {H : Type} : List (Lit × DataW H) → Nat
  | [] => 0
  | x :: r => uptoBulkEntry x + uptoBulkEntries r
def uptoBulkEntry {H : Type} : Lit × DataW H → Nat
  | (.string bytes, d) => bytes.length + uptoBulk d + 1
  | (_, d) => uptoBulk d + 1
 end
def uptoSmall : (H : Type) → List (DataW H) → Bool := fun _ ds => decide (uptoBulkAll ds ≤ 1048576)
def OpenSpec.upto (s : _root_.Go.ChangeSpec) : _root_.Go.OpenSpec := { _root_.Go.OpenSpec.ofChange s with cond := some uptoSmall }

/-- 'carryalllaw08.RingPlays', WHERE WHAT IT READS IS OF BULK AT MOST 1048576: true; the input reads as it did. -/
def ringPlaysUptoRow : OpenClaim := { program := "ytgenefedicdohaa", sum := "5cba50e6381ae8ec52bfdb9543eb99beef3205fb6eda9184ddcf6f00eea580ae", func := "carryall/carryalllaw08.RingPlays", spec := "ringPlays", unfollowed := true, recurses := true, apart := false, narrowed := true }
def RingPlaysUptoSaid : Prop := ringPlaysUptoRow.holds Try.pinned (OpenSpec.upto ringPlaysSpec)

/-- 'carryalllaw08.RingNames', WHERE WHAT IT READS IS OF BULK AT MOST 1048576: true; the input reads as it did. -/
def ringNamesUptoRow : OpenClaim := { program := "ytgenefedicdohaa", sum := "5cba50e6381ae8ec52bfdb9543eb99beef3205fb6eda9184ddcf6f00eea580ae", func := "carryall/carryalllaw08.RingNames", spec := "ringNames", unfollowed := true, recurses := true, apart := false, narrowed := true }
def RingNamesUptoSaid : Prop := ringNamesUptoRow.holds Try.pinned (OpenSpec.upto ringNamesSpec)

/-- 'carryalllaw08.RingOrder', WHERE WHAT IT READS IS OF BULK AT MOST 1048576: true; the input reads as it did. -/
def ringOrderUptoRow : OpenClaim := { program := "ytgenefedicdohaa", sum := "5cba50e6381ae8ec52bfdb9543eb99beef3205fb6eda9184ddcf6f00eea580ae", func := "carryall/carryalllaw08.RingOrder", spec := "ringOrder", unfollowed := true, recurses := true, apart := false, narrowed := true }
def RingOrderUptoSaid : Prop := ringOrderUptoRow.holds Try.pinned (OpenSpec.upto ringOrderSpec)

/-- 'carryalllaw08.RingPlace', WHERE WHAT IT READS IS OF BULK AT MOST 1048576: true; the input reads as it did. -/
def ringPlaceUptoRow : OpenClaim := { program := "ytgenefedicdohaa", sum := "5cba50e6381ae8ec52bfdb9543eb99beef3205fb6eda9184ddcf6f00eea580ae", func := "carryall/carryalllaw08.RingPlace", spec := "ringPlace", unfollowed := true, recurses := true, apart := false, narrowed := true }
def RingPlaceUptoSaid : Prop := ringPlaceUptoRow.holds Try.pinned (OpenSpec.upto ringPlaceSpec)

/-- 'carryalllaw08.RingPeeks', WHERE WHAT IT READS IS OF BULK AT MOST 1048576: true; the input reads as it did. -/
def ringPeeksUptoRow : OpenClaim := { program := "ytgenefedicdohaa", sum := "5cba50e6381ae8ec52bfdb9543eb99beef3205fb6eda9184ddcf6f00eea580ae", func := "carryall/carryalllaw08.RingPeeks", spec := "ringPeeks", unfollowed := true, recurses := true, apart := false, narrowed := true }
def RingPeeksUptoSaid : Prop := ringPeeksUptoRow.holds Try.pinned (OpenSpec.upto ringPeeksSpec)

end Rows
end Go.Proofs.Ytgenefedicdohaa
