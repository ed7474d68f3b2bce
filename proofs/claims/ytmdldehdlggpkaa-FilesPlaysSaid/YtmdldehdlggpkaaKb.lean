/-
  What a law has made, a call's argument, and all other calls' arguments as they were.
-/
import Derived.Test.YtmdldehdlggpkaaJb
namespace Go.Proofs.Ytmdldehdlggpkaa.Kb
open Go Go.RowKit Kit Bk Jp Jm Ji Jo Ju Jd Je Jr Jq Js Jb
set_option linter.unusedVariables false

/-- All calls' arguments stay. -/
def Ok (w w' : World) : Prop := ∀ b cs, Blk w b cs 28 → Blk w' b cs 28
theorem Ok.refl (w : World) : Ok w w := fun _ _ h => h
theorem Ok.trans {a b c : World} (h : Ok a b) (k : Ok b c) : Ok a c := fun _ _ x => k _ _ (h _ _ x)
theorem Ok.of_below {w w' : World} (h : Below w.heap.size w w') : Ok w w' := fun _ _ x => x.below h
structure Dz (U W0 w : World) (p f d q v x : Nat) (o : Opr) (S T : Sf) (D E : Nat → Nat) : Prop where
  dx : Dx W0 w p f d q v x o S T D E
  ok : Ok U w
variable {U W0 w w' : World} {p f d q v x : Nat} {o : Opr} {S T S' T' : Sf} {D E D' E' : Nat → Nat}
theorem Dz.bo (h : Dz U W0 w p f d q v x o S T D E) : Bo W0 w p f d q v S T D E := h.dx.bo
theorem Dz.cl (h : Dz U W0 w p f d q v x o S T D E) : Cl w p f d q v x o := h.dx.cl
theorem Dz.below (h : Dz U W0 w p f d q v x o S T D E) (hb : Below w.heap.size w w') : Dz U W0 w' p f d q v x o S T D E := ⟨h.dx.below hb, h.ok.trans (.of_below hb)⟩
theorem Dz.drew (h : Dz U W0 w p f d q v x o S T D E) : Dz U W0 w.drew p f d q v x o S T D E := h.below ((Below.refl _ _).drew)
theorem Dz.onF (h : Dz U W0 w p f d q v x o S T D E) (k : Kp (fun j => j = f) w w') (hF : Fl w' f S') : Dz U W0 w' p f d q v x o S' T D E := ⟨h.dx.onF k hF, h.ok.trans (fun b cs hb => hb.kept k (kF h.dx.bo.fl k hb (by decide)))⟩
theorem Dz.onD (h : Dz U W0 w p f d q v x o S T D E) (k : Kp (fun j => j = d) w w') (hF : Ds w' d D') : Dz U W0 w' p f d q v x o S T D' E := ⟨h.dx.onD k hF, h.ok.trans (fun b cs hb => hb.kept k (kD h.dx.bo.ds hb (by decide)))⟩
theorem Dz.onQ (h : Dz U W0 w p f d q v x o S T D E) (k : Kp (fun j => j = q) w w') (hF : Rf w' q T') : Dz U W0 w' p f d q v x o S T' D E := ⟨h.dx.onQ k hF, h.ok.trans (fun b cs hb => hb.kept k (kQ h.dx.bo.rf hb (by decide)))⟩
theorem Dz.onV (h : Dz U W0 w p f d q v x o S T D E) (k : Kp (fun j => j = v) w w') (hF : Rd w' v E') : Dz U W0 w' p f d q v x o S T D E' := ⟨h.dx.onV k hF, h.ok.trans (fun b cs hb => hb.kept k (kV h.dx.bo.rd hb (by decide)))⟩
theorem Dz.new (h : Bo W0 w p f d q v S T D E) (o : Opr) : Dz w W0 (w.alloc (.cells #[.int .i64 o.kind, .int .i64 o.P, .bool o.V, .int .i64 o.n, .int .i64 o.fd] 28)) p f d q v w.heap.size o S T D E := ⟨Dx.new h o, .of_below ((Below.refl _ _).alloc (Nat.le_refl _) _)⟩
/-- What do leaves. -/
def Did (W0 : World) (p c : Nat) (w : World) (e : Ending) (w' : World) : Prop :=
  e = .returned (.bool true) ∧ (∃ f d q v S D, Bo W0 w' p f d q v S S D D ∧ Gof c S) ∧ Ok w w'
end Go.Proofs.Ytmdldehdlggpkaa.Kb
