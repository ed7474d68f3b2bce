/-
  do: a call of open files or descriptors and of the document's, of each kind but 2 and 7.
-/
import Derived.Test.YtmdldehdlggpkaaKb
import Derived.Deep.RegionHeld
namespace Go.Proofs.Ytmdldehdlggpkaa.Kx
open Go Go.RowKit Kit Bk Jp Jm Ji Jo Ju Jd Je Jr Jq Js Jb Kb
set_option linter.unusedVariables false


set_option maxRecDepth 100000 in
set_option maxHeartbeats 2000000 in
theorem do_open (W0 w : World) (p f d q v c : Nat) (S : Sf) (D : Nat → Nat) (h : Bo W0 w p f d q v S S D D) (hg : Gof c S) (hc : c ≤ 100000) (P : Int) (V : Bool) (n fd : Int) :
    Calls Try.prog 11 #[.pointer (some ⟨p, 0, none⟩), .agg #[.int .i64 0, .int .i64 P, .bool V, .int .i64 n, .int .i64 fd]] w (Did W0 p (c + 1) w) := by
  have hx := Dz.new h ⟨0, P, V, n, fd⟩
  generalize hwb : w.alloc (.cells #[.int .i64 (Opr.kind ⟨0, P, V, n, fd⟩), .int .i64 (Opr.P ⟨0, P, V, n, fd⟩), .bool (Opr.V ⟨0, P, V, n, fd⟩), .int .i64 (Opr.n ⟨0, P, V, n, fd⟩), .int .i64 (Opr.fd ⟨0, P, V, n, fd⟩)] 28) = wb at hx
  dsimp only at hwb
  have hd := hx.drew
  have c00 := hx.cl.x0
  dsimp only at c00
  have C0 := Lib.hid hd.cl
  have hf : Few S := Jo.Gof.few9 hg (by omega)
  have HG : Hid (Gof (c + 1) (oS S P V)) := Lib.hid (hg.open_ P V)
  have HO := Lib.hid (open_any wb.drew f S hd.bo.fl P V)
  have H1 : Hid (∀ w1, Kp (fun j => j = f) wb.drew w1 → Fl w1 f (oS S P V) → Dz w W0 w1.drew p f d q v w.heap.size ⟨0, P, V, n, fd⟩ (oS S P V) S D D) := Lib.hid (fun w1 k1 f1 => (hd.onF k1 f1).drew)
  have HR := Lib.hid (fun w1 (hr : Rf w1 q S) => ropen_any w1 q S hr P V)
  have H2 : Hid (∀ w1 w2, Dz w W0 w1 p f d q v w.heap.size ⟨0, P, V, n, fd⟩ (oS S P V) S D D → Kp (fun j => j = q) w1 w2 → Rf w2 q (oS S P V) → Dz w W0 w2 p f d q v w.heap.size ⟨0, P, V, n, fd⟩ (oS S P V) (oS S P V) D D) := Lib.hid (fun w1 w2 a1 k2 r2 => a1.onQ k2 r2)
  generalize (oS S P V) = X at *
  generalize oN S P = a0 at *
  generalize oE S P = a1 at *
  clear h hx hd hg hc hf
  go_enter Try.func11, Try.ntmps11
  go_wp2
  go_region_held (fun W => W.cell? ⟨p, 0, none⟩ = some (.pointer (some ⟨f, 0, none⟩)) ∧ W.cell? ⟨w.heap.size, 1, none⟩ = some (.int .i64 P) ∧ W.cell? ⟨w.heap.size, 2, none⟩ = some (.bool V)) (first | exact ⟨C1.out.p0, C1.out.x1, C1.out.x2⟩ | exact ⟨C0.out.p0, C0.out.x1, C0.out.x2⟩) (first | (go_at_call 27; (with_reducible refine HO.out.mono ?_); rintro e w1 ⟨rfl, k1, f1⟩; have X1 := Lib.hid (H1.out w1 k1 f1); have C1 := Lib.hid X1.out.cl; clear k1 f1))
  have HR2 := Lib.hid (HR.out _ X1.out.bo.rf)
  try go_wp2
  go_region_held (fun W => W.cell? ⟨p, 2, none⟩ = some (.pointer (some ⟨q, 0, none⟩)) ∧ W.cell? ⟨w.heap.size, 1, none⟩ = some (.int .i64 P) ∧ W.cell? ⟨w.heap.size, 2, none⟩ = some (.bool V)) (first | exact ⟨C2.out.p2, C2.out.x1, C2.out.x2⟩ | exact ⟨C1.out.p2, C1.out.x1, C1.out.x2⟩) (first | (go_at_call 35; (with_reducible refine HR2.out.mono ?_); rintro e w2 ⟨rfl, k2, r2⟩; have X2 := Lib.hid (H2.out _ _ X1.out k2 r2); have C2 := Lib.hid X2.out.cl; clear k2 r2))
  try go_wp2
  go_ret
  exact ⟨rfl, ⟨_, _, _, _, _, _, X2.out.bo, HG.out⟩, X2.out.ok⟩
set_option maxRecDepth 100000 in
set_option maxHeartbeats 2000000 in
theorem do_share (W0 w : World) (p f d q v c : Nat) (S : Sf) (D : Nat → Nat) (h : Bo W0 w p f d q v S S D D) (hg : Gof c S) (hc : c ≤ 100000) (P : Int) (V : Bool) (n fd : Int) :
    Calls Try.prog 11 #[.pointer (some ⟨p, 0, none⟩), .agg #[.int .i64 1, .int .i64 P, .bool V, .int .i64 n, .int .i64 fd]] w (Did W0 p (c + 1) w) := by
  have hx := Dz.new h ⟨1, P, V, n, fd⟩
  generalize hwb : w.alloc (.cells #[.int .i64 (Opr.kind ⟨1, P, V, n, fd⟩), .int .i64 (Opr.P ⟨1, P, V, n, fd⟩), .bool (Opr.V ⟨1, P, V, n, fd⟩), .int .i64 (Opr.n ⟨1, P, V, n, fd⟩), .int .i64 (Opr.fd ⟨1, P, V, n, fd⟩)] 28) = wb at hx
  dsimp only at hwb
  have hd := hx.drew
  have c00 := hx.cl.x0
  dsimp only at c00
  have C0 := Lib.hid hd.cl
  have hf : Few S := Jo.Gof.few9 hg (by omega)
  have HG : Hid (Gof (c + 1) (sS S n)) := Lib.hid (hg.share n)
  have HO := Lib.hid (share_any wb.drew f S hd.bo.fl hf n)
  have H1 : Hid (∀ w1, Kp (fun j => j = f) wb.drew w1 → Fl w1 f (sS S n) → Dz w W0 w1.drew p f d q v w.heap.size ⟨1, P, V, n, fd⟩ (sS S n) S D D) := Lib.hid (fun w1 k1 f1 => (hd.onF k1 f1).drew)
  have HR := Lib.hid (fun w1 (hr : Rf w1 q S) => rshare_any w1 q S hr hf n)
  have H2 : Hid (∀ w1 w2, Dz w W0 w1 p f d q v w.heap.size ⟨1, P, V, n, fd⟩ (sS S n) S D D → Kp (fun j => j = q) w1 w2 → Rf w2 q (sS S n) → Dz w W0 w2 p f d q v w.heap.size ⟨1, P, V, n, fd⟩ (sS S n) (sS S n) D D) := Lib.hid (fun w1 w2 a1 k2 r2 => a1.onQ k2 r2)
  generalize (sS S n) = X at *
  generalize sE S n = a0 at *
  clear h hx hd hg hc hf
  go_enter Try.func11, Try.ntmps11
  go_wp2
  go_region_held (fun W => W.cell? ⟨p, 0, none⟩ = some (.pointer (some ⟨f, 0, none⟩)) ∧ W.cell? ⟨w.heap.size, 3, none⟩ = some (.int .i64 n)) (first | exact ⟨C1.out.p0, C1.out.x3⟩ | exact ⟨C0.out.p0, C0.out.x3⟩) (first | (go_at_call 30; (with_reducible refine HO.out.mono ?_); rintro e w1 ⟨rfl, k1, f1⟩; have X1 := Lib.hid (H1.out w1 k1 f1); have C1 := Lib.hid X1.out.cl; clear k1 f1))
  have HR2 := Lib.hid (HR.out _ X1.out.bo.rf)
  try go_wp2
  go_region_held (fun W => W.cell? ⟨p, 2, none⟩ = some (.pointer (some ⟨q, 0, none⟩)) ∧ W.cell? ⟨w.heap.size, 3, none⟩ = some (.int .i64 n)) (first | exact ⟨C2.out.p2, C2.out.x3⟩ | exact ⟨C1.out.p2, C1.out.x3⟩) (first | (go_at_call 36; (with_reducible refine HR2.out.mono ?_); rintro e w2 ⟨rfl, k2, r2⟩; have X2 := Lib.hid (H2.out _ _ X1.out k2 r2); have C2 := Lib.hid X2.out.cl; clear k2 r2))
  try go_wp2
  go_ret
  exact ⟨rfl, ⟨_, _, _, _, _, _, X2.out.bo, HG.out⟩, X2.out.ok⟩
set_option maxRecDepth 100000 in
set_option maxHeartbeats 2000000 in
theorem do_put (W0 w : World) (p f d q v c : Nat) (S : Sf) (D : Nat → Nat) (h : Bo W0 w p f d q v S S D D) (hg : Gof c S) (hc : c ≤ 100000) (P : Int) (V : Bool) (n fd : Int) :
    Calls Try.prog 11 #[.pointer (some ⟨p, 0, none⟩), .agg #[.int .i64 3, .int .i64 P, .bool V, .int .i64 n, .int .i64 fd]] w (Did W0 p (c + 1) w) := by
  have hx := Dz.new h ⟨3, P, V, n, fd⟩
  generalize hwb : w.alloc (.cells #[.int .i64 (Opr.kind ⟨3, P, V, n, fd⟩), .int .i64 (Opr.P ⟨3, P, V, n, fd⟩), .bool (Opr.V ⟨3, P, V, n, fd⟩), .int .i64 (Opr.n ⟨3, P, V, n, fd⟩), .int .i64 (Opr.fd ⟨3, P, V, n, fd⟩)] 28) = wb at hx
  dsimp only at hwb
  have hd := hx.drew
  have c00 := hx.cl.x0
  dsimp only at c00
  have C0 := Lib.hid hd.cl
  have HG := Lib.hid (hg.mono (Nat.le_succ c))
  have HO := Lib.hid (put_any wb.drew d D hd.bo.ds n)
  have H1 : Hid (∀ w1, Kp (fun j => j = d) wb.drew w1 → Ds w1 d (pD D n) → Dz w W0 w1.drew p f d q v w.heap.size ⟨3, P, V, n, fd⟩ S S (pD D n) D) := Lib.hid (fun w1 k1 f1 => (hd.onD k1 f1).drew)
  have HR := Lib.hid (fun w1 (hr : Rd w1 v D) => rput_any w1 v D hr n)
  have H2 : Hid (∀ w1 w2, Dz w W0 w1 p f d q v w.heap.size ⟨3, P, V, n, fd⟩ S S (pD D n) D → Kp (fun j => j = v) w1 w2 → Rd w2 v (pD D n) → Dz w W0 w2 p f d q v w.heap.size ⟨3, P, V, n, fd⟩ S S (pD D n) (pD D n)) := Lib.hid (fun w1 w2 a1 k2 r2 => a1.onV k2 r2)
  generalize (pD D n) = X at *
  generalize pN D n = a0 at *
  generalize pE D n = a1 at *
  clear h hx hd hg hc
  go_enter Try.func11, Try.ntmps11
  go_wp2
  go_region_held (fun W => W.cell? ⟨p, 1, none⟩ = some (.pointer (some ⟨d, 0, none⟩)) ∧ W.cell? ⟨w.heap.size, 3, none⟩ = some (.int .i64 n)) (first | exact ⟨C1.out.p1, C1.out.x3⟩ | exact ⟨C0.out.p1, C0.out.x3⟩) (first | (go_at_call 23; (with_reducible refine HO.out.mono ?_); rintro e w1 ⟨rfl, k1, f1⟩; have X1 := Lib.hid (H1.out w1 k1 f1); have C1 := Lib.hid X1.out.cl; clear k1 f1))
  have HR2 := Lib.hid (HR.out _ X1.out.bo.rd)
  try go_wp2
  go_region_held (fun W => W.cell? ⟨p, 3, none⟩ = some (.pointer (some ⟨v, 0, none⟩)) ∧ W.cell? ⟨w.heap.size, 3, none⟩ = some (.int .i64 n)) (first | exact ⟨C2.out.p3, C2.out.x3⟩ | exact ⟨C1.out.p3, C1.out.x3⟩) (first | (go_at_call 38; (with_reducible refine HR2.out.mono ?_); rintro e w2 ⟨rfl, k2, r2⟩; have X2 := Lib.hid (H2.out _ _ X1.out k2 r2); have C2 := Lib.hid X2.out.cl; clear k2 r2))
  try go_wp2
  go_ret
  exact ⟨rfl, ⟨_, _, _, _, _, _, X2.out.bo, HG.out⟩, X2.out.ok⟩
set_option maxRecDepth 100000 in
set_option maxHeartbeats 2000000 in
theorem do_set (W0 w : World) (p f d q v c : Nat) (S : Sf) (D : Nat → Nat) (h : Bo W0 w p f d q v S S D D) (hg : Gof c S) (hc : c ≤ 100000) (P : Int) (V : Bool) (n fd : Int) :
    Calls Try.prog 11 #[.pointer (some ⟨p, 0, none⟩), .agg #[.int .i64 4, .int .i64 P, .bool V, .int .i64 n, .int .i64 fd]] w (Did W0 p (c + 1) w) := by
  have hx := Dz.new h ⟨4, P, V, n, fd⟩
  generalize hwb : w.alloc (.cells #[.int .i64 (Opr.kind ⟨4, P, V, n, fd⟩), .int .i64 (Opr.P ⟨4, P, V, n, fd⟩), .bool (Opr.V ⟨4, P, V, n, fd⟩), .int .i64 (Opr.n ⟨4, P, V, n, fd⟩), .int .i64 (Opr.fd ⟨4, P, V, n, fd⟩)] 28) = wb at hx
  dsimp only at hwb
  have hd := hx.drew
  have c00 := hx.cl.x0
  dsimp only at c00
  have C0 := Lib.hid hd.cl
  have HG := Lib.hid (hg.mono (Nat.le_succ c))
  have HO := Lib.hid (fset_any wb.drew d D hd.bo.ds fd n)
  have H1 : Hid (∀ w1, Kp (fun j => j = d) wb.drew w1 → Ds w1 d (tD D fd n) → Dz w W0 w1.drew p f d q v w.heap.size ⟨4, P, V, n, fd⟩ S S (tD D fd n) D) := Lib.hid (fun w1 k1 f1 => (hd.onD k1 f1).drew)
  have HR := Lib.hid (fun w1 (hr : Rd w1 v D) => rset_any w1 v D hr fd n)
  have H2 : Hid (∀ w1 w2, Dz w W0 w1 p f d q v w.heap.size ⟨4, P, V, n, fd⟩ S S (tD D fd n) D → Kp (fun j => j = v) w1 w2 → Rd w2 v (tD D fd n) → Dz w W0 w2 p f d q v w.heap.size ⟨4, P, V, n, fd⟩ S S (tD D fd n) (tD D fd n)) := Lib.hid (fun w1 w2 a1 k2 r2 => a1.onV k2 r2)
  generalize (tD D fd n) = X at *
  generalize tE D fd n = a0 at *
  clear h hx hd hg hc
  go_enter Try.func11, Try.ntmps11
  go_wp2
  go_region_held (fun W => W.cell? ⟨p, 1, none⟩ = some (.pointer (some ⟨d, 0, none⟩)) ∧ W.cell? ⟨w.heap.size, 4, none⟩ = some (.int .i64 fd) ∧ W.cell? ⟨w.heap.size, 3, none⟩ = some (.int .i64 n)) (first | exact ⟨C1.out.p1, C1.out.x4, C1.out.x3⟩ | exact ⟨C0.out.p1, C0.out.x4, C0.out.x3⟩) (first | (go_at_call 28; (with_reducible refine HO.out.mono ?_); rintro e w1 ⟨rfl, k1, f1⟩; have X1 := Lib.hid (H1.out w1 k1 f1); have C1 := Lib.hid X1.out.cl; clear k1 f1))
  have HR2 := Lib.hid (HR.out _ X1.out.bo.rd)
  try go_wp2
  go_region_held (fun W => W.cell? ⟨p, 3, none⟩ = some (.pointer (some ⟨v, 0, none⟩)) ∧ W.cell? ⟨w.heap.size, 4, none⟩ = some (.int .i64 fd) ∧ W.cell? ⟨w.heap.size, 3, none⟩ = some (.int .i64 n)) (first | exact ⟨C2.out.p3, C2.out.x4, C2.out.x3⟩ | exact ⟨C1.out.p3, C1.out.x4, C1.out.x3⟩) (first | (go_at_call 39; (with_reducible refine HR2.out.mono ?_); rintro e w2 ⟨rfl, k2, r2⟩; have X2 := Lib.hid (H2.out _ _ X1.out k2 r2); have C2 := Lib.hid X2.out.cl; clear k2 r2))
  try go_wp2
  go_ret
  exact ⟨rfl, ⟨_, _, _, _, _, _, X2.out.bo, HG.out⟩, X2.out.ok⟩
set_option maxRecDepth 100000 in
set_option maxHeartbeats 2000000 in
theorem do_close (W0 w : World) (p f d q v c : Nat) (S : Sf) (D : Nat → Nat) (h : Bo W0 w p f d q v S S D D) (hg : Gof c S) (hc : c ≤ 100000) (P : Int) (V : Bool) (n fd : Int) :
    Calls Try.prog 11 #[.pointer (some ⟨p, 0, none⟩), .agg #[.int .i64 5, .int .i64 P, .bool V, .int .i64 n, .int .i64 fd]] w (Did W0 p (c + 1) w) := by
  have hx := Dz.new h ⟨5, P, V, n, fd⟩
  generalize hwb : w.alloc (.cells #[.int .i64 (Opr.kind ⟨5, P, V, n, fd⟩), .int .i64 (Opr.P ⟨5, P, V, n, fd⟩), .bool (Opr.V ⟨5, P, V, n, fd⟩), .int .i64 (Opr.n ⟨5, P, V, n, fd⟩), .int .i64 (Opr.fd ⟨5, P, V, n, fd⟩)] 28) = wb at hx
  dsimp only at hwb
  have hd := hx.drew
  have c00 := hx.cl.x0
  dsimp only at c00
  have C0 := Lib.hid hd.cl
  have HG := Lib.hid (hg.mono (Nat.le_succ c))
  have HO := Lib.hid (close_any wb.drew d D hd.bo.ds fd)
  have H1 : Hid (∀ w1, Kp (fun j => j = d) wb.drew w1 → Ds w1 d (cD D fd) → Dz w W0 w1.drew p f d q v w.heap.size ⟨5, P, V, n, fd⟩ S S (cD D fd) D) := Lib.hid (fun w1 k1 f1 => (hd.onD k1 f1).drew)
  have HR := Lib.hid (fun w1 (hr : Rd w1 v D) => rclose_any w1 v D hr fd)
  have H2 : Hid (∀ w1 w2, Dz w W0 w1 p f d q v w.heap.size ⟨5, P, V, n, fd⟩ S S (cD D fd) D → Kp (fun j => j = v) w1 w2 → Rd w2 v (cD D fd) → Dz w W0 w2 p f d q v w.heap.size ⟨5, P, V, n, fd⟩ S S (cD D fd) (cD D fd)) := Lib.hid (fun w1 w2 a1 k2 r2 => a1.onV k2 r2)
  generalize (cD D fd) = X at *
  generalize cN D fd = a0 at *
  generalize cE D fd = a1 at *
  clear h hx hd hg hc
  go_enter Try.func11, Try.ntmps11
  go_wp2
  go_region_held (fun W => W.cell? ⟨p, 1, none⟩ = some (.pointer (some ⟨d, 0, none⟩)) ∧ W.cell? ⟨w.heap.size, 4, none⟩ = some (.int .i64 fd)) (first | exact ⟨C1.out.p1, C1.out.x4⟩ | exact ⟨C0.out.p1, C0.out.x4⟩) (first | (go_at_call 25; (with_reducible refine HO.out.mono ?_); rintro e w1 ⟨rfl, k1, f1⟩; have X1 := Lib.hid (H1.out w1 k1 f1); have C1 := Lib.hid X1.out.cl; clear k1 f1))
  have HR2 := Lib.hid (HR.out _ X1.out.bo.rd)
  try go_wp2
  go_region_held (fun W => W.cell? ⟨p, 3, none⟩ = some (.pointer (some ⟨v, 0, none⟩)) ∧ W.cell? ⟨w.heap.size, 4, none⟩ = some (.int .i64 fd)) (first | exact ⟨C2.out.p3, C2.out.x4⟩ | exact ⟨C1.out.p3, C1.out.x4⟩) (first | (go_at_call 40; (with_reducible refine HR2.out.mono ?_); rintro e w2 ⟨rfl, k2, r2⟩; have X2 := Lib.hid (H2.out _ _ X1.out k2 r2); have C2 := Lib.hid X2.out.cl; clear k2 r2))
  try go_wp2
  go_ret
  exact ⟨rfl, ⟨_, _, _, _, _, _, X2.out.bo, HG.out⟩, X2.out.ok⟩
set_option maxRecDepth 100000 in
set_option maxHeartbeats 2000000 in
theorem do_dup (W0 w : World) (p f d q v c : Nat) (S : Sf) (D : Nat → Nat) (h : Bo W0 w p f d q v S S D D) (hg : Gof c S) (hc : c ≤ 100000) (P : Int) (V : Bool) (n fd : Int) :
    Calls Try.prog 11 #[.pointer (some ⟨p, 0, none⟩), .agg #[.int .i64 6, .int .i64 P, .bool V, .int .i64 n, .int .i64 fd]] w (Did W0 p (c + 1) w) := by
  have hx := Dz.new h ⟨6, P, V, n, fd⟩
  generalize hwb : w.alloc (.cells #[.int .i64 (Opr.kind ⟨6, P, V, n, fd⟩), .int .i64 (Opr.P ⟨6, P, V, n, fd⟩), .bool (Opr.V ⟨6, P, V, n, fd⟩), .int .i64 (Opr.n ⟨6, P, V, n, fd⟩), .int .i64 (Opr.fd ⟨6, P, V, n, fd⟩)] 28) = wb at hx
  dsimp only at hwb
  have hd := hx.drew
  have c00 := hx.cl.x0
  dsimp only at c00
  have C0 := Lib.hid hd.cl
  have HG := Lib.hid (hg.mono (Nat.le_succ c))
  have HO := Lib.hid (dup_any wb.drew d D hd.bo.ds fd)
  have H1 : Hid (∀ w1, Kp (fun j => j = d) wb.drew w1 → Ds w1 d (uD D fd) → Dz w W0 w1.drew p f d q v w.heap.size ⟨6, P, V, n, fd⟩ S S (uD D fd) D) := Lib.hid (fun w1 k1 f1 => (hd.onD k1 f1).drew)
  have HR := Lib.hid (fun w1 (hr : Rd w1 v D) => rdup_any w1 v D hr fd)
  have H2 : Hid (∀ w1 w2, Dz w W0 w1 p f d q v w.heap.size ⟨6, P, V, n, fd⟩ S S (uD D fd) D → Kp (fun j => j = v) w1 w2 → Rd w2 v (uD D fd) → Dz w W0 w2 p f d q v w.heap.size ⟨6, P, V, n, fd⟩ S S (uD D fd) (uD D fd)) := Lib.hid (fun w1 w2 a1 k2 r2 => a1.onV k2 r2)
  generalize (uD D fd) = X at *
  generalize uN D fd = a0 at *
  generalize uE D fd = a1 at *
  clear h hx hd hg hc
  go_enter Try.func11, Try.ntmps11
  go_wp2
  go_region_held (fun W => W.cell? ⟨p, 1, none⟩ = some (.pointer (some ⟨d, 0, none⟩)) ∧ W.cell? ⟨w.heap.size, 4, none⟩ = some (.int .i64 fd)) (first | exact ⟨C1.out.p1, C1.out.x4⟩ | exact ⟨C0.out.p1, C0.out.x4⟩) (first | (go_at_call 24; (with_reducible refine HO.out.mono ?_); rintro e w1 ⟨rfl, k1, f1⟩; have X1 := Lib.hid (H1.out w1 k1 f1); have C1 := Lib.hid X1.out.cl; clear k1 f1))
  have HR2 := Lib.hid (HR.out _ X1.out.bo.rd)
  try go_wp2
  go_region_held (fun W => W.cell? ⟨p, 3, none⟩ = some (.pointer (some ⟨v, 0, none⟩)) ∧ W.cell? ⟨w.heap.size, 4, none⟩ = some (.int .i64 fd)) (first | exact ⟨C2.out.p3, C2.out.x4⟩ | exact ⟨C1.out.p3, C1.out.x4⟩) (first | (go_at_call 41; (with_reducible refine HR2.out.mono ?_); rintro e w2 ⟨rfl, k2, r2⟩; have X2 := Lib.hid (H2.out _ _ X1.out k2 r2); have C2 := Lib.hid X2.out.cl; clear k2 r2))
  try go_wp2
  go_ret
  exact ⟨rfl, ⟨_, _, _, _, _, _, X2.out.bo, HG.out⟩, X2.out.ok⟩
end Go.Proofs.Ytmdldehdlggpkaa.Kx

