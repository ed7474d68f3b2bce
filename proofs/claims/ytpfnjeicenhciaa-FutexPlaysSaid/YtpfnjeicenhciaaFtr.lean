/-
  FutexAgain: the walk.
-/
import Derived.Test.YtpfnjeicenhciaaFtq
import Derived.Deep.RegionHeld
namespace Go.Proofs.Ytpfnjeicenhciaa.Ftr
open Go Go.RowKit Kit Bk Fta Ftb Ftc Ftd Fte Ftf Ftg Fth Fti Ftj Ftk Ftl Ftm Ftn Fto Ftq
set_option linter.unusedVariables false

theorem again_long (va : Value) (ops : List Opr) (w : World) (h : OpsAt w va ops) (hl : ¬ ops.length ≤ 200) :
    Calls Try.prog 6 #[va] w fun e w' => e = .returned (.bool true) ∧ Below w.heap.size w w' := by
  obtain ⟨ad, cap, rfl, h1, h2, h3⟩ := h
  have dl : decide ((200 : Int) < (ops.length : Int)) = true := decide_eq_true (by omega)
  clear h3 hl
  go_enter Try.func6, Try.ntmps6
  go_wp2_with (go_at_call 28; (with_reducible refine (alive_any _).mono ?_); rintro e w1 ⟨rfl, b1⟩; have B1 := Lib.hid b1; clear b1)
  go_ret
  exact ⟨rfl, B1.out⟩

/-- Waited for in their order, they come to the same: the next one of those who wait. -/
theorem again_next {c j : Nat} {L : List Wt} (h : Gd c L) (hj : j < L.length) : wtE (L.take j) L[j].q L[j].k = 0 ∧ wtL (L.take j) L[j].q L[j].k = L.take (j + 1) := by
  have hx := h.each L[j] (List.getElem_mem hj)
  have hno : fkB (L.take j) L[j].q = false := by
    rw [← Bool.not_eq_true, fkB_iff]
    intro hm
    have hn := h.own
    unfold Own1 at hn
    rw [← List.take_append_drop j L, List.map_append, List.nodup_append] at hn
    refine hn.2.2 _ hm L[j].q ?_ rfl
    rw [List.drop_eq_getElem_cons hj, List.map_cons]
    exact List.mem_cons_self
  obtain ⟨e1, e2⟩ := wt_new ⟨hx.2.1, hx.1⟩ hno
  refine ⟨e1, ?_⟩
  rw [e2, List.take_succ_eq_append_getElem hj]
theorem nw_own {w : World} {base : Nat} {v : Value} {L : List Wt} (h : w.ownsRow base 51 4 v L.length (wcs L)) : Nw w v L := own_base h (Nat.zero_le _)
theorem Nw.at_ {w : World} {b n c : Nat} {L : List Wt} (h : Nw w (.slice (some ⟨b, 0, none⟩) n c) L) (i : Nat) (hi : i < L.length) : w.cell? ⟨b, i * 4, none⟩ = some (.int .i64 L[i].q) ∧ w.cell? ⟨b, i * 4 + 1, none⟩ = some (.int .i64 L[i].k.p) ∧ w.cell? ⟨b, i * 4 + 2, none⟩ = some (.int .i64 L[i].k.f) ∧ w.cell? ⟨b, i * 4 + 3, none⟩ = some (.int .i64 L[i].k.o) :=
  Wr.cells (f := 0) ⟨h, .inr ⟨n, c, rfl⟩⟩ i hi
/-- The walk's state: all who wait (slice v), and the new futex g, of the first j of them. -/
structure Ag (W0 w : World) (g u j : Nat) (L : List Wt) (v : Value) (H : Nat) : Prop where
  og : On W0 w g u (L.take j)
  all : Nw w v L
  nu : u = g ∨ H ≤ u
  nv : ∀ b n c, v = .slice (some ⟨b, 0, none⟩) n c → b < H ∧ b ≠ g
  sz : H ≤ w.heap.size
theorem Ag.below {W0 w w' : World} {g u j H : Nat} {L : List Wt} {v : Value} (h : Ag W0 w g u j L v H) (hb : Below w.heap.size w w') : Ag W0 w' g u j L v H :=
  ⟨h.og.below hb, h.all.below hb, h.nu, h.nv, Nat.le_trans h.sz hb.size⟩
theorem Ag.wait {W0 w : World} {g u j H : Nat} {L : List Wt} {v : Value} (h : Ag W0 w g u j L v H) (hd : Gd 200 L) (hj : j < L.length) :
    Calls Try.prog 9 #[.pointer (some ⟨g, 0, none⟩), .int .i64 L[j].q, kv L[j].k] w fun e w' => e = .returned (.int .i64 0) ∧ ∃ u', Ag W0 w' g u' (j + 1) L v H := by
  have hl := hd.len
  obtain ⟨e1, e2⟩ := again_next hd hj
  refine (h.og.wait (by rw [List.length_take]; omega) L[j].q L[j].k).mono ?_
  rw [e1, e2]
  rintro e w' ⟨rfl, hk, u', h1, h2⟩
  have hu := h.nu
  have hs := h.sz
  refine ⟨rfl, u', h1, h.all.kept hk (fun b n c e => ?_), by omega, h.nv, Nat.le_trans hs hk.size⟩
  have := h.nv b n c e
  unfold fr
  omega
set_option maxRecDepth 100000 in
set_option maxHeartbeats 4000000 in
theorem again_fine (va : Value) (ops : List Opr) (w : World) (h : OpsAt w va ops) (hl : ops.length ≤ 200) :
    Calls Try.prog 6 #[va] w fun e w' => e = .returned (.bool true) ∧ Below w.heap.size w w' := by
  obtain ⟨ad, cap, rfl, h1, h2, -⟩ := id h
  have HO := Lib.hid h
  have HL := Lib.hid hl
  have dl : decide ((200 : Int) < (ops.length : Int)) = false := decide_eq_false (by omega)
  clear h hl
  go_enter Try.func6, Try.ntmps6
  go_wp2_with (first
    | (go_at_call 28; (with_reducible refine (alive_any _).mono ?_); rintro e w1 ⟨rfl, b1⟩; have B1 := Lib.hid b1; clear b1)
    | (go_at_call 29; (with_reducible refine (grown_any _ _ ops (OpsAt.below HO.out B1.out) HL.out).mono ?_); rintro e w2 ⟨f, rfl, r, L, ho, hd⟩; have HF := Lib.hid (ho.below ((Below.refl _ _).alloc (Nat.le_refl _) (.cells #[.slice none 0 0] 26))); have HG := Lib.hid (On.new w2); have HN := Lib.hid (B1.out.trans (ho.bel.mono B1.out.size)); have HD := Lib.hid hd; clear ho hd)
    | (go_at_call 20; (with_reducible refine (all_any _ f r L HF.out.lx (by have := HD.out.len; omega)).mono ?_); rintro e w3 ⟨hb3, v, rfl, ha⟩; refine Hid.out ?_))
  have hlo : (w2.alloc (.cells #[.slice none 0 0] 26)).heap.size = w2.heap.size + 1 := by simp
  obtain ⟨va, vc, rfl⟩ := own_form ha
  have HA : Hid (Ag w2 w3 w2.heap.size w2.heap.size 0 L (.slice va L.length vc) w3.heap.size) := Lib.hid ⟨HG.out.below hb3, own_base ha (Nat.zero_le _), .inl rfl, fun b n c e => by
    have := own_lt (by rw [e] at ha; exact ha)
    omega, Nat.le_refl _⟩
  have hl200 : (L.length : Int) ≤ 200 := by have := HD.out.len; omega
  have HH : Hid (w2.heap.size ≤ w3.heap.size) := Lib.hid (by have := hb3.size; omega)
  generalize w3.heap.size = H at HA HH
  generalize w2.heap.size = g at *
  clear ha hb3 hlo HF HG
  refine Lib.hid ?_
  go_wp2
  go_loopw [25] (fun i wr => ∃ (j u : Nat), j ≤ L.length ∧ i = .int .i64 (j : Int) ∧ Ag w2 wr g u j L (.slice va L.length vc) H) (fun i _ => L.length - (intOf i).toNat)
  case atStart => exact ⟨0, g, Nat.zero_le _, rfl, HA.out⟩
  case round =>
    obtain ⟨j, u, hj, rfl, hs⟩ := hrel
    by_cases hlt : j < L.length
    · have hltI : (j : Int) < (L.length : Int) := by omega
      obtain ⟨a, c, b, e, q1, q2, hc⟩ := hs.all.cells
      cases e
      obtain ⟨rfl, c0, c1, c2, c3⟩ := hc wr (Below.refl _ _) j hlt
      have HW := Lib.hid ((hs.below ((Below.refl _ _).drew)).wait HD.out hlt)
      have HC : Hid (∀ (W : World) (u' : Nat), Ag w2 W g u' (j + 1) L (.slice (some ⟨b, 0, none⟩) L.length vc) H → W.cell? ⟨b, j * 4, none⟩ = some (.int .i64 L[j].q) ∧ W.cell? ⟨b, j * 4 + 1, none⟩ = some (.int .i64 L[j].k.p) ∧ W.cell? ⟨b, j * 4 + 2, none⟩ = some (.int .i64 L[j].k.f) ∧ W.cell? ⟨b, j * 4 + 3, none⟩ = some (.int .i64 L[j].k.o)) := Lib.hid (fun W u' h => Nw.at_ h.all j hlt)
      generalize L[j] = x at *
      clear hs hc
      go_wp2
      go_region_held (fun W' => W'.cell? ⟨b, j * 4, none⟩ = some (.int .i64 x.q) ∧ W'.cell? ⟨b, j * 4 + 1, none⟩ = some (.int .i64 x.k.p) ∧ W'.cell? ⟨b, j * 4 + 2, none⟩ = some (.int .i64 x.k.f) ∧ W'.cell? ⟨b, j * 4 + 3, none⟩ = some (.int .i64 x.k.o)) (first | exact ⟨c0, c1, c2, c3⟩ | exact HC.out _ _ HS2.out) ((go_at_call 9; (with_reducible refine HW.out.mono ?_); rintro e w5 ⟨rfl, u5, hs2⟩; have HS2 := Lib.hid hs2; clear hs2))
      go_wp2
      go_roundw
      case rel => exact ⟨j + 1, u5, by omega, by go_num, HS2.out⟩
      case measure => simp [intOf]; omega
    · obtain rfl : j = L.length := by omega
      have HS := Lib.hid hs
      clear hs
      go_wp2_with (first
        | (go_at_call 20; (with_reducible refine (all_any _ g u _ HS.out.og.lx (by rw [List.take_length]; have := HD.out.len; omega)).mono ?_); rintro e w6 ⟨hb6, v6, rfl, ha6⟩; rw [List.take_length] at ha6; obtain ⟨xa, xc, rfl⟩ := own_form ha6; have HA6 := Lib.hid (nw_own ha6); have HB6 := Lib.hid (HS.out.og.bel.trans (hb6.mono HS.out.og.bel.size)); have HV6 := Lib.hid (HS.out.all.below hb6); clear hb6 ha6)
        | (go_at_call 23; (with_reducible refine (same_nw _ _ L _ (by have := HD.out.len; omega) HD.out.xwf HA6.out HV6.out).mono ?_); rintro e w7 ⟨rfl, hb7⟩; have HB7 := Lib.hid (HB6.out.trans (hb7.mono HB6.out.size)); clear hb7))
      go_ret
      exact ⟨rfl, HN.out.trans (HB7.out.mono HN.out.size)⟩
theorem again (va : Value) (ops : List Opr) (w : World) (h : OpsAt w va ops) :
    Calls Try.prog 6 #[va] w fun e w' => e = .returned (.bool true) ∧ Below w.heap.size w w' := by
  by_cases hl : ops.length ≤ 200
  · exact again_fine va ops w h hl
  · exact again_long va ops w h hl
end Go.Proofs.Ytpfnjeicenhciaa.Ftr
namespace Go.Proofs.Ytpfnjeicenhciaa.Walk
open Go Go.RowKit Kit Ftq Ftr
theorem futexAgain (va : Value) (ops : List Opr) (w : World) (h : OpsAt w va ops) : Calls Try.prog 6 #[va] w fun e w' => e = .returned (.bool true) ∧ Below w.heap.size w w' := again va ops w h
end Go.Proofs.Ytpfnjeicenhciaa.Walk
