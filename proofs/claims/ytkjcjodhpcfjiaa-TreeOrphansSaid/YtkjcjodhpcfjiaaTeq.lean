/-
  Exit, walked.
-/
import Derived.Test.YtkjcjodhpcfjiaaTep
namespace Go.Proofs.Ytkjcjodhpcfjiaa.Teq
open Go Go.RowKit Go.Shelf Kit Bk Tea Teb Tec Ted Tee Tef Teg Teh Tei Tej Tek Tel Tem Ten Teo Tep
set_option linter.unusedVariables false
attribute [local go_sem] Oper.semAt_some
attribute [local go_sem ↓] app_wrap

variable {B : Nat} {w W : World} {q b : Nat} {v : Value} {rm : Nat} {L M : St} {S : List Bool} {p : Int}
set_option maxRecDepth 100000 in
set_option maxHeartbeats 2000000 in
theorem exit_no (h : Tb B w q b v rm L S) (ho : Okt rm L S) (hp : (Lit.int .i64 p).wf = true) (hz : fzB L p = false) (su : Nat) :
    Calls Try.prog 8 #[pv q, .int .i64 p, uv su] w fun e w' => e = .returned (.tuple #[.slice none 0 0, .int .i64 2]) ∧ Below w.heap.size w w' := by
  have b1 := (Below.refl w.heap.size w).alloc (Nat.le_refl _) (.cells #[pv q] 22)
  have HD := Lib.hid (made_any (h.below b1) ho.room.1)
  have HE := end_any (h.below b1) hp
  rw [show (p != 1 && (gt L p).st == 1) = false from hz] at HE
  replace HE := Lib.hid HE
  have HB := Lib.hid b1
  clear h ho hz b1
  go_enter Try.func8, Try.ntmps8
  go_wp2_with (first
    | (go_at_call 26; (with_reducible refine HD.out.mono ?_); rintro e w1 ⟨rfl, rfl⟩)
    | (go_at_call 27; (with_reducible refine HE.out.mono ?_); rintro e w1 ⟨rfl, rfl⟩))
  go_ret2
  exact ⟨rfl, HB.out⟩
/-- A row of numbers in a box beside the table, whose map is turned. -/
structure Re (B : Nat) (w : World) (g r0 : Nat) (q b : Nat) (v : Value) (rm : Nat) (L : St) (S : List Bool) (l : List Int) (W : World) : Prop where
  row : ∃ u, Blk W g #[u] 24 ∧ W.ownsRow r0 3 1 u l.length (ints l)
  tb : Tb B W q b v rm L S
  kp : Kp (fun j => j = b) w W
  lo : r0 ≤ W.heap.size
theorem Re.kz {B0 g r0 : Nat} {l : List Int} {X Y : World} (h : Re B w g r0 q b v rm L S l X) (hB : w.heap.size ≤ B0) (hb : b < B0) (hk : Kz B0 X Y) : Re B w g r0 q b v rm L S l Y := by
  obtain ⟨u, h1, h2⟩ := h.row
  exact ⟨⟨u, Blk.kz h1 hk, own_kz h2 hk⟩, Tb.kz h.tb hb hk, Kp.kz hB h.kp hk, Nat.le_trans h.lo hk.size⟩
theorem Re.push {B0 g r0 : Nat} {l : List Int} (h : Re B w g r0 q b v rm L S l W) (hl : l.length < 80000) (x : Int) (hg : w.heap.size ≤ g) (hgB : g < B0) (hr0 : w.heap.size ≤ r0) (hw : ∀ j, fr q b v j → j < w.heap.size) : ∃ u g' cap' w4, W.cell? ⟨g, 0, none⟩ = some u ∧
    (appO #[24, 24] 24 #[u, .slice (some ⟨W.heap.size, 0, none⟩) 1 1]).run Try.prog (W.alloc (.cells #[.int .i64 x] 3)) = .ok (.slice (some ⟨g', 0, none⟩) (l.length + 1) cap') w4 ∧
    (w4.cell? ⟨g, 0, none⟩ = some u ∧ w4.frozen? ⟨g, 0, none⟩ = false) ∧
    KeepsFrom B0 W (w4.setCell ⟨g, 0, none⟩ (.slice (some ⟨g', 0, none⟩) (l.length + 1) cap')) ∧
    Stay (fun k => k = g) b W (w4.setCell ⟨g, 0, none⟩ (.slice (some ⟨g', 0, none⟩) (l.length + 1) cap')) ∧
    Re B w g r0 q b v rm L S (l ++ [x]) (w4.setCell ⟨g, 0, none⟩ (.slice (some ⟨g', 0, none⟩) (l.length + 1) cap')) := by
  obtain ⟨u, r1, r2⟩ := h.row
  obtain ⟨g', cap', w4, p1, p2, p3, p4, p5, p6⟩ := Teg.push (S := 24) (E := 3) Try.underlying24 infoI rfl (by decide) (by decide) (by decide) #[.int .i64 x] rfl (by simp [Value.oneCell']) r1 r2 h.lo (by omega)
  have hblo : ∀ k, u.ownBlock = some k → r0 ≤ k ∧ ∃ cs, W.heap[k]? = some (.cells cs 3 (0, 0)) := fun k e => own_cells r2 e
  refine ⟨u, g', cap', w4, r1.cell 0, p1, ⟨p2.cell 0, p2.free 0⟩, ?_, ?_, ?_⟩
  · refine keeps_of p5 (fun j e => ?_)
    rcases e with e | e
    · exact .inl (by omega)
    · obtain ⟨_, cs, hc⟩ := hblo j e; exact .inr ⟨_, _, _, hc⟩
  · refine stay_of p5 (fun j e => ?_) (fun k e => ?_)
    · rcases e with e | e
      · exact .inl e
      · exact .inr (.inr ⟨g, rfl, u, _, _, r1, e⟩)
    · rcases e with e | e | ⟨g2, rfl, v', T, z, e1, e2⟩
      · exact .inl (.inl e)
      · exact .inl (.inr (.inl e))
      · rw [show (w4.setCell ⟨g2, 0, none⟩ (.slice (some ⟨g', 0, none⟩) (l.length + 1) cap')).heap[g2]? = _ from p3] at e1
        cases e1
        have : g' = k := by simpa [Value.ownBlock] using e2
        subst this
        rcases p6 with e | e
        · exact .inl (.inr (.inr ⟨g2, rfl, u, _, _, r1, e⟩))
        · exact .inr e
  · have hs : ∀ j, (j = g ∨ u.ownBlock = some j) → w.heap.size ≤ j := fun j e => by
      rcases e with e | e
      · omega
      · have := (hblo j e).1; omega
    refine ⟨⟨_, p3, ?_⟩, h.tb.kept p5 (fun j e e2 => ?_), h.kp.trans p5 (fun j e => .inr (hs j e)), Nat.le_trans h.lo p5.size⟩
    · rw [ints_app, List.length_append]
      exact p4
    · have := hs j e2; have := hw j e; omega
/-- One child is given to process 1. -/
theorem Re.orphan {B0 g r0 i r : Nat} {X : World} (h : Re B w g r0 q b v rm (orL L ((kids L p).take i)) S ((kids L p).take i) X) (ho : Okt rm L S) (hi : i < (kl L p).length) (hg : w.heap.size ≤ g) (hgB : g < B0) (hb : b < w.heap.size) (hr0 : w.heap.size ≤ r0) (hw : ∀ j, fr q b v j → j < w.heap.size) (hwB : w.heap.size ≤ B0)
    (hr : Blk X r #[.int .i64 (rc (kl L p) i).par, .int .i64 (rc (kl L p) i).st, uv (rc (kl L p) i).su] 61) (s0 : Nat) (hrs : s0 ≤ r) (hsB : B0 ≤ s0) :
    ∃ X2, (Instr.mapUpdate 62 (.map (some b)) (.int .i64 (pd (kl L p) i)) (.agg #[.int .i64 1, .int .i64 (rc (kl L p) i).st, uv (rc (kl L p) i).su])).run Try.prog (X.setCell ⟨r, 0, none⟩ (.int .i64 1)).drew = .ok () X2 ∧
      (X.setCell ⟨r, 0, none⟩ (.int .i64 1)).drew.cell? ⟨q, 1, none⟩ = some (.map (some b)) ∧ X2.cell? ⟨q, 1, none⟩ = some (.map (some b)) ∧
      ∃ u g' cap' w4, X2.cell? ⟨g, 0, none⟩ = some u ∧
    (appO #[24, 24] 24 #[u, .slice (some ⟨X2.heap.size, 0, none⟩) 1 1]).run Try.prog (X2.alloc (.cells #[.int .i64 (pd (kl L p) i)] 3)) = .ok (.slice (some ⟨g', 0, none⟩) (i + 1) cap') w4 ∧
    (w4.cell? ⟨g, 0, none⟩ = some u ∧ w4.frozen? ⟨g, 0, none⟩ = false) ∧
    KeepsFrom B0 X (w4.setCell ⟨g, 0, none⟩ (.slice (some ⟨g', 0, none⟩) (i + 1) cap')) ∧
    StayB s0 (fun k => k = g) b X (w4.setCell ⟨g, 0, none⟩ (.slice (some ⟨g', 0, none⟩) (i + 1) cap')) ∧
    Re B w g r0 q b v rm (orL L ((kids L p).take (i + 1))) S ((kids L p).take (i + 1)) (w4.setCell ⟨g, 0, none⟩ (.slice (some ⟨g', 0, none⟩) (i + 1) cap')) := by
  have hk0 : Kp (fun j => j = r) X (X.setCell ⟨r, 0, none⟩ (.int .i64 1)).drew := kp_drew (Kp.set (S := fun j => j = r) _ _ _ _ rfl)
  have hgr : g ≠ r := by omega
  obtain ⟨u0, hu1, hu2⟩ := h.row
  have hur : ∀ k, u0.ownBlock = some k → k ≠ r := fun k e e2 => by
    obtain ⟨_, cs, hc⟩ := own_cells hu2 e
    subst e2
    rw [show X.heap[k]? = _ from hr] at hc
    cases hc
  have h1 : Re B w g r0 q b v rm (orL L ((kids L p).take i)) S ((kids L p).take i) (X.setCell ⟨r, 0, none⟩ (.int .i64 1)).drew :=
    ⟨⟨u0, hu1.kept hk0 hgr, own_kept hu2 hk0 (fun k e => hur k e)⟩, h.tb.kept hk0 (fun j e e2 => by have := hw j e; omega), h.kp.trans hk0 (fun j e => .inr (by omega)), Nat.le_trans h.lo hk0.size⟩
  obtain ⟨n1, n2⟩ := or_next ho.ok.up hi
  have hin : (kl L p)[i] ∈ L := (List.mem_filter.1 (List.getElem_mem hi)).1
  have hgt := ho.ok.up.gt hin
  rw [← pd_at hi] at hgt
  have hbd := ho.ok.pid _ hgt.2
  have hll : (orL L ((kids L p).take i)).length < 90000 := by rw [orL, len_mp]; have := ho.len; have := ho.room; omega
  obtain ⟨X2, m1, m2, m3⟩ := h1.tb.map.turn hll (wf64 (p := pd (kl L p) i) (by omega)) ⟨1, (rc (kl L p) i).st, (rc (kl L p) i).su⟩ (ho.ok.up.mp _) (by rw [hs_orL]; exact hgt.2) n1 n2
  have ht2 := Tb.upd h1.tb m2 m3
  obtain ⟨u1, hv1, hv2⟩ := h1.row
  have hu1b : ∀ k, u1.ownBlock = some k → k ≠ b := fun k e e2 => by
    obtain ⟨_, cs, hc⟩ := own_cells hv2 e
    obtain ⟨es, ck, ho⟩ := h1.tb.map.obj
    subst e2
    rw [ho] at hc
    cases hc
  have h2 : Re B w g r0 q b v rm (orL L ((kids L p).take (i + 1))) S ((kids L p).take i) X2 :=
    ⟨⟨u1, hv1.kept m3 (Mp.ne h1.tb.map hv1), own_kept hv2 m3 (fun k e => hu1b k e)⟩, ht2, h1.kp.trans m3 (fun j e => .inl e), Nat.le_trans h1.lo m3.size⟩
  have hlen : ((kids L p).take i).length = i := by rw [List.length_take, kl_len]; omega
  · obtain ⟨u, g', cap', w4, q1, q2, q3, e1, e2, e3⟩ := h2.push (B0 := B0) (by rw [hlen]; have := kl_le L p; have := ho.len; have := ho.room; omega) (pd (kl L p) i) hg hgB hr0 hw
    rw [hlen] at q2 e1 e2 e3
    rw [← kids_next hi] at e3
    refine ⟨X2, m1, h1.tb.cell1, ht2.cell1, u, g', cap', w4, q1, q2, q3, ?_, ?_, e3⟩
    · refine KeepsFrom.trans (KeepsFrom.trans (keeps_of hk0 (fun j e => .inr (by subst e; exact ⟨_, _, _, hr⟩))) (keeps_of m3 (fun j e => .inl (by omega)))) e1
    · intro k cs T z hks hkX hkn
      have a1 : (X.setCell ⟨r, 0, none⟩ (.int .i64 1)).drew.heap[k]? = some (.cells cs T z) := (hk0.block k (Array.getElem?_eq_some_iff.1 hkX).1 (by omega)).trans hkX
      have a2 : X2.heap[k]? = some (.cells cs T z) := (m3.block k (Array.getElem?_eq_some_iff.1 a1).1 (fun e => hkn (.inr (.inl e)))).trans a1
      refine e2 k cs T z a2 (fun e => hkn ?_)
      refine (Mine.same (fun g2 hg2 => ?_)).1 e
      rw [hg2]
      have c1 : (X.setCell ⟨r, 0, none⟩ (.int .i64 1)).drew.heap[g]? = X.heap[g]? := hk0.block g hu1.lt hgr
      have c2 : X2.heap[g]? = (X.setCell ⟨r, 0, none⟩ (.int .i64 1)).drew.heap[g]? := m3.block g hv1.lt (Mp.ne h1.tb.map hv1)
      exact c2.trans c1
set_option maxRecDepth 100000 in
set_option maxHeartbeats 4000000 in
theorem exit_in (n : Nat) (hn : 8 ≤ n) (h : Tb B w q b v rm L S) (ho : Okt rm L S) (hp : (Lit.int .i64 p).wf = true) (hz : fzB L p = true) (su : Nat) (hsu : su < 4294967296) :
    CallsIn Fence.wide n Try.prog 8 #[pv q, .int .i64 p, uv su] w fun e w' => ∃ u, e = .returned (.tuple #[u, .int .i64 0]) ∧ w'.ownsRow w.heap.size 3 1 u (kids L p).length (ints (kids L p)) ∧ Tb B w' q b v rm (exL L p su) S ∧ Kp (fun j => j = b) w w' := by
  have hfr := h.fr_lt
  have hll : L.length < 80000 := by have := ho.len; have := ho.room; omega
  have hin : hs L p = true := by
    unfold fzB at hz
    simp only [Bool.and_eq_true, bne_iff_ne, beq_iff_eq] at hz
    exact ho.ok.there (by omega)
  have b1 := (Below.refl w.heap.size w).alloc (Nat.le_refl _) (.cells #[pv q] 22)
  have b2 := b1.alloc b1.size (.cells #[.slice none 0 0] 24)
  have HD := Lib.hid (made_any (h.below b1) ho.room.1)
  have HE := end_any (h.below b1) hp
  rw [show (p != 1 && (gt L p).st == 1) = true from hz] at HE
  replace HE := Lib.hid HE
  refine callsIn_of_wp_marks Try.func8 rfl trivial ?_ rfl
  simp only [Try.ntmps8, List.size_toArray, List.length_cons, List.length_nil, Nat.reduceAdd, Nat.reduceSub, Array.replicate_succ, Array.replicate_zero, List.push_toArray, List.append_toArray, List.nil_append, List.cons_append]
  gi_wp2_with (first
    | (refine ⟨trivial, ?_⟩; gi_at_call 26; refine (callsIn_wide.2 HD.out).mono ?_; rintro e w' ⟨rfl, rfl⟩)
    | (refine ⟨trivial, fun _ => (by omega), ?_⟩; gi_at_call 26; refine (callsIn_wide.2 HD.out).mono ?_; rintro e w' ⟨rfl, rfl⟩)
    | (refine ⟨trivial, ?_⟩; gi_at_call 27; refine (callsIn_wide.2 HE.out).mono ?_; rintro e w' ⟨rfl, rfl⟩)
    | (refine ⟨trivial, fun _ => (by omega), ?_⟩; gi_at_call 27; refine (callsIn_wide.2 HE.out).mono ?_; rintro e w' ⟨rfl, rfl⟩)
    | (refine ⟨trivial, ?_⟩; gi_at_call 28; refine (children_in (n - 1) _ _ _).mono ?_; rintro e w' ⟨rfl, rfl⟩)
    | (refine ⟨trivial, fun _ => (by omega), ?_⟩; gi_at_call 28; refine (children_in (n - 1) _ _ _).mono ?_; rintro e w' ⟨rfl, rfl⟩))
  clear HD HE
  have b3 := b2.alloc b2.size (.cells #[pv q] 22)
  have hB0 := b3.alloc b3.size (.cells #[.int .i64 p] 3)
  have k1 := (((Boxed.new w 22 (pv q)).alloc (.cells #[.slice none 0 0] 24)).alloc (.cells #[pv q] 22)).alloc (.cells #[.int .i64 p] 3)
  have k2 := ((Boxed.new (w.alloc (.cells #[pv q] 22)) 24 (.slice none 0 0)).alloc (.cells #[pv q] 22)).alloc (.cells #[.int .i64 p] 3)
  have bT := (Boxed.new ((w.alloc (.cells #[pv q] 22)).alloc (.cells #[.slice none 0 0] 24)) 22 (pv q)).alloc (.cells #[.int .i64 p] 3)
  have bP := Boxed.new (((w.alloc (.cells #[pv q] 22)).alloc (.cells #[.slice none 0 0] 24)).alloc (.cells #[pv q] 22)) 3 (.int .i64 p)
  have hsz : ((((w.alloc (.cells #[pv q] 22)).alloc (.cells #[.slice none 0 0] 24)).alloc (.cells #[pv q] 22)).alloc (.cells #[.int .i64 p] 3)).heap.size = w.heap.size + 4 := by simp
  have hrow0 := World.ownsRow_nil ((((w.alloc (.cells #[pv q] 22)).alloc (.cells #[.slice none 0 0] 24)).alloc (.cells #[pv q] 22)).alloc (.cells #[.int .i64 p] 3)) (w.heap.size + 4) 3 1
  simp only [World.size_alloc] at k2 bT bP ⊢
  obtain ⟨W0, hW0⟩ : ∃ W0, (((w.alloc (.cells #[pv q] 22)).alloc (.cells #[.slice none 0 0] 24)).alloc (.cells #[pv q] 22)).alloc (.cells #[.int .i64 p] 3) = W0 := ⟨_, rfl⟩
  clear b1 b2 b3
  rw [hW0] at k1 k2 bT bP hB0 hsz hrow0 ⊢
  clear hW0
  have hb0 := h.map.lt
  have hkl := kl_le L p
  have e0 : orL L ((kids L p).take 0) = L := by
    unfold orL mp
    have : ∀ x : Pr, (x.1, rpF ((kids L p).take 0) x.1 x.2) = x := fun x => by unfold rpF; rw [if_neg (by simp)]
    simp only [this]
    exact List.map_id L
  have hT0 : Re B w (w.heap.size + 1) (w.heap.size + 4) q b v rm (orL L ((kids L p).take 0)) S ((kids L p).take 0) W0 := ⟨⟨_, k2, hrow0⟩, by rw [e0]; exact h.below hB0, Kp.of_below hB0, by omega⟩
  have hmine : ∀ X, Below W0.heap.size W0 X → ∀ k, Mine (fun k => k = w.heap.size + 1) b X k → k = w.heap.size + 1 ∨ k = b := fun X hX k e => by
    rcases e with e | e | ⟨g2, rfl, v', T, z, e1, e2⟩
    · exact .inl e
    · exact .inr e
    · rw [hX.block _ k2.lt, show W0.heap[w.heap.size + 1]? = _ from k2] at e1
      cases e1
      cases e2
  have xT : Bx (fun k => k = w.heap.size + 1) b W0 w.heap.size 22 (pv q) := ⟨k1, fun e => by have := hmine W0 (Below.refl _ _) _ e; omega⟩
  have her : ∀ i X, Re B w (w.heap.size + 1) (w.heap.size + 4) q b v rm (orL L ((kids L p).take i)) S ((kids L p).take i) X → Ec q b L p i X := fun i X hi k hk => by
    refine ⟨hi.tb.cell1, fun hkL => ?_⟩
    have h1 := pd_in ho.ok.up hkL
    rw [hi.tb.map.look1 (pd_wf ho.ok hkL), gt_orL h1.1, h1.2, if_neg (by rw [← hk]; exact or_look ho.ok.up hkL)]
  refine tells_loop (by omega) eg_children (c := (kl L p).length) (v1 := fun i => .int .i64 (pd (kl L p) i)) (v2 := fun i => rv (rc (kl L p) i)) (E := Ec q b L p) (P := fun k => k = w.heap.size + 1) (b := b) (fv := #[.pointer (some ⟨w.heap.size + 1 + 1, 0, none⟩), .pointer (some ⟨w.heap.size + 1 + 1 + 1, 0, none⟩)]) rfl (fun k hk => by omega)
    (fun W1 hW1 hs1 => children_tells (h.below (hB0.trans (hW1.mono hB0.size))) ho.ok.up (by omega) ((hW1.block _ bT.lt).trans bT) ((hW1.block _ bP.lt).trans bP) (fun k hk => by
      have := hmine W1 hW1 k hk
      omega))
    (fun i X => Re B w (w.heap.size + 1) (w.heap.size + 4) q b v rm (orL L ((kids L p).take i)) S ((kids L p).take i) X ∧ Bx (fun k => k = w.heap.size + 1) b X w.heap.size 22 (pv q)) (fun _ _ _ => False)
    (fun i X hi => her i X hi.1) (fun i X Y hk hi => ⟨hi.1.kz (by omega) (by omega) hk, hi.2.kz hk (fun k e => by have := hi.1.lo; omega)⟩) (fun _ _ _ _ _ e => e)
    (fun s0 i a' X => ∃ r, a' = { tmps := #[pv q, .int .i64 p, uv su, .pointer (some ⟨w.heap.size, 0, none⟩), undef, undef, .slice none 0 0, .int .i64 0, .pointer (some ⟨w.heap.size + 1, 0, none⟩), .int .i64 (pd (kl L p) i), .pointer (some ⟨r, 0, none⟩), .bool false, pv q, .bool true, .bool false, .bool false, pv q, .int .i64 p, .bool true, .bool false, pv q, .int .i64 p, .func (.func 40) #[] #[.pointer (some ⟨w.heap.size + 1 + 1, 0, none⟩), .pointer (some ⟨w.heap.size + 1 + 1 + 1, 0, none⟩)], .int .i64 (pd (kl L p) i), rv (rc (kl L p) i), undef, undef, undef, undef, undef, undef, undef, undef, undef, undef, undef, undef, undef, undef, undef, undef], defers := [] } ∧ s0 ≤ r ∧ Blk X r #[.int .i64 (rc (kl L p) i).par, .int .i64 (rc (kl L p) i).st, uv (rc (kl L p) i).su] 61)
    (fun s0 i a' X Y hk ⟨r, e, hr, hb⟩ => ⟨r, e, hr, (hk.block r hb.lt (.inr ⟨_, _, _, hb⟩)).trans hb⟩)
    ⟨hT0, xT⟩ ?assign ?body ?done ?stop
  case assign =>
    intro l i W K hic hi hW hK
    generalize rc (kl L p) i = r at *
    unfold rv
    gi_wp2
    exact hK _ _ ((Below.refl _ _).alloc (Nat.le_refl _) _) ⟨_, rfl, Nat.le_refl _, Blk.new _ _ _⟩
  case body =>
    rintro l i s0 a' X hlw ⟨hT, xTi⟩ ⟨r, rfl, hrs, hr⟩ hic hs0 hs1
    obtain ⟨X2, m1, c1, c2, u, g', cap', w4, q1, q2, ⟨q3, q4⟩, e1, e2, e3⟩ := hT.orphan (B0 := W0.heap.size) ho hic (by omega) (by omega) hb0 (by omega) hfr (by omega) hr s0 hrs hs0
    have r0 : X.cell? ⟨r, 0, none⟩ = some (.int .i64 (rc (kl L p) i).par) := hr.cell 0
    have rf := hr.free 0
    have hr2 : Blk (X.setCell ⟨r, 0, none⟩ (.int .i64 1)).drew r #[.int .i64 1, .int .i64 (rc (kl L p) i).st, uv (rc (kl L p) i).su] 61 := hr.set 0 (.int .i64 1)
    have r1 := hr2.cell 0
    have r2 := hr2.cell 1
    have r3 := hr2.cell 2
    simp only [List.getElem?_toArray, List.getElem?_cons_zero, List.getElem?_cons_succ] at r1 r2 r3
    have hne : w.heap.size ≠ r := by omega
    have t1 : (X.setCell ⟨r, 0, none⟩ (.int .i64 1)).drew.cell? ⟨w.heap.size, 0, none⟩ = some (pv q) := by
      have hb1 : Blk (X.setCell ⟨r, 0, none⟩ (.int .i64 1)).drew w.heap.size #[pv q] 22 := blk_drew (blk_other hne xTi.1)
      exact hb1.cell 0
    have HX := Lib.hid (And.intro e1 (And.intro e2 (And.intro e3 (⟨(e2 _ _ _ _ (by omega) xTi.1 xTi.2).1, (e2 _ _ _ _ (by omega) xTi.1 xTi.2).2⟩ : Bx (fun k => k = w.heap.size + 1) b (w4.setCell ⟨w.heap.size + 1, 0, none⟩ (.slice (some ⟨g', 0, none⟩) (i + 1) cap')) w.heap.size 22 (pv q)))))
    clear hT hT0 hr hr2 e1 e2 e3 h ho hb0 hmine her xTi xT hin
    generalize rc (kl L p) i = x at *
    generalize pd (kl L p) i = y at *
    gi_wp2
    gi_region
    all_goals
      gi_wp2
      exact ⟨HX.out.1, HX.out.2.1, HX.out.2.2.1, HX.out.2.2.2⟩
  case done =>
    rintro D X hD ⟨hT, xTi⟩ hK
    rw [← kl_len, List.take_length] at hT
    obtain ⟨n1, n2⟩ := or_end ho.ok hin su
    have hlo : (orL L (kids L p)).length < 80000 := by rw [orL, len_mp]; exact hll
    have HC := Lib.hid (change_any hT.tb hlo hp (by rw [hs_orL]; exact hin) 2 su (ho.ok.up.mp _) n1 n2)
    obtain ⟨u, r1, r2⟩ := hT.row
    have c1 : X.cell? ⟨w.heap.size, 0, none⟩ = some (pv q) := xTi.1.cell
    have HT := Lib.hid (And.intro hT (And.intro r1 r2))
    have HB := Lib.hid hb0
    clear hT hT0 r1 r2 hmine her xTi xT n1 n2 hlo h ho hb0
    gi_wp2_with (first
      | (refine ⟨trivial, ?_⟩; gi_at_call 29; refine (callsIn_wide.2 HC.out).mono ?_; rintro e X2 ⟨⟨x, rfl⟩, t1, t2⟩; have c2 : X2.cell? ⟨w.heap.size + 1, 0, none⟩ = some u := (HT.out.2.1.kept t2 (by have := HB.out; omega)).cell 0; have HG := Lib.hid (And.intro t1 t2); clear t1 t2)
      | (refine ⟨trivial, fun _ => (by omega), ?_⟩; gi_at_call 29; refine (callsIn_wide.2 HC.out).mono ?_; rintro e X2 ⟨⟨x, rfl⟩, t1, t2⟩; have c2 : X2.cell? ⟨w.heap.size + 1, 0, none⟩ = some u := (HT.out.2.1.kept t2 (by have := HB.out; omega)).cell 0; have HG := Lib.hid (And.intro t1 t2); clear t1 t2))
    refine ⟨by simp, .inl ⟨_, _, rfl, run_takeDeferred ((HG.out.2.block D (Array.getElem?_eq_some_iff.1 hK).1 (by have := HB.out; omega)).trans hK), ?_⟩⟩
    have hk := Kz.putObj (B0 := W0.heap.size) hD ((HG.out.2.block D (Array.getElem?_eq_some_iff.1 hK).1 (by have := HB.out; omega)).trans hK) rfl (.deferred none)
    refine ⟨_, results_tmp2 rfl _ _ _, u, rfl, ?_, Tb.kz HG.out.1 (B0 := W0.heap.size) (by have := HB.out; omega) hk, Kp.kz (B0 := W0.heap.size) (by omega) (HT.out.1.kp.trans HG.out.2 (fun j e => .inl e)) hk⟩
    exact own_base (own_kz (own_kept HT.out.2.2 HG.out.2 (fun g e e2 => by have := own_cells HT.out.2.2 e; have := HB.out; omega)) hk) (by omega)
  case stop =>
    rintro D c i W _ _ hx
    exact hx.elim
theorem exit_yes (h : Tb B w q b v rm L S) (ho : Okt rm L S) (hp : (Lit.int .i64 p).wf = true) (hz : fzB L p = true) (su : Nat) (hsu : su < 4294967296) :
    Calls Try.prog 8 #[pv q, .int .i64 p, uv su] w fun e w' => ∃ u, e = .returned (.tuple #[u, .int .i64 0]) ∧ w'.ownsRow w.heap.size 3 1 u (kids L p).length (ints (kids L p)) ∧ Tb B w' q b v rm (exL L p su) S ∧ Kp (fun j => j = b) w w' :=
  callsIn_wide.1 (exit_in 8 (Nat.le_refl _) h ho hp hz su hsu)
end Go.Proofs.Ytkjcjodhpcfjiaa.Teq
