/-
  PutText: a text's bytes, and a nought behind.
-/
import Derived.Test.YtjoapeeljigjcaaDoorUse
import Derived.Lib.ConvBytes
import Derived.Lib.AtoiErrMem
import Derived.Deep.AppendSrc
namespace Go.Proofs.YtjoapeeljigjcaaDoor.Ush
open Go Go.RowKit Go.Shelf Kit Bk
open Fm hiding Mem made_any len_any
open Fo Fr Fw Fx Fu Fq
open Tm hiding Mem
open Ts Tc Ti Tl Sp Sa Pz To My Pv Mp Mq Dr Cl Iv Iw Ix Sy Rd Usa Usb Usc Usd Use Usf Usg
open BackNums (bstr)
set_option linter.unusedVariables false

variable {w w' : World} {p b n m : Nat} {qs ts : Nat → Nat} {M : Nat → Bool} {Vs : Nat → Nat → Nat}

/-- A text's bytes. -/
def nats (s : ByteArray) : List Nat := s.data.toList.map UInt8.toNat
theorem nats_len (s : ByteArray) : (nats s).length = s.size := by unfold nats; rw [List.length_map, Array.length_toList]; rfl
theorem nats_lt (s : ByteArray) : ∀ x ∈ nats s, x < 256 := fun x hx => by
  obtain ⟨b, _, rfl⟩ := List.mem_map.1 hx
  exact b.toNat_lt
theorem bstr_nats (s : ByteArray) : bstr (nats s) = s := by
  apply ByteArray.ext
  unfold bstr nats strOfNums
  rw [List.map_map, List.map_map]
  apply Array.ext'
  rw [List.toList_toArray]
  conv => rhs; rw [← List.map_id s.data.toList]
  refine List.map_congr_left fun x _ => ?_
  simp
theorem nats_bstr {l : List Nat} (h : ∀ x ∈ l, x < 256) : nats (bstr l) = l := by
  unfold bstr nats strOfNums
  rw [List.map_map, List.map_map]
  conv => rhs; rw [← List.map_id l]
  refine List.map_congr_left fun x hx => ?_
  have := h x hx
  simp
  omega
/-- Is a byte 0 in it? -/
theorem index_none : ∀ (l : List UInt8), (∀ x ∈ l, x ≠ 0) → Lib.indexByte l 0 = -1
  | [], _ => rfl
  | b :: l, h => by
    have h1 : (b == 0) = false := by simp [h b (by simp)]
    have h2 := index_none l (fun x hx => h x (by simp [hx]))
    unfold Lib.indexByte
    rw [h1, h2]
    rfl
theorem index_ge : ∀ (l : List UInt8), Lib.indexByte l 0 = -1 ∨ 0 ≤ Lib.indexByte l 0
  | [] => .inl rfl
  | b :: l => by
    unfold Lib.indexByte
    rcases index_ge l with h | h
    · rw [h]
      split
      · right; omega
      · left; rfl
    · split
      · right; omega
      · split
        · left; rfl
        · right; omega
theorem index_some : ∀ (l : List UInt8), (∃ x ∈ l, x = 0) → 0 ≤ Lib.indexByte l 0
  | [], h => by obtain ⟨x, hx, _⟩ := h; cases hx
  | b :: l, h => by
    unfold Lib.indexByte
    by_cases e : b = 0
    · subst e
      simp
    · have : ∃ x ∈ l, x = 0 := by
        obtain ⟨x, hx, h0⟩ := h
        rcases List.mem_cons.1 hx with rfl | hx
        · exact absurd h0 e
        · exact ⟨x, hx, h0⟩
      have := index_some l this
      rw [if_neg (by simpa using e), if_neg (by simp; omega)]
      omega
/-- Where the first byte 0 is, as far as it counts. -/
theorem index_of (s : ByteArray) : (0 ∉ nats s → Lib.indexByte s.data.toList 0 = -1) ∧ (0 ∈ nats s → 0 ≤ Lib.indexByte s.data.toList 0) := by
  constructor
  · intro h
    refine index_none _ fun x hx e => h ?_
    subst e
    exact List.mem_map.2 ⟨0, hx, rfl⟩
  · intro h
    obtain ⟨x, hx, h0⟩ := List.mem_map.1 h
    exact index_some _ ⟨x, hx, UInt8.toNat_inj.1 h0⟩

def cvB (s : ByteArray) : Sem Value := convert 9 37 (.string s)
theorem cvb_wrap (s : ByteArray) : convert 9 37 (.string s) = cvB s := rfl
theorem info8 : (Tryd.prog.info? 5).map (fun i => (i.zero, i.size, i.bytes)) = some (some (.int .u8 0), 1, 1) := by kernel_rfl
theorem Slc.own8 {W : World} {g : Nat} {cs : Array Value} (hb : Blk W g cs 5) {l : List Nat} {cap : Nat} (h1 : l.length ≤ cap) (h2 : cap ≤ maxLen) (hc : ∀ j, j < l.length → cs[j]? = some (.int .u8 ((l[j]?.getD 0 : Nat) : Int))) : Slc .u8 W (.slice (some ⟨g, 0, none⟩) l.length cap) l :=
  ⟨_, cap, rfl, h1, h2, .inr ⟨g, 0, rfl, hb.lt, fun i hi => by rw [Nat.zero_add, hb.cell]; exact hc i hi⟩⟩
/-- The bytes, and a nought behind. -/
theorem str_nought (w : World) (s : ByteArray) (hs : s.size ≤ 5000) :
    ∃ cap w1, (cvB s).run Tryd.prog w = .ok (.slice (some ⟨w.heap.size, 0, none⟩) s.size cap) w1 ∧ w1.heap.size = w.heap.size + 1 ∧
      ∃ v w2, (Tl.appO #[37, 37] 37 #[.slice (some ⟨w.heap.size, 0, none⟩) s.size cap, .slice (some ⟨w1.heap.size, 0, none⟩) 1 1]).run Tryd.prog (w1.alloc (.cells #[.int .u8 0] 5)) = .ok v w2 ∧ Below w.heap.size w w2 ∧ Wr.Src (fun j => j < w.heap.size) w2 v (nats s ++ [0]) := by
  obtain ⟨i0, hi, hz0, hz1, hz2⟩ := info_parts info8
  have hb1 := Lib.bytesWorld_below w 5 s
  have hsz := Lib.bytesWorld_size w 5 s
  have hcell : ∀ j, j < s.size → (Lib.bytesWorld w 5 s).cell? ⟨w.heap.size, j, none⟩ = some (.int .u8 (((nats s)[j]?.getD 0 : Nat) : Int)) := fun j hj => by
    rw [Lib.bytesWorld_cell w _ s j hj]
    unfold nats
    have hj2 : j < s.data.toList.length := by rw [Array.length_toList]; exact hj
    rw [List.getElem?_map, List.getD, List.getElem?_eq_getElem hj2]
    rfl
  have hnew := Lib.bytesWorld_at_new w 5 s
  have hcs : (Lib.bytesCells w 5 s).size = max s.size (grownCap w s.size 0 5) := by
    unfold Lib.bytesCells
    rw [Array.size_append, Array.size_map, Array.size_replicate]
    show s.size + _ = _
    omega
  refine ⟨_, _, Lib.run_convert_string_bytes w 9 37 5 s Tryd.underlying9 Tryd.underlying37 Tryd.underlying5, hsz, ?_⟩
  have hge : s.size ≤ grownCap w s.size 0 5 := grownCap_ge w s.size 0 5
  have hcm : grownCap w s.size 0 5 ≤ maxLen := grownCap_le_maxLen w s.size 0 5 (by unfold maxLen; omega)
  obtain ⟨W1, hW1⟩ : ∃ W1, Lib.bytesWorld w 5 s = W1 := ⟨_, rfl⟩
  rw [hW1] at hb1 hsz hcell hnew ⊢
  obtain ⟨cap, hcap⟩ : ∃ cap, grownCap w s.size 0 5 = cap := ⟨_, rfl⟩
  rw [hcap] at hge hcm hcs ⊢
  obtain ⟨cs, hcs0⟩ : ∃ cs, Lib.bytesCells w 5 s = cs := ⟨_, rfl⟩
  rw [hcs0] at hcs hnew
  have hcs' : cs.size = cap := by omega
  have hba : Below W1.heap.size W1 (W1.alloc (.cells #[.int .u8 0] 5)) := (Below.refl _ _).alloc (Nat.le_refl _) _
  have hb2 : Below w.heap.size w (W1.alloc (.cells #[.int .u8 0] 5)) := hb1.trans (hba.mono hb1.size)
  have hlt : w.heap.size < W1.heap.size := by omega
  have hcell2 : ∀ j, j < s.size → (W1.alloc (.cells #[.int .u8 0] 5)).cell? ⟨w.heap.size, j, none⟩ = some (.int .u8 (((nats s)[j]?.getD 0 : Nat) : Int)) := fun j hj => (hba.cell (p := ⟨w.heap.size, j, none⟩) hlt).trans (hcell j hj)
  have hsrc : Src Tryd.prog i0.size 37 (.slice (some ⟨W1.heap.size, 0, none⟩) 1 1) 1 [.int .u8 0] (W1.alloc (.cells #[.int .u8 0] 5)) := by
    rw [hz1]
    exact Src.ofSlice _ Tryd.underlying37 ⟨W1.heap.size, 0, none⟩ 1 1 [.int .u8 0] rfl (fun j u hj => by
      have hj0 : j = 0 := by have := (List.getElem?_eq_some_iff.1 hj).1; simpa using this
      subst hj0
      simp at hj
      subst hj
      exact (Blk.new W1 #[.int .u8 0] 5).cell 0) (fun u hu => by simp at hu; subst hu; rfl)
  have hl : (nats s ++ [0]).length = s.size + 1 := by rw [List.length_append, nats_len]; rfl
  have hat : ∀ j, j < s.size → (nats s ++ [0])[j]?.getD 0 = (nats s)[j]?.getD 0 := fun j hj => by rw [List.getElem?_append_left (by rw [nats_len]; exact hj)]
  have hla : (nats s ++ [0])[s.size]?.getD 0 = 0 := by rw [List.getElem?_append_right (by rw [nats_len]; exact Nat.le_refl _), nats_len]; simp
  by_cases hfit : s.size + 1 ≤ cap
  · have hheap : (W1.alloc (.cells #[.int .u8 0] 5)).heap[w.heap.size]? = some (.cells cs 5 (cs.size, cs.size + 1)) := (hba.block _ hlt).trans hnew
    have hsome : ((W1.alloc (.cells #[.int .u8 0] 5)).cell? ⟨w.heap.size, s.size, none⟩).isSome = true := by
      unfold World.cell?
      rw [hheap]
      simp
      omega
    have hfree : (W1.alloc (.cells #[.int .u8 0] 5)).frozen? ⟨w.heap.size, s.size, none⟩ = false := by
      unfold World.frozen?
      rw [hheap]
      simp
      omega
    have hrun := run_append_room_src (P := Tryd.prog) (W1.alloc (.cells #[.int .u8 0] 5)) 37 37 37 5 i0 Tryd.underlying37 hi w.heap.size 0 s.size cap _ 1 [.int .u8 0] hsrc hfit
      (fun j hj => by
        have : j = 0 := by simpa using hj
        subst this
        rw [hz1, Nat.zero_add, Nat.mul_one, Nat.add_zero]
        exact hsome) (fun j hj => by
        have : j = 0 := by simpa using hj
        subst this
        rw [hz1, Nat.zero_add, Nat.mul_one, Nat.add_zero]
        exact hfree)
    rw [hz1, Nat.zero_add, Nat.mul_one] at hrun
    have hbs : Below w.heap.size w ((W1.alloc (.cells #[.int .u8 0] 5)).setCells w.heap.size s.size [.int .u8 0]) := hb2.setCell (by simp) _
    refine ⟨_, _, hrun, hbs, ⟨_, cap, by rw [hl], by rw [hl]; exact hfit, hcm, .inr ⟨w.heap.size, 0, rfl, by simp [World.setCells]; omega, fun i hi => ?_⟩⟩, .inr fun ad k c e => ?_⟩
    · rw [hl] at hi
      rw [Nat.zero_add]
      show ((W1.alloc (.cells #[.int .u8 0] 5)).setCell ⟨w.heap.size, s.size, none⟩ (.int .u8 0)).cell? ⟨w.heap.size, i, none⟩ = _
      by_cases e : i = s.size
      · subst e
        rw [World.cell?_setCell_same' _ _ _ hsome, hla]
        rfl
      · rw [show (World.setCell (W1.alloc (.cells #[.int .u8 0] 5)) ⟨w.heap.size, s.size, none⟩ (.int .u8 0)).cell? ⟨w.heap.size, i, none⟩ = (W1.alloc (.cells #[.int .u8 0] 5)).cell? ⟨w.heap.size, i, none⟩ from World.cell?_setCells_out w.heap.size [.int .u8 0] s.size _ ⟨w.heap.size, i, none⟩ (fun _ _ => by simp only [List.length_singleton]; omega), hcell2 i (by omega), hat i (by omega)]
    · cases e
      exact Nat.lt_irrefl _
  · have hg : cap < s.size + 1 := by omega
    have hrun := run_append_grow_src (P := Tryd.prog) (W1.alloc (.cells #[.int .u8 0] 5)) 37 37 37 5 i0 (.int .u8 0) Tryd.underlying37 hi hz0 (some ⟨w.heap.size, 0, none⟩) s.size cap (Bytes.u8s (nats s))
      (run_firstCells_some _ i0.size s.size ⟨w.heap.size, 0, none⟩ s.size cap (Bytes.u8s (nats s)) (by rw [hz1, Nat.mul_one]; simp [Bytes.u8s, nats_len]) (fun j u hj => by
        rw [Addr.add_lit, Nat.zero_add]
        have hj2 : j < s.size := by
          have := (List.getElem?_eq_some_iff.1 hj).1
          simpa [Bytes.u8s, nats_len] using this
        rw [show (Bytes.u8s (nats s))[j]? = some (.int .u8 (((nats s)[j]?.getD 0 : Nat) : Int)) by simp [Bytes.u8s, List.getElem?_eq_getElem (show j < (nats s).length by rw [nats_len]; exact hj2)]] at hj
        rw [← hj]
        exact hcell2 j hj2)) _ 1 [.int .u8 0] hsrc hg (by omega) (growslice_fits hg (by rw [hz2]; omega))
    have hge2 := grownCap_ge (W1.alloc (.cells #[.int .u8 0] 5)) (s.size + 1) cap 5
    have hcm2 := grownCap_le_maxLen (W1.alloc (.cells #[.int .u8 0] 5)) (s.size + 1) cap 5 (by unfold maxLen; omega)
    have hbn := Blk.new (W1.alloc (.cells #[.int .u8 0] 5)).drew ((Bytes.u8s (nats s) ++ [Value.int .u8 0]).toArray ++ Builtin.zeroCells (Value.int .u8 0).cells (grownCap (W1.alloc (.cells #[.int .u8 0] 5)) (s.size + 1) cap 5 - (s.size + 1))) 5
    obtain ⟨CS, hCS⟩ : ∃ CS, (Bytes.u8s (nats s) ++ [Value.int .u8 0]).toArray ++ Builtin.zeroCells (Value.int .u8 0).cells (grownCap (W1.alloc (.cells #[.int .u8 0] 5)) (s.size + 1) cap 5 - (s.size + 1)) = CS := ⟨_, rfl⟩
    have hb3 := (Below.drew (Below.refl (W1.alloc (.cells #[.int .u8 0] 5)).heap.size (W1.alloc (.cells #[.int .u8 0] 5)))).alloc (Nat.le_refl _) (.cells CS 5)
    rw [← hCS] at hb3
    have hu : Bytes.u8s (nats s) ++ [Value.int .u8 0] = Bytes.u8s (nats s ++ [0]) := by simp [Bytes.u8s]
    refine ⟨_, _, hrun, hb2.trans (hb3.mono hb2.size), ?_, .inr fun ad k c e => ?_⟩
    · have := Slc.own8 hbn (l := nats s ++ [0]) (by rw [hl]; exact hge2) hcm2 (fun j hj => by
        rw [hu, Array.getElem?_append_left (by simp [Bytes.u8s] at hj ⊢; exact hj), List.getElem?_toArray]
        unfold Bytes.u8s
        rw [List.getElem?_map, List.getElem?_eq_getElem hj]
        rfl)
      rw [hl] at this
      exact this
    · cases e
      have := hb2.size
      dsimp only
      show ¬ (W1.alloc (.cells #[.int .u8 0] 5)).drew.heap.size < w.heap.size
      exact Nat.not_lt.2 this
end Go.Proofs.YtjoapeeljigjcaaDoor.Ush

/-
  PutText, of one of some spaces.
-/
namespace Go.Proofs.YtjoapeeljigjcaaDoor.Usi
open Go Go.RowKit Go.Shelf Kit Bk
open Fm hiding Mem made_any len_any
open Fo Fr Fw Fx Fu Fq
open Tm hiding Mem
open Ts Tc Ti Tl Sp Sa Pz To My Pv Mp Mq Dr Cl Iv Iw Ix Sy Rd Usa Usb Usc Usd Use Usf Usg Ush
open BackNums (bstr)
set_option linter.unusedVariables false
attribute [local go_sem ↓] Tl.app_wrap cvb_wrap

variable {w w' : World} {p b n m : Nat} {qs ts : Nat → Nat} {M : Nat → Bool} {Vs : Nat → Nat → Nat}

theorem src_low {S : Nat → Prop} {N : Nat} {v : Value} {xs : List Nat} (h : Wr.Src (fun j => j < N) w v xs) (hS : ∀ j, S j → j < N) : Wr.Src S w v xs := ⟨h.1, h.2.imp id fun h2 ad k c e hs => h2 ad k c e (hS _ hs)⟩
set_option maxRecDepth 100000 in
theorem oPutText (h : On w p b n qs ts M Vs m) {i : Nat} (hi : i < m) (a : Nat) (ha : a < 4294967296) (s : ByteArray) (hs : s.size ≤ 300) (h0 : 0 ∉ nats s) :
    Calls Tryd.prog 5 #[.pointer (some ⟨qs i, 0, none⟩), .int .u32 (a : Int), .string s] w fun e w' => ∃ (code : Int) (Vs' : Nat → Nat → Nat), e = .returned (.int .i64 code) ∧ Kp (fun j => j = b ∨ j = ts i) w w' ∧ On w' p b n qs ts M Vs' m ∧ Put M Vs Vs' n m i a (nats s ++ [0]) code := by
  have d1 : decide ((4096 : Int) ≤ (s.size : Int)) = false := decide_eq_false (by omega)
  have d2 : decide (4096 ≤ s.size) = false := decide_eq_false (by omega)
  have hx := Shl.strings_IndexByte s 0 w
  rw [show ((0 : Int).toNat.toUInt8 : UInt8) = 0 from rfl, (index_of s).1 h0] at hx
  have HI := Lib.hid hx
  obtain ⟨cap, w1, hrun, hsz, v, w2, hrun2, hb2, hsrc⟩ := str_nought w s (by omega)
  have hlt := h.lt hi
  have HW := Lib.hid (oWrite (h.below hb2) hi a ha v (nats s ++ [0]) (src_low hsrc (fun j hj => by rcases hj with rfl | rfl; exact hlt.1; exact hlt.2.1)) (fun x hx => by
    rcases List.mem_append.1 hx with hx | hx
    · exact nats_lt s x hx
    · simp at hx; omega) (by rw [List.length_append, nats_len]; simp; omega))
  have HB := Lib.hid hb2
  clear hsz h hx h0 hsrc hlt hb2
  go_enter Tryd.func5, Tryd.ntmps5
  go_wp2_with (first
    | (go_at_call 18; (with_reducible refine HI.out.mono ?_); rintro e w1 ⟨rfl, rfl⟩)
    | (go_at_call 19; (with_reducible refine HW.out.mono ?_); rintro e w5 ⟨code, Vs', rfl, hk, hO, hc⟩; have HK := Lib.hid (And.intro ((Kp.of_below HB.out).trans hk (fun j hj => .inl hj)) (And.intro hO hc)); clear hk hO hc))
  go_ret
  exact ⟨_, _, rfl, HK.out.1, HK.out.2.1, HK.out.2.2⟩
set_option maxRecDepth 100000 in
theorem text_zero (w : World) (sp : Value) (a : Int) (s : ByteArray) (hs : s.size ≤ 300) (h0 : 0 ∈ nats s) :
    Calls Tryd.prog 5 #[sp, .int .u32 a, .string s] w fun e w' => e = .returned (.int .i64 22) ∧ w = w' := by
  have d1 : decide ((4096 : Int) ≤ (s.size : Int)) = false := decide_eq_false (by omega)
  have d2 : decide (4096 ≤ s.size) = false := decide_eq_false (by omega)
  have hx := Shl.strings_IndexByte s 0 w
  obtain ⟨z, hz⟩ : ∃ z, Lib.indexByte s.data.toList 0 = z := ⟨_, rfl⟩
  have hz0 := (index_of s).2 h0
  rw [show ((0 : Int).toNat.toUInt8 : UInt8) = 0 from rfl, hz] at hx
  rw [hz] at hz0
  have d3 : decide (0 ≤ z) = true := decide_eq_true hz0
  have HI := Lib.hid hx
  clear hx h0 hz
  go_enter Tryd.func5, Tryd.ntmps5
  go_wp2_with (first
    | (go_at_call 18; (with_reducible refine HI.out.mono ?_); rintro e w1 ⟨rfl, rfl⟩))
  go_ret
  exact ⟨rfl, rfl⟩
set_option maxRecDepth 100000 in
theorem text_long (w : World) (sp : Value) (a : Int) (s : ByteArray) (hs : 4096 ≤ s.size) :
    Calls Tryd.prog 5 #[sp, .int .u32 a, .string s] w fun e w' => e = .returned (.int .i64 22) ∧ w = w' := by
  have d1 : decide ((4096 : Int) ≤ (s.size : Int)) = true := decide_eq_true (by omega)
  have d2 : decide (4096 ≤ s.size) = true := decide_eq_true (by omega)
  go_enter Tryd.func5, Tryd.ntmps5
  go_wp2
  go_ret
  exact ⟨rfl, rfl⟩
end Go.Proofs.YtjoapeeljigjcaaDoor.Usi
