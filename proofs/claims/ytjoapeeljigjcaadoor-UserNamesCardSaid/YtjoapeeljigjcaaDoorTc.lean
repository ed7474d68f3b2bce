/-
  Clear, Copy of a table of pages; a table that nobody made.
-/
import Derived.Test.YtjoapeeljigjcaaDoorTs
import Derived.Laws.MakeOwn
namespace Go.Proofs.YtjoapeeljigjcaaDoor.Tc
open Go Go.RowKit Kit Bk Tm Ts
set_option linter.unusedVariables false

attribute [local go_sem ↓] sts_wrap

theorem set5 {w : World} {b : Nat} {T : TypeId} {a0 a1 a2 a3 a4 : Value} (h : Blk w b #[a0, a1, a2, a3, a4] T) (v0 v1 v2 v3 v4 : Value) :
    Blk (((((w.setCell ⟨b, 0, none⟩ v0).setCell ⟨b, 1, none⟩ v1).setCell ⟨b, 2, none⟩ v2).setCell ⟨b, 3, none⟩ v3).setCell ⟨b, 4, none⟩ v4) b #[v0, v1, v2, v3, v4] T := by
  have := (((((h.set 0 v0).set 1 v1).set 2 v2).set 3 v3).set 4 v4)
  simpa using this
theorem set5_kp (w : World) (b : Nat) (v0 v1 v2 v3 v4 : Value) :
    Kp (fun j => j = b) w (((((w.setCell ⟨b, 0, none⟩ v0).setCell ⟨b, 1, none⟩ v1).setCell ⟨b, 2, none⟩ v2).setCell ⟨b, 3, none⟩ v3).setCell ⟨b, 4, none⟩ v4) :=
  (((((Kp.set (S := fun j => j = b) w b 0 v0 rfl).trans (Kp.set (S := fun j => j = b) _ b 1 v1 rfl) (fun _ h => .inl h)).trans (Kp.set (S := fun j => j = b) _ b 2 v2 rfl) (fun _ h => .inl h)).trans (Kp.set (S := fun j => j = b) _ b 3 v3 rfl) (fun _ h => .inl h)).trans (Kp.set (S := fun j => j = b) _ b 4 v4 rfl) (fun _ h => .inl h))
theorem putI_none {T : Nat → Option En} {i : Int} (h : atI T i = none) : putI T i none = T := by
  unfold putI
  split
  · rename_i hi
    funext j
    unfold up
    split
    · rename_i e
      subst e
      unfold atI at h
      rw [if_pos hi] at h
      exact h.symm
    · rfl
  · rfl
/-- A table without entries, as a value. -/
def zT : Array Value := madeCells (sc none) 384
theorem infoT : (Tryd.prog.info? 78).map (fun i => (i.zero, i.size, i.bytes)) = some (some (.agg zT), 384, 1536) := by kernel_rfl
theorem run_zeroT (w : World) : (zeroValue 78).run Tryd.prog w = .ok (.agg zT) w := by
  obtain ⟨i, hi, hz, _⟩ := info_parts infoT
  simp [zeroValue, typeInfo, hi, hz]
theorem zT_size : zT.size = 384 := size_madeCells _ _
theorem zT_slot (k : Nat) (hk : k < 64) : Slot zT (k * 6) none := by
  have h : ∀ r, r < 6 → zT[k * 6 + r]? = (sc none)[r]? := fun r hr => by
    have hs : k * 6 + r < 384 := by omega
    have hmod : (k * 6 + r) % 6 = r := by omega
    unfold zT
    simp only [madeCells, Array.getElem?_map, Array.getElem?_range, hs, if_true, Option.map_some]
    rw [show (sc none).size = 6 from rfl, hmod, getElem!_def]
    have : r < (sc none).size := hr
    rw [Array.getElem?_eq_getElem this]
  exact ⟨h 0 (by omega), h 1 (by omega), h 2 (by omega), h 3 (by omega), h 4 (by omega), h 5 (by omega)⟩
theorem Mem.zero (w : World) : Mem (w.alloc (.cells zT 78)) w.heap.size (fun _ => none) := ⟨⟨zT, Blk.new _ _ _, zT_size, zT_slot⟩, fun _ _ => rfl⟩

def ldT (p : Value) : Sem Value := Instr.loadAt 78 p
theorem ldt_wrap (p : Value) : Instr.loadAt 78 p = ldT p := rfl
def stT (p v : Value) : Sem Unit := Instr.storeAt 78 p v
theorem stt_wrap (p v : Value) : Instr.storeAt 78 p v = stT p v := rfl
attribute [local go_sem ↓] ldt_wrap stt_wrap
theorem slots_one {cs : Array Value} (hs : cs.size = 384) {T : Nat → Option En} (h : ∀ k, k < 64 → Slot cs (k * 6) (T k)) : cs.all (·.oneCell') = true := by
  rw [Array.all_eq_true]
  intro j hj
  have hk : j / 6 < 64 := by omega
  obtain ⟨e0, e1, e2, e3, e4, e5⟩ := h (j / 6) hk
  have hc : j = j / 6 * 6 ∨ j = j / 6 * 6 + 1 ∨ j = j / 6 * 6 + 1 + 1 ∨ j = j / 6 * 6 + 1 + 2 ∨ j = j / 6 * 6 + 1 + 3 ∨ j = j / 6 * 6 + 1 + 4 := by omega
  have hg : ∀ v, cs[j]? = some v → cs[j] = v := fun v hv => by
    rw [Array.getElem?_eq_getElem hj] at hv
    exact Option.some.inj hv
  rcases hc with h | h | h | h | h | h
  · rw [hg _ (by rw [h]; exact e0)]; rfl
  · rw [hg _ (by rw [h]; exact e1)]; rfl
  · rw [hg _ (by rw [h]; exact e2)]; rfl
  · rw [hg _ (by rw [h]; exact e3)]; rfl
  · rw [hg _ (by rw [h]; exact e4)]; rfl
  · rw [hg _ (by rw [h]; exact e5)]; rfl
theorem Blk.setAll {w : World} {b : Nat} {T : TypeId} {cs ds : Array Value} (h : Blk w b cs T) (hs : ds.size = cs.size) : Blk (w.setCells b 0 ds.toList) b ds T := by
  obtain ⟨es, h1, h2, h3, h4⟩ := h.sets ds.toList 0
  have : es = ds := by
    apply Array.ext_getElem?
    intro j
    by_cases hj : j < ds.size
    · have := h4 j (by simpa using hj) (by omega)
      rw [Nat.zero_add] at this
      rw [this, Array.getElem?_toList]
    · rw [Array.getElem?_eq_none (by omega), Array.getElem?_eq_none (by omega)]
  rw [← this]
  exact this ▸ h1
end Go.Proofs.YtjoapeeljigjcaaDoor.Tc
