/- What the reference's Arrow returns. Conditions: the parts lie in memory. -/
import Derived.Test.YtkedhnahgpmkaaaTyMake
import Derived.Deep.RegionWith
namespace Go.Proofs.Ytkedhnahgpmkaaa
open Go.RowKit

namespace Ty
/-- a box with four cells -/
abbrev B4 (w : World) (m : Nat) (v0 v1 v2 v3 : Value) : Prop := w.heap[m]? = some (Obj.cells #[v0, v1, v2, v3] 24)
theorem B4.cells {w : World} {m : Nat} {v0 v1 v2 v3 : Value} (h : B4 w m v0 v1 v2 v3) : w.cell? ⟨m, 0, none⟩ = some v0 ∧ w.cell? ⟨m, 1, none⟩ = some v1 ∧ w.cell? ⟨m, 2, none⟩ = some v2 ∧ w.cell? ⟨m, 3, none⟩ = some v3 :=
  ⟨cell_of_row w m 0 _ 24 (0, 0) h, cell_of_row w m 1 _ 24 (0, 0) h, cell_of_row w m 2 _ 24 (0, 0) h, cell_of_row w m 3 _ 24 (0, 0) h⟩
theorem B4.frozen {w : World} {m : Nat} {v0 v1 v2 v3 : Value} (h : B4 w m v0 v1 v2 v3) (i : Nat) : w.frozen? ⟨m, i, none⟩ = false := by
  unfold World.frozen?
  rw [show w.heap[m]? = _ from h]
  simp
theorem B4.next {w w' : World} {m : Nat} {v0 v1 v2 v3 : Value} (h : B4 w m v0 v1 v2 v3) (hb : Below w.heap.size w w') : B4 w' m v0 v1 v2 v3 := (hb.block m (lt_of_block h)).trans h

/-- the world in which a maker of two parts stands: the parts' boxes, and the result's -/
structure Three (w W : World) (a0 a1 a2 a3 b0 b1 b2 b3 : Value) : Prop where
  below : Below w.heap.size w W
  ba : B4 W w.heap.size a0 a1 a2 a3
  bb : B4 W (w.heap.size + 1) b0 b1 b2 b3
  br : B4 W (w.heap.size + 1 + 1) (.int .i64 0) (.int .i64 0) (.string ⟨#[]⟩) (.slice none 0 0)
theorem Three.new (w : World) (a0 a1 a2 a3 b0 b1 b2 b3 : Value) : Three w (((w.alloc (Obj.cells #[a0, a1, a2, a3] 24)).alloc (Obj.cells #[b0, b1, b2, b3] 24)).alloc (Obj.cells #[.int .i64 0, .int .i64 0, .string ⟨#[]⟩, .slice none 0 0] 24)) a0 a1 a2 a3 b0 b1 b2 b3 := by
  have e1 : (w.alloc (Obj.cells #[a0, a1, a2, a3] 24)).heap.size = w.heap.size + 1 := by simp
  have e2 : ((w.alloc (Obj.cells #[a0, a1, a2, a3] 24)).alloc (Obj.cells #[b0, b1, b2, b3] 24)).heap.size = w.heap.size + 1 + 1 := by simp
  refine ⟨(below_two w _ _).alloc (by simp; omega) _, ?_, ?_, ?_⟩
  · exact (Below.heap_alloc _ _ _ (by rw [e2]; omega)).trans ((Below.heap_alloc _ _ _ (by rw [e1]; omega)).trans (heap_alloc_new w _))
  · have := heap_alloc_new (w.alloc (Obj.cells #[a0, a1, a2, a3] 24)) (Obj.cells #[b0, b1, b2, b3] 24)
    rw [e1] at this
    exact (Below.heap_alloc _ _ _ (by rw [e2]; omega)).trans this
  · have := heap_alloc_new ((w.alloc (Obj.cells #[a0, a1, a2, a3] 24)).alloc (Obj.cells #[b0, b1, b2, b3] 24)) (Obj.cells #[.int .i64 0, .int .i64 0, .string ⟨#[]⟩, .slice none 0 0] 24)
    rw [e2] at this
    exact this
theorem Three.next {w W W' : World} {a0 a1 a2 a3 b0 b1 b2 b3 : Value} (h : Three w W a0 a1 a2 a3 b0 b1 b2 b3) (hb : Below W.heap.size W W') : Three w W' a0 a1 a2 a3 b0 b1 b2 b3 :=
  ⟨h.below.trans (hb.mono h.below.size), h.ba.next hb, h.bb.next hb, h.br.next hb⟩
theorem Three.drew {w W : World} {a0 a1 a2 a3 b0 b1 b2 b3 : Value} (h : Three w W a0 a1 a2 a3 b0 b1 b2 b3) : Three w W.drew a0 a1 a2 a3 b0 b1 b2 b3 := ⟨h.below.drew, h.ba, h.bb, h.br⟩

def put4 (w : World) (B : Nat) (v0 v1 v2 v3 : Value) : World := (((w.setCell ⟨B, 0, none⟩ v0).setCell ⟨B, 1, none⟩ v1).setCell ⟨B, 2, none⟩ v2).setCell ⟨B, 3, none⟩ v3
theorem put4_cells {w : World} {B : Nat} {u0 u1 u2 u3 : Value} (h : B4 w B u0 u1 u2 u3) (v0 v1 v2 v3 : Value) : B4 (put4 w B v0 v1 v2 v3) B v0 v1 v2 v3 := by
  have h' : w.heap[B]? = some (Obj.cells #[u0, u1, u2, u3] 24) := h
  unfold B4 put4
  simp [World.setCell, Array.getElem?_modify, h']
theorem below_put4 {w W : World} {B : Nat} (h : Below w.heap.size w W) (hB : w.heap.size ≤ B) (v0 v1 v2 v3 : Value) : Below w.heap.size w (put4 W B v0 v1 v2 v3) :=
  (((h.setCell hB _).setCell hB _).setCell hB _).setCell hB _
theorem put4_keep {W : World} {B : Nat} (v0 v1 v2 v3 : Value) (p : Addr) (v : Value) (h : W.cell? p = some v) (hp : p.block ≠ B) : (put4 W B v0 v1 v2 v3).cell? p = some v := by
  unfold put4
  rw [World.cell?_setCell_other _ _ _ _ (fun e => hp (by rw [← e])), World.cell?_setCell_other _ _ _ _ (fun e => hp (by rw [← e])), World.cell?_setCell_other _ _ _ _ (fun e => hp (by rw [← e])), World.cell?_setCell_other _ _ _ _ (fun e => hp (by rw [← e]))]
  exact h

end Ty
end Go.Proofs.Ytkedhnahgpmkaaa
