/- What stands in memory while the reference makes a type of the same shape. Conditions: none. -/
import Derived.Test.YtkedhnahgpmkaaaTySpine
import Derived.Test.YtkedhnahgpmkaaaTyShift
namespace Go.Proofs.Ytkedhnahgpmkaaa
open Go.RowKit

namespace Ty
/-- the type's box, the result's, and the box of what is made -/
structure RS (w : World) (a0 a1 a2 a3 o0 o1 o2 ov : Value) (acc : List Ty) (W : World) : Prop where
  below : Below w.heap.size w W
  box : B4 W w.heap.size a0 a1 a2 a3
  res : B4 W (w.heap.size + 1) (.int .i64 0) (.int .i64 0) (.string ⟨#[]⟩) (.slice none 0 0)
  out : B4 W (w.heap.size + 2) o0 o1 o2 ov
  own : OwnL (w.heap.size + 3) ov acc W
section
variable {w W W' : World} {a0 a1 a2 a3 o0 o1 o2 ov : Value} {acc : List Ty}
theorem RS.next (h : RS w a0 a1 a2 a3 o0 o1 o2 ov acc W) (hb : Below W.heap.size W W') : RS w a0 a1 a2 a3 o0 o1 o2 ov acc W' :=
  ⟨h.below.trans (hb.mono h.below.size), h.box.next hb, h.res.next hb, h.out.next hb, h.own.next hb⟩
theorem RS.drew (h : RS w a0 a1 a2 a3 o0 o1 o2 ov acc W) : RS w a0 a1 a2 a3 o0 o1 o2 ov acc W.drew := h.next (drew_below W)
theorem RS.new (w : World) (a0 a1 a2 a3 o0 o1 o2 : Value) : RS w a0 a1 a2 a3 o0 o1 o2 (.slice none 0 0) [] (((w.alloc (Obj.cells #[a0, a1, a2, a3] 24)).alloc (Obj.cells #[.int .i64 0, .int .i64 0, .string ⟨#[]⟩, .slice none 0 0] 24)).alloc (Obj.cells #[o0, o1, o2, .slice none 0 0] 24)) := by
  refine ⟨?_, ?_, ?_, ?_, OwnL.nil _ _⟩
  · exact (((Below.refl _ _).alloc (Nat.le_refl _) _).alloc (by simp) _).alloc (by simp; omega) _
  · exact push_old (push_old (push_at _ _ _ rfl))
  · exact push_old (push_at _ _ _ (by simp))
  · exact push_at _ _ _ (by simp)
theorem RS.big (h : RS w a0 a1 a2 a3 o0 o1 o2 ov acc W) : w.heap.size + 3 ≤ W.heap.size := by have := lt_of_block h.out; omega
/-- one more part: the row has grown, and the box of what is made holds it -/
theorem RS.snoc {g cap' : Nat} {ds : List TC} {x : TC} {t : Ty} (h : RS w a0 a1 a2 a3 o0 o1 o2 ov acc W) (h1 : W.ownsRow (w.heap.size + 3) 24 4 ov ds.length (TC.all ds)) (h2 : TC.AllOf (fun g => w.heap.size + 3 ≤ g ∧ some g ≠ ov.ownBlock) W ds acc)
    (hx : TC.Of (fun g => w.heap.size + 3 ≤ g ∧ some g ≠ ov.ownBlock) W x t)
    (hown : W'.ownsRow (w.heap.size + 3) 24 4 (.slice (some ⟨g, 0, none⟩) (ds.length + 1) cap') (ds.length + 1) (TC.all ds ++ x.enc)) (hg : W.grownBy W' ov.ownBlock) (hlie : ov.ownBlock = some g ∨ g = W.heap.size) :
    (Below w.heap.size w W' ∧ B4 W' w.heap.size a0 a1 a2 a3 ∧ B4 W' (w.heap.size + 1) (.int .i64 0) (.int .i64 0) (.string ⟨#[]⟩) (.slice none 0 0) ∧ B4 W' (w.heap.size + 2) o0 o1 o2 ov) ∧
    RS w a0 a1 a2 a3 o0 o1 o2 (.slice (some ⟨g, 0, none⟩) (ds.length + 1) cap') (acc ++ [t]) (W'.setCell ⟨w.heap.size + 2, 3, none⟩ (.slice (some ⟨g, 0, none⟩) (ds.length + 1) cap')) := by
  have hr : ∀ j, ov.ownBlock = some j → w.heap.size + 3 ≤ j := fun j hj => (ownBlock_lt h1 hj).1
  have hb := h.below.grown hg h.below.size (fun j hj => by have := hr j hj; omega)
  have b1 := b4_far h.box hg hr (by omega)
  have b2 := b4_far h.res hg hr (by omega)
  have b3 := b4_far h.out hg hr (by omega)
  have hn := OwnL.snoc h2 hx hown hg hlie
  refine ⟨⟨hb, b1, b2, b3⟩, hb.setCell (by show w.heap.size ≤ w.heap.size + 2; omega) _, one_other b1 (by omega), one_other b2 (by omega), ?_, ?_⟩
  · have h' : W'.heap[w.heap.size + 2]? = some (Obj.cells #[o0, o1, o2, ov] 24) := b3
    unfold B4
    simp [World.setCell, Array.getElem?_modify, h']
  · obtain ⟨ds', e1, e2⟩ := hn
    refine ⟨ds', e1.kept (row := some (w.heap.size + 2)) ?_ ?_, e2.keep (fun _ h => h) (fun p v hp hc => ?_)⟩
    · exact ⟨rfl, rfl, rfl, by simp [World.setCell], fun j _ hne => Below.heap_setCell _ _ _ _ (by intro e; exact hne (by rw [e]))⟩
    · right
      intro e
      have := (ownBlock_lt e1 e).1
      omega
    · rw [World.cell?_setCell_other _ _ _ _ (by intro e; have := hp.1; rw [← e] at this; simp at this)]
      exact hc
/-- what is made lies in memory -/
theorem RS.done {op n : Int} {s : ByteArray} (h : RS w a0 a1 a2 a3 (.int .i64 op) (.int .i64 n) (.string s) ov acc W) (hs : s.size ≤ maxLen) (hl : acc.length ≤ 1000000) :
    ∃ bb cap, ov = .slice bb acc.length cap ∧ ∀ v0 v1 v2 v3, VO (w.heap.size ≤ ·) (put4 W (w.heap.size + 1) v0 v1 v2 v3) (.mk op n s.data.toList acc) (.agg #[.int .i64 op, .int .i64 n, .string s, .slice bb acc.length cap]) := by
  obtain ⟨ds, h1, h2⟩ := h.own
  have hmk : (⟨s.data.toList.toArray⟩ : ByteArray) = s := by simp
  have fin : ∀ bb cap, SlO (fun g => w.heap.size + 3 ≤ g) W bb acc → ∀ v0 v1 v2 v3, VO (w.heap.size ≤ ·) (put4 W (w.heap.size + 1) v0 v1 v2 v3) (.mk op n s.data.toList acc) (.agg #[.int .i64 op, .int .i64 n, .string s, .slice bb acc.length cap]) := by
    intro bb cap hsl v0 v1 v2 v3
    refine ⟨bb, cap, ?_, by show s.data.toList.length ≤ maxLen; rw [show s.data.toList.length = s.size from rfl]; exact hs, hsl.keep (fun g hg => by show w.heap.size ≤ g; have : w.heap.size + 3 ≤ g := hg; omega) (fun p v hp hc => put4_keep _ _ _ _ p v hc (by have : w.heap.size + 3 ≤ p.block := hp; omega))⟩
    show _ = Value.agg #[.int .i64 op, .int .i64 n, .string ⟨s.data.toList.toArray⟩, .slice bb acc.length cap]
    rw [hmk]
  by_cases hne : ds = []
  · subst hne
    have hacc : acc = [] := by have := h2.1; exact List.eq_nil_of_length_eq_zero this.symm
    subst hacc
    obtain ⟨bb, cap, hov⟩ := h.own.len
    exact ⟨bb, cap, hov, fin bb cap ⟨Nat.zero_le _, .inl rfl⟩⟩
  · obtain ⟨g, cap, hov, hgb, hk⟩ := cells_own h1 hne
    refine ⟨some ⟨g, 0, none⟩, cap, by rw [hov, h2.1], fin _ cap ⟨by unfold maxLen; omega, .inr ⟨g, 0, rfl, hgb, ?_⟩⟩⟩
    exact row_held hk (h2.keep (fun _ h => h.1) (fun _ _ _ hc => hc))
end

end Ty
end Go.Proofs.Ytkedhnahgpmkaaa
