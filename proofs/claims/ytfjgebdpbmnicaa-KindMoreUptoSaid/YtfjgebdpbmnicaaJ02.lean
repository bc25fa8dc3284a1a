/- Plain: when a type is proper, and how its nodes are counted. What stands in memory while they are. Conditions: none. -/
import Derived.Test.YtfjgebdpbmnicaaJ01
import Derived.Deep.Cut
namespace Go.Proofs.Ytfjgebdpbmnicaa
open Go.RowKit

namespace Ty
/-- how many parts a type with this head has; none: no proper type has such a head -/
def headK (op n : Int) (s : List UInt8) : Option Nat :=
  if op = 1 ∨ op = 6 ∨ op = 7 then (if 0 ≤ n ∧ n ≤ 9999 ∧ s = [] then some 0 else none)
  else if op = 2 then (if n = 0 ∧ s ≠ [] ∧ s.length ≤ 40 then some 0 else none)
  else if op = 3 ∨ op = 4 ∨ op = 5 then (if n = 0 ∧ s = [] then some 2 else none)
  else none
mutual
/-- whether a type is proper at a depth, and how many nodes were counted -/
def prop : Ty → Nat → Nat → Bool × Nat
  | .mk op n s a, d, c =>
    if 600 < c + 1 ∨ 40 < d then (false, c + 1)
    else match headK op n s with
      | none => (false, c + 1)
      | some k => if a.length = k then props a (d + 1) (c + 1) else (false, c + 1)
def props : List Ty → Nat → Nat → Bool × Nat
  | [], _, c => (true, c)
  | x :: l, d, c => if (prop x d c).1 = true then props l d (prop x d c).2 else prop x d c
end
theorem prop_eq (t : Ty) (d c : Nat) : prop t d c = if 600 < c + 1 ∨ 40 < d then (false, c + 1) else match headK t.op t.n t.s with
    | none => (false, c + 1)
    | some k => if t.args.length = k then props t.args (d + 1) (c + 1) else (false, c + 1) := by
  cases t; rw [prop]; rfl
theorem props_nil (d c : Nat) : props [] d c = (true, c) := by rw [props]
theorem props_cons (x : Ty) (l : List Ty) (d c : Nat) : props (x :: l) d c = if (prop x d c).1 = true then props l d (prop x d c).2 else prop x d c := by rw [props]
mutual
theorem prop_le : ∀ (t : Ty) (d c : Nat), (prop t d c).1 = true → (prop t d c).2 ≤ 600
  | .mk op n s a, d, c, h => by
    rw [prop] at h ⊢
    by_cases h1 : 600 < c + 1 ∨ 40 < d
    · rw [if_pos h1] at h; cases h
    · rw [if_neg h1] at h ⊢
      cases hk : headK op n s with
      | none => rw [hk] at h; cases h
      | some k =>
        rw [hk] at h
        simp only at h ⊢
        by_cases h2 : a.length = k
        · rw [if_pos h2] at h ⊢
          exact props_le a (d + 1) (c + 1) (by omega) h
        · rw [if_neg h2] at h; cases h
theorem props_le : ∀ (l : List Ty) (d c : Nat), c ≤ 600 → (props l d c).1 = true → (props l d c).2 ≤ 600
  | [], d, c, hc, _ => by rw [props]; exact hc
  | x :: l, d, c, hc, h => by
    rw [props] at h ⊢
    by_cases h1 : (prop x d c).1 = true
    · rw [if_pos h1] at h ⊢
      exact props_le l d _ (prop_le x d c h1) h
    · rw [if_neg h1] at h; exact absurd h h1
end

/-! what stands in memory -/
abbrev PBox (w : World) (P0 : Nat) (c : Nat) : Prop := w.heap[P0]? = some (.cells #[.int .i64 (c : Int)] 3 (0, 0))
/-- what the function leaves -/
def PropP (t : Ty) (d c P0 : Nat) (w : World) (e : Ending) (w' : World) : Prop :=
  e = .returned (.bool (prop t d c).1) ∧ w.grownBy w' (some P0) ∧ PBox w' P0 (prop t d c).2
theorem grown_trans {a b c : World} {m : Nat} (h : a.grownBy b (some m)) (k : b.grownBy c (some m)) : a.grownBy c (some m) :=
  ⟨k.os.trans h.os, k.tape.trans h.tape, k.output.trans h.output, Nat.le_trans h.size k.size, fun j hj hne => (k.block j (Nat.lt_of_lt_of_le hj h.size) hne).trans (h.block j hj hne)⟩
theorem grown_refl (a : World) (m : Option Nat) : a.grownBy a m := ⟨rfl, rfl, rfl, Nat.le_refl _, fun _ _ _ => rfl⟩
theorem grown_alloc {a b : World} {m : Option Nat} (h : a.grownBy b m) (o : Obj) : a.grownBy (b.alloc o) m :=
  ⟨h.os, h.tape, h.output, Nat.le_trans h.size (by simp), fun j hj hne => (Below.heap_alloc _ _ _ (Nat.lt_of_lt_of_le hj h.size)).trans (h.block j hj hne)⟩
theorem grown_below {w0 a b : World} {m : Nat} (h : Below w0.heap.size w0 a) (k : a.grownBy b (some m)) (hm : w0.heap.size ≤ m) : Below w0.heap.size w0 b :=
  h.grown k h.size (fun j hj => by injection hj with hj; omega)

/-- the world behind the box of the argument and the count -/
theorem prop_enter {w : World} {P0 c : Nat} (hp : PBox w P0 c) : w.cell? ⟨P0, 0, none⟩ = some (.int .i64 c) ∧ w.frozen? ⟨P0, 0, none⟩ = false ∧ P0 < w.heap.size := by
  refine ⟨by rw [cell_of_row _ P0 0 _ 3 (0, 0) hp]; rfl, ?_, lt_of_block hp⟩
  unfold World.frozen?
  rw [hp]
  simp

theorem prop_entered {w : World} {P0 c : Nat} (hp : PBox w P0 c) (v0 v1 v2 v3 : Value) :
    w.grownBy ((w.setCell ⟨P0, 0, none⟩ (.int .i64 ((c : Int) + 1))).alloc (Obj.cells #[v0, v1, v2, v3] 36)) (some P0) ∧
    PBox ((w.setCell ⟨P0, 0, none⟩ (.int .i64 ((c : Int) + 1))).alloc (Obj.cells #[v0, v1, v2, v3] 36)) P0 (c + 1) ∧
    ((w.setCell ⟨P0, 0, none⟩ (.int .i64 ((c : Int) + 1))).alloc (Obj.cells #[v0, v1, v2, v3] 36)).heap[w.heap.size]? = some (Obj.cells #[v0, v1, v2, v3] 36) := by
  have hlt : P0 < w.heap.size := lt_of_block hp
  have hsz : (w.setCell ⟨P0, 0, none⟩ (.int .i64 ((c : Int) + 1))).heap.size = w.heap.size := by simp [World.setCell]
  refine ⟨⟨rfl, rfl, rfl, ?_, fun j hj hne => ?_⟩, ?_, ?_⟩
  · simp
  · rw [Below.heap_alloc _ _ _ (by rw [hsz]; exact hj)]
    exact Below.heap_setCell _ _ _ _ (by intro e; exact hne (by rw [e]))
  · show ((w.setCell ⟨P0, 0, none⟩ (.int .i64 ((c : Int) + 1))).alloc _).heap[P0]? = _
    rw [Below.heap_alloc _ _ _ (by rw [hsz]; exact hlt)]
    show (w.heap.modify P0 _)[P0]? = _
    rw [Array.getElem?_modify, if_pos rfl, hp]
    rfl
  · have := heap_alloc_new (w.setCell ⟨P0, 0, none⟩ (.int .i64 ((c : Int) + 1))) (Obj.cells #[v0, v1, v2, v3] 36)
    rw [hsz] at this
    exact this

end Ty
end Go.Proofs.Ytfjgebdpbmnicaa

/- What the reference's proper returns. Conditions: the type lies in memory; the count lies in a box of its own. -/
namespace Go.Proofs.Ytfjgebdpbmnicaa
open Go.RowKit

namespace Ty
end Ty
end Go.Proofs.Ytfjgebdpbmnicaa
