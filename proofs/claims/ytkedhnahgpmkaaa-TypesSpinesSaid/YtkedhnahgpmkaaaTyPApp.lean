/- What the program's applied returns, and what isFunction returns. Conditions: the types lie in memory. -/
import Derived.Test.YtkedhnahgpmkaaaTySpine
namespace Go.Proofs.Ytkedhnahgpmkaaa
open Go.RowKit

namespace Ty
set_option maxHeartbeats 4000000 in
theorem papp_o {ok : Nat → Prop} (ta tb : Ty) (va vb : Value) (w : World) (hok : ∀ g, w.heap.size ≤ g → ok g) (ha : VO ok w ta va) (hb : VO ok w tb vb) : Calls Try.prog 73 #[va, vb] w (RetO ok (.mk 3 0 [] [ta, tb]) w) := by
  obtain ⟨ba, ca, ea, hsa, hla⟩ := ha
  obtain ⟨bb, cb, eb, hsb, hlb⟩ := hb
  subst ea eb
  have hv := fun w1 (hb : Below w.heap.size w w1) R => vo_two hok hb 3 (ca := ca) (cb := cb) hsa hsb hla hlb R
  have HV := Lib.hid hv
  clear hla hlb hv hok
  generalize ta.args.length = la at *
  generalize tb.args.length = lb at *
  go_enter Try.func73, Try.ntmps73
  go_wp2_with fail
  obtain ⟨w1, hw1⟩ : ∃ w1, w1 = (w.alloc (Obj.cells #[Value.int IntKind.i64 ta.op, Value.int IntKind.i64 ta.n, Value.string ta.name, Value.slice ba la ca] 24)).alloc (Obj.cells #[Value.int IntKind.i64 tb.op, Value.int IntKind.i64 tb.n, Value.string tb.name, Value.slice bb lb cb] 24) := ⟨_, rfl⟩
  have e1 : w1.heap.size = w.heap.size + 1 + 1 := by rw [hw1]; simp
  have hb1 : Below w.heap.size w w1 := by rw [hw1]; exact below_two _ _ _
  rw [← hw1, ← e1]
  clear hw1
  obtain ⟨R, hR⟩ : ∃ R, R = Obj.cells #[Value.int IntKind.i64 3, Value.int IntKind.i64 0, Value.string ⟨#[]⟩, Value.slice (some ⟨w1.heap.size + 1, 0, none⟩) 2 2] 24 := ⟨_, rfl⟩
  have hrow : ∀ S, ((w1.alloc R).alloc S).heap[w1.heap.size]? = some R := fun S => (Below.heap_alloc _ _ _ (by simp)).trans (heap_alloc_new w1 R)
  rw [hR] at hrow
  have c := fun S i => cell_of_row ((w1.alloc _).alloc S) w1.heap.size i _ 24 (0, 0) (hrow S)
  refine bodyPost_ret (results_ty (a := 4) (by kernel_rfl) (B := w1.heap.size) (by rfl) (c _ 0) (c _ 1) (c _ 2) (c _ 3)) rfl ?_
  exact ⟨_, rfl, HV.out w1 hb1 _, hb1.trans ((below_two w1 _ _).mono hb1.size)⟩

/-- a type of a function: its argument and its result -/
def funOf : Ty → Option (Ty × Ty)
  | .mk 3 _ _ [.mk 3 _ _ [.mk 2 _ [45, 62] _, a], r] => some (a, r)
  | _ => none
end Ty
end Go.Proofs.Ytkedhnahgpmkaaa
