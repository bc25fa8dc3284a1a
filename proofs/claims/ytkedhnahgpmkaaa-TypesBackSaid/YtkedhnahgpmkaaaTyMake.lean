/- What the reference's makers of types return. Conditions: the parts lie in memory. -/
import Derived.Test.YtkedhnahgpmkaaaTyPropD
namespace Go.Proofs.Ytkedhnahgpmkaaa
open Go.RowKit

namespace Ty
/-- a type is returned -/
def Ret (t : Ty) (w : World) (e : Ending) (w' : World) : Prop := ∃ v, e = .returned v ∧ V w' t v ∧ Below w.heap.size w w'

theorem results_ty {fn : Func} {a : Tmp} (hfn : fn.results = #[.cell a 24]) {tmps : Array Value} {w : World} {B o : Nat} {v0 v1 v2 v3 : Value} (h : tmps.getD a undef = .pointer (some ⟨B, o, none⟩))
    (c0 : w.cell? ⟨B, o, none⟩ = some v0) (c1 : w.cell? ⟨B, o + 1, none⟩ = some v1) (c2 : w.cell? ⟨B, o + 2, none⟩ = some v2) (c3 : w.cell? ⟨B, o + 3, none⟩ = some v3) :
    (results fn tmps).run Try.prog w = .ok (.agg #[v0, v1, v2, v3]) w := by
  have h' : tmps[a]?.getD undef = .pointer (some ⟨B, o, none⟩) := by rw [← h]; simp
  simp [results, hfn, h', c0, c1, c2, c3, go_sem]

/-- a box of four cells -/
theorem box4 (w : World) (v0 v1 v2 v3 : Value) :
    (w.alloc (Obj.cells #[v0, v1, v2, v3] 24)).cell? ⟨w.heap.size, 0, none⟩ = some v0 ∧ (w.alloc (Obj.cells #[v0, v1, v2, v3] 24)).cell? ⟨w.heap.size, 1, none⟩ = some v1 ∧
    (w.alloc (Obj.cells #[v0, v1, v2, v3] 24)).cell? ⟨w.heap.size, 2, none⟩ = some v2 ∧ (w.alloc (Obj.cells #[v0, v1, v2, v3] 24)).cell? ⟨w.heap.size, 3, none⟩ = some v3 := by
  refine ⟨?_, ?_, ?_, ?_⟩
  · rw [cell_of_row (w.alloc _) w.heap.size 0 _ 24 (0, 0) (heap_alloc_new w _)]; rfl
  · rw [cell_of_row (w.alloc _) w.heap.size 1 _ 24 (0, 0) (heap_alloc_new w _)]; rfl
  · rw [cell_of_row (w.alloc _) w.heap.size 2 _ 24 (0, 0) (heap_alloc_new w _)]; rfl
  · rw [cell_of_row (w.alloc _) w.heap.size 3 _ 24 (0, 0) (heap_alloc_new w _)]; rfl

theorem v_leaf (w : World) (o n : Int) (s : ByteArray) (hs : s.size ≤ maxLen) : V w (.mk o n s.data.toList []) (.agg #[.int .i64 o, .int .i64 n, .string s, .slice none 0 0]) := by
  have hmk : (⟨s.data.toList.toArray⟩ : ByteArray) = s := by simp
  refine ⟨none, 0, ?_, ?_, Nat.zero_le _, .inl rfl⟩
  · show _ = Value.agg #[.int .i64 o, .int .i64 n, .string ⟨s.data.toList.toArray⟩, .slice none 0 0]
    rw [hmk]
  · show s.data.toList.length ≤ maxLen
    rw [show s.data.toList.length = s.size from rfl]
    exact hs

set_option maxHeartbeats 2000000 in
theorem con_any (s : ByteArray) (hs : s.size ≤ maxLen) (w : World) : Calls Try.prog 89 #[.string s] w (Ret (.mk 2 0 s.data.toList []) w) := by
  obtain ⟨b0, b1, b2, b3⟩ := box4 w (.int .i64 2) (.int .i64 0) (.string s) (.slice none 0 0)
  go_enter Try.func89, Try.ntmps89
  go_wp2_with fail
  refine bodyPost_ret (results_ty (a := 2) (by kernel_rfl) (B := w.heap.size) (by rfl) b0 b1 b2 b3) rfl ?_
  exact ⟨_, rfl, v_leaf _ _ _ _ hs, (Below.refl _ _).alloc (Nat.le_refl _) _⟩

set_option maxHeartbeats 2000000 in
theorem var_any (n : Int) (w : World) : Calls Try.prog 98 #[.int .i64 n] w (Ret (.mk 1 n [] []) w) := by
  obtain ⟨b0, b1, b2, b3⟩ := box4 w (.int .i64 1) (.int .i64 n) (.string ⟨#[]⟩) (.slice none 0 0)
  go_enter Try.func98, Try.ntmps98
  go_wp2_with fail
  refine bodyPost_ret (results_ty (a := 2) (by kernel_rfl) (B := w.heap.size) (by rfl) b0 b1 b2 b3) rfl ?_
  exact ⟨_, rfl, v_leaf _ _ _ _ (by decide), (Below.refl _ _).alloc (Nat.le_refl _) _⟩

theorem below_two (w : World) (o1 o2 : Obj) : Below w.heap.size w ((w.alloc o1).alloc o2) := ((Below.refl _ _).alloc (Nat.le_refl _) _).alloc (by simp) _

/-- a type whose two parts stand in a new row -/
theorem v_two {w w1 : World} (hb : Below w.heap.size w w1) (o : Int) {ta tb : Ty} {ba bb : Option Addr} {ca cb : Nat} (hsa : ta.s.length ≤ maxLen) (hsb : tb.s.length ≤ maxLen) (hla : Sl w ba ta.args) (hlb : Sl w bb tb.args) (R : Obj) :
    V ((w1.alloc R).alloc (Obj.cells #[.int .i64 ta.op, .int .i64 ta.n, .string ta.name, .slice ba ta.args.length ca, .int .i64 tb.op, .int .i64 tb.n, .string tb.name, .slice bb tb.args.length cb] 24)) (.mk o 0 [] [ta, tb])
      (.agg #[.int .i64 o, .int .i64 0, .string ⟨#[]⟩, .slice (some ⟨w1.heap.size + 1, 0, none⟩) 2 2]) := by
  obtain ⟨S, hS⟩ : ∃ S, S = Obj.cells #[.int .i64 ta.op, .int .i64 ta.n, .string ta.name, .slice ba ta.args.length ca, .int .i64 tb.op, .int .i64 tb.n, .string tb.name, .slice bb tb.args.length cb] 24 := ⟨_, rfl⟩
  rw [← hS]
  have hrow : ((w1.alloc R).alloc S).heap[w1.heap.size + 1]? = some S := by
    have := heap_alloc_new (w1.alloc R) S
    rwa [show (w1.alloc R).heap.size = w1.heap.size + 1 from by simp] at this
  have hrow2 := hrow.trans (congrArg some hS)
  have hbl : Below w.heap.size w ((w1.alloc R).alloc S) := hb.trans ((below_two w1 R S).mono hb.size)
  have c := fun i => cell_of_row ((w1.alloc R).alloc S) (w1.heap.size + 1) i _ 24 (0, 0) hrow2
  refine ⟨some ⟨w1.heap.size + 1, 0, none⟩, 2, rfl, Nat.zero_le _, by show 2 ≤ maxLen; unfold maxLen; omega, .inr ⟨w1.heap.size + 1, 0, rfl, ?_, ?_, trivial⟩⟩
  · exact at_iff.mpr ⟨c 0, c 1, c 2, hsa, ba, ca, c 3, hla.next hbl⟩
  · exact at_iff.mpr ⟨c 4, c 5, c 6, hsb, bb, cb, c 7, hlb.next hbl⟩

set_option maxHeartbeats 4000000 in
theorem app_any (ta tb : Ty) (va vb : Value) (w : World) (ha : V w ta va) (hb : V w tb vb) : Calls Try.prog 109 #[va, vb] w (Ret (.mk 3 0 [] [ta, tb]) w) := by
  obtain ⟨ba, ca, ea, hsa, hla⟩ := ha
  obtain ⟨bb, cb, eb, hsb, hlb⟩ := hb
  subst ea eb
  have hv := fun w1 (hb : Below w.heap.size w w1) R => v_two hb 3 (ca := ca) (cb := cb) hsa hsb hla hlb R
  have HV := Lib.hid hv
  clear hla hlb hv
  generalize ta.args.length = la at *
  generalize tb.args.length = lb at *
  go_enter Try.func109, Try.ntmps109
  go_wp2_with fail
  obtain ⟨w1, hw1⟩ : ∃ w1, w1 = (w.alloc (Obj.cells #[Value.int IntKind.i64 ta.op, Value.int IntKind.i64 ta.n, Value.string ta.name, Value.slice ba la ca] 24)).alloc (Obj.cells #[Value.int IntKind.i64 tb.op, Value.int IntKind.i64 tb.n, Value.string tb.name, Value.slice bb lb cb] 24) := ⟨_, rfl⟩
  have e1 : w1.heap.size = w.heap.size + 1 + 1 := by rw [hw1]; simp
  have hb1 : Below w.heap.size w w1 := by rw [hw1]; exact below_two _ _ _
  rw [← hw1, ← e1]
  clear hw1
  obtain ⟨R, hR⟩ : ∃ R, R = Obj.cells #[Value.int IntKind.i64 3, Value.int IntKind.i64 0, Value.string ⟨#[]⟩, Value.slice (some ⟨w1.heap.size + 1, 0, none⟩) 2 2] 24 := ⟨_, rfl⟩
  have hrow : ∀ S, ((w1.alloc R).alloc S).heap[w1.heap.size]? = some R := fun S => (Below.heap_alloc _ _ _ (by simp)).trans (heap_alloc_new w1 R)
  rw [hR] at hrow
  have c := fun S i => cell_of_row ((w1.alloc _).alloc S) w1.heap.size i _ 24 (0, 0) (hrow S)
  refine bodyPost_ret (results_ty (a := 4) (by kernel_rfl) (B := w1.heap.size) (by rfl) (c _ 0) (c _ 1) (c _ 2) (c _ 3)) rfl ?_
  exact ⟨_, rfl, HV.out w1 hb1 _, hb1.trans ((below_two w1 _ _).mono hb1.size)⟩

end Ty
end Go.Proofs.Ytkedhnahgpmkaaa
