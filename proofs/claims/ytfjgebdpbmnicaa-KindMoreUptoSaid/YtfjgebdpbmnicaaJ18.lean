/- What the program's applied returns, and what isFunction returns. Conditions: the types lie in memory. -/
import Derived.Test.YtfjgebdpbmnicaaJ10
import Derived.Test.YtfjgebdpbmnicaaJ17
namespace Go.Proofs.Ytfjgebdpbmnicaa
open Go.RowKit

namespace Ty
set_option maxHeartbeats 4000000 in
theorem papp_o {ok : Nat → Prop} (ta tb : Ty) (va vb : Value) (w : World) (hok : ∀ g, w.heap.size ≤ g → ok g) (ha : VO ok w ta va) (hb : VO ok w tb vb) : Calls Try.prog 60 #[va, vb] w (RetO ok (.mk 3 0 [] [ta, tb]) w) := by
  obtain ⟨ba, ca, ea, hsa, hla⟩ := ha
  obtain ⟨bb, cb, eb, hsb, hlb⟩ := hb
  subst ea eb
  have hv := fun w1 (hb : Below w.heap.size w w1) R => vo_two hok hb 3 (ca := ca) (cb := cb) hsa hsb hla hlb R
  have HV := Lib.hid hv
  clear hla hlb hv hok
  generalize ta.args.length = la at *
  generalize tb.args.length = lb at *
  go_enter Try.func60, Try.ntmps60
  go_wp2_with fail
  obtain ⟨w1, hw1⟩ : ∃ w1, w1 = (w.alloc (Obj.cells #[Value.int IntKind.i64 ta.op, Value.int IntKind.i64 ta.n, Value.string ta.name, Value.slice ba la ca] 36)).alloc (Obj.cells #[Value.int IntKind.i64 tb.op, Value.int IntKind.i64 tb.n, Value.string tb.name, Value.slice bb lb cb] 36) := ⟨_, rfl⟩
  have e1 : w1.heap.size = w.heap.size + 1 + 1 := by rw [hw1]; simp
  have hb1 : Below w.heap.size w w1 := by rw [hw1]; exact below_two _ _ _
  rw [← hw1, ← e1]
  clear hw1
  obtain ⟨R, hR⟩ : ∃ R, R = Obj.cells #[Value.int IntKind.i64 3, Value.int IntKind.i64 0, Value.string ⟨#[]⟩, Value.slice (some ⟨w1.heap.size + 1, 0, none⟩) 2 2] 36 := ⟨_, rfl⟩
  have hrow : ∀ S, ((w1.alloc R).alloc S).heap[w1.heap.size]? = some R := fun S => (Below.heap_alloc _ _ _ (by simp)).trans (heap_alloc_new w1 R)
  rw [hR] at hrow
  have c := fun S i => cell_of_row ((w1.alloc _).alloc S) w1.heap.size i _ 36 (0, 0) (hrow S)
  refine bodyPost_ret (results_ty (a := 4) (by kernel_rfl) (B := w1.heap.size) (by rfl) (c _ 0) (c _ 1) (c _ 2) (c _ 3)) rfl ?_
  exact ⟨_, rfl, HV.out w1 hb1 _, hb1.trans ((below_two w1 _ _).mono hb1.size)⟩

/-- a type of a function: its argument and its result -/
def funOf : Ty → Option (Ty × Ty)
  | .mk 3 _ _ [.mk 3 _ _ [.mk 2 _ [45, 62] _, a], r] => some (a, r)
  | _ => none
end Ty
end Go.Proofs.Ytfjgebdpbmnicaa

/- What kind's isApplied returns. Conditions: the type lies in memory and is well formed. -/
namespace Go.Proofs.Ytfjgebdpbmnicaa
open Go.RowKit

namespace Ty
/-- a type is a constant applied to two types -/
def isAppl (t : Ty) (q : List UInt8) : Bool := t.op == 3 && (match t.args with | f :: _ => f.op == 3 && (match f.args with | h :: _ => h.op == 2 && decide (h.s = q) | [] => false) | [] => false)
theorem isAppl_no {t : Ty} {q : List UInt8} (h : t.op ≠ 3) : isAppl t q = false := by
  unfold isAppl
  rw [show (t.op == 3) = false from by simpa using h]
  rfl
theorem isAppl_no2 {n : Int} {s q : List UInt8} {f x : Ty} (h : f.op ≠ 3) : isAppl (.mk 3 n s [f, x]) q = false := by
  unfold isAppl
  show ((3 : Int) == 3 && (f.op == 3 && _)) = false
  rw [show (f.op == 3) = false from by simpa using h]
  rfl
theorem isAppl_eq {n m : Int} {s p q : List UInt8} {h a x : Ty} : isAppl (.mk 3 n s [.mk 3 m p [h, a], x]) q = (h.op == 2 && decide (h.s = q)) := rfl
theorem name_isq (t : Ty) (q : ByteArray) : (t.name.toList == q.toList) = decide (t.s = q.data.toList) := by
  rw [Lib.toList_data, Lib.toList_data]
  unfold Ty.name
  show (t.s.toArray.toList == q.data.toList) = _
  rw [List.toList_toArray]
  by_cases h : t.s = q.data.toList
  · rw [decide_eq_true h, h]; simp
  · rw [decide_eq_false h]; simpa using h
set_option maxHeartbeats 8000000 in
theorem isappl_any (t : Ty) (hg : Good t) (q : ByteArray) (v : Value) (w : World) (hv : V w t v) : Calls Try.prog 45 #[v, .string q] w fun e w' => e = .returned (.bool (isAppl t q.data.toList)) ∧ Below w.heap.size w w' := by
  obtain ⟨b, c, ev, _, hsl⟩ := hv
  subst ev
  have hb1 : Below w.heap.size w (w.alloc (Obj.cells #[.int .i64 t.op, .int .i64 t.n, .string t.name, .slice b t.args.length c] 36)) := (Below.refl _ _).alloc (Nat.le_refl _) _
  have ht1 : B4 (w.alloc (Obj.cells #[.int .i64 t.op, .int .i64 t.n, .string t.name, .slice b t.args.length c] 36)) w.heap.size (.int .i64 t.op) (.int .i64 t.n) (.string t.name) (.slice b t.args.length c) := heap_alloc_new _ _
  go_enter Try.func45, Try.ntmps45
  go_upto_region 1 with fail
  obtain ⟨W1, hW1⟩ : ∃ W1, W1 = w.alloc (Obj.cells #[.int .i64 t.op, .int .i64 t.n, .string t.name, .slice b t.args.length c] 36) := ⟨_, rfl⟩
  rw [← hW1] at hb1 ht1 ⊢
  clear hW1
  obtain ⟨b0, _, _, b3⟩ := ht1.cells
  have HB := Lib.hid hb1
  clear ht1 hb1
  by_cases h3 : t.op = 3
  · cases hg with
    | var op n h1 h2 h4 => exact absurd h3 (show op ≠ 3 by omega)
    | con s h1 h2 => exact absurd h3 (show (2 : Int) ≠ 3 by decide)
    | node op f x hop hf hx =>
      have e3 : op = 3 := h3
      subst e3
      rcases hsl.2 with h0 | ⟨g, o, hbg, hrow⟩
      · cases h0
      subst hbg
      obtain ⟨hrf, hrx, _⟩ := hrow
      obtain ⟨fb, fc, f0, f1, f2, f3, hvf⟩ := at_v hrf
      have F0 := keeps HB.out _ _ f0
      have F3 := keeps HB.out _ _ f3
      clear f0 f1 f2 f3 hrx h3 hop
      replace b0 : W1.cell? ⟨w.heap.size, 0, none⟩ = some (.int .i64 3) := b0
      replace b3 : W1.cell? ⟨w.heap.size, 3, none⟩ = some (.slice (some ⟨g, o, none⟩) 2 c) := b3
      by_cases hf3 : f.op = 3
      · cases hf with
        | var op n h1 h2 h4 => exact absurd hf3 (show op ≠ 3 by omega)
        | con s h1 h2 => exact absurd hf3 (show (2 : Int) ≠ 3 by decide)
        | node op2 k a hop2 hk ha =>
          have e3 : op2 = 3 := hf3
          subst e3
          obtain ⟨b2, c2, e2, _, hsl2⟩ := hvf
          simp only [Value.agg.injEq, Array.mk.injEq, List.cons.injEq, Value.slice.injEq, true_and, and_true] at e2
          obtain ⟨e2, -⟩ := e2
          subst e2
          rcases hsl2.2 with h0 | ⟨g2, o2, hbg, hrow2⟩
          · cases h0
          subst hbg
          obtain ⟨hrk, _, _⟩ := hrow2
          obtain ⟨kb, kc, k0, k1, k2, k3, _⟩ := at_v hrk
          have K0 := keeps HB.out _ _ k0
          have K1 := keeps HB.out _ _ k1
          have K2 := keeps HB.out _ _ k2
          have K3 := keeps HB.out _ _ k3
          replace F0 : W1.cell? ⟨g, o, none⟩ = some (.int .i64 3) := F0
          replace F3 : W1.cell? ⟨g, o + 3, none⟩ = some (.slice (some ⟨g2, o2, none⟩) 2 fc) := F3
          have HD := Lib.hid (show isAppl (.mk 3 0 [] [.mk 3 0 [] [k, a], x]) q.data.toList = (k.op == 2 && (k.name.toList == q.toList)) from by rw [isAppl_eq, ← name_isq])
          generalize hp : k.op = ko at *
          generalize hn : k.name = kn at *
          generalize k.n = kx at *
          generalize k.args.length = kl at *
          clear k0 k1 k2 k3 hp hn hf3 hop2 hrk hsl2 hrf hsl
          cases q1 : (ko == 2) with
          | false =>
            go_wp2_with fail
            go_ret
            exact ⟨ret_bool (by rw [HD.out]; simp [q1]), HB.out⟩
          | true =>
            cases q2 : (kn.toList == q.toList) with
            | false =>
              go_wp2_with fail
              go_ret
              exact ⟨ret_bool (by rw [HD.out, q1, q2]; rfl), HB.out⟩
            | true =>
              go_wp2_with fail
              go_ret
              exact ⟨ret_bool (by rw [HD.out, q1, q2]; rfl), HB.out⟩
      · have HD := Lib.hid (isAppl_no2 (n := 0) (s := []) (x := x) (q := q.data.toList) hf3)
        generalize f.op = fo at *
        have q1 : (fo == 3) = false := by simpa using hf3
        clear hf3 hvf hrf hsl
        go_wp2_with fail
        go_ret
        exact ⟨ret_bool (by rw [HD.out]), HB.out⟩
  · have HD := Lib.hid (isAppl_no (q := q.data.toList) h3)
    generalize t.op = to at *
    have q1 : (to == 3) = false := by simpa using h3
    clear h3 hsl
    go_wp2_with fail
    go_ret
    exact ⟨ret_bool (by rw [HD.out]), HB.out⟩
end Ty
end Go.Proofs.Ytfjgebdpbmnicaa
