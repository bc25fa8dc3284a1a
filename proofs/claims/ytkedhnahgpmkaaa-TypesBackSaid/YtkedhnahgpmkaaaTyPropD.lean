/- What the reference's proper and Proper return for any type. Conditions: the type lies in memory. -/
import Derived.Test.YtkedhnahgpmkaaaTyPropA
import Derived.Test.YtkedhnahgpmkaaaTyPropB
import Derived.Test.YtkedhnahgpmkaaaTyPropC
namespace Go.Proofs.Ytkedhnahgpmkaaa
open Go.RowKit

namespace Ty
set_option maxHeartbeats 8000000 in
theorem prop_other (t : Ty) (hk : t.op ≠ 1 ∧ t.op ≠ 2 ∧ t.op ≠ 3 ∧ t.op ≠ 4 ∧ t.op ≠ 5 ∧ t.op ≠ 6 ∧ t.op ≠ 7) (v : Value) (d c P0 : Nat) (w w0 : World) (hv : V w0 t v) (hp : PBox w P0 c) (ho : ¬ (600 < c + 1 ∨ 40 < d)) :
    Calls Try.prog 57 #[v, .int .i64 d, .pointer (some ⟨P0, 0, none⟩)] w (PropP t d c P0 w) := by
  obtain ⟨base, cap, ev, hs, hl⟩ := hv
  subst ev
  obtain ⟨k1, k2, k3, k4, k5, k6, k7⟩ := hk
  have hh : headK t.op t.n t.s = none := by
    unfold headK
    rw [if_neg (by omega), if_neg (by omega), if_neg (by omega)]
  have HE : Hid (prop t d c = (false, c + 1)) := Lib.hid (by rw [prop_eq, if_neg ho, hh])
  obtain ⟨m1, m2, m3⟩ := prop_enter hp
  obtain ⟨n1, n2, n3⟩ := prop_entered hp (.int .i64 t.op) (.int .i64 t.n) (.string t.name) (.slice base t.args.length cap)
  have ho1 : c + 1 ≤ 600 := by omega
  have ho2 : d ≤ 40 := by omega
  have q1 : decide ((600 : Int) < (c : Int) + 1) = false := decide_eq_false (by omega)
  have q2 : decide ((40 : Int) < (d : Int)) = false := decide_eq_false (by omega)
  clear hl hs ho hp hh
  generalize t.args.length = la at *
  generalize t.op = op at *
  generalize t.n = nn at *
  generalize t.name = na at *
  have r1 : (op == 1) = false := by simpa using k1
  have r2 : (op == 2) = false := by simpa using k2
  have r3 : (op == 3) = false := by simpa using k3
  have r4 : (op == 4) = false := by simpa using k4
  have r5 : (op == 5) = false := by simpa using k5
  have r6 : (op == 6) = false := by simpa using k6
  have r7 : (op == 7) = false := by simpa using k7
  clear k1 k2 k3 k4 k5 k6 k7
  go_enter Try.func57, Try.ntmps57
  go_upto_region 2 with fail
  obtain ⟨wa, hwa⟩ : ∃ wa, wa = (w.setCell ⟨P0, 0, none⟩ (.int .i64 ((c : Int) + 1))).alloc (Obj.cells #[Value.int IntKind.i64 op, Value.int IntKind.i64 nn, Value.string na, Value.slice base la cap] 24) := ⟨_, rfl⟩
  rw [← hwa] at n1 n2 n3 ⊢
  clear hwa m1 m2
  have p0 : wa.cell? ⟨P0, 0, none⟩ = some (.int .i64 ((c : Int) + 1)) := by
    have := cell_of_row wa P0 0 _ 3 (0, 0) n2
    simpa using this
  have b0 := cell_of_row wa w.heap.size 0 _ 24 (0, 0) n3
  simp only [List.getElem?_toArray, List.getElem?_cons_zero] at b0
  have N1 := Lib.hid n1
  have N2 := Lib.hid n2
  clear n1 n2 n3
  go_wp2_with fail
  go_ret
  exact ⟨ret_bool (by rw [HE.out]), N1.out, by rw [HE.out]; exact N2.out⟩

theorem prop_step (t : Ty) (hA : ∀ (i : Nat) (h : i < t.args.length), PropC (t.args[i]'h)) : PropC t := by
  intro w0 v d c P0 w hv hP hb hp hd hc
  by_cases ho : 600 < c + 1 ∨ 40 < d
  · exact prop_over t v d c P0 w w0 hv hp hd hc ho
  by_cases h1 : t.op = 1
  · exact prop_op1 t h1 hA v d c P0 w w0 hv hP hb hp ho
  by_cases h2 : t.op = 2
  · exact prop_op2 t h2 hA v d c P0 w w0 hv hP hb hp ho
  by_cases h3 : t.op = 3
  · exact prop_op3 t h3 hA v d c P0 w w0 hv hP hb hp ho
  by_cases h4 : t.op = 4
  · exact prop_op4 t h4 hA v d c P0 w w0 hv hP hb hp ho
  by_cases h5 : t.op = 5
  · exact prop_op5 t h5 hA v d c P0 w w0 hv hP hb hp ho
  by_cases h6 : t.op = 6
  · exact prop_op6 t h6 hA v d c P0 w w0 hv hP hb hp ho
  by_cases h7 : t.op = 7
  · exact prop_op7 t h7 hA v d c P0 w w0 hv hP hb hp ho
  · exact prop_other t ⟨h1, h2, h3, h4, h5, h6, h7⟩ v d c P0 w w0 hv hp ho

theorem size_arg (t : Ty) (i : Nat) (h : i < t.args.length) : SizeOf.sizeOf (t.args[i]'h) < SizeOf.sizeOf t := by
  have h1 := List.sizeOf_lt_of_mem (List.getElem_mem h)
  cases t with
  | mk o n s a =>
    have h2 : SizeOf.sizeOf (Ty.mk o n s a) = 1 + SizeOf.sizeOf o + SizeOf.sizeOf n + SizeOf.sizeOf s + SizeOf.sizeOf a := by simp
    have h3 : (Ty.mk o n s a).args = a := rfl
    simp only [h3] at h1 ⊢
    omega

theorem prop_any : ∀ t : Ty, PropC t := by
  intro t
  induction hm : SizeOf.sizeOf t using Nat.strongRecOn generalizing t with
  | ind m ih => exact prop_step t (fun i h => ih _ (by rw [← hm]; exact size_arg t i h) _ rfl)

/-- a type is proper -/
def isProper (t : Ty) : Bool := (prop t 1 0).1

set_option maxHeartbeats 2000000 in
theorem proper_any (t : Ty) (v : Value) (w : World) (hv : V w t v) : Calls Try.prog 17 #[v] w fun e w' => e = .returned (.bool (isProper t)) ∧ Below w.heap.size w w' := by
  have hv2 := hv
  obtain ⟨base, cap, ev, hs, hl⟩ := hv
  subst ev
  have hcall : ∀ W P0, Below w.heap.size w W → w.heap.size ≤ P0 → PBox W P0 0 → Calls Try.prog 57 #[.agg #[.int .i64 t.op, .int .i64 t.n, .string t.name, .slice base t.args.length cap], .int .i64 1, .pointer (some ⟨P0, 0, none⟩)] W (PropP t 1 0 P0 W) := fun W P0 hb hP hp =>
    prop_any t w _ 1 0 P0 W hv2 hP hb hp (by omega) (by omega)
  have HC := Lib.hid hcall
  clear hcall hv2 hl hs
  unfold PropP at HC
  unfold isProper
  generalize prop t 1 0 = r at *
  generalize t.args.length = la at *
  generalize t.op = op at *
  generalize t.n = nn at *
  generalize t.name = na at *
  have hW : Hid (∀ o1 o2, Below w.heap.size w ((w.alloc o1).alloc o2)) := Lib.hid (fun o1 o2 => ((Below.refl _ _).alloc (Nat.le_refl _) _).alloc (by simp) _)
  go_enter Try.func17, Try.ntmps17
  go_wp2_with fail
  have hpb : PBox ((w.alloc (Obj.cells #[Value.int IntKind.i64 op, Value.int IntKind.i64 nn, Value.string na, Value.slice base la cap] 24)).alloc (Obj.cells #[Value.int IntKind.i64 0] 3)) (w.heap.size + 1) 0 := by
    have := heap_alloc_new (w.alloc (Obj.cells #[Value.int IntKind.i64 op, Value.int IntKind.i64 nn, Value.string na, Value.slice base la cap] 24)) (Obj.cells #[Value.int IntKind.i64 0] 3)
    have e : (w.alloc (Obj.cells #[Value.int IntKind.i64 op, Value.int IntKind.i64 nn, Value.string na, Value.slice base la cap] 24)).heap.size = w.heap.size + 1 := by simp
    rw [e] at this
    exact this
  refine (HC.out _ (w.heap.size + 1) (hW.out _ _) (by omega) hpb).mono ?_
  rintro e w2 ⟨rfl, hg, _⟩
  have HB2 := Lib.hid (grown_below (w0 := w) (hW.out _ _) hg (by omega))
  clear hg hpb
  go_wp2_with fail
  go_ret
  exact ⟨rfl, HB2.out⟩

end Ty
end Go.Proofs.Ytkedhnahgpmkaaa
