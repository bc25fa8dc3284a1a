/- What the reference's wrappers and the laws' own helpers return. Conditions: the types lie in memory. -/
import Derived.Test.YtkedhnahgpmkaaaTyArrow
namespace Go.Proofs.Ytkedhnahgpmkaaa
open Go.RowKit

namespace Ty
set_option maxHeartbeats 2000000 in
theorem rsame_any (ta tb : Ty) (va vb : Value) (w : World) (ha : V w ta va) (hb : V w tb vb) : Calls Try.prog 38 #[va, vb] w fun e w' => e = .returned (.bool (same ta tb)) ∧ Below w.heap.size w w' := by
  have hc := fun W (h : Below w.heap.size w W) => same_any ta tb va vb W (ha.next h) (hb.next h)
  have hbt : ∀ o1 o2, Below w.heap.size w ((w.alloc o1).alloc o2) := fun o1 o2 => below_two w o1 o2
  obtain ⟨ba, ca, ea, _, _⟩ := ha
  obtain ⟨bb, cb, eb, _, _⟩ := hb
  subst ea eb
  have HC := Lib.hid hc
  have HBT := Lib.hid hbt
  clear hc hbt
  go_enter Try.func38, Try.ntmps38
  go_wp2_with fail
  refine (HC.out _ (HBT.out _ _)).mono ?_
  rintro e w2 ⟨rfl, hb2⟩
  have HB2 := Lib.hid ((HBT.out _ _).trans (hb2.mono (HBT.out _ _).size))
  clear hb2
  go_wp2_with fail
  go_ret
  exact ⟨rfl, HB2.out⟩

/-- the zero type -/
def zeroT : Ty := .mk 0 0 [] []
theorem v_zero (w : World) : V w zeroT (.agg #[.int .i64 0, .int .i64 0, .string ⟨#[]⟩, .slice none 0 0]) := ⟨none, 0, rfl, by decide, by decide, .inl rfl⟩

set_option maxHeartbeats 2000000 in
theorem zero_any (t : Ty) (v : Value) (w : World) (hv : V w t v) : Calls Try.prog 26 #[v] w fun e w' => e = .returned (.bool (same t zeroT)) ∧ Below w.heap.size w w' := by
  have hc := fun W (h : Below w.heap.size w W) => rsame_any t zeroT v _ W (hv.next h) (v_zero W)
  obtain ⟨b, c, e, _, _⟩ := hv
  subst e
  have HC := Lib.hid hc
  have HB : Hid (∀ o, Below w.heap.size w (w.alloc o)) := Lib.hid (fun o => (Below.refl _ _).alloc (Nat.le_refl _) o)
  clear hc
  go_enter Try.func26, Try.ntmps26
  go_wp2_with fail
  refine (HC.out _ (HB.out _)).mono ?_
  rintro e w2 ⟨rfl, hb2⟩
  have HB2 := Lib.hid ((HB.out _).trans (hb2.mono (HB.out _).size))
  clear hb2
  go_wp2_with fail
  go_ret
  exact ⟨rfl, HB2.out⟩

theorem two_boxes (w : World) (a0 a1 a2 a3 b0 b1 b2 b3 : Value) :
    B4 ((w.alloc (Obj.cells #[a0, a1, a2, a3] 24)).alloc (Obj.cells #[b0, b1, b2, b3] 24)) w.heap.size a0 a1 a2 a3 ∧ B4 ((w.alloc (Obj.cells #[a0, a1, a2, a3] 24)).alloc (Obj.cells #[b0, b1, b2, b3] 24)) (w.heap.size + 1) b0 b1 b2 b3 := by
  have e1 : (w.alloc (Obj.cells #[a0, a1, a2, a3] 24)).heap.size = w.heap.size + 1 := by simp
  refine ⟨(Below.heap_alloc _ _ _ (by rw [e1]; omega)).trans (heap_alloc_new w _), ?_⟩
  have := heap_alloc_new (w.alloc (Obj.cells #[a0, a1, a2, a3] 24)) (Obj.cells #[b0, b1, b2, b3] 24)
  rw [e1] at this
  exact this

/-- what the law's helper says of a result, its error and what is wanted -/
def wholeT (t : Ty) (e : Int) (u : Ty) : Bool := if isProper u then (e == 0 && same t u) else (same t zeroT && e == 5)

set_option maxHeartbeats 4000000 in
theorem whole_any (t u : Ty) (v x : Value) (k : Int) (w : World) (ht : V w t v) (hu : V w u x) : Calls Try.prog 28 #[v, .int .i64 k, x] w fun e w' => e = .returned (.bool (wholeT t k u)) ∧ Below w.heap.size w w' := by
  have hp := fun W (h : Below w.heap.size w W) => proper_any u x W (hu.next h)
  have hz := fun W (h : Below w.heap.size w W) => zero_any t v W (ht.next h)
  have hs := fun W (h : Below w.heap.size w W) => rsame_any t u v x W (ht.next h) (hu.next h)
  have hbt : ∀ o1 o2, Below w.heap.size w ((w.alloc o1).alloc o2) := fun o1 o2 => below_two w o1 o2
  obtain ⟨ba, ca, ea, _, _⟩ := ht
  obtain ⟨bb, cb, eb, _, _⟩ := hu
  subst ea eb
  have HP := Lib.hid hp
  have HZ := Lib.hid hz
  have HS := Lib.hid hs
  have HBT := Lib.hid hbt
  clear hp hz hs hbt
  obtain ⟨r, hr⟩ : ∃ r, r = same t u := ⟨_, rfl⟩
  obtain ⟨z, hzz⟩ : ∃ z, z = same t zeroT := ⟨_, rfl⟩
  obtain ⟨p, hpp⟩ : ∃ p, p = isProper u := ⟨_, rfl⟩
  have hw : wholeT t k u = if p then (k == 0 && r) else (z && k == 5) := by unfold wholeT; rw [hr, hzz, hpp]
  rw [← hr] at HS
  rw [← hzz] at HZ
  rw [← hpp] at HP
  have HW := Lib.hid hw
  clear hw hr hzz hpp
  obtain ⟨t1, t2⟩ := two_boxes w (.int .i64 t.op) (.int .i64 t.n) (.string t.name) (.slice ba t.args.length ca) (.int .i64 u.op) (.int .i64 u.n) (.string u.name) (.slice bb u.args.length cb)
  have hW0 := HBT.out (Obj.cells #[.int .i64 t.op, .int .i64 t.n, .string t.name, .slice ba t.args.length ca] 24) (Obj.cells #[.int .i64 u.op, .int .i64 u.n, .string u.name, .slice bb u.args.length cb] 24)
  have T1 := Lib.hid t1
  have T2 := Lib.hid t2
  have HW0 := Lib.hid hW0
  clear t1 t2 hW0
  go_enter Try.func28, Try.ntmps28
  go_wp2_with fail
  refine (HP.out _ HW0.out).mono ?_
  rintro e w2 ⟨rfl, hb2⟩
  have HB2 := Lib.hid (HW0.out.trans (hb2.mono HW0.out.size))
  obtain ⟨x0, x1, x2, x3⟩ := (T1.out.next hb2).cells
  obtain ⟨y0, y1, y2, y3⟩ := (T2.out.next hb2).cells
  clear hb2
  cases p with
  | false =>
    go_wp2_with fail
    refine (HZ.out _ HB2.out).mono ?_
    rintro e w3 ⟨rfl, hb3⟩
    have HB3 := Lib.hid (HB2.out.trans (hb3.mono HB2.out.size))
    clear hb3
    cases z with
    | false =>
      go_wp2_with fail
      go_ret
      exact ⟨ret_bool (by rw [HW.out]; rfl), HB3.out⟩
    | true =>
      cases hk : (k == 5) with
      | false =>
        go_wp2_with fail
        go_ret
        exact ⟨ret_bool (by rw [HW.out]; simp [hk]), HB3.out⟩
      | true =>
        go_wp2_with fail
        go_ret
        exact ⟨ret_bool (by rw [HW.out]; simp [hk]), HB3.out⟩
  | true =>
    cases hk : (k == 0) with
    | false =>
      go_wp2_with fail
      go_ret
      exact ⟨ret_bool (by rw [HW.out]; simp [hk]), HB2.out⟩
    | true =>
      go_wp2_with fail
      refine (HS.out _ HB2.out).mono ?_
      rintro e w3 ⟨rfl, hb3⟩
      have HB3 := Lib.hid (HB2.out.trans (hb3.mono HB2.out.size))
      clear hb3
      go_wp2_with fail
      go_ret
      exact ⟨ret_bool (by rw [HW.out]; simp [hk]), HB3.out⟩

end Ty
end Go.Proofs.Ytkedhnahgpmkaaa
