/- The law TypesTotal: true. Conditions: the types lie in memory. -/
import Derived.Test.YtkedhnahgpmkaaaTyOrdersLaw
namespace Go.Proofs.Ytkedhnahgpmkaaa
open Go.RowKit

namespace Ty
theorem three_boxes (w : World) (v0 v1 v2 v3 u0 u1 u2 u3 x0 x1 x2 x3 : Value) : B4 (((w.alloc (Obj.cells #[v0, v1, v2, v3] 24)).alloc (Obj.cells #[u0, u1, u2, u3] 24)).alloc (Obj.cells #[x0, x1, x2, x3] 24)) w.heap.size v0 v1 v2 v3 ∧
    B4 (((w.alloc (Obj.cells #[v0, v1, v2, v3] 24)).alloc (Obj.cells #[u0, u1, u2, u3] 24)).alloc (Obj.cells #[x0, x1, x2, x3] 24)) (w.heap.size + 1) u0 u1 u2 u3 ∧
    B4 (((w.alloc (Obj.cells #[v0, v1, v2, v3] 24)).alloc (Obj.cells #[u0, u1, u2, u3] 24)).alloc (Obj.cells #[x0, x1, x2, x3] 24)) (w.heap.size + 2) x0 x1 x2 x3 ∧
    Below w.heap.size w (((w.alloc (Obj.cells #[v0, v1, v2, v3] 24)).alloc (Obj.cells #[u0, u1, u2, u3] 24)).alloc (Obj.cells #[x0, x1, x2, x3] 24)) := by
  obtain ⟨h1, h2⟩ := two_boxes w v0 v1 v2 v3 u0 u1 u2 u3
  have hs : ((w.alloc (Obj.cells #[v0, v1, v2, v3] 24)).alloc (Obj.cells #[u0, u1, u2, u3] 24)).heap.size = w.heap.size + 2 := by simp
  have hb := (Below.refl _ ((w.alloc (Obj.cells #[v0, v1, v2, v3] 24)).alloc (Obj.cells #[u0, u1, u2, u3] 24))).alloc (Nat.le_refl _) (Obj.cells #[x0, x1, x2, x3] 24)
  refine ⟨h1.next hb, h2.next hb, ?_, (below_two w _ _).trans (hb.mono (by omega))⟩
  have := heap_alloc_new ((w.alloc (Obj.cells #[v0, v1, v2, v3] 24)).alloc (Obj.cells #[u0, u1, u2, u3] 24)) (Obj.cells #[x0, x1, x2, x3] 24)
  rw [hs] at this
  exact this
/-- what three comparisons of three types can be -/
def Ord3 (a b c : Int) : Prop := (a = -1 ∧ b = -1 ∧ c = -1) ∨ (a = -1 ∧ b = 0 ∧ c = -1) ∨ (a = 0 ∧ b = -1 ∧ c = -1) ∨ (a = 0 ∧ b = 0 ∧ c = 0) ∨ (a = 1 ∧ b = 1 ∧ c = 1) ∨ (a = 1 ∧ b = 0 ∧ c = 1) ∨ (a = 0 ∧ b = 1 ∧ c = 1) ∨
  (a = -1 ∧ b = 1 ∧ c = -1) ∨ (a = -1 ∧ b = 1 ∧ c = 0) ∨ (a = -1 ∧ b = 1 ∧ c = 1) ∨ (a = 1 ∧ b = -1 ∧ c = -1) ∨ (a = 1 ∧ b = -1 ∧ c = 0) ∨ (a = 1 ∧ b = -1 ∧ c = 1)
theorem three_of (t u v : Ty) (ht : Good t) (hu : Good u) (hv : Good v) : Ord3 (ord t u) (ord u v) (ord t v) := by
  have h1 := ord_tr' ht hu hv
  have h2 := ord_tr' hv hu ht
  have n1 := ord_neg' ht hu
  have n2 := ord_neg' hu hv
  have n3 := ord_neg' ht hv
  rw [n1, n2, n3] at h2
  have r1 := ord_range t u ht hu
  have r2 := ord_range u v hu hv
  have r3 := ord_range t v ht hv
  generalize ord t u = a at *
  generalize ord u v = b at *
  generalize ord t v = c at *
  unfold Tr at h1 h2
  unfold Ord3
  rcases r1 with rfl | rfl | rfl <;> rcases r2 with rfl | rfl | rfl <;> rcases r3 with rfl | rfl | rfl <;> simp_all

set_option maxHeartbeats 16000000 in
theorem total_bad1 (t u v : Ty) (va vb vc : Value) (w : World) (ha : V w t va) (hb : V w u vb) (hc : V w v vc)
    (hP1 : ∀ W, Below w.heap.size w W → Calls Try.prog 17 #[va] W fun e w' => e = .returned (.bool false) ∧ Below W.heap.size W w') :
    Calls Try.prog 11 #[va, vb, vc] w fun e w' => e = .returned (.bool true) ∧ Below w.heap.size w w' := by
  obtain ⟨ba, ca, ea, _, _⟩ := ha
  obtain ⟨bb, cb, eb, _, _⟩ := hb
  obtain ⟨bc, cc, ec, _, _⟩ := hc
  subst ea eb ec
  obtain ⟨t1, t2, t3, hW0⟩ := three_boxes w (.int .i64 t.op) (.int .i64 t.n) (.string t.name) (.slice ba t.args.length ca) (.int .i64 u.op) (.int .i64 u.n) (.string u.name) (.slice bb u.args.length cb) (.int .i64 v.op) (.int .i64 v.n) (.string v.name) (.slice bc v.args.length cc)
  have HP1 := Lib.hid hP1
  clear hP1
  generalize t.args.length = la at *
  generalize u.args.length = lb at *
  generalize v.args.length = lc at *
  generalize t.op = oa at *
  generalize u.op = ob at *
  generalize v.op = oc at *
  generalize t.n = na at *
  generalize u.n = nb at *
  generalize v.n = nc at *
  generalize t.name = sa at *
  generalize u.name = sb at *
  generalize v.name = sc at *
  have B0_0 := Lib.hid t1
  have B1_0 := Lib.hid t2
  have B2_0 := Lib.hid t3
  have HB0 := Lib.hid hW0
  clear t1 t2 t3 hW0
  go_enter Try.func11, Try.ntmps11
  go_upto_region 1 with fail
  obtain ⟨W0, hW⟩ : ∃ W0, W0 = ((w.alloc (Obj.cells #[.int .i64 oa, .int .i64 na, .string sa, .slice ba la ca] 24)).alloc (Obj.cells #[.int .i64 ob, .int .i64 nb, .string sb, .slice bb lb cb] 24)).alloc (Obj.cells #[.int .i64 oc, .int .i64 nc, .string sc, .slice bc lc cc] 24) := ⟨_, rfl⟩
  rw [← hW] at B0_0 B1_0 B2_0 HB0 ⊢
  clear hW
  obtain ⟨x00, x01, x02, x03⟩ := B0_0.out.cells
  obtain ⟨x10, x11, x12, x13⟩ := B1_0.out.cells
  obtain ⟨x20, x21, x22, x23⟩ := B2_0.out.cells
  go_wp2_with fail
  refine (HP1.out _ HB0.out).mono ?_
  rintro e w1 ⟨rfl, hb⟩
  have HB1 := Lib.hid (HB0.out.trans (hb.mono HB0.out.size))
  have B0_1 := Lib.hid (B0_0.out.next hb)
  have B1_1 := Lib.hid (B1_0.out.next hb)
  have B2_1 := Lib.hid (B2_0.out.next hb)
  clear hb x00 x01 x02 x03 x10 x11 x12 x13 x20 x21 x22 x23 HB0 B0_0 B1_0 B2_0
  obtain ⟨x00, x01, x02, x03⟩ := B0_1.out.cells
  obtain ⟨x10, x11, x12, x13⟩ := B1_1.out.cells
  obtain ⟨x20, x21, x22, x23⟩ := B2_1.out.cells
  go_wp2_with fail
  refine (awake_any _).mono ?_
  rintro e w2 ⟨rfl, hb⟩
  have HB2 := Lib.hid (HB1.out.trans (hb.mono HB1.out.size))
  have B0_2 := Lib.hid (B0_1.out.next hb)
  have B1_2 := Lib.hid (B1_1.out.next hb)
  have B2_2 := Lib.hid (B2_1.out.next hb)
  clear hb x00 x01 x02 x03 x10 x11 x12 x13 x20 x21 x22 x23 HB1 B0_1 B1_1 B2_1
  obtain ⟨x00, x01, x02, x03⟩ := B0_2.out.cells
  obtain ⟨x10, x11, x12, x13⟩ := B1_2.out.cells
  obtain ⟨x20, x21, x22, x23⟩ := B2_2.out.cells
  go_wp2_with fail
  go_ret
  exact ⟨rfl, HB2.out⟩

set_option maxHeartbeats 16000000 in
theorem total_bad2 (t u v : Ty) (va vb vc : Value) (w : World) (ha : V w t va) (hb : V w u vb) (hc : V w v vc)
    (hP1 : ∀ W, Below w.heap.size w W → Calls Try.prog 17 #[va] W fun e w' => e = .returned (.bool true) ∧ Below W.heap.size W w')
    (hP2 : ∀ W, Below w.heap.size w W → Calls Try.prog 17 #[vb] W fun e w' => e = .returned (.bool false) ∧ Below W.heap.size W w') :
    Calls Try.prog 11 #[va, vb, vc] w fun e w' => e = .returned (.bool true) ∧ Below w.heap.size w w' := by
  obtain ⟨ba, ca, ea, _, _⟩ := ha
  obtain ⟨bb, cb, eb, _, _⟩ := hb
  obtain ⟨bc, cc, ec, _, _⟩ := hc
  subst ea eb ec
  obtain ⟨t1, t2, t3, hW0⟩ := three_boxes w (.int .i64 t.op) (.int .i64 t.n) (.string t.name) (.slice ba t.args.length ca) (.int .i64 u.op) (.int .i64 u.n) (.string u.name) (.slice bb u.args.length cb) (.int .i64 v.op) (.int .i64 v.n) (.string v.name) (.slice bc v.args.length cc)
  have HP1 := Lib.hid hP1
  have HP2 := Lib.hid hP2
  clear hP1 hP2
  generalize t.args.length = la at *
  generalize u.args.length = lb at *
  generalize v.args.length = lc at *
  generalize t.op = oa at *
  generalize u.op = ob at *
  generalize v.op = oc at *
  generalize t.n = na at *
  generalize u.n = nb at *
  generalize v.n = nc at *
  generalize t.name = sa at *
  generalize u.name = sb at *
  generalize v.name = sc at *
  have B0_0 := Lib.hid t1
  have B1_0 := Lib.hid t2
  have B2_0 := Lib.hid t3
  have HB0 := Lib.hid hW0
  clear t1 t2 t3 hW0
  go_enter Try.func11, Try.ntmps11
  go_upto_region 1 with fail
  obtain ⟨W0, hW⟩ : ∃ W0, W0 = ((w.alloc (Obj.cells #[.int .i64 oa, .int .i64 na, .string sa, .slice ba la ca] 24)).alloc (Obj.cells #[.int .i64 ob, .int .i64 nb, .string sb, .slice bb lb cb] 24)).alloc (Obj.cells #[.int .i64 oc, .int .i64 nc, .string sc, .slice bc lc cc] 24) := ⟨_, rfl⟩
  rw [← hW] at B0_0 B1_0 B2_0 HB0 ⊢
  clear hW
  obtain ⟨x00, x01, x02, x03⟩ := B0_0.out.cells
  obtain ⟨x10, x11, x12, x13⟩ := B1_0.out.cells
  obtain ⟨x20, x21, x22, x23⟩ := B2_0.out.cells
  go_wp2_with fail
  refine (HP1.out _ HB0.out).mono ?_
  rintro e w1 ⟨rfl, hb⟩
  have HB1 := Lib.hid (HB0.out.trans (hb.mono HB0.out.size))
  have B0_1 := Lib.hid (B0_0.out.next hb)
  have B1_1 := Lib.hid (B1_0.out.next hb)
  have B2_1 := Lib.hid (B2_0.out.next hb)
  clear hb x00 x01 x02 x03 x10 x11 x12 x13 x20 x21 x22 x23 HB0 B0_0 B1_0 B2_0
  obtain ⟨x00, x01, x02, x03⟩ := B0_1.out.cells
  obtain ⟨x10, x11, x12, x13⟩ := B1_1.out.cells
  obtain ⟨x20, x21, x22, x23⟩ := B2_1.out.cells
  go_wp2_with fail
  refine (HP2.out _ HB1.out).mono ?_
  rintro e w2 ⟨rfl, hb⟩
  have HB2 := Lib.hid (HB1.out.trans (hb.mono HB1.out.size))
  have B0_2 := Lib.hid (B0_1.out.next hb)
  have B1_2 := Lib.hid (B1_1.out.next hb)
  have B2_2 := Lib.hid (B2_1.out.next hb)
  clear hb x00 x01 x02 x03 x10 x11 x12 x13 x20 x21 x22 x23 HB1 B0_1 B1_1 B2_1
  obtain ⟨x00, x01, x02, x03⟩ := B0_2.out.cells
  obtain ⟨x10, x11, x12, x13⟩ := B1_2.out.cells
  obtain ⟨x20, x21, x22, x23⟩ := B2_2.out.cells
  go_wp2_with fail
  refine (awake_any _).mono ?_
  rintro e w3 ⟨rfl, hb⟩
  have HB3 := Lib.hid (HB2.out.trans (hb.mono HB2.out.size))
  have B0_3 := Lib.hid (B0_2.out.next hb)
  have B1_3 := Lib.hid (B1_2.out.next hb)
  have B2_3 := Lib.hid (B2_2.out.next hb)
  clear hb x00 x01 x02 x03 x10 x11 x12 x13 x20 x21 x22 x23 HB2 B0_2 B1_2 B2_2
  obtain ⟨x00, x01, x02, x03⟩ := B0_3.out.cells
  obtain ⟨x10, x11, x12, x13⟩ := B1_3.out.cells
  obtain ⟨x20, x21, x22, x23⟩ := B2_3.out.cells
  go_wp2_with fail
  go_ret
  exact ⟨rfl, HB3.out⟩

set_option maxHeartbeats 16000000 in
theorem total_bad3 (t u v : Ty) (va vb vc : Value) (w : World) (ha : V w t va) (hb : V w u vb) (hc : V w v vc)
    (hP1 : ∀ W, Below w.heap.size w W → Calls Try.prog 17 #[va] W fun e w' => e = .returned (.bool true) ∧ Below W.heap.size W w')
    (hP2 : ∀ W, Below w.heap.size w W → Calls Try.prog 17 #[vb] W fun e w' => e = .returned (.bool true) ∧ Below W.heap.size W w')
    (hP3 : ∀ W, Below w.heap.size w W → Calls Try.prog 17 #[vc] W fun e w' => e = .returned (.bool false) ∧ Below W.heap.size W w') :
    Calls Try.prog 11 #[va, vb, vc] w fun e w' => e = .returned (.bool true) ∧ Below w.heap.size w w' := by
  obtain ⟨ba, ca, ea, _, _⟩ := ha
  obtain ⟨bb, cb, eb, _, _⟩ := hb
  obtain ⟨bc, cc, ec, _, _⟩ := hc
  subst ea eb ec
  obtain ⟨t1, t2, t3, hW0⟩ := three_boxes w (.int .i64 t.op) (.int .i64 t.n) (.string t.name) (.slice ba t.args.length ca) (.int .i64 u.op) (.int .i64 u.n) (.string u.name) (.slice bb u.args.length cb) (.int .i64 v.op) (.int .i64 v.n) (.string v.name) (.slice bc v.args.length cc)
  have HP1 := Lib.hid hP1
  have HP2 := Lib.hid hP2
  have HP3 := Lib.hid hP3
  clear hP1 hP2 hP3
  generalize t.args.length = la at *
  generalize u.args.length = lb at *
  generalize v.args.length = lc at *
  generalize t.op = oa at *
  generalize u.op = ob at *
  generalize v.op = oc at *
  generalize t.n = na at *
  generalize u.n = nb at *
  generalize v.n = nc at *
  generalize t.name = sa at *
  generalize u.name = sb at *
  generalize v.name = sc at *
  have B0_0 := Lib.hid t1
  have B1_0 := Lib.hid t2
  have B2_0 := Lib.hid t3
  have HB0 := Lib.hid hW0
  clear t1 t2 t3 hW0
  go_enter Try.func11, Try.ntmps11
  go_upto_region 1 with fail
  obtain ⟨W0, hW⟩ : ∃ W0, W0 = ((w.alloc (Obj.cells #[.int .i64 oa, .int .i64 na, .string sa, .slice ba la ca] 24)).alloc (Obj.cells #[.int .i64 ob, .int .i64 nb, .string sb, .slice bb lb cb] 24)).alloc (Obj.cells #[.int .i64 oc, .int .i64 nc, .string sc, .slice bc lc cc] 24) := ⟨_, rfl⟩
  rw [← hW] at B0_0 B1_0 B2_0 HB0 ⊢
  clear hW
  obtain ⟨x00, x01, x02, x03⟩ := B0_0.out.cells
  obtain ⟨x10, x11, x12, x13⟩ := B1_0.out.cells
  obtain ⟨x20, x21, x22, x23⟩ := B2_0.out.cells
  go_wp2_with fail
  refine (HP1.out _ HB0.out).mono ?_
  rintro e w1 ⟨rfl, hb⟩
  have HB1 := Lib.hid (HB0.out.trans (hb.mono HB0.out.size))
  have B0_1 := Lib.hid (B0_0.out.next hb)
  have B1_1 := Lib.hid (B1_0.out.next hb)
  have B2_1 := Lib.hid (B2_0.out.next hb)
  clear hb x00 x01 x02 x03 x10 x11 x12 x13 x20 x21 x22 x23 HB0 B0_0 B1_0 B2_0
  obtain ⟨x00, x01, x02, x03⟩ := B0_1.out.cells
  obtain ⟨x10, x11, x12, x13⟩ := B1_1.out.cells
  obtain ⟨x20, x21, x22, x23⟩ := B2_1.out.cells
  go_wp2_with fail
  refine (HP2.out _ HB1.out).mono ?_
  rintro e w2 ⟨rfl, hb⟩
  have HB2 := Lib.hid (HB1.out.trans (hb.mono HB1.out.size))
  have B0_2 := Lib.hid (B0_1.out.next hb)
  have B1_2 := Lib.hid (B1_1.out.next hb)
  have B2_2 := Lib.hid (B2_1.out.next hb)
  clear hb x00 x01 x02 x03 x10 x11 x12 x13 x20 x21 x22 x23 HB1 B0_1 B1_1 B2_1
  obtain ⟨x00, x01, x02, x03⟩ := B0_2.out.cells
  obtain ⟨x10, x11, x12, x13⟩ := B1_2.out.cells
  obtain ⟨x20, x21, x22, x23⟩ := B2_2.out.cells
  go_wp2_with fail
  refine (HP3.out _ HB2.out).mono ?_
  rintro e w3 ⟨rfl, hb⟩
  have HB3 := Lib.hid (HB2.out.trans (hb.mono HB2.out.size))
  have B0_3 := Lib.hid (B0_2.out.next hb)
  have B1_3 := Lib.hid (B1_2.out.next hb)
  have B2_3 := Lib.hid (B2_2.out.next hb)
  clear hb x00 x01 x02 x03 x10 x11 x12 x13 x20 x21 x22 x23 HB2 B0_2 B1_2 B2_2
  obtain ⟨x00, x01, x02, x03⟩ := B0_3.out.cells
  obtain ⟨x10, x11, x12, x13⟩ := B1_3.out.cells
  obtain ⟨x20, x21, x22, x23⟩ := B2_3.out.cells
  go_wp2_with fail
  refine (awake_any _).mono ?_
  rintro e w4 ⟨rfl, hb⟩
  have HB4 := Lib.hid (HB3.out.trans (hb.mono HB3.out.size))
  have B0_4 := Lib.hid (B0_3.out.next hb)
  have B1_4 := Lib.hid (B1_3.out.next hb)
  have B2_4 := Lib.hid (B2_3.out.next hb)
  clear hb x00 x01 x02 x03 x10 x11 x12 x13 x20 x21 x22 x23 HB3 B0_3 B1_3 B2_3
  obtain ⟨x00, x01, x02, x03⟩ := B0_4.out.cells
  obtain ⟨x10, x11, x12, x13⟩ := B1_4.out.cells
  obtain ⟨x20, x21, x22, x23⟩ := B2_4.out.cells
  go_wp2_with fail
  go_ret
  exact ⟨rfl, HB4.out⟩

set_option maxHeartbeats 16000000 in
theorem total_good (t u v : Ty) (va vb vc : Value) (w : World) (a b c : Int) (ha : V w t va) (hb : V w u vb) (hc : V w v vc)
    (hP1 : ∀ W, Below w.heap.size w W → Calls Try.prog 17 #[va] W fun e w' => e = .returned (.bool true) ∧ Below W.heap.size W w')
    (hP2 : ∀ W, Below w.heap.size w W → Calls Try.prog 17 #[vb] W fun e w' => e = .returned (.bool true) ∧ Below W.heap.size W w')
    (hP3 : ∀ W, Below w.heap.size w W → Calls Try.prog 17 #[vc] W fun e w' => e = .returned (.bool true) ∧ Below W.heap.size W w')
    (hO1 : ∀ W, Below w.heap.size w W → Calls Try.prog 42 #[va, vb] W fun e w' => e = .returned (.tuple #[.int .i64 a, .int .i64 0]) ∧ Below W.heap.size W w')
    (hO2 : ∀ W, Below w.heap.size w W → Calls Try.prog 42 #[vb, vc] W fun e w' => e = .returned (.tuple #[.int .i64 b, .int .i64 0]) ∧ Below W.heap.size W w')
    (hO3 : ∀ W, Below w.heap.size w W → Calls Try.prog 42 #[va, vc] W fun e w' => e = .returned (.tuple #[.int .i64 c, .int .i64 0]) ∧ Below W.heap.size W w')
    (h3 : Ord3 a b c) :
    Calls Try.prog 11 #[va, vb, vc] w fun e w' => e = .returned (.bool true) ∧ Below w.heap.size w w' := by
  obtain ⟨ba, ca, ea, _, _⟩ := ha
  obtain ⟨bb, cb, eb, _, _⟩ := hb
  obtain ⟨bc, cc, ec, _, _⟩ := hc
  subst ea eb ec
  obtain ⟨t1, t2, t3, hW0⟩ := three_boxes w (.int .i64 t.op) (.int .i64 t.n) (.string t.name) (.slice ba t.args.length ca) (.int .i64 u.op) (.int .i64 u.n) (.string u.name) (.slice bb u.args.length cb) (.int .i64 v.op) (.int .i64 v.n) (.string v.name) (.slice bc v.args.length cc)
  have HP1 := Lib.hid hP1
  have HP2 := Lib.hid hP2
  have HP3 := Lib.hid hP3
  have HO1 := Lib.hid hO1
  have HO2 := Lib.hid hO2
  have HO3 := Lib.hid hO3
  clear hP1 hP2 hP3 hO1 hO2 hO3
  generalize t.args.length = la at *
  generalize u.args.length = lb at *
  generalize v.args.length = lc at *
  generalize t.op = oa at *
  generalize u.op = ob at *
  generalize v.op = oc at *
  generalize t.n = na at *
  generalize u.n = nb at *
  generalize v.n = nc at *
  generalize t.name = sa at *
  generalize u.name = sb at *
  generalize v.name = sc at *
  have B0_0 := Lib.hid t1
  have B1_0 := Lib.hid t2
  have B2_0 := Lib.hid t3
  have HB0 := Lib.hid hW0
  clear t1 t2 t3 hW0
  go_enter Try.func11, Try.ntmps11
  go_upto_region 1 with fail
  obtain ⟨W0, hW⟩ : ∃ W0, W0 = ((w.alloc (Obj.cells #[.int .i64 oa, .int .i64 na, .string sa, .slice ba la ca] 24)).alloc (Obj.cells #[.int .i64 ob, .int .i64 nb, .string sb, .slice bb lb cb] 24)).alloc (Obj.cells #[.int .i64 oc, .int .i64 nc, .string sc, .slice bc lc cc] 24) := ⟨_, rfl⟩
  rw [← hW] at B0_0 B1_0 B2_0 HB0 ⊢
  clear hW
  obtain ⟨x00, x01, x02, x03⟩ := B0_0.out.cells
  obtain ⟨x10, x11, x12, x13⟩ := B1_0.out.cells
  obtain ⟨x20, x21, x22, x23⟩ := B2_0.out.cells
  go_wp2_with fail
  refine (HP1.out _ HB0.out).mono ?_
  rintro e w1 ⟨rfl, hb⟩
  have HB1 := Lib.hid (HB0.out.trans (hb.mono HB0.out.size))
  have B0_1 := Lib.hid (B0_0.out.next hb)
  have B1_1 := Lib.hid (B1_0.out.next hb)
  have B2_1 := Lib.hid (B2_0.out.next hb)
  clear hb x00 x01 x02 x03 x10 x11 x12 x13 x20 x21 x22 x23 HB0 B0_0 B1_0 B2_0
  obtain ⟨x00, x01, x02, x03⟩ := B0_1.out.cells
  obtain ⟨x10, x11, x12, x13⟩ := B1_1.out.cells
  obtain ⟨x20, x21, x22, x23⟩ := B2_1.out.cells
  go_wp2_with fail
  refine (HP2.out _ HB1.out).mono ?_
  rintro e w2 ⟨rfl, hb⟩
  have HB2 := Lib.hid (HB1.out.trans (hb.mono HB1.out.size))
  have B0_2 := Lib.hid (B0_1.out.next hb)
  have B1_2 := Lib.hid (B1_1.out.next hb)
  have B2_2 := Lib.hid (B2_1.out.next hb)
  clear hb x00 x01 x02 x03 x10 x11 x12 x13 x20 x21 x22 x23 HB1 B0_1 B1_1 B2_1
  obtain ⟨x00, x01, x02, x03⟩ := B0_2.out.cells
  obtain ⟨x10, x11, x12, x13⟩ := B1_2.out.cells
  obtain ⟨x20, x21, x22, x23⟩ := B2_2.out.cells
  go_wp2_with fail
  refine (HP3.out _ HB2.out).mono ?_
  rintro e w3 ⟨rfl, hb⟩
  have HB3 := Lib.hid (HB2.out.trans (hb.mono HB2.out.size))
  have B0_3 := Lib.hid (B0_2.out.next hb)
  have B1_3 := Lib.hid (B1_2.out.next hb)
  have B2_3 := Lib.hid (B2_2.out.next hb)
  clear hb x00 x01 x02 x03 x10 x11 x12 x13 x20 x21 x22 x23 HB2 B0_2 B1_2 B2_2
  obtain ⟨x00, x01, x02, x03⟩ := B0_3.out.cells
  obtain ⟨x10, x11, x12, x13⟩ := B1_3.out.cells
  obtain ⟨x20, x21, x22, x23⟩ := B2_3.out.cells
  go_wp2_with fail
  refine (HO1.out _ HB3.out).mono ?_
  rintro e w4 ⟨rfl, hb⟩
  have HB4 := Lib.hid (HB3.out.trans (hb.mono HB3.out.size))
  have B0_4 := Lib.hid (B0_3.out.next hb)
  have B1_4 := Lib.hid (B1_3.out.next hb)
  have B2_4 := Lib.hid (B2_3.out.next hb)
  clear hb x00 x01 x02 x03 x10 x11 x12 x13 x20 x21 x22 x23 HB3 B0_3 B1_3 B2_3
  obtain ⟨x00, x01, x02, x03⟩ := B0_4.out.cells
  obtain ⟨x10, x11, x12, x13⟩ := B1_4.out.cells
  obtain ⟨x20, x21, x22, x23⟩ := B2_4.out.cells
  go_wp2_with fail
  refine (HO2.out _ HB4.out).mono ?_
  rintro e w5 ⟨rfl, hb⟩
  have HB5 := Lib.hid (HB4.out.trans (hb.mono HB4.out.size))
  have B0_5 := Lib.hid (B0_4.out.next hb)
  have B1_5 := Lib.hid (B1_4.out.next hb)
  have B2_5 := Lib.hid (B2_4.out.next hb)
  clear hb x00 x01 x02 x03 x10 x11 x12 x13 x20 x21 x22 x23 HB4 B0_4 B1_4 B2_4
  obtain ⟨x00, x01, x02, x03⟩ := B0_5.out.cells
  obtain ⟨x10, x11, x12, x13⟩ := B1_5.out.cells
  obtain ⟨x20, x21, x22, x23⟩ := B2_5.out.cells
  go_wp2_with fail
  refine (HO3.out _ HB5.out).mono ?_
  rintro e w6 ⟨rfl, hb⟩
  have HB6 := Lib.hid (HB5.out.trans (hb.mono HB5.out.size))
  have B0_6 := Lib.hid (B0_5.out.next hb)
  have B1_6 := Lib.hid (B1_5.out.next hb)
  have B2_6 := Lib.hid (B2_5.out.next hb)
  clear hb x00 x01 x02 x03 x10 x11 x12 x13 x20 x21 x22 x23 HB5 B0_5 B1_5 B2_5
  obtain ⟨x00, x01, x02, x03⟩ := B0_6.out.cells
  obtain ⟨x10, x11, x12, x13⟩ := B1_6.out.cells
  obtain ⟨x20, x21, x22, x23⟩ := B2_6.out.cells
  clear x00 x01 x02 x03 x10 x11 x12 x13 x20 x21 x22 x23 HP1 HP2 HP3 HO1 HO2 HO3 B0_6 B1_6 B2_6
  go_upto_region 8 with fail
  rcases h3 with ⟨rfl, rfl, rfl⟩ | ⟨rfl, rfl, rfl⟩ | ⟨rfl, rfl, rfl⟩ | ⟨rfl, rfl, rfl⟩ | ⟨rfl, rfl, rfl⟩ | ⟨rfl, rfl, rfl⟩ | ⟨rfl, rfl, rfl⟩ | ⟨rfl, rfl, rfl⟩ | ⟨rfl, rfl, rfl⟩ | ⟨rfl, rfl, rfl⟩ | ⟨rfl, rfl, rfl⟩ | ⟨rfl, rfl, rfl⟩ | ⟨rfl, rfl, rfl⟩
  all_goals
    go_wp2_with fail
    refine (awake_any _).mono ?_
    rintro e w9 ⟨rfl, hb⟩
    have HB9 := Lib.hid (HB6.out.trans (hb.mono HB6.out.size))
    clear hb
    go_wp2_with fail
    go_ret
    exact ⟨rfl, HB9.out⟩

theorem law_total (t u v : Ty) (va vb vc : Value) (w : World) (ha : V w t va) (hb : V w u vb) (hc : V w v vc) : Calls Try.prog 11 #[va, vb, vc] w fun e w' => e = .returned (.bool true) ∧ Below w.heap.size w w' := by
  have hP1 := fun W (h : Below w.heap.size w W) => proper_any t va W (ha.next h)
  have hP2 := fun W (h : Below w.heap.size w W) => proper_any u vb W (hb.next h)
  have hP3 := fun W (h : Below w.heap.size w W) => proper_any v vc W (hc.next h)
  have hO1 := fun W (h : Below w.heap.size w W) => Order_any t u va vb W (ha.next h) (hb.next h)
  have hO2 := fun W (h : Below w.heap.size w W) => Order_any u v vb vc W (hb.next h) (hc.next h)
  have hO3 := fun W (h : Below w.heap.size w W) => Order_any t v va vc W (ha.next h) (hc.next h)
  cases hp : isProper t with
  | false =>
    rw [hp] at hP1
    exact total_bad1 t u v va vb vc w ha hb hc hP1
  | true =>
    rw [hp] at hP1
    cases hq : isProper u with
    | false =>
      rw [hq] at hP2
      exact total_bad2 t u v va vb vc w ha hb hc hP1 hP2
    | true =>
      rw [hq] at hP2
      cases hr : isProper v with
      | false =>
        rw [hr] at hP3
        exact total_bad3 t u v va vb vc w ha hb hc hP1 hP2 hP3
      | true =>
        rw [hr] at hP3
        rw [ordV_ok hp hq] at hO1
        rw [ordV_ok hq hr] at hO2
        rw [ordV_ok hp hr] at hO3
        exact total_good t u v va vb vc w _ _ _ ha hb hc hP1 hP2 hP3 hO1 hO2 hO3 (three_of t u v (Good.of hp) (Good.of hq) (Good.of hr))
end Ty
end Go.Proofs.Ytkedhnahgpmkaaa
