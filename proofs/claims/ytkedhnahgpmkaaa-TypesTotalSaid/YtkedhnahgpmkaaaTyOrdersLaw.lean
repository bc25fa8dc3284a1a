/- The law TypesOrders: true. Conditions: the types lie in memory. -/
import Derived.Test.YtkedhnahgpmkaaaTyOrdLaws
import Derived.Test.YtkedhnahgpmkaaaTyPSame
import Derived.Test.YtkedhnahgpmkaaaTyAwake
namespace Go.Proofs.Ytkedhnahgpmkaaa
open Go.RowKit

namespace Ty
theorem same_symm (t u : Ty) : same u t = same t u := by
  cases h : same t u with
  | true =>
    have e := same_imp t u h
    subst e
    exact h
  | false =>
    cases h2 : same u t with
    | true =>
      have e := same_imp u t h2
      subst e
      rw [h2] at h
      cases h
    | false => rfl
theorem cmpI_range (a b : Int) : cmpI a b = -1 ∨ cmpI a b = 0 ∨ cmpI a b = 1 := by
  unfold cmpI
  repeat' split
  all_goals omega
theorem cmpS_range (a b : List UInt8) : cmpS a b = -1 ∨ cmpS a b = 0 ∨ cmpS a b = 1 := by
  unfold cmpS
  repeat' split
  all_goals omega
theorem lex2_range {x y : Int} (hx : x = -1 ∨ x = 0 ∨ x = 1) (hy : y = -1 ∨ y = 0 ∨ y = 1) : lex2 x y = -1 ∨ lex2 x y = 0 ∨ lex2 x y = 1 := by
  unfold lex2
  split <;> assumption
theorem cfn_range : ∀ {a b : List Ty}, (∀ x ∈ a, ∀ y ∈ b, ord x y = -1 ∨ ord x y = 0 ∨ ord x y = 1) → cfn a b = -1 ∨ cfn a b = 0 ∨ cfn a b = 1
  | [], [], _ => by rw [cfn]; omega
  | [], _ :: _, _ => by rw [cfn]; omega
  | _ :: _, [], _ => by rw [cfn]; omega
  | x :: a, y :: b, h => by
    rw [cfn_cons]
    exact lex2_range (h x (by simp) y (by simp)) (cfn_range (fun x hx y hy => h x (by simp [hx]) y (by simp [hy])))
theorem ord_range_k : ∀ (k : Nat) (t u : Ty), SizeOf.sizeOf t ≤ k → Good t → Good u → ord t u = -1 ∨ ord t u = 0 ∨ ord t u = 1 := by
  intro k
  induction k with
  | zero => intro t u hk _ _; cases t; simp at hk
  | succ k ih =>
    intro t u hk ht hu
    rw [ord_lex ht hu]
    exact lex2_range (cmpI_range _ _) (lex2_range (cmpI_range _ _) (lex2_range (cmpI_range _ _) (lex2_range (cmpS_range _ _) (cfn_range (fun x hx y hy => ih x y (by have := size_mem hx; omega) (good_mem ht hx) (good_mem hu hy))))))
theorem ord_range (t u : Ty) (ht : Good t) (hu : Good u) : ord t u = -1 ∨ ord t u = 0 ∨ ord t u = 1 := ord_range_k _ t u (Nat.le_refl _) ht hu
theorem ord_three (t u : Ty) (ht : Good t) (hu : Good u) : (ord t u = 0 ∧ ord u t = 0 ∧ same t u = true) ∨ (ord t u = -1 ∧ ord u t = 1 ∧ same t u = false) ∨ (ord t u = 1 ∧ ord u t = -1 ∧ same t u = false) := by
  have h1 := ord_neg' ht hu
  have h2 := ord_same ht hu
  have h3 := ord_range t u ht hu
  rcases h3 with h3 | h3 | h3
  · exact .inr (.inl ⟨h3, by omega, by rw [← h2, h3]; rfl⟩)
  · exact .inl ⟨h3, by omega, by rw [← h2, h3]; rfl⟩
  · exact .inr (.inr ⟨h3, by omega, by rw [← h2, h3]; rfl⟩)

set_option maxHeartbeats 16000000 in
theorem orders_bad1 (t u : Ty) (va vb : Value) (w : World) (s q : Bool) (ha : V w t va) (hb : V w u vb)
    (hO1 : ∀ W, Below w.heap.size w W → Calls Try.prog 42 #[va, vb] W fun e w' => e = .returned (.tuple #[.int .i64 0, .int .i64 2]) ∧ Below W.heap.size W w')
    (hO2 : ∀ W, Below w.heap.size w W → Calls Try.prog 42 #[vb, va] W fun e w' => e = .returned (.tuple #[.int .i64 0, .int .i64 2]) ∧ Below W.heap.size W w')
    (hS1 : ∀ W, Below w.heap.size w W → Calls Try.prog 43 #[va, vb] W fun e w' => e = .returned (.bool s) ∧ Below W.heap.size W w')
    (hS2 : ∀ W, Below w.heap.size w W → Calls Try.prog 43 #[vb, va] W fun e w' => e = .returned (.bool s) ∧ Below W.heap.size W w')
    (hS3 : ∀ W, Below w.heap.size w W → Calls Try.prog 43 #[va, va] W fun e w' => e = .returned (.bool true) ∧ Below W.heap.size W w')
    (hR : ∀ W, Below w.heap.size w W → Calls Try.prog 38 #[va, vb] W fun e w' => e = .returned (.bool s) ∧ Below W.heap.size W w')
    (hP1 : ∀ W, Below w.heap.size w W → Calls Try.prog 17 #[va] W fun e w' => e = .returned (.bool false) ∧ Below W.heap.size W w')
    (hP2 : ∀ W, Below w.heap.size w W → Calls Try.prog 17 #[vb] W fun e w' => e = .returned (.bool q) ∧ Below W.heap.size W w') :
    Calls Try.prog 7 #[va, vb] w fun e w' => e = .returned (.bool true) ∧ Below w.heap.size w w' := by
  obtain ⟨ba, ca, ea, _, _⟩ := ha
  obtain ⟨bb, cb, eb, _, _⟩ := hb
  subst ea eb
  obtain ⟨t1, t2⟩ := two_boxes w (.int .i64 t.op) (.int .i64 t.n) (.string t.name) (.slice ba t.args.length ca) (.int .i64 u.op) (.int .i64 u.n) (.string u.name) (.slice bb u.args.length cb)
  have hW0 := below_two w (Obj.cells #[.int .i64 t.op, .int .i64 t.n, .string t.name, .slice ba t.args.length ca] 24) (Obj.cells #[.int .i64 u.op, .int .i64 u.n, .string u.name, .slice bb u.args.length cb] 24)
  have HO1 := Lib.hid hO1
  have HO2 := Lib.hid hO2
  have HS1 := Lib.hid hS1
  have HS2 := Lib.hid hS2
  have HS3 := Lib.hid hS3
  have HR := Lib.hid hR
  have HP1 := Lib.hid hP1
  have HP2 := Lib.hid hP2
  clear hO1 hO2 hS1 hS2 hS3 hR hP1 hP2
  generalize t.args.length = la at *
  generalize u.args.length = lb at *
  generalize t.op = oa at *
  generalize u.op = ob at *
  generalize t.n = na at *
  generalize u.n = nb at *
  generalize t.name = sa at *
  generalize u.name = sb at *
  have B0_0 := Lib.hid t1
  have B1_0 := Lib.hid t2
  have HB0 := Lib.hid hW0
  clear t1 t2 hW0
  go_enter Try.func7, Try.ntmps7
  go_upto_region 1 with fail
  obtain ⟨W0, hW⟩ : ∃ W0, W0 = (w.alloc (Obj.cells #[.int .i64 oa, .int .i64 na, .string sa, .slice ba la ca] 24)).alloc (Obj.cells #[.int .i64 ob, .int .i64 nb, .string sb, .slice bb lb cb] 24) := ⟨_, rfl⟩
  rw [← hW] at B0_0 B1_0 HB0 ⊢
  clear hW
  obtain ⟨x00, x01, x02, x03⟩ := B0_0.out.cells
  obtain ⟨x10, x11, x12, x13⟩ := B1_0.out.cells
  go_wp2_with fail
  refine (HO1.out _ HB0.out).mono ?_
  rintro e w1 ⟨rfl, hb⟩
  have HB1 := Lib.hid (HB0.out.trans (hb.mono HB0.out.size))
  have B0_1 := Lib.hid (B0_0.out.next hb)
  have B1_1 := Lib.hid (B1_0.out.next hb)
  clear hb x00 x01 x02 x03 x10 x11 x12 x13 HB0 B0_0 B1_0
  obtain ⟨x00, x01, x02, x03⟩ := B0_1.out.cells
  obtain ⟨x10, x11, x12, x13⟩ := B1_1.out.cells
  go_wp2_with fail
  refine (HO2.out _ HB1.out).mono ?_
  rintro e w2 ⟨rfl, hb⟩
  have HB2 := Lib.hid (HB1.out.trans (hb.mono HB1.out.size))
  have B0_2 := Lib.hid (B0_1.out.next hb)
  have B1_2 := Lib.hid (B1_1.out.next hb)
  clear hb x00 x01 x02 x03 x10 x11 x12 x13 HB1 B0_1 B1_1
  obtain ⟨x00, x01, x02, x03⟩ := B0_2.out.cells
  obtain ⟨x10, x11, x12, x13⟩ := B1_2.out.cells
  go_wp2_with fail
  refine (HS1.out _ HB2.out).mono ?_
  rintro e w3 ⟨rfl, hb⟩
  have HB3 := Lib.hid (HB2.out.trans (hb.mono HB2.out.size))
  have B0_3 := Lib.hid (B0_2.out.next hb)
  have B1_3 := Lib.hid (B1_2.out.next hb)
  clear hb x00 x01 x02 x03 x10 x11 x12 x13 HB2 B0_2 B1_2
  obtain ⟨x00, x01, x02, x03⟩ := B0_3.out.cells
  obtain ⟨x10, x11, x12, x13⟩ := B1_3.out.cells
  go_wp2_with fail
  refine (HR.out _ HB3.out).mono ?_
  rintro e w4 ⟨rfl, hb⟩
  have HB4 := Lib.hid (HB3.out.trans (hb.mono HB3.out.size))
  have B0_4 := Lib.hid (B0_3.out.next hb)
  have B1_4 := Lib.hid (B1_3.out.next hb)
  clear hb x00 x01 x02 x03 x10 x11 x12 x13 HB3 B0_3 B1_3
  obtain ⟨x00, x01, x02, x03⟩ := B0_4.out.cells
  obtain ⟨x10, x11, x12, x13⟩ := B1_4.out.cells
  go_wp2_with fail
  refine (HS2.out _ HB4.out).mono ?_
  rintro e w5 ⟨rfl, hb⟩
  have HB5 := Lib.hid (HB4.out.trans (hb.mono HB4.out.size))
  have B0_5 := Lib.hid (B0_4.out.next hb)
  have B1_5 := Lib.hid (B1_4.out.next hb)
  clear hb x00 x01 x02 x03 x10 x11 x12 x13 HB4 B0_4 B1_4
  obtain ⟨x00, x01, x02, x03⟩ := B0_5.out.cells
  obtain ⟨x10, x11, x12, x13⟩ := B1_5.out.cells
  go_wp2_with fail
  refine (HS3.out _ HB5.out).mono ?_
  rintro e w6 ⟨rfl, hb⟩
  have HB6 := Lib.hid (HB5.out.trans (hb.mono HB5.out.size))
  have B0_6 := Lib.hid (B0_5.out.next hb)
  have B1_6 := Lib.hid (B1_5.out.next hb)
  clear hb x00 x01 x02 x03 x10 x11 x12 x13 HB5 B0_5 B1_5
  obtain ⟨x00, x01, x02, x03⟩ := B0_6.out.cells
  obtain ⟨x10, x11, x12, x13⟩ := B1_6.out.cells
  go_wp2_with fail
  refine (HP1.out _ HB6.out).mono ?_
  rintro e w7 ⟨rfl, hb⟩
  have HB7 := Lib.hid (HB6.out.trans (hb.mono HB6.out.size))
  have B0_7 := Lib.hid (B0_6.out.next hb)
  have B1_7 := Lib.hid (B1_6.out.next hb)
  clear hb x00 x01 x02 x03 x10 x11 x12 x13 HB6 B0_6 B1_6
  obtain ⟨x00, x01, x02, x03⟩ := B0_7.out.cells
  obtain ⟨x10, x11, x12, x13⟩ := B1_7.out.cells
  go_wp2_with fail
  refine (awake_any _).mono ?_
  rintro e w8 ⟨rfl, hb⟩
  have HB8 := Lib.hid (HB7.out.trans (hb.mono HB7.out.size))
  have B0_8 := Lib.hid (B0_7.out.next hb)
  have B1_8 := Lib.hid (B1_7.out.next hb)
  clear hb x00 x01 x02 x03 x10 x11 x12 x13 HB7 B0_7 B1_7
  obtain ⟨x00, x01, x02, x03⟩ := B0_8.out.cells
  obtain ⟨x10, x11, x12, x13⟩ := B1_8.out.cells
  go_wp2_with fail
  go_ret
  exact ⟨rfl, HB8.out⟩

set_option maxHeartbeats 16000000 in
theorem orders_bad2 (t u : Ty) (va vb : Value) (w : World) (s : Bool) (ha : V w t va) (hb : V w u vb)
    (hO1 : ∀ W, Below w.heap.size w W → Calls Try.prog 42 #[va, vb] W fun e w' => e = .returned (.tuple #[.int .i64 0, .int .i64 2]) ∧ Below W.heap.size W w')
    (hO2 : ∀ W, Below w.heap.size w W → Calls Try.prog 42 #[vb, va] W fun e w' => e = .returned (.tuple #[.int .i64 0, .int .i64 2]) ∧ Below W.heap.size W w')
    (hS1 : ∀ W, Below w.heap.size w W → Calls Try.prog 43 #[va, vb] W fun e w' => e = .returned (.bool s) ∧ Below W.heap.size W w')
    (hS2 : ∀ W, Below w.heap.size w W → Calls Try.prog 43 #[vb, va] W fun e w' => e = .returned (.bool s) ∧ Below W.heap.size W w')
    (hS3 : ∀ W, Below w.heap.size w W → Calls Try.prog 43 #[va, va] W fun e w' => e = .returned (.bool true) ∧ Below W.heap.size W w')
    (hR : ∀ W, Below w.heap.size w W → Calls Try.prog 38 #[va, vb] W fun e w' => e = .returned (.bool s) ∧ Below W.heap.size W w')
    (hP1 : ∀ W, Below w.heap.size w W → Calls Try.prog 17 #[va] W fun e w' => e = .returned (.bool true) ∧ Below W.heap.size W w')
    (hP2 : ∀ W, Below w.heap.size w W → Calls Try.prog 17 #[vb] W fun e w' => e = .returned (.bool false) ∧ Below W.heap.size W w') :
    Calls Try.prog 7 #[va, vb] w fun e w' => e = .returned (.bool true) ∧ Below w.heap.size w w' := by
  obtain ⟨ba, ca, ea, _, _⟩ := ha
  obtain ⟨bb, cb, eb, _, _⟩ := hb
  subst ea eb
  obtain ⟨t1, t2⟩ := two_boxes w (.int .i64 t.op) (.int .i64 t.n) (.string t.name) (.slice ba t.args.length ca) (.int .i64 u.op) (.int .i64 u.n) (.string u.name) (.slice bb u.args.length cb)
  have hW0 := below_two w (Obj.cells #[.int .i64 t.op, .int .i64 t.n, .string t.name, .slice ba t.args.length ca] 24) (Obj.cells #[.int .i64 u.op, .int .i64 u.n, .string u.name, .slice bb u.args.length cb] 24)
  have HO1 := Lib.hid hO1
  have HO2 := Lib.hid hO2
  have HS1 := Lib.hid hS1
  have HS2 := Lib.hid hS2
  have HS3 := Lib.hid hS3
  have HR := Lib.hid hR
  have HP1 := Lib.hid hP1
  have HP2 := Lib.hid hP2
  clear hO1 hO2 hS1 hS2 hS3 hR hP1 hP2
  generalize t.args.length = la at *
  generalize u.args.length = lb at *
  generalize t.op = oa at *
  generalize u.op = ob at *
  generalize t.n = na at *
  generalize u.n = nb at *
  generalize t.name = sa at *
  generalize u.name = sb at *
  have B0_0 := Lib.hid t1
  have B1_0 := Lib.hid t2
  have HB0 := Lib.hid hW0
  clear t1 t2 hW0
  go_enter Try.func7, Try.ntmps7
  go_upto_region 1 with fail
  obtain ⟨W0, hW⟩ : ∃ W0, W0 = (w.alloc (Obj.cells #[.int .i64 oa, .int .i64 na, .string sa, .slice ba la ca] 24)).alloc (Obj.cells #[.int .i64 ob, .int .i64 nb, .string sb, .slice bb lb cb] 24) := ⟨_, rfl⟩
  rw [← hW] at B0_0 B1_0 HB0 ⊢
  clear hW
  obtain ⟨x00, x01, x02, x03⟩ := B0_0.out.cells
  obtain ⟨x10, x11, x12, x13⟩ := B1_0.out.cells
  go_wp2_with fail
  refine (HO1.out _ HB0.out).mono ?_
  rintro e w1 ⟨rfl, hb⟩
  have HB1 := Lib.hid (HB0.out.trans (hb.mono HB0.out.size))
  have B0_1 := Lib.hid (B0_0.out.next hb)
  have B1_1 := Lib.hid (B1_0.out.next hb)
  clear hb x00 x01 x02 x03 x10 x11 x12 x13 HB0 B0_0 B1_0
  obtain ⟨x00, x01, x02, x03⟩ := B0_1.out.cells
  obtain ⟨x10, x11, x12, x13⟩ := B1_1.out.cells
  go_wp2_with fail
  refine (HO2.out _ HB1.out).mono ?_
  rintro e w2 ⟨rfl, hb⟩
  have HB2 := Lib.hid (HB1.out.trans (hb.mono HB1.out.size))
  have B0_2 := Lib.hid (B0_1.out.next hb)
  have B1_2 := Lib.hid (B1_1.out.next hb)
  clear hb x00 x01 x02 x03 x10 x11 x12 x13 HB1 B0_1 B1_1
  obtain ⟨x00, x01, x02, x03⟩ := B0_2.out.cells
  obtain ⟨x10, x11, x12, x13⟩ := B1_2.out.cells
  go_wp2_with fail
  refine (HS1.out _ HB2.out).mono ?_
  rintro e w3 ⟨rfl, hb⟩
  have HB3 := Lib.hid (HB2.out.trans (hb.mono HB2.out.size))
  have B0_3 := Lib.hid (B0_2.out.next hb)
  have B1_3 := Lib.hid (B1_2.out.next hb)
  clear hb x00 x01 x02 x03 x10 x11 x12 x13 HB2 B0_2 B1_2
  obtain ⟨x00, x01, x02, x03⟩ := B0_3.out.cells
  obtain ⟨x10, x11, x12, x13⟩ := B1_3.out.cells
  go_wp2_with fail
  refine (HR.out _ HB3.out).mono ?_
  rintro e w4 ⟨rfl, hb⟩
  have HB4 := Lib.hid (HB3.out.trans (hb.mono HB3.out.size))
  have B0_4 := Lib.hid (B0_3.out.next hb)
  have B1_4 := Lib.hid (B1_3.out.next hb)
  clear hb x00 x01 x02 x03 x10 x11 x12 x13 HB3 B0_3 B1_3
  obtain ⟨x00, x01, x02, x03⟩ := B0_4.out.cells
  obtain ⟨x10, x11, x12, x13⟩ := B1_4.out.cells
  go_wp2_with fail
  refine (HS2.out _ HB4.out).mono ?_
  rintro e w5 ⟨rfl, hb⟩
  have HB5 := Lib.hid (HB4.out.trans (hb.mono HB4.out.size))
  have B0_5 := Lib.hid (B0_4.out.next hb)
  have B1_5 := Lib.hid (B1_4.out.next hb)
  clear hb x00 x01 x02 x03 x10 x11 x12 x13 HB4 B0_4 B1_4
  obtain ⟨x00, x01, x02, x03⟩ := B0_5.out.cells
  obtain ⟨x10, x11, x12, x13⟩ := B1_5.out.cells
  go_wp2_with fail
  refine (HS3.out _ HB5.out).mono ?_
  rintro e w6 ⟨rfl, hb⟩
  have HB6 := Lib.hid (HB5.out.trans (hb.mono HB5.out.size))
  have B0_6 := Lib.hid (B0_5.out.next hb)
  have B1_6 := Lib.hid (B1_5.out.next hb)
  clear hb x00 x01 x02 x03 x10 x11 x12 x13 HB5 B0_5 B1_5
  obtain ⟨x00, x01, x02, x03⟩ := B0_6.out.cells
  obtain ⟨x10, x11, x12, x13⟩ := B1_6.out.cells
  go_wp2_with fail
  refine (HP1.out _ HB6.out).mono ?_
  rintro e w7 ⟨rfl, hb⟩
  have HB7 := Lib.hid (HB6.out.trans (hb.mono HB6.out.size))
  have B0_7 := Lib.hid (B0_6.out.next hb)
  have B1_7 := Lib.hid (B1_6.out.next hb)
  clear hb x00 x01 x02 x03 x10 x11 x12 x13 HB6 B0_6 B1_6
  obtain ⟨x00, x01, x02, x03⟩ := B0_7.out.cells
  obtain ⟨x10, x11, x12, x13⟩ := B1_7.out.cells
  go_wp2_with fail
  refine (HP2.out _ HB7.out).mono ?_
  rintro e w8 ⟨rfl, hb⟩
  have HB8 := Lib.hid (HB7.out.trans (hb.mono HB7.out.size))
  have B0_8 := Lib.hid (B0_7.out.next hb)
  have B1_8 := Lib.hid (B1_7.out.next hb)
  clear hb x00 x01 x02 x03 x10 x11 x12 x13 HB7 B0_7 B1_7
  obtain ⟨x00, x01, x02, x03⟩ := B0_8.out.cells
  obtain ⟨x10, x11, x12, x13⟩ := B1_8.out.cells
  go_wp2_with fail
  refine (awake_any _).mono ?_
  rintro e w9 ⟨rfl, hb⟩
  have HB9 := Lib.hid (HB8.out.trans (hb.mono HB8.out.size))
  have B0_9 := Lib.hid (B0_8.out.next hb)
  have B1_9 := Lib.hid (B1_8.out.next hb)
  clear hb x00 x01 x02 x03 x10 x11 x12 x13 HB8 B0_8 B1_8
  obtain ⟨x00, x01, x02, x03⟩ := B0_9.out.cells
  obtain ⟨x10, x11, x12, x13⟩ := B1_9.out.cells
  go_wp2_with fail
  go_ret
  exact ⟨rfl, HB9.out⟩

set_option maxHeartbeats 16000000 in
theorem orders_eq (t u : Ty) (va vb : Value) (w : World) (ha : V w t va) (hb : V w u vb)
    (hO1 : ∀ W, Below w.heap.size w W → Calls Try.prog 42 #[va, vb] W fun e w' => e = .returned (.tuple #[.int .i64 0, .int .i64 0]) ∧ Below W.heap.size W w')
    (hO2 : ∀ W, Below w.heap.size w W → Calls Try.prog 42 #[vb, va] W fun e w' => e = .returned (.tuple #[.int .i64 0, .int .i64 0]) ∧ Below W.heap.size W w')
    (hS1 : ∀ W, Below w.heap.size w W → Calls Try.prog 43 #[va, vb] W fun e w' => e = .returned (.bool true) ∧ Below W.heap.size W w')
    (hS2 : ∀ W, Below w.heap.size w W → Calls Try.prog 43 #[vb, va] W fun e w' => e = .returned (.bool true) ∧ Below W.heap.size W w')
    (hS3 : ∀ W, Below w.heap.size w W → Calls Try.prog 43 #[va, va] W fun e w' => e = .returned (.bool true) ∧ Below W.heap.size W w')
    (hR : ∀ W, Below w.heap.size w W → Calls Try.prog 38 #[va, vb] W fun e w' => e = .returned (.bool true) ∧ Below W.heap.size W w')
    (hP1 : ∀ W, Below w.heap.size w W → Calls Try.prog 17 #[va] W fun e w' => e = .returned (.bool true) ∧ Below W.heap.size W w')
    (hP2 : ∀ W, Below w.heap.size w W → Calls Try.prog 17 #[vb] W fun e w' => e = .returned (.bool true) ∧ Below W.heap.size W w')
    (hRO : ∀ W, Below w.heap.size w W → Calls Try.prog 44 #[va, vb] W fun e w' => e = .returned (.int .i64 0) ∧ Below W.heap.size W w') :
    Calls Try.prog 7 #[va, vb] w fun e w' => e = .returned (.bool true) ∧ Below w.heap.size w w' := by
  obtain ⟨ba, ca, ea, _, _⟩ := ha
  obtain ⟨bb, cb, eb, _, _⟩ := hb
  subst ea eb
  obtain ⟨t1, t2⟩ := two_boxes w (.int .i64 t.op) (.int .i64 t.n) (.string t.name) (.slice ba t.args.length ca) (.int .i64 u.op) (.int .i64 u.n) (.string u.name) (.slice bb u.args.length cb)
  have hW0 := below_two w (Obj.cells #[.int .i64 t.op, .int .i64 t.n, .string t.name, .slice ba t.args.length ca] 24) (Obj.cells #[.int .i64 u.op, .int .i64 u.n, .string u.name, .slice bb u.args.length cb] 24)
  have HO1 := Lib.hid hO1
  have HO2 := Lib.hid hO2
  have HS1 := Lib.hid hS1
  have HS2 := Lib.hid hS2
  have HS3 := Lib.hid hS3
  have HR := Lib.hid hR
  have HP1 := Lib.hid hP1
  have HP2 := Lib.hid hP2
  have HRO := Lib.hid hRO
  clear hRO hO1 hO2 hS1 hS2 hS3 hR hP1 hP2
  generalize t.args.length = la at *
  generalize u.args.length = lb at *
  generalize t.op = oa at *
  generalize u.op = ob at *
  generalize t.n = na at *
  generalize u.n = nb at *
  generalize t.name = sa at *
  generalize u.name = sb at *
  have B0_0 := Lib.hid t1
  have B1_0 := Lib.hid t2
  have HB0 := Lib.hid hW0
  clear t1 t2 hW0
  go_enter Try.func7, Try.ntmps7
  go_upto_region 1 with fail
  obtain ⟨W0, hW⟩ : ∃ W0, W0 = (w.alloc (Obj.cells #[.int .i64 oa, .int .i64 na, .string sa, .slice ba la ca] 24)).alloc (Obj.cells #[.int .i64 ob, .int .i64 nb, .string sb, .slice bb lb cb] 24) := ⟨_, rfl⟩
  rw [← hW] at B0_0 B1_0 HB0 ⊢
  clear hW
  obtain ⟨x00, x01, x02, x03⟩ := B0_0.out.cells
  obtain ⟨x10, x11, x12, x13⟩ := B1_0.out.cells
  go_wp2_with fail
  refine (HO1.out _ HB0.out).mono ?_
  rintro e w1 ⟨rfl, hb⟩
  have HB1 := Lib.hid (HB0.out.trans (hb.mono HB0.out.size))
  have B0_1 := Lib.hid (B0_0.out.next hb)
  have B1_1 := Lib.hid (B1_0.out.next hb)
  clear hb x00 x01 x02 x03 x10 x11 x12 x13 HB0 B0_0 B1_0
  obtain ⟨x00, x01, x02, x03⟩ := B0_1.out.cells
  obtain ⟨x10, x11, x12, x13⟩ := B1_1.out.cells
  go_wp2_with fail
  refine (HO2.out _ HB1.out).mono ?_
  rintro e w2 ⟨rfl, hb⟩
  have HB2 := Lib.hid (HB1.out.trans (hb.mono HB1.out.size))
  have B0_2 := Lib.hid (B0_1.out.next hb)
  have B1_2 := Lib.hid (B1_1.out.next hb)
  clear hb x00 x01 x02 x03 x10 x11 x12 x13 HB1 B0_1 B1_1
  obtain ⟨x00, x01, x02, x03⟩ := B0_2.out.cells
  obtain ⟨x10, x11, x12, x13⟩ := B1_2.out.cells
  go_wp2_with fail
  refine (HS1.out _ HB2.out).mono ?_
  rintro e w3 ⟨rfl, hb⟩
  have HB3 := Lib.hid (HB2.out.trans (hb.mono HB2.out.size))
  have B0_3 := Lib.hid (B0_2.out.next hb)
  have B1_3 := Lib.hid (B1_2.out.next hb)
  clear hb x00 x01 x02 x03 x10 x11 x12 x13 HB2 B0_2 B1_2
  obtain ⟨x00, x01, x02, x03⟩ := B0_3.out.cells
  obtain ⟨x10, x11, x12, x13⟩ := B1_3.out.cells
  go_wp2_with fail
  refine (HR.out _ HB3.out).mono ?_
  rintro e w4 ⟨rfl, hb⟩
  have HB4 := Lib.hid (HB3.out.trans (hb.mono HB3.out.size))
  have B0_4 := Lib.hid (B0_3.out.next hb)
  have B1_4 := Lib.hid (B1_3.out.next hb)
  clear hb x00 x01 x02 x03 x10 x11 x12 x13 HB3 B0_3 B1_3
  obtain ⟨x00, x01, x02, x03⟩ := B0_4.out.cells
  obtain ⟨x10, x11, x12, x13⟩ := B1_4.out.cells
  go_wp2_with fail
  refine (HS2.out _ HB4.out).mono ?_
  rintro e w5 ⟨rfl, hb⟩
  have HB5 := Lib.hid (HB4.out.trans (hb.mono HB4.out.size))
  have B0_5 := Lib.hid (B0_4.out.next hb)
  have B1_5 := Lib.hid (B1_4.out.next hb)
  clear hb x00 x01 x02 x03 x10 x11 x12 x13 HB4 B0_4 B1_4
  obtain ⟨x00, x01, x02, x03⟩ := B0_5.out.cells
  obtain ⟨x10, x11, x12, x13⟩ := B1_5.out.cells
  go_wp2_with fail
  refine (HS3.out _ HB5.out).mono ?_
  rintro e w6 ⟨rfl, hb⟩
  have HB6 := Lib.hid (HB5.out.trans (hb.mono HB5.out.size))
  have B0_6 := Lib.hid (B0_5.out.next hb)
  have B1_6 := Lib.hid (B1_5.out.next hb)
  clear hb x00 x01 x02 x03 x10 x11 x12 x13 HB5 B0_5 B1_5
  obtain ⟨x00, x01, x02, x03⟩ := B0_6.out.cells
  obtain ⟨x10, x11, x12, x13⟩ := B1_6.out.cells
  go_wp2_with fail
  refine (HP1.out _ HB6.out).mono ?_
  rintro e w7 ⟨rfl, hb⟩
  have HB7 := Lib.hid (HB6.out.trans (hb.mono HB6.out.size))
  have B0_7 := Lib.hid (B0_6.out.next hb)
  have B1_7 := Lib.hid (B1_6.out.next hb)
  clear hb x00 x01 x02 x03 x10 x11 x12 x13 HB6 B0_6 B1_6
  obtain ⟨x00, x01, x02, x03⟩ := B0_7.out.cells
  obtain ⟨x10, x11, x12, x13⟩ := B1_7.out.cells
  go_wp2_with fail
  refine (HP2.out _ HB7.out).mono ?_
  rintro e w8 ⟨rfl, hb⟩
  have HB8 := Lib.hid (HB7.out.trans (hb.mono HB7.out.size))
  have B0_8 := Lib.hid (B0_7.out.next hb)
  have B1_8 := Lib.hid (B1_7.out.next hb)
  clear hb x00 x01 x02 x03 x10 x11 x12 x13 HB7 B0_7 B1_7
  obtain ⟨x00, x01, x02, x03⟩ := B0_8.out.cells
  obtain ⟨x10, x11, x12, x13⟩ := B1_8.out.cells
  go_wp2_with fail
  refine (HRO.out _ HB8.out).mono ?_
  rintro e w9 ⟨rfl, hb⟩
  have HB9 := Lib.hid (HB8.out.trans (hb.mono HB8.out.size))
  have B0_9 := Lib.hid (B0_8.out.next hb)
  have B1_9 := Lib.hid (B1_8.out.next hb)
  clear hb x00 x01 x02 x03 x10 x11 x12 x13 HB8 B0_8 B1_8
  obtain ⟨x00, x01, x02, x03⟩ := B0_9.out.cells
  obtain ⟨x10, x11, x12, x13⟩ := B1_9.out.cells
  go_wp2_with fail
  refine (awake_any _).mono ?_
  rintro e w10 ⟨rfl, hb⟩
  have HB10 := Lib.hid (HB9.out.trans (hb.mono HB9.out.size))
  have B0_10 := Lib.hid (B0_9.out.next hb)
  have B1_10 := Lib.hid (B1_9.out.next hb)
  clear hb x00 x01 x02 x03 x10 x11 x12 x13 HB9 B0_9 B1_9
  obtain ⟨x00, x01, x02, x03⟩ := B0_10.out.cells
  obtain ⟨x10, x11, x12, x13⟩ := B1_10.out.cells
  go_wp2_with fail
  go_ret
  exact ⟨rfl, HB10.out⟩

set_option maxHeartbeats 16000000 in
theorem orders_less (t u : Ty) (va vb : Value) (w : World) (ha : V w t va) (hb : V w u vb)
    (hO1 : ∀ W, Below w.heap.size w W → Calls Try.prog 42 #[va, vb] W fun e w' => e = .returned (.tuple #[.int .i64 (-1), .int .i64 0]) ∧ Below W.heap.size W w')
    (hO2 : ∀ W, Below w.heap.size w W → Calls Try.prog 42 #[vb, va] W fun e w' => e = .returned (.tuple #[.int .i64 1, .int .i64 0]) ∧ Below W.heap.size W w')
    (hS1 : ∀ W, Below w.heap.size w W → Calls Try.prog 43 #[va, vb] W fun e w' => e = .returned (.bool false) ∧ Below W.heap.size W w')
    (hS2 : ∀ W, Below w.heap.size w W → Calls Try.prog 43 #[vb, va] W fun e w' => e = .returned (.bool false) ∧ Below W.heap.size W w')
    (hS3 : ∀ W, Below w.heap.size w W → Calls Try.prog 43 #[va, va] W fun e w' => e = .returned (.bool true) ∧ Below W.heap.size W w')
    (hR : ∀ W, Below w.heap.size w W → Calls Try.prog 38 #[va, vb] W fun e w' => e = .returned (.bool false) ∧ Below W.heap.size W w')
    (hP1 : ∀ W, Below w.heap.size w W → Calls Try.prog 17 #[va] W fun e w' => e = .returned (.bool true) ∧ Below W.heap.size W w')
    (hP2 : ∀ W, Below w.heap.size w W → Calls Try.prog 17 #[vb] W fun e w' => e = .returned (.bool true) ∧ Below W.heap.size W w')
    (hRO : ∀ W, Below w.heap.size w W → Calls Try.prog 44 #[va, vb] W fun e w' => e = .returned (.int .i64 (-1)) ∧ Below W.heap.size W w') :
    Calls Try.prog 7 #[va, vb] w fun e w' => e = .returned (.bool true) ∧ Below w.heap.size w w' := by
  obtain ⟨ba, ca, ea, _, _⟩ := ha
  obtain ⟨bb, cb, eb, _, _⟩ := hb
  subst ea eb
  obtain ⟨t1, t2⟩ := two_boxes w (.int .i64 t.op) (.int .i64 t.n) (.string t.name) (.slice ba t.args.length ca) (.int .i64 u.op) (.int .i64 u.n) (.string u.name) (.slice bb u.args.length cb)
  have hW0 := below_two w (Obj.cells #[.int .i64 t.op, .int .i64 t.n, .string t.name, .slice ba t.args.length ca] 24) (Obj.cells #[.int .i64 u.op, .int .i64 u.n, .string u.name, .slice bb u.args.length cb] 24)
  have HO1 := Lib.hid hO1
  have HO2 := Lib.hid hO2
  have HS1 := Lib.hid hS1
  have HS2 := Lib.hid hS2
  have HS3 := Lib.hid hS3
  have HR := Lib.hid hR
  have HP1 := Lib.hid hP1
  have HP2 := Lib.hid hP2
  have HRO := Lib.hid hRO
  clear hRO hO1 hO2 hS1 hS2 hS3 hR hP1 hP2
  generalize t.args.length = la at *
  generalize u.args.length = lb at *
  generalize t.op = oa at *
  generalize u.op = ob at *
  generalize t.n = na at *
  generalize u.n = nb at *
  generalize t.name = sa at *
  generalize u.name = sb at *
  have B0_0 := Lib.hid t1
  have B1_0 := Lib.hid t2
  have HB0 := Lib.hid hW0
  clear t1 t2 hW0
  go_enter Try.func7, Try.ntmps7
  go_upto_region 1 with fail
  obtain ⟨W0, hW⟩ : ∃ W0, W0 = (w.alloc (Obj.cells #[.int .i64 oa, .int .i64 na, .string sa, .slice ba la ca] 24)).alloc (Obj.cells #[.int .i64 ob, .int .i64 nb, .string sb, .slice bb lb cb] 24) := ⟨_, rfl⟩
  rw [← hW] at B0_0 B1_0 HB0 ⊢
  clear hW
  obtain ⟨x00, x01, x02, x03⟩ := B0_0.out.cells
  obtain ⟨x10, x11, x12, x13⟩ := B1_0.out.cells
  go_wp2_with fail
  refine (HO1.out _ HB0.out).mono ?_
  rintro e w1 ⟨rfl, hb⟩
  have HB1 := Lib.hid (HB0.out.trans (hb.mono HB0.out.size))
  have B0_1 := Lib.hid (B0_0.out.next hb)
  have B1_1 := Lib.hid (B1_0.out.next hb)
  clear hb x00 x01 x02 x03 x10 x11 x12 x13 HB0 B0_0 B1_0
  obtain ⟨x00, x01, x02, x03⟩ := B0_1.out.cells
  obtain ⟨x10, x11, x12, x13⟩ := B1_1.out.cells
  go_wp2_with fail
  refine (HO2.out _ HB1.out).mono ?_
  rintro e w2 ⟨rfl, hb⟩
  have HB2 := Lib.hid (HB1.out.trans (hb.mono HB1.out.size))
  have B0_2 := Lib.hid (B0_1.out.next hb)
  have B1_2 := Lib.hid (B1_1.out.next hb)
  clear hb x00 x01 x02 x03 x10 x11 x12 x13 HB1 B0_1 B1_1
  obtain ⟨x00, x01, x02, x03⟩ := B0_2.out.cells
  obtain ⟨x10, x11, x12, x13⟩ := B1_2.out.cells
  go_wp2_with fail
  refine (HS1.out _ HB2.out).mono ?_
  rintro e w3 ⟨rfl, hb⟩
  have HB3 := Lib.hid (HB2.out.trans (hb.mono HB2.out.size))
  have B0_3 := Lib.hid (B0_2.out.next hb)
  have B1_3 := Lib.hid (B1_2.out.next hb)
  clear hb x00 x01 x02 x03 x10 x11 x12 x13 HB2 B0_2 B1_2
  obtain ⟨x00, x01, x02, x03⟩ := B0_3.out.cells
  obtain ⟨x10, x11, x12, x13⟩ := B1_3.out.cells
  go_wp2_with fail
  refine (HR.out _ HB3.out).mono ?_
  rintro e w4 ⟨rfl, hb⟩
  have HB4 := Lib.hid (HB3.out.trans (hb.mono HB3.out.size))
  have B0_4 := Lib.hid (B0_3.out.next hb)
  have B1_4 := Lib.hid (B1_3.out.next hb)
  clear hb x00 x01 x02 x03 x10 x11 x12 x13 HB3 B0_3 B1_3
  obtain ⟨x00, x01, x02, x03⟩ := B0_4.out.cells
  obtain ⟨x10, x11, x12, x13⟩ := B1_4.out.cells
  go_wp2_with fail
  refine (HS2.out _ HB4.out).mono ?_
  rintro e w5 ⟨rfl, hb⟩
  have HB5 := Lib.hid (HB4.out.trans (hb.mono HB4.out.size))
  have B0_5 := Lib.hid (B0_4.out.next hb)
  have B1_5 := Lib.hid (B1_4.out.next hb)
  clear hb x00 x01 x02 x03 x10 x11 x12 x13 HB4 B0_4 B1_4
  obtain ⟨x00, x01, x02, x03⟩ := B0_5.out.cells
  obtain ⟨x10, x11, x12, x13⟩ := B1_5.out.cells
  go_wp2_with fail
  refine (HS3.out _ HB5.out).mono ?_
  rintro e w6 ⟨rfl, hb⟩
  have HB6 := Lib.hid (HB5.out.trans (hb.mono HB5.out.size))
  have B0_6 := Lib.hid (B0_5.out.next hb)
  have B1_6 := Lib.hid (B1_5.out.next hb)
  clear hb x00 x01 x02 x03 x10 x11 x12 x13 HB5 B0_5 B1_5
  obtain ⟨x00, x01, x02, x03⟩ := B0_6.out.cells
  obtain ⟨x10, x11, x12, x13⟩ := B1_6.out.cells
  go_wp2_with fail
  refine (HP1.out _ HB6.out).mono ?_
  rintro e w7 ⟨rfl, hb⟩
  have HB7 := Lib.hid (HB6.out.trans (hb.mono HB6.out.size))
  have B0_7 := Lib.hid (B0_6.out.next hb)
  have B1_7 := Lib.hid (B1_6.out.next hb)
  clear hb x00 x01 x02 x03 x10 x11 x12 x13 HB6 B0_6 B1_6
  obtain ⟨x00, x01, x02, x03⟩ := B0_7.out.cells
  obtain ⟨x10, x11, x12, x13⟩ := B1_7.out.cells
  go_wp2_with fail
  refine (HP2.out _ HB7.out).mono ?_
  rintro e w8 ⟨rfl, hb⟩
  have HB8 := Lib.hid (HB7.out.trans (hb.mono HB7.out.size))
  have B0_8 := Lib.hid (B0_7.out.next hb)
  have B1_8 := Lib.hid (B1_7.out.next hb)
  clear hb x00 x01 x02 x03 x10 x11 x12 x13 HB7 B0_7 B1_7
  obtain ⟨x00, x01, x02, x03⟩ := B0_8.out.cells
  obtain ⟨x10, x11, x12, x13⟩ := B1_8.out.cells
  go_wp2_with fail
  refine (HRO.out _ HB8.out).mono ?_
  rintro e w9 ⟨rfl, hb⟩
  have HB9 := Lib.hid (HB8.out.trans (hb.mono HB8.out.size))
  have B0_9 := Lib.hid (B0_8.out.next hb)
  have B1_9 := Lib.hid (B1_8.out.next hb)
  clear hb x00 x01 x02 x03 x10 x11 x12 x13 HB8 B0_8 B1_8
  obtain ⟨x00, x01, x02, x03⟩ := B0_9.out.cells
  obtain ⟨x10, x11, x12, x13⟩ := B1_9.out.cells
  go_wp2_with fail
  refine (awake_any _).mono ?_
  rintro e w10 ⟨rfl, hb⟩
  have HB10 := Lib.hid (HB9.out.trans (hb.mono HB9.out.size))
  have B0_10 := Lib.hid (B0_9.out.next hb)
  have B1_10 := Lib.hid (B1_9.out.next hb)
  clear hb x00 x01 x02 x03 x10 x11 x12 x13 HB9 B0_9 B1_9
  obtain ⟨x00, x01, x02, x03⟩ := B0_10.out.cells
  obtain ⟨x10, x11, x12, x13⟩ := B1_10.out.cells
  go_wp2_with fail
  go_ret
  exact ⟨rfl, HB10.out⟩

set_option maxHeartbeats 16000000 in
theorem orders_more (t u : Ty) (va vb : Value) (w : World) (ha : V w t va) (hb : V w u vb)
    (hO1 : ∀ W, Below w.heap.size w W → Calls Try.prog 42 #[va, vb] W fun e w' => e = .returned (.tuple #[.int .i64 1, .int .i64 0]) ∧ Below W.heap.size W w')
    (hO2 : ∀ W, Below w.heap.size w W → Calls Try.prog 42 #[vb, va] W fun e w' => e = .returned (.tuple #[.int .i64 (-1), .int .i64 0]) ∧ Below W.heap.size W w')
    (hS1 : ∀ W, Below w.heap.size w W → Calls Try.prog 43 #[va, vb] W fun e w' => e = .returned (.bool false) ∧ Below W.heap.size W w')
    (hS2 : ∀ W, Below w.heap.size w W → Calls Try.prog 43 #[vb, va] W fun e w' => e = .returned (.bool false) ∧ Below W.heap.size W w')
    (hS3 : ∀ W, Below w.heap.size w W → Calls Try.prog 43 #[va, va] W fun e w' => e = .returned (.bool true) ∧ Below W.heap.size W w')
    (hR : ∀ W, Below w.heap.size w W → Calls Try.prog 38 #[va, vb] W fun e w' => e = .returned (.bool false) ∧ Below W.heap.size W w')
    (hP1 : ∀ W, Below w.heap.size w W → Calls Try.prog 17 #[va] W fun e w' => e = .returned (.bool true) ∧ Below W.heap.size W w')
    (hP2 : ∀ W, Below w.heap.size w W → Calls Try.prog 17 #[vb] W fun e w' => e = .returned (.bool true) ∧ Below W.heap.size W w')
    (hRO : ∀ W, Below w.heap.size w W → Calls Try.prog 44 #[va, vb] W fun e w' => e = .returned (.int .i64 1) ∧ Below W.heap.size W w') :
    Calls Try.prog 7 #[va, vb] w fun e w' => e = .returned (.bool true) ∧ Below w.heap.size w w' := by
  obtain ⟨ba, ca, ea, _, _⟩ := ha
  obtain ⟨bb, cb, eb, _, _⟩ := hb
  subst ea eb
  obtain ⟨t1, t2⟩ := two_boxes w (.int .i64 t.op) (.int .i64 t.n) (.string t.name) (.slice ba t.args.length ca) (.int .i64 u.op) (.int .i64 u.n) (.string u.name) (.slice bb u.args.length cb)
  have hW0 := below_two w (Obj.cells #[.int .i64 t.op, .int .i64 t.n, .string t.name, .slice ba t.args.length ca] 24) (Obj.cells #[.int .i64 u.op, .int .i64 u.n, .string u.name, .slice bb u.args.length cb] 24)
  have HO1 := Lib.hid hO1
  have HO2 := Lib.hid hO2
  have HS1 := Lib.hid hS1
  have HS2 := Lib.hid hS2
  have HS3 := Lib.hid hS3
  have HR := Lib.hid hR
  have HP1 := Lib.hid hP1
  have HP2 := Lib.hid hP2
  have HRO := Lib.hid hRO
  clear hRO hO1 hO2 hS1 hS2 hS3 hR hP1 hP2
  generalize t.args.length = la at *
  generalize u.args.length = lb at *
  generalize t.op = oa at *
  generalize u.op = ob at *
  generalize t.n = na at *
  generalize u.n = nb at *
  generalize t.name = sa at *
  generalize u.name = sb at *
  have B0_0 := Lib.hid t1
  have B1_0 := Lib.hid t2
  have HB0 := Lib.hid hW0
  clear t1 t2 hW0
  go_enter Try.func7, Try.ntmps7
  go_upto_region 1 with fail
  obtain ⟨W0, hW⟩ : ∃ W0, W0 = (w.alloc (Obj.cells #[.int .i64 oa, .int .i64 na, .string sa, .slice ba la ca] 24)).alloc (Obj.cells #[.int .i64 ob, .int .i64 nb, .string sb, .slice bb lb cb] 24) := ⟨_, rfl⟩
  rw [← hW] at B0_0 B1_0 HB0 ⊢
  clear hW
  obtain ⟨x00, x01, x02, x03⟩ := B0_0.out.cells
  obtain ⟨x10, x11, x12, x13⟩ := B1_0.out.cells
  go_wp2_with fail
  refine (HO1.out _ HB0.out).mono ?_
  rintro e w1 ⟨rfl, hb⟩
  have HB1 := Lib.hid (HB0.out.trans (hb.mono HB0.out.size))
  have B0_1 := Lib.hid (B0_0.out.next hb)
  have B1_1 := Lib.hid (B1_0.out.next hb)
  clear hb x00 x01 x02 x03 x10 x11 x12 x13 HB0 B0_0 B1_0
  obtain ⟨x00, x01, x02, x03⟩ := B0_1.out.cells
  obtain ⟨x10, x11, x12, x13⟩ := B1_1.out.cells
  go_wp2_with fail
  refine (HO2.out _ HB1.out).mono ?_
  rintro e w2 ⟨rfl, hb⟩
  have HB2 := Lib.hid (HB1.out.trans (hb.mono HB1.out.size))
  have B0_2 := Lib.hid (B0_1.out.next hb)
  have B1_2 := Lib.hid (B1_1.out.next hb)
  clear hb x00 x01 x02 x03 x10 x11 x12 x13 HB1 B0_1 B1_1
  obtain ⟨x00, x01, x02, x03⟩ := B0_2.out.cells
  obtain ⟨x10, x11, x12, x13⟩ := B1_2.out.cells
  go_wp2_with fail
  refine (HS1.out _ HB2.out).mono ?_
  rintro e w3 ⟨rfl, hb⟩
  have HB3 := Lib.hid (HB2.out.trans (hb.mono HB2.out.size))
  have B0_3 := Lib.hid (B0_2.out.next hb)
  have B1_3 := Lib.hid (B1_2.out.next hb)
  clear hb x00 x01 x02 x03 x10 x11 x12 x13 HB2 B0_2 B1_2
  obtain ⟨x00, x01, x02, x03⟩ := B0_3.out.cells
  obtain ⟨x10, x11, x12, x13⟩ := B1_3.out.cells
  go_wp2_with fail
  refine (HR.out _ HB3.out).mono ?_
  rintro e w4 ⟨rfl, hb⟩
  have HB4 := Lib.hid (HB3.out.trans (hb.mono HB3.out.size))
  have B0_4 := Lib.hid (B0_3.out.next hb)
  have B1_4 := Lib.hid (B1_3.out.next hb)
  clear hb x00 x01 x02 x03 x10 x11 x12 x13 HB3 B0_3 B1_3
  obtain ⟨x00, x01, x02, x03⟩ := B0_4.out.cells
  obtain ⟨x10, x11, x12, x13⟩ := B1_4.out.cells
  go_wp2_with fail
  refine (HS2.out _ HB4.out).mono ?_
  rintro e w5 ⟨rfl, hb⟩
  have HB5 := Lib.hid (HB4.out.trans (hb.mono HB4.out.size))
  have B0_5 := Lib.hid (B0_4.out.next hb)
  have B1_5 := Lib.hid (B1_4.out.next hb)
  clear hb x00 x01 x02 x03 x10 x11 x12 x13 HB4 B0_4 B1_4
  obtain ⟨x00, x01, x02, x03⟩ := B0_5.out.cells
  obtain ⟨x10, x11, x12, x13⟩ := B1_5.out.cells
  go_wp2_with fail
  refine (HS3.out _ HB5.out).mono ?_
  rintro e w6 ⟨rfl, hb⟩
  have HB6 := Lib.hid (HB5.out.trans (hb.mono HB5.out.size))
  have B0_6 := Lib.hid (B0_5.out.next hb)
  have B1_6 := Lib.hid (B1_5.out.next hb)
  clear hb x00 x01 x02 x03 x10 x11 x12 x13 HB5 B0_5 B1_5
  obtain ⟨x00, x01, x02, x03⟩ := B0_6.out.cells
  obtain ⟨x10, x11, x12, x13⟩ := B1_6.out.cells
  go_wp2_with fail
  refine (HP1.out _ HB6.out).mono ?_
  rintro e w7 ⟨rfl, hb⟩
  have HB7 := Lib.hid (HB6.out.trans (hb.mono HB6.out.size))
  have B0_7 := Lib.hid (B0_6.out.next hb)
  have B1_7 := Lib.hid (B1_6.out.next hb)
  clear hb x00 x01 x02 x03 x10 x11 x12 x13 HB6 B0_6 B1_6
  obtain ⟨x00, x01, x02, x03⟩ := B0_7.out.cells
  obtain ⟨x10, x11, x12, x13⟩ := B1_7.out.cells
  go_wp2_with fail
  refine (HP2.out _ HB7.out).mono ?_
  rintro e w8 ⟨rfl, hb⟩
  have HB8 := Lib.hid (HB7.out.trans (hb.mono HB7.out.size))
  have B0_8 := Lib.hid (B0_7.out.next hb)
  have B1_8 := Lib.hid (B1_7.out.next hb)
  clear hb x00 x01 x02 x03 x10 x11 x12 x13 HB7 B0_7 B1_7
  obtain ⟨x00, x01, x02, x03⟩ := B0_8.out.cells
  obtain ⟨x10, x11, x12, x13⟩ := B1_8.out.cells
  go_wp2_with fail
  refine (HRO.out _ HB8.out).mono ?_
  rintro e w9 ⟨rfl, hb⟩
  have HB9 := Lib.hid (HB8.out.trans (hb.mono HB8.out.size))
  have B0_9 := Lib.hid (B0_8.out.next hb)
  have B1_9 := Lib.hid (B1_8.out.next hb)
  clear hb x00 x01 x02 x03 x10 x11 x12 x13 HB8 B0_8 B1_8
  obtain ⟨x00, x01, x02, x03⟩ := B0_9.out.cells
  obtain ⟨x10, x11, x12, x13⟩ := B1_9.out.cells
  go_wp2_with fail
  refine (awake_any _).mono ?_
  rintro e w10 ⟨rfl, hb⟩
  have HB10 := Lib.hid (HB9.out.trans (hb.mono HB9.out.size))
  have B0_10 := Lib.hid (B0_9.out.next hb)
  have B1_10 := Lib.hid (B1_9.out.next hb)
  clear hb x00 x01 x02 x03 x10 x11 x12 x13 HB9 B0_9 B1_9
  obtain ⟨x00, x01, x02, x03⟩ := B0_10.out.cells
  obtain ⟨x10, x11, x12, x13⟩ := B1_10.out.cells
  go_wp2_with fail
  go_ret
  exact ⟨rfl, HB10.out⟩

theorem law_orders (t u : Ty) (va vb : Value) (w : World) (ha : V w t va) (hb : V w u vb) : Calls Try.prog 7 #[va, vb] w fun e w' => e = .returned (.bool true) ∧ Below w.heap.size w w' := by
  have hO1 := fun W (h : Below w.heap.size w W) => Order_any t u va vb W (ha.next h) (hb.next h)
  have hO2 := fun W (h : Below w.heap.size w W) => Order_any u t vb va W (hb.next h) (ha.next h)
  have hS1 := fun W (h : Below w.heap.size w W) => Same_any t u va vb W (ha.next h) (hb.next h)
  have hS2 := fun W (h : Below w.heap.size w W) => Same_any u t vb va W (hb.next h) (ha.next h)
  have hS3 := fun W (h : Below w.heap.size w W) => Same_any t t va va W (ha.next h) (ha.next h)
  have hR := fun W (h : Below w.heap.size w W) => rsame_any t u va vb W (ha.next h) (hb.next h)
  have hP1 := fun W (h : Below w.heap.size w W) => proper_any t va W (ha.next h)
  have hP2 := fun W (h : Below w.heap.size w W) => proper_any u vb W (hb.next h)
  rw [same_symm t u] at hS2
  rw [same_refl t] at hS3
  cases hp : isProper t with
  | false =>
    rw [ordV_bad (.inl hp)] at hO1
    rw [ordV_bad (.inr hp)] at hO2
    rw [hp] at hP1
    exact orders_bad1 t u va vb w _ _ ha hb hO1 hO2 hS1 hS2 hS3 hR hP1 hP2
  | true =>
    rw [hp] at hP1
    cases hq : isProper u with
    | false =>
      rw [ordV_bad (.inr hq)] at hO1
      rw [ordV_bad (.inl hq)] at hO2
      rw [hq] at hP2
      exact orders_bad2 t u va vb w _ ha hb hO1 hO2 hS1 hS2 hS3 hR hP1 hP2
    | true =>
      rw [ordV_ok hp hq] at hO1
      rw [ordV_ok hq hp] at hO2
      rw [hq] at hP2
      have hRO := fun W (h : Below w.heap.size w W) => order_any t u va vb W (ha.next h) (hb.next h) (prop_wf t 1 0 hp) (prop_wf u 1 0 hq) (proper_nodes t hp) (proper_nodes u hq)
      rcases ord_three t u (Good.of hp) (Good.of hq) with ⟨e1, e2, e3⟩ | ⟨e1, e2, e3⟩ | ⟨e1, e2, e3⟩
      · rw [e1] at hO1 hRO
        rw [e2] at hO2
        rw [e3] at hS1 hS2 hR
        exact orders_eq t u va vb w ha hb hO1 hO2 hS1 hS2 hS3 hR hP1 hP2 hRO
      · rw [e1] at hO1 hRO
        rw [e2] at hO2
        rw [e3] at hS1 hS2 hR
        exact orders_less t u va vb w ha hb hO1 hO2 hS1 hS2 hS3 hR hP1 hP2 hRO
      · rw [e1] at hO1 hRO
        rw [e2] at hO2
        rw [e3] at hS1 hS2 hR
        exact orders_more t u va vb w ha hb hO1 hO2 hS1 hS2 hS3 hR hP1 hP2 hRO
end Ty
end Go.Proofs.Ytkedhnahgpmkaaa
